import Derived.Test.YtcmhbcfgikmblabGreatDoorQyn
import Derived.Test.YtcmhbcfgikmblabGreatDoorQsi
namespace Go.Proofs.YtcmhbcfgikmblabGreatDoor.Qy
open Go.RowKit Go.Maps

abbrev nV (x : Tr.Nd) : Value := .agg #[.string x.nm, .bool x.nd, .string x.fd, .int .i64 x.fr, .int .i64 x.tt, .int .i64 x.kd, .int .i64 x.lf]
theorem ne_list {x y : ByteArray} (h : x ≠ y) : (x.toList == y.toList) = false := by rw [str_eq]; exact decide_eq_false h
set_option maxRecDepth 100000 in
set_option maxHeartbeats 8000000 in
theorem alike_any (p : Pn) (v : Tr.Nd) (w : World) : Calls Tryz.prog 38 #[pV p, nV v] w fun e w' => e = .returned (.bool (alk p v)) ∧ Below w.heap.size w w' := by
  obtain ⟨R, hR⟩ : ∃ R, alk p v = R := ⟨_, rfl⟩
  rw [hR]
  unfold alk at hR
  obtain ⟨pn, pl, pd, pc, pk⟩ := p
  obtain ⟨vn, vd, vf, v1, v2, v3, v4⟩ := v
  simp only at hR
  have HB : Hid (∀ (o o' : Obj), Below w.heap.size w ((w.alloc o).alloc o')) := fun o o' => below_trans (bel_up _ _) (bel_up _ _)
  by_cases h0 : pd = ⟨#[]⟩
  · rw [if_neg (by rintro ⟨h, _⟩; exact h h0)] at hR
    subst h0
    cases pl with
    | true =>
      rw [if_pos rfl] at hR
      cases vd with
      | true =>
        have : R = false := by rw [← hR]; rfl
        subst this
        clear hR
        go_enter Tryz.func38, Tryz.ntmps38
        go_wp2_with fail
        go_ret
        exact ⟨rfl, HB.out _ _⟩
      | false =>
        by_cases h1 : pn = vn
        · subst h1
          have : R = true := by rw [← hR]; simp
          subst this
          clear hR
          go_enter Tryz.func38, Tryz.ntmps38
          go_wp2_with fail
          go_ret
          exact ⟨rfl, HB.out _ _⟩
        · have d1 := ne_list h1
          have : R = false := by rw [← hR]; simp [h1]
          subst this
          clear hR h1
          go_enter Tryz.func38, Tryz.ntmps38
          go_wp2_with fail
          go_ret
          exact ⟨rfl, HB.out _ _⟩
    | false =>
      rw [if_neg (by decide)] at hR
      by_cases h2 : pn = ⟨#[]⟩
      · have : R = true := by rw [← hR, decide_eq_true h2]; rfl
        subst this
        subst h2
        clear hR
        go_enter Tryz.func38, Tryz.ntmps38
        go_wp2_with fail
        go_ret
        exact ⟨rfl, HB.out _ _⟩
      · have d2 : pn.toList.isEmpty = false := by rw [bs_empty]; exact decide_eq_false h2
        rw [decide_eq_false h2, Bool.false_or] at hR
        cases vd with
        | false =>
          have : R = false := by rw [← hR]; rfl
          subst this
          clear hR h2
          go_enter Tryz.func38, Tryz.ntmps38
          go_wp2_with fail
          go_ret
          exact ⟨rfl, HB.out _ _⟩
        | true =>
          by_cases h1 : pn = vn
          · subst h1
            have : R = true := by rw [← hR]; simp
            subst this
            clear hR h2
            go_enter Tryz.func38, Tryz.ntmps38
            go_wp2_with fail
            go_ret
            exact ⟨rfl, HB.out _ _⟩
          · have d1 := ne_list h1
            have : R = false := by rw [← hR]; simp [h1]
            subst this
            clear hR h1 h2
            go_enter Tryz.func38, Tryz.ntmps38
            go_wp2_with fail
            go_ret
            exact ⟨rfl, HB.out _ _⟩
  · have d0 : pd.toList.isEmpty = false := by rw [bs_empty]; exact decide_eq_false h0
    by_cases hf : pd = vf
    · rw [if_neg (by rintro ⟨_, h⟩; exact h hf)] at hR
      subst hf
      cases pl with
      | true =>
        rw [if_pos rfl] at hR
        cases vd with
        | true =>
          have : R = false := by rw [← hR]; rfl
          subst this
          clear hR h0
          go_enter Tryz.func38, Tryz.ntmps38
          go_wp2_with fail
          go_ret
          exact ⟨rfl, HB.out _ _⟩
        | false =>
          by_cases h1 : pn = vn
          · subst h1
            have : R = true := by rw [← hR]; simp
            subst this
            clear hR h0
            go_enter Tryz.func38, Tryz.ntmps38
            go_wp2_with fail
            go_ret
            exact ⟨rfl, HB.out _ _⟩
          · have d1 := ne_list h1
            have : R = false := by rw [← hR]; simp [h1]
            subst this
            clear hR h1 h0
            go_enter Tryz.func38, Tryz.ntmps38
            go_wp2_with fail
            go_ret
            exact ⟨rfl, HB.out _ _⟩
      | false =>
        rw [if_neg (by decide)] at hR
        by_cases h2 : pn = ⟨#[]⟩
        · have : R = true := by rw [← hR, decide_eq_true h2]; rfl
          subst this
          subst h2
          clear hR h0
          go_enter Tryz.func38, Tryz.ntmps38
          go_wp2_with fail
          go_ret
          exact ⟨rfl, HB.out _ _⟩
        · have d2 : pn.toList.isEmpty = false := by rw [bs_empty]; exact decide_eq_false h2
          rw [decide_eq_false h2, Bool.false_or] at hR
          cases vd with
          | false =>
            have : R = false := by rw [← hR]; rfl
            subst this
            clear hR h2 h0
            go_enter Tryz.func38, Tryz.ntmps38
            go_wp2_with fail
            go_ret
            exact ⟨rfl, HB.out _ _⟩
          | true =>
            by_cases h1 : pn = vn
            · subst h1
              have : R = true := by rw [← hR]; simp
              subst this
              clear hR h2 h0
              go_enter Tryz.func38, Tryz.ntmps38
              go_wp2_with fail
              go_ret
              exact ⟨rfl, HB.out _ _⟩
            · have d1 := ne_list h1
              have : R = false := by rw [← hR]; simp [h1]
              subst this
              clear hR h1 h2 h0
              go_enter Tryz.func38, Tryz.ntmps38
              go_wp2_with fail
              go_ret
              exact ⟨rfl, HB.out _ _⟩
    · rw [if_pos ⟨h0, hf⟩] at hR
      subst hR
      have d1 := ne_list hf
      clear h0 hf
      go_enter Tryz.func38, Tryz.ntmps38
      go_wp2_with fail
      go_ret
      exact ⟨rfl, HB.out _ _⟩
/-- The ends of subtrees, from a place on. -/
def ew (T : List Tr.Nd) (i : Nat) : List Int := List.replicate i 0 ++ (List.range' i (T.length - i)).map fun a => ((Tr.eA (Tr.kds T) a : Nat) : Int)
def ends (T : List Tr.Nd) : List Int := (List.range T.length).map fun a => ((Tr.eA (Tr.kds T) a : Nat) : Int)
theorem ew_len (T : List Tr.Nd) (i : Nat) (h : i ≤ T.length) : (ew T i).length = T.length := by unfold ew; simp; omega
theorem ew_zero (T : List Tr.Nd) : ew T 0 = ends T := by unfold ew ends; rw [List.range_eq_range']; simp
theorem ew_top (T : List Tr.Nd) : ew T T.length = List.replicate T.length 0 := by unfold ew; simp
theorem ew_get (T : List Tr.Nd) (i a : Nat) (h1 : i ≤ a) (h2 : a < T.length) : (ew T i).getD a 0 = ((Tr.eA (Tr.kds T) a : Nat) : Int) := by
  unfold ew
  rw [List.getD_eq_getElem?_getD, List.getElem?_append_right (by simp; exact h1), List.length_replicate, List.getElem?_map, List.getElem?_range' (by omega)]
  simp
  rw [show i + (a - i) = a by omega]
theorem ew_set (T : List Tr.Nd) (i : Nat) (h : i < T.length) : (ew T (i + 1)).set i ((Tr.eA (Tr.kds T) i : Nat) : Int) = ew T i := by
  unfold ew
  rw [List.replicate_succ', List.append_assoc, List.set_append_right _ _ (by simp), List.length_replicate, Nat.sub_self]
  have e : T.length - i = (T.length - (i + 1)) + 1 := by omega
  rw [e, List.range'_succ]
  simp
theorem infoI : (Tryz.prog.info? 3).map (fun i => (i.zero, i.size, i.bytes)) = some (some (.int .i64 0), 1, 8) := by kernel_rfl
theorem made_ints (n : Nat) : (madeCells (Value.int .i64 0).cells (n * 1)).toList = iC (List.replicate n 0) := by
  refine List.ext_getElem? fun k => ?_
  by_cases hk : k < n
  · simp [madeCells, hk, iC, Value.cells, Nat.mod_one]
  · simp [madeCells, hk, iC]
end Go.Proofs.YtcmhbcfgikmblabGreatDoor.Qy
namespace Go.Proofs.YtcmhbcfgikmblabGreatDoor.Qy
open Go.RowKit Go.Maps

theorem iC_set (l : List Int) (k : Nat) (z : Int) : (iC l).set k (.int .i64 z) = iC (l.set k z) := by unfold iC; rw [List.map_set]
theorem w64z (z : Int) (h0 : -9223372036854775808 ≤ z) (h1 : z ≤ 9223372036854775807) : IntKind.i64.wrap z = z := by rw [IntKind.wrap_i64]; omega
set_option maxRecDepth 100000 in
set_option maxHeartbeats 8000000 in
theorem ends_any {v : Value} {T : List Tr.Nd} (w : World) (h : Tr.Ns w v T) (hs : Tr.Sm T) (hf : Tr.Fo (Tr.kds T)) : Calls Tryz.prog 37 #[v] w fun e w' => ∃ v', e = .returned v' ∧ w'.ownsRow w.heap.size 3 1 v' (ends T).length (iC (ends T)) ∧ Below w.heap.size w w' := by
  obtain ⟨iI, hiI, hx0, hx1, hx2⟩ := info_parts infoI
  have HT : Hid (Tr.Ns w v T) := h
  have HF : Hid (Tr.Fo (Tr.kds T)) := hf
  obtain ⟨a, cp, rfl⟩ := h.form
  obtain ⟨n, hn⟩ : ∃ n, T.length = n := ⟨_, rfl⟩
  rw [hn] at HT ⊢
  have HN : Hid (T.length = n) := hn
  have HZ : Hid (n * 72 + 4096 ≤ 140737488355328) := by have h9 := hs; unfold Tr.Sm at h9; rw [hn] at h9; exact h9
  have hw0 := w64z ((n : Int) - 1) (by omega) (by have := HZ.out; omega)
  clear h hs hf hn
  go_enter Tryz.func37, Tryz.ntmps37
  go_upto_region 3 with (refine wpList_make_full _ rfl _ _ 34 rfl w.heap.size 3 iI _ 1 Tryz.underlying34 hiI hx0 hx1 .i64 .i64 _ _ n rfl rfl rfl rfl (by rw [hx2]; have := HZ.out; omega) (by have := HZ.out; unfold maxLen; omega) (Nat.le_refl _) ?_; intro w1 ho1 hg1; have HO1 : Hid (w1.ownsRow w.heap.size 3 1 (.slice (some ⟨w.heap.size, 0, none⟩) n n) n (iC (ew T n))) := (by have e2 : ew T n = List.replicate n 0 := (by rw [← HN.out]; exact ew_top T); rw [e2, ← made_ints]; exact ho1); have HB1 : Hid (Below w.heap.size w w1) := (Below.refl _ _).grown hg1 (Nat.le_refl _) (fun r hr => by cases hr); clear ho1 hg1)
  obtain ⟨g, hg⟩ : ∃ g, w.heap.size = g := ⟨_, rfl⟩
  have HG : Hid (w.heap.size = g) := hg
  rw [hg] at HO1 ⊢
  clear hg hw0
  go_loopg [4] n (fun gm v4 wr => ∃ i : Nat, v4 = .int .i64 ((i : Int) - 1) ∧ Hid (i ≤ n ∧ gm = i) ∧ Hid (wr.ownsRow g 3 1 (.slice (some ⟨g, 0, none⟩) n n) n (iC (ew T i))) ∧ Hid (Below g w wr))
  case atStart => exact ⟨n, rfl, ⟨Nat.le_refl _, rfl⟩, HO1, by rw [← HG.out]; exact HB1⟩
  case round =>
    clear HO1 HB1
    obtain ⟨i, rfl, HI, HO, HB⟩ := hrel
    cases i with
    | zero =>
      have d1 : decide ((0 : Int) ≤ ((0 : Nat) : Int) - 1) = false := by decide
      go_wp2_with fail
      go_ret
      refine ⟨_, rfl, ?_, by rw [HG.out]; exact HB.out⟩
      have h9 := HO.out
      rw [ew_zero] at h9
      have e9 : (ends T).length = n := by unfold ends; rw [List.length_map, List.length_range, HN.out]
      rw [HG.out, e9]
      exact h9
    | succ a0 =>
      have ha : a0 < n := by have := HI.out; omega
      have HA : Hid (a0 < n) := ha
      have hat : a0 < T.length := by rw [HN.out]; exact ha
      have HAT : Hid (a0 < (Tr.kds T).length) := by show _ < _; rw [Tr.kds_len]; exact hat
      obtain ⟨s1, s2, s3, s4⟩ := HF.out.step a0 HAT.out
      have hb' : Below w.heap.size w wr := by rw [HG.out]; exact HB.out
      obtain ⟨g2, o2, rfl, c5⟩ := (HT.out.up hb').kid a0 hat
      rw [← Tr.kds_get, s2] at c5
      have HS3 : Hid (Tr.kA (Tr.kds T) a0 ≤ Tr.rA (Tr.kds T) (a0 + 1)) := s3
      obtain ⟨K, hK⟩ : ∃ K, Tr.kA (Tr.kds T) a0 = K := ⟨_, rfl⟩
      have HK : Hid (Tr.kA (Tr.kds T) a0 = K) := hK
      rw [hK] at c5 HS3
      have HKN : Hid (K ≤ n) := by
        have h9 := HF.out.le (a0 + 1)
        rw [Tr.kds_len, HN.out] at h9
        have := HS3.out
        show _ ≤ _
        omega
      have ea : (((a0 + 1 : Nat) : Int) - 1) = (a0 : Int) := by omega
      rw [ea]
      have d1 : decide ((0 : Int) ≤ (a0 : Int)) = true := by rw [decide_eq_true_eq]; omega
      have d2 : (a0 : Int) < (n : Int) := by omega
      have hw1 := w64n a0 (by have := HZ.out; omega)
      obtain ⟨a1, ha1⟩ : ∃ a1, a0 + 1 = a1 := ⟨_, rfl⟩
      have HA1 : Hid (a0 + 1 = a1) := ha1
      rw [ha1] at hw1 HO
      clear ha hat s1 s2 s3 s4 hb' hK ea ha1
      go_upto_region 7 with fail
      clear c5 d1 d2 hw1
      obtain ⟨wo, hwo⟩ : ∃ wo, wo = wr := ⟨_, rfl⟩
      rw [← hwo] at HO HB ⊢
      clear hwo
      go_loopg [5, 23] K (fun gm v5 v23 wr => ∃ j : Nat, v23 = .int .i64 (j : Int) ∧ v5 = .int .i64 ((Tr.wA (Tr.kds T) (a0 + 1) j : Nat) : Int) ∧ Hid (j ≤ K ∧ gm = K - j) ∧ wr = wo)
      case atStart => exact ⟨0, rfl, by rw [Tr.wA_zero, HA1.out], ⟨Nat.zero_le _, rfl⟩, rfl⟩
      case round =>
        obtain ⟨j, rfl, rfl, HJ, hwr⟩ := hrel
        subst hwr
        by_cases hj : j < K
        · have e1 : decide ((j : Int) < (K : Int)) = true := by rw [decide_eq_true_eq]; omega
          have e2 : decide (j < K) = true := by rw [decide_eq_true_eq]; omega
          have HJL : Hid (j < K) := hj
          have hlt := HF.out.lt (a0 + 1) j (by have := HAT.out; omega) (by have := HS3.out; omega)
          have hge := (HF.out.end (a0 + 1) j (by have := HAT.out; omega) (by have := HS3.out; omega)).2.2
          have hnx := HF.out.next (a0 + 1) j (by have := HS3.out; omega)
          obtain ⟨x, hx⟩ : ∃ x, Tr.wA (Tr.kds T) (a0 + 1) j = x := ⟨_, rfl⟩
          rw [hx] at hlt hge hnx ⊢
          rw [Tr.kds_len] at hlt
          have hcell := row_at HO.out x _ (iC_get (ew T a1) x (by rw [ew_len T a1 (by have := HA1.out; have := HI.out; rw [HN.out]; omega)]; exact hlt))
          rw [ew_get T a1 x (by have := HA1.out; omega) hlt] at hcell
          have d2 : (x : Int) < (n : Int) := by have := HN.out; omega
          have d3 : x < n := by have := HN.out; omega
          have hwj := w64n j (by have := HKN.out; have := HZ.out; omega)
          obtain ⟨E, hE⟩ : ∃ E, Tr.eA (Tr.kds T) x = E := ⟨_, rfl⟩
          rw [hE] at hcell hnx
          have HNX : Hid (Tr.wA (Tr.kds T) (a0 + 1) (j + 1) = E) := hnx
          clear hj hlt hge hnx hx hE
          go_wp2_with fail
          go_roundg (K - (j + 1))
          case measure => have := HJ.out; have := HJL.out; omega
          case rel => exact ⟨j + 1, by simp, by rw [HNX.out], ⟨HJL.out, rfl⟩, rfl⟩
        · have e1 : decide ((j : Int) < (K : Int)) = false := by rw [decide_eq_false_iff_not]; omega
          have e2 : decide (j < K) = false := by rw [decide_eq_false_iff_not]; omega
          have hjk : j = K := by have := HJ.out; omega
          have heq := HF.out.eq a0 HAT.out
          rw [HK.out, ← hjk] at heq
          rw [← heq]
          have hO := HO.out
          obtain ⟨_, cur, hcur⟩ := row_tag hO g rfl
          have f0 := Lib.frozen_of_heap hcur a0
          have hcell := row_at hO a0 _ (iC_get (ew T a1) a0 (by rw [ew_len T a1 (by have := HA1.out; have := HI.out; rw [HN.out]; omega), HN.out]; exact HA.out))
          have d2 : (a0 : Int) < (n : Int) := by have := HA.out; omega
          have d3 : a0 < n := HA.out
          have hwm := w64z ((a0 : Int) - 1) (by omega) (by have := HZ.out; omega)
          obtain ⟨E, hE⟩ : ∃ E, Tr.eA (Tr.kds T) a0 = E := ⟨_, rfl⟩
          have HE : Hid (Tr.eA (Tr.kds T) a0 = E) := hE
          rw [hE]
          clear hj hjk heq hO hcur hE
          go_wp2_with fail
          go_roundg a0
          case measure => have := HI.out; omega
          case rel =>
            refine ⟨a0, rfl, ⟨Nat.le_of_lt HA.out, rfl⟩, ?_, Below.setCell HB.out (Nat.le_refl _) _⟩
            have h9 := row_set HO.out a0 (.int .i64 (E : Int))
            rw [iC_set, ← HE.out, ← HA1.out, ew_set T a0 (by rw [HN.out]; exact HA.out)] at h9
            rw [← HE.out]
            exact h9
end Go.Proofs.YtcmhbcfgikmblabGreatDoor.Qy
namespace Go.Proofs.YtcmhbcfgikmblabGreatDoor.Qy
open Go.RowKit Go.Maps

theorem infoR : (Tryz.prog.info? 34).map (fun i => (i.zero, i.size, i.bytes)) = some (some (.slice none 0 0), 1, 24) := by kernel_rfl
/-- The children of a pattern's nodes, row by row, in memory of the call's own. -/
structure Pr (B : Nat) (W : World) (v : Value) (vs : List Value) (l : List Pn) (n : Nat) : Prop where
  ow : W.ownsRow B 34 1 v n vs
  ln : vs.length = n
  at' : ∀ i x, vs[i]? = some x → W.ownsRow B 3 1 x (Tr.kA (pks l) i) (iC (Tr.kl (pks l) i (Tr.kA (pks l) i)))
theorem Pr.up {B : Nat} {W W' : World} {v : Value} {vs : List Value} {l : List Pn} {n : Nat} (h : Pr B W v vs l n) (hb : Below W.heap.size W W') : Pr B W' v vs l n :=
  ⟨row_up h.ow hb, h.ln, fun i x hx => row_up (h.at' i x hx) hb⟩
theorem kls_bn (l : List Pn) (hf : Tr.Fo (pks l)) (i : Nat) (hi : i < l.length) : Tr.kls (l.map bn) (i : Int) = Tr.kl (pks l) i (Tr.kA (pks l) i) := by
  unfold Tr.kls
  rw [Tr.std_of (by rw [List.length_map]; exact hi) (by rw [kds_bn]; exact hf), if_pos rfl, kds_bn]
  simp
set_option maxRecDepth 100000 in
set_option maxHeartbeats 8000000 in
theorem parts_any {v : Value} {l : List Pn} (w : World) (h : Ps w v l) (hl : l.length ≤ 32) (hf : Tr.Fo (pks l)) : Calls Tryz.prog 35 #[v] w fun e w' => ∃ v' vs, e = .returned v' ∧ Pr w.heap.size w' v' vs l l.length ∧ Below w.heap.size w w' := by
  obtain ⟨iR, hiR, hx0, hx1, hx2⟩ := info_parts infoR
  have HBA : Hid _ := bare_any w h hl
  have HF : Hid (Tr.Fo (pks l)) := hf
  obtain ⟨a, cp, rfl⟩ := h.form
  obtain ⟨n, hn⟩ : ∃ n, l.length = n := ⟨_, rfl⟩
  have HN : Hid (l.length = n) := hn
  have HL : Hid (n ≤ 32) := by rw [← hn]; exact hl
  obtain ⟨bl, hbl⟩ : ∃ bl, l.map bn = bl := ⟨_, rfl⟩
  have HBL : Hid (l.map bn = bl ∧ bl.length = n) := ⟨hbl, by rw [← hbl, List.length_map, hn]⟩
  rw [hbl, hn] at HBA
  rw [hn]
  have HSM : Hid (Tr.Sm bl) := by show _ ≤ _; rw [HBL.out.2]; have := HL.out; omega
  clear h hl hf hn hbl
  go_enter Tryz.func35, Tryz.ntmps35
  go_upto_region 4 with (go_at_call 24; refine Calls.mono HBA.out ?_; rintro e w1 ⟨v1, rfl, ho, hb⟩; rw [HBL.out.2] at ho; have HO1 : Hid (w1.ownsRow w.heap.size 42 7 v1 n (flat Tr.nf bl)) := ho; have HB1 : Hid (Below w.heap.size w w1) := hb; obtain ⟨ba, bc, rfl⟩ := row_shape ho; clear ho hb)
  go_loopg [3, 10] n (fun gm v3 v10 wr => ∃ (i : Nat) (vs : List Value), v10 = .int .i64 (i : Int) ∧ Hid (i ≤ n ∧ gm = n - i) ∧ Hid (Pr w.heap.size wr v3 vs l i) ∧ Hid (Below w.heap.size w wr) ∧ Hid (wr.ownsRow w.heap.size 42 7 (.slice ba n bc) n (flat Tr.nf bl)))
  case atStart => exact ⟨0, [], rfl, ⟨Nat.zero_le _, rfl⟩, ⟨World.ownsRow_nil _ _ _ _, rfl, fun i x hx => by simp at hx⟩, HB1, HO1⟩
  case round =>
    clear HO1 HB1
    obtain ⟨i, vs, rfl, HI, HP, HB, HO⟩ := hrel
    obtain ⟨ra, rc, hrv⟩ := row_shape HP.out.ow
    subst hrv
    by_cases hi : i < n
    · have e1 : decide ((i : Int) < (n : Int)) = true := by rw [decide_eq_true_eq]; omega
      have e2 : decide (i < n) = true := by rw [decide_eq_true_eq]; omega
      have HIL : Hid (i < n) := hi
      have hns : Tr.Ns wr (.slice ba n bc) bl := by unfold Tr.Ns; rw [HBL.out.2]; exact row_rw HO.out
      have HKI : Hid _ := Tr.kids_any wr hns HSM.out (i : Int)
      have hkl : Tr.kls bl (i : Int) = Tr.kl (pks l) i (Tr.kA (pks l) i) := by rw [← HBL.out.1]; exact kls_bn l HF.out i (by rw [HN.out]; exact hi)
      rw [hkl, Tr.kl_len] at HKI
      obtain ⟨kk, hkk⟩ : ∃ kk, Tr.kA (pks l) i = kk := ⟨_, rfl⟩
      have HKK : Hid (Tr.kA (pks l) i = kk) := hkk
      obtain ⟨kr, hkr⟩ : ∃ kr, Tr.kl (pks l) i kk = kr := ⟨_, rfl⟩
      have HKR : Hid (Tr.kl (pks l) i kk = kr) := hkr
      rw [hkk, hkr] at HKI
      have hwi := w64n i (by have := HL.out; omega)
      clear hi hns hkl hkk hkr
      go_wp2_with first | (go_at_call 16; refine Calls.mono HKI.out ?_; rintro e w3 ⟨v3, rfl, ho, hb⟩; obtain ⟨xa, xc, rfl⟩ := row_shape ho; have HO3 : Hid (w3.ownsRow wr.heap.size 3 1 (.slice xa kk xc) kk (iC kr)) := ho; have HB3 : Hid (Below wr.heap.size wr w3) := hb; have HROW : Hid ((w3.alloc (.cells #[.slice xa kk xc] 34)).ownsRow w.heap.size 34 1 (.slice ra i rc) i vs) := (row_up HP.out.ow hb).alloc _; clear ho hb) | (at_builtin; refine wpList_append_own_at _ rfl _ _ 62 rfl w.heap.size 34 iR (.slice none 0 0) 1 24 Tryz.underlying62 hiR hx0 hx1 hx2 rfl (by decide) _ _ _ rfl HROW.out ⟨w3.heap.size, 0, none⟩ 1 1 [.slice xa kk xc] rfl rfl (World.news_of_block (heap_new w3 _)) (by simp [Value.oneCell']) (by have := HL.out; have := HIL.out; unfold maxLen; omega) (by have := HL.out; have := HIL.out; omega) (by have := HB.out.size; have := HB3.out.size; simp; omega) ?_; intro v5 w5 ho5 hg5 _ ha5; have HO5 : Hid (w5.ownsRow w.heap.size 34 1 v5 (i + 1) (vs ++ [.slice xa kk xc])) := ho5; have HG5 : Hid (w3.grownBy w5 (Value.ownBlock (.slice ra i rc))) := (World.grownBy_alloc _ _ _).trans hg5; obtain ⟨qa, qc, rfl⟩ := row_shape ho5; clear ho5 hg5 ha5)
      go_roundg (n - (i + 1))
      case measure => have := HI.out; have := HIL.out; omega
      case rel =>
        have how := row_up HP.out.ow HB3.out
        have hsz : w.heap.size ≤ wr.heap.size := HB.out.size
        refine ⟨i + 1, vs ++ [.slice xa kk xc], by simp, ⟨HIL.out, rfl⟩, ⟨HO5.out, by rw [List.length_append, HP.out.ln]; rfl, fun k x hx => ?_⟩, ?_, ?_⟩
        · by_cases hk : k < vs.length
          · rw [List.getElem?_append_left hk] at hx
            have h9 := row_up (HP.out.at' k x hx) HB3.out
            exact h9.kept HG5.out (tag_ne h9 how (by decide))
          · rw [List.getElem?_append_right (by omega)] at hx
            have hk2 : k - vs.length = 0 := by
              have := (List.getElem?_eq_some_iff.1 hx).1
              simp at this
              omega
            rw [hk2] at hx
            simp only [List.getElem?_cons_zero, Option.some.injEq] at hx
            subst hx
            have hki : k = i := by have := HP.out.ln; omega
            rw [hki]
            have h9 := row_base HO3.out hsz
            rw [HKK.out, HKR.out]
            exact h9.kept HG5.out (tag_ne h9 how (by decide))
        · have hb3 : Below w.heap.size w w3 := below_trans HB.out HB3.out
          exact Tr.bel_app0 hb3 hb3.size how HG5.out
        · have h9 := row_up HO.out HB3.out
          exact h9.kept HG5.out (tag_ne h9 how (by decide))
    · have e1 : decide ((i : Int) < (n : Int)) = false := by rw [decide_eq_false_iff_not]; omega
      have e2 : decide (i < n) = false := by rw [decide_eq_false_iff_not]; omega
      have hin : i = n := by have := HI.out; omega
      subst hin
      clear hi
      go_wp2_with fail
      go_ret
      exact ⟨_, vs, rfl, HP.out, HB.out⟩
end Go.Proofs.YtcmhbcfgikmblabGreatDoor.Qy
