import Derived.Test.YtcmhbcfgikmblabGreatDoorQsh
import Derived.Test.YtcmhbcfgikmblabGreatDoorQrd
namespace Go.Proofs.YtcmhbcfgikmblabGreatDoor.Qy
open Go.RowKit Go.Maps

/-- A node that has only a number of children. -/
def bn (p : Pn) : Tr.Nd := ⟨⟨#[]⟩, false, ⟨#[]⟩, 0, 0, p.kd, 0⟩
theorem kds_bn (l : List Pn) : Tr.kds (l.map bn) = pks l := by unfold Tr.kds pks; rw [List.map_map]; rfl
theorem made_flat {α : Type} {f : α → List Value} {s : Nat} (hf : ∀ x, (f x).length = s) (hs : 0 < s) (x : α) (n : Nat) : (madeCells (f x).toArray (n * s)).toList = flat f (List.replicate n x) := by
  refine List.ext_getElem? fun k => ?_
  by_cases hk : k < n * s
  · have e1 : k = (k / s) * s + k % s := by rw [Nat.mul_comm]; exact (Nat.div_add_mod k s).symm
    have h1 : k / s < n := Nat.div_lt_of_lt_mul (by rw [Nat.mul_comm]; exact hk)
    have h2 : k % s < s := Nat.mod_lt _ hs
    have e2 : (flat f (List.replicate n x))[k]? = (f x)[k % s]? := by
      conv => lhs; rw [e1]
      rw [flat_get hf x _ _ _ (by rw [List.length_replicate]; exact h1) h2]
      have : (List.replicate n x).getD (k / s) x = x := by
        rw [List.getD_eq_getElem?_getD, List.getElem?_replicate, if_pos h1]; rfl
      rw [this]
    rw [e2]
    have h3 : k % s < (f x).length := by rw [hf]; exact h2
    simp [madeCells, hk, hf]
    rw [List.getElem?_eq_getElem h3]
    rfl
  · have e2 : (flat f (List.replicate n x))[k]? = none := List.getElem?_eq_none (by rw [flat_len hf, List.length_replicate]; omega)
    rw [e2]
    simp [madeCells, hk]
/-- The list under way. -/
def bw (l : List Pn) (i : Nat) : List Tr.Nd := (l.take i).map bn ++ List.replicate (l.length - i) Tr.ndd
theorem bw_len (l : List Pn) (i : Nat) (h : i ≤ l.length) : (bw l i).length = l.length := by unfold bw; simp; omega
theorem bw_succ (l : List Pn) (i : Nat) (h : i < l.length) : bw l (i + 1) = (bw l i).set i (bn (l.getD i pz)) := by
  unfold bw
  have e : l.length - i = (l.length - (i + 1)) + 1 := by omega
  rw [e, List.replicate_succ, List.take_add_one, List.getD_eq_getElem?_getD, List.getElem?_eq_getElem h]
  have hl : ((l.take i).map bn).length = i := by simp; omega
  rw [List.set_append_right _ _ (by omega), hl, Nat.sub_self, List.map_append]
  simp
theorem bw_get (l : List Pn) (i : Nat) (h : i < l.length) : (bw l i).getD i Tr.ndd = Tr.ndd := by
  unfold bw
  have hl : ((l.take i).map bn).length = i := by simp; omega
  rw [List.getD_eq_getElem?_getD, List.getElem?_append_right (by omega), hl, Nat.sub_self, List.getElem?_replicate, if_pos (by omega)]
  rfl
theorem infoNd : (Tryz.prog.info? 42).map (fun i => (i.zero, i.size, i.bytes)) = some (some (.agg #[.string ⟨#[]⟩, .bool false, .string ⟨#[]⟩, .int .i64 0, .int .i64 0, .int .i64 0, .int .i64 0]), 7, 72) := by kernel_rfl
set_option maxRecDepth 100000 in
set_option maxHeartbeats 8000000 in
theorem bare_any {v : Value} {l : List Pn} (w : World) (h : Ps w v l) (hl : l.length ≤ 32) : Calls Tryz.prog 24 #[v] w fun e w' => ∃ v', e = .returned v' ∧ w'.ownsRow w.heap.size 42 7 v' (l.map bn).length (flat Tr.nf (l.map bn)) ∧ Below w.heap.size w w' := by
  obtain ⟨iN, hiN, hx0, hx1, hx2⟩ := info_parts infoNd
  have HP : Hid (Ps w v l) := h
  obtain ⟨a, cp, rfl⟩ := h.form
  obtain ⟨n, hn⟩ : ∃ n, l.length = n := ⟨_, rfl⟩
  rw [hn] at HP hl ⊢
  have HN : Hid (l.length = n) := hn
  have HL : Hid (n ≤ 32) := hl
  clear h hn hl
  go_enter Tryz.func24, Tryz.ntmps24
  go_upto_region 3 with (refine wpList_make_full _ rfl _ _ 26 rfl w.heap.size 42 iN _ 7 Tryz.underlying26 hiN hx0 hx1 .i64 .i64 _ _ n rfl rfl rfl rfl (by rw [hx2]; have := HL.out; omega) (by have := HL.out; unfold maxLen; omega) (Nat.le_refl _) ?_; intro w1 ho1 hg1; have HO1 : Hid (w1.ownsRow w.heap.size 42 7 (.slice (some ⟨w.heap.size, 0, none⟩) n n) n (flat Tr.nf (bw l 0))) := (by have e := made_flat Tr.nf_len (by omega) Tr.ndd n; have e2 : bw l 0 = List.replicate n Tr.ndd := (by unfold bw; rw [HN.out]; simp); rw [e2, ← e]; exact ho1); have HB1 : Hid (Below w.heap.size w w1) := (Below.refl _ _).grown hg1 (Nat.le_refl _) (fun r hr => by cases hr); clear ho1 hg1)
  obtain ⟨g, hg⟩ : ∃ g, w.heap.size = g := ⟨_, rfl⟩
  have HG : Hid (w.heap.size = g) := hg
  rw [hg] at HO1 ⊢
  clear hg
  go_loopg [11] n (fun gm v11 wr => ∃ i : Nat, v11 = .int .i64 (i : Int) ∧ Hid (i ≤ n ∧ gm = n - i) ∧ Hid (wr.ownsRow g 42 7 (.slice (some ⟨g, 0, none⟩) n n) n (flat Tr.nf (bw l i))) ∧ Hid (Below g w wr))
  case atStart => exact ⟨0, rfl, ⟨Nat.zero_le _, rfl⟩, HO1, by rw [← HG.out]; exact HB1⟩
  case round =>
    clear HO1 HB1
    obtain ⟨i, rfl, HI, HO, HB⟩ := hrel
    by_cases hi : i < n
    · have e1 : decide ((i : Int) < (n : Int)) = true := by rw [decide_eq_true_eq]; omega
      have e2 : decide (i < n) = true := by rw [decide_eq_true_eq]; omega
      have e3 : (i : Int) < (n : Int) := by omega
      have HIL : Hid (i < n) := hi
      have hil : i < l.length := by rw [HN.out]; exact hi
      have hb' : Below w.heap.size w wr := by rw [HG.out]; exact HB.out
      obtain ⟨g2, o, rfl, c0, c1, c2, c3, c4⟩ := (HP.out.up hb').all i hil
      obtain ⟨x, hx⟩ : ∃ x, l.getD i pz = x := ⟨_, rfl⟩
      rw [hx] at c0 c1 c2 c3 c4
      have HX : Hid (l.getD i pz = x) := hx
      have hwi := w64n i (by have := HL.out; omega)
      obtain ⟨_, cur, hcur⟩ := row_tag HO.out g rfl
      have HCUR : Hid (wr.heap[g]? = some (.cells cur 42 (0, 0))) := hcur
      obtain ⟨W2, hW2⟩ : ∃ W2, W2 = wr.alloc (.cells #[.string x.nm, .bool x.lit, .string x.fd, .string x.cp, .int .i64 x.kd] 46) := ⟨_, rfl⟩
      clear hi hil hx hcur hb'
      go_upto_region 5 with fail
      rw [← hW2]
      have hn2 := heap_new wr (.cells #[.string x.nm, .bool x.lit, .string x.fd, .string x.cp, .int .i64 x.kd] 46)
      have hb2 : Below wr.heap.size wr W2 := by rw [hW2]; exact bel_up _ _
      rw [← hW2] at hn2
      have t4 := rcell hn2 4 _ rfl
      have hO2 : W2.ownsRow g 42 7 (.slice (some ⟨g, 0, none⟩) n n) n (flat Tr.nf (bw l i)) := row_up HO.out hb2
      have k5 : W2.cell? ⟨g, i * 7 + 5, none⟩ = some (.int .i64 0) := by
        refine row_at hO2 _ _ ?_
        rw [flat_get Tr.nf_len Tr.ndd (bw l i) i 5 (by rw [bw_len _ _ (by have := HIL.out; rw [HN.out]; omega), HN.out]; exact HIL.out) (by omega), bw_get l i (by rw [HN.out]; exact HIL.out)]
        rfl
      have f5 : W2.frozen? ⟨g, i * 7 + 5, none⟩ = false := Lib.frozen_of_heap ((hb2.block _ (lt_of_heap HCUR.out)).trans HCUR.out) _
      have HO2 : Hid (W2.ownsRow g 42 7 (.slice (some ⟨g, 0, none⟩) n n) n (flat Tr.nf (bw l i))) := hO2
      have HB2 : Hid (Below g w W2) := HB.out.trans (hb2.mono (Nat.le_of_lt (lt_of_heap HCUR.out)))
      clear hW2 hn2 hb2 hO2 c0 c1 c2 c3 c4
      go_wp2_with fail
      go_roundg (n - (i + 1))
      case measure => have := HI.out; have := HIL.out; omega
      case rel =>
        refine ⟨i + 1, by simp, ⟨HIL.out, rfl⟩, ?_, Below.setCell HB2.out (Nat.le_refl _) _⟩
        rw [← HX.out]
        have h9 := row_set HO2.out (i * 7 + 5) (.int .i64 (l.getD i pz).kd)
        rw [flat_set Tr.nf_len Tr.ndd (.int .i64 (l.getD i pz).kd) (bn (l.getD i pz)) 5 (by omega) (bw l i) i (by rw [bw_len _ _ (by have := HIL.out; rw [HN.out]; omega), HN.out]; exact HIL.out) (by rw [bw_get l i (by rw [HN.out]; exact HIL.out)]; rfl), ← bw_succ l i (by rw [HN.out]; exact HIL.out)] at h9
        exact h9
    · have e1 : decide ((i : Int) < (n : Int)) = false := by rw [decide_eq_false_iff_not]; omega
      have e2 : decide (i < n) = false := by rw [decide_eq_false_iff_not]; omega
      have HIN : Hid (i = n) := by have := HI.out; show i = n; omega
      clear hi
      go_wp2_with fail
      go_ret
      refine ⟨_, rfl, ?_, by rw [HG.out]; exact HB.out⟩
      have h9 := HO.out
      rw [show i = n from HIN.out] at h9
      have e9 : bw l n = l.map bn := by unfold bw; rw [← HN.out]; simp
      rw [e9] at h9
      rw [HG.out, List.length_map, HN.out]
      exact h9
set_option maxRecDepth 100000 in
set_option maxHeartbeats 8000000 in
theorem nodeShaped_any (x : Pn) (w : World) : Calls Tryz.prog 25 #[pV x] w fun e w' => e = .returned (.bool (nsh x)) ∧ Below w.heap.size w w' := by
  obtain ⟨V, hV⟩ : ∃ V, nsh x = V := ⟨_, rfl⟩
  rw [hV]
  unfold nsh at hV
  obtain ⟨w1, hw1⟩ : ∃ w1, w1 = w.alloc (.cells #[.string x.nm, .bool x.lit, .string x.fd, .string x.cp, .int .i64 x.kd] 46) := ⟨_, rfl⟩
  have HB1 : Hid (Below w.heap.size w w1) := by rw [hw1]; exact bel_up _ _
  have hb := heap_new w (.cells #[.string x.nm, .bool x.lit, .string x.fd, .string x.cp, .int .i64 x.kd] 46)
  rw [← hw1] at hb
  have HBK : Hid (w1.heap[w.heap.size]? = some (.cells #[.string x.nm, .bool x.lit, .string x.fd, .string x.cp, .int .i64 x.kd] 46 (0, 0))) := hb
  have HQ : Hid (∀ W, Below w1.heap.size w1 W → W.cell? ⟨w.heap.size, 0, none⟩ = some (.string x.nm) ∧ W.cell? ⟨w.heap.size, 1, none⟩ = some (.bool x.lit) ∧ W.cell? ⟨w.heap.size, 2, none⟩ = some (.string x.fd) ∧ W.cell? ⟨w.heap.size, 3, none⟩ = some (.string x.cp) ∧ W.cell? ⟨w.heap.size, 4, none⟩ = some (.int .i64 x.kd)) := fun W hW =>
    ⟨below_cell hW (rcell HBK.out 0 _ rfl), below_cell hW (rcell HBK.out 1 _ rfl), below_cell hW (rcell HBK.out 2 _ rfl), below_cell hW (rcell HBK.out 3 _ rfl), below_cell hW (rcell HBK.out 4 _ rfl)⟩
  obtain ⟨q0, q1, q2, q3, q4⟩ := HQ.out w1 (Below.refl _ _)
  have HF : Hid _ := nameOr_any x.fd w1
  obtain ⟨F, hF⟩ : ∃ F, nmN x.fd = F := ⟨_, rfl⟩
  obtain ⟨C, hC⟩ : ∃ C, nmN x.cp = C := ⟨_, rfl⟩
  rw [hF] at HF hV
  rw [hC] at hV
  have HC : Hid (∀ W, Calls Tryz.prog 41 #[.string x.cp] W fun e w' => e = .returned (.bool C) ∧ Below W.heap.size W w') := fun W => by rw [← hC]; exact nameOr_any x.cp W
  have HV : Hid _ := hV
  clear hb hF hC hV
  go_enter Tryz.func25, Tryz.ntmps25
  go_upto_region 1 with fail
  rw [← hw1]
  clear hw1
  go_cut [12] from 3 to 12 (fun v12 wd => v12 = .bool (!(F && C)) ∧ Hid (Below w1.heap.size w1 wd))
  case first =>
    cases F with
    | false =>
      go_wp2_with (go_at_call 41; refine Calls.mono HF.out ?_; rintro e w2 ⟨rfl, hb⟩; have HB2 : Hid (Below w1.heap.size w1 w2) := hb; clear hb)
      go_meet
      exact ⟨rfl, HB2⟩
    | true =>
      go_wp2_with first | (have Z := HB2; clear Z; go_at_call 41; refine Calls.mono (HC.out _) ?_; rintro e w3 ⟨rfl, hb⟩; have HB3 : Hid (Below w1.heap.size w1 w3) := below_trans HB2.out hb; clear hb) | (go_at_call 41; refine Calls.mono HF.out ?_; rintro e w2 ⟨rfl, hb⟩; have HB2 : Hid (Below w1.heap.size w1 w2) := hb; clear hb q0 q1 q2 q3 q4; obtain ⟨q0, q1, q2, q3, q4⟩ := HQ.out w2 HB2.out)
      go_meet
      exact ⟨by cases C <;> rfl, HB3⟩
  case rest =>
    obtain ⟨rfl, HB2⟩ := hcut
    have hV := HV.out
    clear HF HC HV q0 q1 q2 q3 q4
    obtain ⟨q0, q1, q2, q3, q4⟩ := HQ.out wc HB2.out
    have HBW : Hid (Below w.heap.size w wc) := below_trans HB1.out HB2.out
    cases hFC : (F && C) with
    | false =>
      have : V = false := by rw [← hV, ← Bool.and_assoc, hFC, Bool.false_and]
      subst this
      clear hV hFC
      go_wp2_with fail
      go_ret
      exact ⟨rfl, HBW.out⟩
    | true =>
      rw [← Bool.and_assoc, hFC, Bool.true_and] at hV
      clear hFC
      cases hl : x.lit with
      | true =>
        rw [hl] at q1 hV
        rw [if_pos rfl] at hV
        by_cases h0 : x.nm = ⟨#[]⟩
        · rw [decide_eq_true h0] at hV
          have : V = false := by rw [← hV]; rfl
          subst this
          rw [h0] at q0
          clear hV hl h0
          go_wp2_with fail
          go_ret
          exact ⟨rfl, HBW.out⟩
        · rw [decide_eq_false h0] at hV
          have d0 : x.nm.toList.isEmpty = false := by rw [bs_empty]; exact decide_eq_false h0
          have HV2 : Hid (decide (x.kd = 0) = V) := by show _ = V; rw [← hV]; rfl
          clear hV hl h0
          go_wp2_with fail
          go_ret
          refine ⟨?_, HBW.out⟩
          rw [← HV2.out]
          exact ret_bool (by by_cases h9 : x.kd = 0 <;> simp [h9])
      | false =>
        rw [hl] at q1 hV
        rw [if_neg (by decide)] at hV
        have HN : Hid _ := nameOr_any x.nm wc
        rw [hV] at HN
        clear hV hl
        go_wp2_with (go_at_call 41; refine Calls.mono HN.out ?_; rintro e w5 ⟨rfl, hb⟩; have HB5 : Hid (Below w.heap.size w w5) := below_trans HBW.out hb; clear hb)
        go_ret
        exact ⟨rfl, HB5.out⟩
end Go.Proofs.YtcmhbcfgikmblabGreatDoor.Qy
