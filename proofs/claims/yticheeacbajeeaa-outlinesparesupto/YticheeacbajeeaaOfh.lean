import Derived.Test.YticheeacbajeeaaOfd
import Derived.Test.YticheeacbajeeaaOfq
import Derived.Test.YticheeacbajeeaaOrf
namespace Go.Proofs.Yticheeacbajeeaa
open Go.RowKit Go.Maps

/-- The furthest last row of each row, node by node. -/
def gst (g : Nat → Nat) (x : Fd) : Nat → Nat := if g x.1 < x.2 then (fun r => if r = x.1 then x.2 else g r) else g
def gz (L : List Fd) : Nat → Nat := L.foldl gst fun _ => 0
theorem gz_app (L : List Fd) (x : Fd) : gz (L ++ [x]) = gst (gz L) x := by unfold gz; rw [List.foldl_append]; rfl
theorem fz_foldl : ∀ (L K : List Fd) (g : Nat → Nat), Fz K g → Fz (K ++ L) (L.foldl gst g)
  | [], K, g, h => by rw [List.append_nil]; exact h
  | x :: L, K, g, h => by
    have h1 : Fz (K ++ [x]) (gst g x) := by
      unfold gst
      by_cases k : g x.1 < x.2
      · rw [if_pos k]; exact h.put k
      · rw [if_neg k]; exact h.keep (by omega)
    have h2 := fz_foldl L (K ++ [x]) (gst g x) h1
    rw [List.append_assoc] at h2
    exact h2
theorem fz_gz (L : List Fd) : Fz L (gz L) := fz_foldl L [] _ Fz.nil
/-- What Folds answers. -/
noncomputable def fol (F : List ByteArray) (T : List Nd) (s : ByteArray) : List Fd := if rgt T s.size then ftl (gz (rl F s T)) (rws s).length else []
theorem rl_lt {F : List ByteArray} {T : List Nd} {s : ByteArray} (h : lie T s.size = true) : ∀ x ∈ rl F s T, x.1 < (rws s).length := by
  intro x hx
  unfold rl at hx
  rw [List.mem_map] at hx
  obtain ⟨y, hy, rfl⟩ := hx
  obtain ⟨hy, -⟩ := List.mem_filter.1 hy
  obtain ⟨i, hi, rfl⟩ := List.mem_iff_getElem.1 hy
  have h9 := lie_okn h i hi
  rw [List.getD_eq_getElem?_getD, List.getElem?_eq_getElem hi, Option.getD_some] at h9
  exact nfr_lt h9
theorem fol_cn {F : List ByteArray} {T : List Nd} {s : ByteArray} (h : rgt T s.size = true) : Cn (fl F s T) (fol F T s) := by
  unfold fol
  rw [if_pos h]
  exact cn_ftl (fz_gz _) (rl_lt (rgt_yes h).1)
theorem fol_len (F : List ByteArray) (T : List Nd) (s : ByteArray) : (fol F T s).length ≤ s.size + 1 := by
  unfold fol
  split
  · exact Nat.le_trans (ftl_len _ _) (rws_len s)
  · exact Nat.zero_le _
theorem gz_le {F : List ByteArray} {T : List Nd} {s : ByteArray} (h : lie T s.size = true) (r : Nat) : gz (rl F s T) r ≤ (rws s).length := by
  rcases (fz_gz (rl F s T) r).2 with h1 | h1
  · rw [h1]; exact Nat.zero_le _
  · unfold rl at h1
    rw [List.mem_map] at h1
    obtain ⟨y, hy, h2⟩ := h1
    obtain ⟨hy, -⟩ := List.mem_filter.1 hy
    obtain ⟨i, hi, rfl⟩ := List.mem_iff_getElem.1 hy
    have h9 := lie_okn h i hi
    rw [List.getD_eq_getElem?_getD, List.getElem?_eq_getElem hi, Option.getD_some] at h9
    have h8 := nlr_lt h9
    have h7 : nlr s T[i] = gz (rl F s T) r := congrArg Prod.snd h2
    unfold rl at h7
    unfold rl
    omega

set_option maxRecDepth 100000 in
set_option maxHeartbeats 8000000 in
theorem in_any {v : Value} {F : List ByteArray} (t : ByteArray) (w : World) (h : Ss w v F) (hf : F.length * 16 ≤ 140737488355328) : Calls Try.prog 31 #[v, .string t] w fun e w' => e = .returned (.bool (inF F t)) ∧ Below w.heap.size w w' := by
  have HF : Hid (Ss w v F) := h
  obtain ⟨fa, fc, rfl⟩ := h.form
  obtain ⟨k, hk⟩ : ∃ k, F.length = k := ⟨_, rfl⟩
  have HN : Hid (F.length = k ∧ k * 16 ≤ 140737488355328) := ⟨hk, by rw [← hk]; exact hf⟩
  rw [hk] at HF ⊢
  clear h hf hk
  go_enter Try.func31, Try.ntmps31
  go_upto_region 2 with fail
  go_loopg [5] k (fun gm v5 wr => ∃ i : Nat, v5 = .int .i64 (i : Int) ∧ Hid (i ≤ k ∧ gm = k - i) ∧ Hid (inF (F.take i) t = false) ∧ wr = w)
  case atStart => exact ⟨0, rfl, ⟨Nat.zero_le _, rfl⟩, rfl, rfl⟩
  case round =>
    obtain ⟨i, rfl, HI, HM, rfl⟩ := hrel
    by_cases hi : i < k
    · have e1 : decide ((i : Int) < (k : Int)) = true := by rw [decide_eq_true_eq]; omega
      have e2 : decide (i < k) = true := by rw [decide_eq_true_eq]; omega
      have e3 : (i : Int) < (k : Int) := by omega
      have e4 : (0 : Int) ≤ (i : Int) := by omega
      have HIL : Hid (i < k ∧ i < F.length) := ⟨hi, by rw [HN.out.1]; exact hi⟩
      obtain ⟨g, o, rfl, hc⟩ := HF.out.one i HIL.out.2
      have c0 := hc wr (Below.refl _ _)
      have HST : Hid _ := inF_step F t i HIL.out.2
      obtain ⟨x, hx⟩ : ∃ x, F.getD i ⟨#[]⟩ = x := ⟨_, rfl⟩
      rw [hx] at c0 HST
      have hwi := w64n i (by have := HN.out; omega)
      clear hx hc
      by_cases hxt : x = t
      · have f1 : (x.toList == t.toList) = true := by rw [str_eq]; exact decide_eq_true hxt
        have HE : Hid (inF F t = true) := by
          show _ = _
          have h9 := HST.out
          rw [HM.out, decide_eq_true hxt, Bool.false_or] at h9
          unfold inF at h9 ⊢
          rw [List.any_eq_true] at h9 ⊢
          obtain ⟨z, hz, h8⟩ := h9
          exact ⟨z, List.mem_of_mem_take hz, h8⟩
        clear hxt
        go_wp2_with fail
        go_ret
        exact ⟨by rw [HE.out]; rfl, Below.refl _ _⟩
      · have f1 : (x.toList == t.toList) = false := by rw [str_eq]; exact decide_eq_false hxt
        have HM2 : Hid (inF (F.take (i + 1)) t = false) := by
          show _ = _
          rw [HST.out, HM.out, decide_eq_false hxt]; rfl
        clear hxt
        go_wp2_with fail
        go_roundg (k - (i + 1))
        case measure => have := HI.out; have := HIL.out; omega
        case rel => exact ⟨i + 1, by simp, ⟨HIL.out.1, rfl⟩, HM2, rfl⟩
    · have e1 : decide ((i : Int) < (k : Int)) = false := by rw [decide_eq_false_iff_not]; omega
      have e2 : decide (i < k) = false := by rw [decide_eq_false_iff_not]; omega
      have HE : Hid (inF F t = false) := by
        have h9 := HM.out
        rw [List.take_of_length_le (by rw [HN.out.1]; omega)] at h9
        exact h9
      clear hi
      go_wp2_with fail
      go_ret
      exact ⟨by rw [HE.out]; rfl, Below.refl _ _⟩
set_option maxRecDepth 100000 in
set_option maxHeartbeats 4000000 in
theorem rrows_nd (x : Nd) (s : ByteArray) (w : World) (hx : okn s x) (hz : s.size ≤ 1099511627776) :
    Calls Try.prog 32 #[.agg #[.string x.nm, .bool x.nd, .string x.fd, .int .i64 x.fr, .int .i64 x.tt, .int .i64 x.kd, .int .i64 x.lf], .string s] w fun e w' => e = .returned (.tuple #[.int .i64 (nfr s x : Int), .int .i64 (nlr s x : Int)]) ∧ Below w.heap.size w w' := by
  obtain ⟨h0, h1, h2⟩ := hx
  have HP : Hid (∀ (n : Int) (W : World), 0 ≤ n → n ≤ (s.size : Int) → Calls Try.prog 50 #[.string s, .int .i64 n] W fun e w' => ∃ c : Int, e = .returned (.agg #[.int .i64 (rwo s n.toNat : Int), .int .i64 c]) ∧ Below W.heap.size W w') := fun n W k0 k1 => rpos_row s n W hz k0 k1
  have HFL : Hid (∀ (a c : Int) (W : World), (Instr.field 108 (.agg #[.int .i64 a, .int .i64 c]) 0).run Try.prog W = .ok (.int .i64 a) W) := fld_pos
  obtain ⟨f, hf⟩ : ∃ f, x.fr = f := ⟨_, rfl⟩
  obtain ⟨t, ht⟩ : ∃ t, x.tt = t := ⟨_, rfl⟩
  have HA : Hid (nfr s x = rwo s f.toNat) := by show _ = _; unfold nfr; rw [hf]
  have HL : Hid (nlr s x = rwo s (if t = f then f.toNat else (t - 1).toNat)) := by show _ = _; unfold nlr; rw [hf, ht]
  rw [hf, ht] at h1
  rw [hf] at h0
  rw [ht] at h2
  rw [hf, ht]
  have HX : Hid (0 ≤ f ∧ f ≤ t ∧ t ≤ (s.size : Int)) := ⟨h0, h1, h2⟩
  have hw := w64z (t - 1) (by omega) (by omega)
  obtain ⟨W1, hW1⟩ : ∃ W1, W1 = w.alloc (.cells #[.string x.nm, .bool x.nd, .string x.fd, .int .i64 f, .int .i64 t, .int .i64 x.kd, .int .i64 x.lf] 50) := ⟨_, rfl⟩
  have HB1 : Hid (Below w.heap.size w W1) := by rw [hW1]; exact bel_up _ _
  have hn1 : W1.heap[w.heap.size]? = some (.cells #[.string x.nm, .bool x.nd, .string x.fd, .int .i64 f, .int .i64 t, .int .i64 x.kd, .int .i64 x.lf] 50 (0, 0)) := by rw [hW1]; exact heap_new w _
  have HN1 : Hid _ := hn1
  clear hf ht h0 h1 h2
  go_enter Try.func32, Try.ntmps32
  go_upto_region 1 with fail
  rw [← hW1]
  obtain ⟨nb, hnb⟩ : ∃ nb, w.heap.size = nb := ⟨_, rfl⟩
  have HNB : Hid (w.heap.size = nb) := hnb
  rw [hnb] at hn1 HN1 ⊢
  clear hW1 hnb
  have c3 : W1.cell? ⟨nb, 3, none⟩ = some (.int .i64 f) := rcell hn1 3 _ rfl
  go_wp2_with fail
  refine (HP.out f W1 HX.out.1 (by have := HX.out; omega)).mono ?_
  rintro e w2 ⟨c, rfl, hb⟩
  have HB2 : Hid (Below W1.heap.size W1 w2) := hb
  clear hb c3 hn1
  have c3 : w2.cell? ⟨nb, 3, none⟩ = some (.int .i64 f) := below_cell HB2.out (rcell HN1.out 3 _ rfl)
  have c4 : w2.cell? ⟨nb, 4, none⟩ = some (.int .i64 t) := below_cell HB2.out (rcell HN1.out 4 _ rfl)
  have hfl := HFL.out (rwo s f.toNat : Int) c
  by_cases htf : t = f
  · have f1 : (t == f) = true := by rw [beq_iff_eq]; exact htf
    have HE : Hid (nlr s x = rwo s f.toNat) := by show _ = _; rw [HL.out, if_pos htf]
    subst htf
    have f2 : (t == t) = true := by simp
    go_wp2_with fail
    (try simp only [Exit.inBlock, Exit.then])
    refine bodyPost_ret (v := .tuple #[.int .i64 (rwo s t.toNat : Int), .int .i64 (rwo s t.toNat : Int)]) ?_ rfl ⟨by rw [HA.out, HE.out], below_trans HB1.out HB2.out⟩
    simp [results, Try.results32, go_sem]
  · have f1 : (t == f) = false := by rw [beq_eq_false_iff_ne]; exact htf
    have HT1 : Hid (0 ≤ t - 1 ∧ t - 1 ≤ (s.size : Int)) := by have := HX.out; exact ⟨by omega, by omega⟩
    have HP2 := HP.out (t - 1) w2 HT1.out.1 HT1.out.2
    have hE := HL.out
    rw [if_neg htf] at hE
    obtain ⟨R1, hR1⟩ : ∃ R1, rwo s (t - 1).toNat = R1 := ⟨_, rfl⟩
    rw [hR1] at HP2 hE
    have HE : Hid (nlr s x = R1) := hE
    have HPH : Hid _ := HP2
    clear htf hR1 hE HP2
    go_wp2_with fail
    refine Calls.mono HPH.out ?_
    rintro e w3 ⟨c2, rfl, hb⟩
    have HB3 : Hid (Below w2.heap.size w2 w3) := hb
    clear hb c3 c4 hfl HPH
    have hfl := HFL.out (R1 : Int) c2
    go_wp2_with fail
    (try simp only [Exit.inBlock, Exit.then])
    refine bodyPost_ret (v := .tuple #[.int .i64 (rwo s f.toNat : Int), .int .i64 (R1 : Int)]) ?_ rfl ⟨by rw [HA.out, HE.out], below_trans (below_trans HB1.out HB2.out) HB3.out⟩
    simp [results, Try.results32, go_sem]
end Go.Proofs.Yticheeacbajeeaa
