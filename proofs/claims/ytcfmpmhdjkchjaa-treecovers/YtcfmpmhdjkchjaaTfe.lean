import Derived.Test.YtcfmpmhdjkchjaaTfd
namespace Go.Proofs.Ytcfmpmhdjkchjaa
open Go.RowKit Go.Maps

/-- What a node's text begins with. -/
def bgg (x : Nd) : List UInt8 := ((if x.fd = ⟨#[]⟩ then [] else x.fd.data.toList ++ [58, 32]) ++ (if brk x then [40] else [])) ++ (if x.nd then x.nm.data.toList else quo x.nm)
theorem bgg_nd {x : Nd} (h : x.nd = true) : bgg x = bgn x := by
  unfold bgg bgn
  rw [show brk x = true by unfold brk; rw [h]; rfl, h, if_pos rfl, if_pos rfl]
theorem quo_len (s : ByteArray) : (quo s).length ≤ 4 * s.size + 2 := by
  have h := qs_len s.data.toList
  have h2 : s.data.toList.length = s.size := Array.length_toList
  have e : (quo s).length = 1 + (qs s.data.toList).length + 1 := by unfold quo; rw [List.length_append, List.length_append]; rfl
  omega
theorem bgg_len (x : Nd) : (bgg x).length ≤ x.fd.size + 4 * x.nm.size + 10 := by
  have h := quo_len x.nm
  have e1 : x.nm.data.toList.length = x.nm.size := Array.length_toList
  have e2 : x.fd.data.toList.length = x.fd.size := Array.length_toList
  unfold bgg
  rw [List.length_append, List.length_append]
  have h1 : (if x.fd = ⟨#[]⟩ then [] else x.fd.data.toList ++ [58, 32]).length ≤ x.fd.size + 2 := by
    split
    · exact Nat.zero_le _
    · rw [List.length_append, e2]; exact Nat.le_refl _
  have h2 : (if brk x = true then [(40 : UInt8)] else []).length ≤ 1 := by split <;> decide
  have h3 : (if x.nd = true then x.nm.data.toList else quo x.nm).length ≤ 4 * x.nm.size + 2 := by
    split
    · omega
    · exact h
  omega
set_option maxRecDepth 100000 in
set_option maxHeartbeats 8000000 in
theorem appendBegin_bare {B : Nat} {v : Value} {l : List UInt8} (x : Nd) (hx : x.nd = false) (w : World) (h : Byt B w v l) (hl : l.length + x.fd.size + 4 * x.nm.size + 200 ≤ 70368744177664) (hB : B ≤ w.heap.size) :
    Calls Try.prog 67 #[v, nC x] w fun e w' => ∃ v', e = .returned v' ∧ Byt B w' v' (l ++ bgg x) ∧ Below B w w' := by
  obtain ⟨i5, hi5, hx0, hx1, hx2⟩ := info_parts infoU8
  have HH : Hid (Byt B w v l) := h
  have HB : Hid (B ≤ w.heap.size) := hB
  obtain ⟨va, vc, rfl⟩ := row_shape HH.out
  obtain ⟨bk, hbk⟩ : ∃ bk, brk x = bk := ⟨_, rfl⟩
  have HIB : Hid (∀ W, Calls Try.prog 80 #[nC x] W fun e w' => e = .returned (.bool bk) ∧ Below W.heap.size W w') := fun W => by have h7 := inBrackets_any x W; rw [hbk] at h7; exact h7
  have HGG : Hid (bgg x = ((if x.fd = ⟨#[]⟩ then [] else x.fd.data.toList ++ [58, 32]) ++ (if bk then [40] else [])) ++ quo x.nm) := by
    show _ = _
    unfold bgg
    rw [hbk, hx]
    rfl
  rw [HGG.out]
  clear HGG hbk
  obtain ⟨nm, nd, fd, fr, tt, kd, lf⟩ := x
  dsimp only at hx hl ⊢
  subst hx
  have HL : Hid (l.length + fd.size + 4 * nm.size + 200 ≤ 70368744177664) := hl
  unfold nC at *
  dsimp only at HIB ⊢
  obtain ⟨FF, hFF⟩ : ∃ FF : List UInt8, (if fd = ⟨#[]⟩ then [] else fd.data.toList ++ [58, 32]) = FF := ⟨_, rfl⟩
  rw [hFF]
  have HFF : Hid ((if fd = ⟨#[]⟩ then ([] : List UInt8) else fd.data.toList ++ [58, 32]) = FF) := hFF
  have HFL : Hid (FF.length ≤ fd.size + 2) := by
    rw [← hFF]
    show _ ≤ _
    split
    · exact Nat.zero_le _
    · rw [List.length_append, Array.length_toList]; exact Nat.le_refl _
  clear h hl hB hFF
  obtain ⟨W1, hW1⟩ : ∃ W1, W1 = w.alloc (.cells #[.string nm, .bool false, .string fd, .int .i64 fr, .int .i64 tt, .int .i64 kd, .int .i64 lf] 33) := ⟨_, rfl⟩
  have HX1 : Hid (W1.heap[w.heap.size]? = some (.cells #[.string nm, .bool false, .string fd, .int .i64 fr, .int .i64 tt, .int .i64 kd, .int .i64 lf] 33 (0, 0))) := by rw [hW1]; exact heap_new _ _
  have HB1 : Hid (Below w.heap.size w W1) := by rw [hW1]; exact bel_up _ _
  have HO1 : Hid (Byt B W1 (.slice va l.length vc) l) := row_up HH.out HB1.out
  have HG1 : Hid (Below B w W1) := HB1.out.mono HB.out
  have HSB : Hid (B ≤ W1.heap.size) := Nat.le_trans HB.out HB1.out.size
  go_enter Try.func67, Try.ntmps67
  go_upto_region 1 with fail
  rw [← hW1]
  clear hW1
  obtain ⟨xb, hxb⟩ : ∃ xb, w.heap.size = xb := ⟨_, rfl⟩
  rw [hxb] at HX1 ⊢
  clear hxb
  have f2 := rcell HX1.out 2 _ rfl
  obtain ⟨bz, hbz⟩ : ∃ bz, fd.toList.isEmpty = bz := ⟨_, rfl⟩
  have HBZ : Hid (fd.toList.isEmpty = bz) := hbz
  go_upto_if 7 with fail
  clear hbz
  go_cut [0] from 7 to 13 (fun v0 wx => ∃ (a1 : Option Addr) (n1 c1 : Nat) (l1 : List UInt8), v0 = .slice a1 n1 c1 ∧ Hid (l1.length = n1) ∧ Hid (l1 = l ++ FF) ∧ Hid (Byt B wx (.slice a1 n1 c1) l1) ∧ Hid (Below B w wx) ∧ Hid (B ≤ wx.heap.size) ∧ Hid (wx.heap[xb]? = some (.cells #[.string nm, .bool false, .string fd, .int .i64 fr, .int .i64 tt, .int .i64 kd, .int .i64 lf] 33 (0, 0))))
  case first =>
    cases bz
    · have hfd : ¬ fd = ⟨#[]⟩ := fun e => by have h7 := HBZ.out; rw [e, emp_yes] at h7; cases h7
      have HNE : Hid (¬ fd = ⟨#[]⟩) := hfd
      have HM : Hid (l.length + fd.size ≤ maxLen ∧ l.length + fd.size ≤ 140737488355328 ∧ l.length + fd.size + 2 ≤ maxLen ∧ l.length + fd.size + 2 ≤ 140737488355328) := by
        have h7 := HL.out
        show _ ∧ _ ∧ _ ∧ _
        unfold maxLen
        omega
      clear hfd
      go_upto_region 3 with (at_builtin; refine Lib.wpList_append_own_string _ rfl _ _ 114 9 rfl B 5 i5 Try.underlying114 Try.underlying9 hi5 hx0 hx1 hx2 _ _ _ rfl HO1.out fd rfl HM.out.1 HM.out.2.1 HSB.out ?_; intro v5 w5 ho5 hg5 _; have HO5 : Hid (Byt B w5 v5 (l ++ fd.data.toList)) := byt_str ho5; have HG5 : Hid (Below B w w5) := bel_app0 HG1.out HSB.out HO1.out hg5; have HX5 : Hid (w5.heap[xb]? = some (.cells #[.string nm, .bool false, .string fd, .int .i64 fr, .int .i64 tt, .int .i64 kd, .int .i64 lf] 33 (0, 0))) := (hg5.block xb (lt_of_heap HX1.out) (fun e => tag_ne_blk HO1.out HX1.out (by decide) e.symm)).trans HX1.out; obtain ⟨qa5, qc5, rfl⟩ := row_shape ho5; have HS5 : Hid (B ≤ w5.heap.size) := Nat.le_trans HSB.out hg5.size; clear ho5 hg5)
      obtain ⟨n5, hn5⟩ : ∃ n5, l.length + fd.size = n5 := ⟨_, rfl⟩
      rw [hn5] at HM ⊢
      have HO5' : Hid (w5.ownsRow B 5 1 (.slice qa5 n5 qc5) n5 (bC (l ++ fd.data.toList))) := by have h7 := HO5.out; unfold Byt at h7; rw [List.length_append, str_len, hn5] at h7; exact h7
      have HN5 : Hid ((l ++ fd.data.toList).length = n5) := by rw [List.length_append, str_len]; exact hn5
      clear hn5 HO5
      go_wp2_with (at_builtin; refine Lib.wpList_append_own_string _ rfl _ _ 114 9 rfl B 5 i5 Try.underlying114 Try.underlying9 hi5 hx0 hx1 hx2 _ _ _ rfl HO5'.out ⟨#[58, 32]⟩ rfl HM.out.2.2.1 HM.out.2.2.2 HS5.out ?_; intro v6 w6 ho6 hg6 _; have HO6 : Hid (w6.ownsRow B 5 1 v6 (n5 + 2) (bC ((l ++ fd.data.toList) ++ [58, 32]))) := (by rw [bC_app]; exact ho6); have HG6 : Hid (Below B w w6) := bel_app0 HG5.out HS5.out HO5'.out hg6; have HX6 : Hid (w6.heap[xb]? = some (.cells #[.string nm, .bool false, .string fd, .int .i64 fr, .int .i64 tt, .int .i64 kd, .int .i64 lf] 33 (0, 0))) := (hg6.block xb (lt_of_heap HX5.out) (fun e => tag_ne_blk HO5'.out HX5.out (by decide) e.symm)).trans HX5.out; have HS6 : Hid (B ≤ w6.heap.size) := Nat.le_trans HS5.out hg6.size; obtain ⟨qa6, qc6, rfl⟩ := row_shape ho6; clear ho6 hg6)
      go_meet
      exact ⟨_, _, _, (l ++ fd.data.toList) ++ [58, 32], rfl, by rw [List.length_append, HN5.out]; exact rfl, by rw [← HFF.out, if_neg HNE.out, List.append_assoc]; exact rfl, by show World.ownsRow _ _ _ _ _ _ _; rw [List.length_append, HN5.out]; exact HO6.out, HG6, HS6, HX6⟩
    · have hfd : fd = ⟨#[]⟩ := by
        have h7 := HBZ.out
        rw [List.isEmpty_iff, Lib.toList_data] at h7
        have : fd.data = #[] := Array.toList_eq_nil_iff.1 h7
        cases fd; exact congrArg ByteArray.mk this
      have HNE : Hid (fd = ⟨#[]⟩) := hfd
      clear hfd
      go_wp2_with fail
      go_meet
      exact ⟨_, _, _, l, rfl, rfl, by rw [← HFF.out, if_pos HNE.out, List.append_nil]; exact rfl, HO1, HG1, HSB, HX1⟩
  case rest =>
    clear f2 HO1 HG1 HSB HX1 HBZ
    obtain ⟨a1, n1, c1, l1, rfl, HN1, HL1, HO1, HG1, HSB, HX1⟩ := hcut
    have HO1' : Hid (wc.ownsRow B 5 1 (.slice a1 n1 c1) n1 (bC l1)) := by have h7 := HO1.out; unfold Byt at h7; rw [HN1.out] at h7; exact h7
    have HM : Hid (n1 + 4 * nm.size + 150 ≤ 70368744177664) := by
      have h7 := HL.out
      have h8 := congrArg List.length HL1.out
      have h9 := HN1.out
      have h10 := HFL.out
      rw [List.length_append] at h8
      show _ ≤ _; omega
    clear HO1
    have x0 := rcell HX1.out 0 _ rfl
    have x1 := rcell HX1.out 1 _ rfl
    have x2 := rcell HX1.out 2 _ rfl
    have x3 := rcell HX1.out 3 _ rfl
    have x4 := rcell HX1.out 4 _ rfl
    have x5 := rcell HX1.out 5 _ rfl
    have x6 := rcell HX1.out 6 _ rfl
    cases bk with
    | false =>
      go_upto_region 6 with (go_at_call 80; refine Calls.mono (HIB.out _) ?_; rintro ee W2 ⟨rfl, hb5⟩; have HB2 : Hid (Below B w W2) := HG1.out.trans (hb5.mono HSB.out); have HO2 : Hid (W2.ownsRow B 5 1 (.slice a1 n1 c1) n1 (bC l1)) := row_up HO1'.out hb5; have HX2 : Hid (W2.heap[xb]? = some (.cells #[.string nm, .bool false, .string fd, .int .i64 fr, .int .i64 tt, .int .i64 kd, .int .i64 lf] 33 (0, 0))) := (hb5.block xb (lt_of_heap HX1.out)).trans HX1.out; have HS2 : Hid (B ≤ W2.heap.size) := Nat.le_trans HSB.out hb5.size; clear hb5)
      clear x0 x1 x2 x3 x4 x5 x6
      have x0 := rcell HX2.out 0 _ rfl
      have x1 := rcell HX2.out 1 _ rfl
      have HAQ : Hid (Calls Try.prog 81 #[.slice a1 n1 c1, .string nm] W2 fun e w' => ∃ v', e = .returned v' ∧ Byt B w' v' (l1 ++ quo nm) ∧ Below B W2 w') := appendQuoted_any nm W2 (by unfold Byt; rw [HN1.out]; exact HO2.out) (by rw [HN1.out]; have := HM.out; omega) HS2.out
      go_wp2_with (go_at_call 81; refine Calls.mono HAQ.out ?_; rintro ee W3 ⟨v3, rfl, ho3, hb3⟩; have HO3 : Hid (Byt B W3 v3 (l1 ++ quo nm)) := ho3; have HB3 : Hid (Below B w W3) := HB2.out.trans hb3; obtain ⟨qa, qc, rfl⟩ := row_shape ho3; clear ho3 hb3)
      go_ret
      refine ⟨_, rfl, ?_, HB3.out⟩
      have hl6 : l ++ (FF ++ quo nm) = l1 ++ quo nm := by rw [HL1.out]; simp
      rw [hl6]
      have h7 := HO3.out
      unfold Byt at h7 ⊢
      rw [List.length_append] at h7 ⊢
      exact h7
    | true =>
      go_upto_region 5 with (go_at_call 80; refine Calls.mono (HIB.out _) ?_; rintro ee W2 ⟨rfl, hb5⟩; have HB2 : Hid (Below B w W2) := HG1.out.trans (hb5.mono HSB.out); have HO2 : Hid (W2.ownsRow B 5 1 (.slice a1 n1 c1) n1 (bC l1)) := row_up HO1'.out hb5; have HX2 : Hid (W2.heap[xb]? = some (.cells #[.string nm, .bool false, .string fd, .int .i64 fr, .int .i64 tt, .int .i64 kd, .int .i64 lf] 33 (0, 0))) := (hb5.block xb (lt_of_heap HX1.out)).trans HX1.out; have HS2 : Hid (B ≤ W2.heap.size) := Nat.le_trans HSB.out hb5.size; clear hb5)
      clear x0 x1 x2 x3 x4 x5 x6
      have HROW : Hid ((W2.alloc (.cells #[.int .u8 40] 5)).ownsRow B 5 1 (.slice a1 n1 c1) n1 (bC l1)) := HO2.out.alloc _
      have HSA : Hid (B ≤ (W2.alloc (.cells #[.int .u8 40] 5)).heap.size) := Nat.le_trans HS2.out (bel_up W2 _).size
      have HMX : Hid (n1 + 1 ≤ maxLen ∧ (n1 + 1) * 1 ≤ 140737488355328) := by have := HM.out; show _ ∧ _; unfold maxLen; omega
      have HXA : Hid ((W2.alloc (.cells #[.int .u8 40] 5)).heap[xb]? = some (.cells #[.string nm, .bool false, .string fd, .int .i64 fr, .int .i64 tt, .int .i64 kd, .int .i64 lf] 33 (0, 0))) := ((bel_up W2 _).block xb (lt_of_heap HX2.out)).trans HX2.out
      go_upto_region 6 with (at_builtin; refine wpList_append_own_at _ rfl _ _ 114 rfl B 5 i5 (.int .u8 0) 1 1 Try.underlying114 hi5 hx0 hx1 hx2 rfl (by decide) _ _ _ rfl HROW.out ⟨W2.heap.size, 0, none⟩ 1 1 [.int .u8 40] rfl rfl (cell_b1 _ _ _) (by simp [Value.oneCell']) HMX.out.1 HMX.out.2 HSA.out ?_; intro v5 w5 ho5 hg5 _ ha5; have HO5 : Hid (w5.ownsRow B 5 1 v5 (n1 + 1) (bC (l1 ++ [40]))) := (by rw [bC_app]; exact ho5); have HG5 : Hid (Below B w w5) := bel_app HB2.out HS2.out HO2.out hg5; have HX5 : Hid (w5.heap[xb]? = some (.cells #[.string nm, .bool false, .string fd, .int .i64 fr, .int .i64 tt, .int .i64 kd, .int .i64 lf] 33 (0, 0))) := (hg5.block xb (lt_of_heap HXA.out) (fun e => tag_ne_blk HROW.out HXA.out (by decide) e.symm)).trans HXA.out; have HS5 : Hid (B ≤ w5.heap.size) := Nat.le_trans HSA.out hg5.size; obtain ⟨qa, qc, rfl⟩ := row_shape ho5; clear ho5 hg5 ha5)
      have x1 := rcell HX5.out 1 _ rfl
      have x0 := rcell HX5.out 0 _ rfl
      have HAQ : Hid (Calls Try.prog 81 #[.slice qa (n1 + 1) qc, .string nm] w5 fun e w' => ∃ v', e = .returned v' ∧ Byt B w' v' ((l1 ++ [40]) ++ quo nm) ∧ Below B w5 w') := appendQuoted_any nm w5 (by unfold Byt; rw [List.length_append, HN1.out]; exact HO5.out) (by rw [List.length_append, HN1.out]; have := HM.out; show n1 + 1 + _ + _ ≤ _; omega) HS5.out
      go_wp2_with (go_at_call 81; refine Calls.mono HAQ.out ?_; rintro ee W3 ⟨v3, rfl, ho3, hb3⟩; have HO3 : Hid (Byt B W3 v3 ((l1 ++ [40]) ++ quo nm)) := ho3; have HB3 : Hid (Below B w W3) := HG5.out.trans hb3; obtain ⟨ra3, rc3, rfl⟩ := row_shape ho3; clear ho3 hb3)
      go_ret
      refine ⟨_, rfl, ?_, HB3.out⟩
      have hl6 : l ++ (FF ++ 40 :: quo nm) = (l1 ++ [40]) ++ quo nm := by rw [HL1.out]; simp
      have hl7 : l ++ (FF ++ ([40] ++ quo nm)) = (l1 ++ [40]) ++ quo nm := by rw [HL1.out]; simp
      first | rw [hl6] | rw [hl7]
      have h7 := HO3.out
      unfold Byt at h7 ⊢
      have h8 : ((l1 ++ [40]) ++ quo nm).length = l1.length + ((quo nm).length + 1) := by rw [List.length_append, List.length_append]; show l1.length + 1 + _ = _; omega
      rw [h8] at h7 ⊢
      exact h7
theorem appendBegin_gen {B : Nat} {v : Value} {l : List UInt8} (x : Nd) (w : World) (h : Byt B w v l) (hl : l.length + x.fd.size + 4 * x.nm.size + 200 ≤ 70368744177664) (hB : B ≤ w.heap.size) :
    Calls Try.prog 67 #[v, nC x] w fun e w' => ∃ v', e = .returned v' ∧ Byt B w' v' (l ++ bgg x) ∧ Below B w w' := by
  cases hn : x.nd with
  | false => exact appendBegin_bare x hn w h hl hB
  | true =>
    rw [bgg_nd hn]
    refine appendBegin_any x hn w h ?_ hB
    have h1 := bgg_len x
    rw [bgg_nd hn] at h1
    rw [List.length_append]
    omega
end Go.Proofs.Ytcfmpmhdjkchjaa
