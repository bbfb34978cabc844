import Derived.Test.YtcfmpmhdjkchjaaTfc
import Derived.Test.YtcfmpmhdjkchjaaTty
import Derived.Laws.BitsLemmas
namespace Go.Proofs.Ytcfmpmhdjkchjaa
open Go.RowKit Go.Maps

theorem get_bang (s : ByteArray) (i : Nat) (hi : i < s.size) : s.get! i = s[i] := by
  unfold ByteArray.get!
  show s.data[i]! = s.data[i]
  exact getElem!_pos s.data i hi
theorem idx_fact (s : ByteArray) (i : Nat) (hi : i < s.size) : ∀ W : World, (Instr.index 9 (.string s) (.int .i64 (i : Int))).run Try.prog W = .ok (.int .u8 ((s.get! i).toNat : Int)) W := by
  intro W
  rw [run_index_string W 9 s .i64 _ Try.underlying9, dif_pos ⟨by omega, by omega⟩]
  have e : ((i : Int)).toNat = i := by omega
  simp only [e, get_bang s i hi]
theorem idx8_fact (s : ByteArray) (i : Nat) (hi : i < s.size) : ∀ W : World, (Instr.index 9 (.string s) (.int .u8 (i : Int))).run Try.prog W = .ok (.int .u8 ((s.get! i).toNat : Int)) W := by
  intro W
  rw [run_index_string W 9 s .u8 _ Try.underlying9, dif_pos ⟨by omega, by omega⟩]
  have e : ((i : Int)).toNat = i := by omega
  simp only [e, get_bang s i hi]
theorem get_list (s : ByteArray) (i : Nat) (hi : i < s.size) : s.data.toList[i]? = some (s.get! i) := by
  rw [get_bang s i hi]
  rw [List.getElem?_eq_getElem (by rw [Array.length_toList]; exact hi)]
  simp [ByteArray.getElem_eq_getElem_data]
def dgt (n : Nat) : UInt8 := [48, 49, 50, 51, 52, 53, 54, 55, 56, 57, 97, 98, 99, 100, 101, 102].getD n 0
/-- A byte in quotes, by its number. -/
def qb (x : UInt8) : List UInt8 :=
  if x.toNat = 34 ∨ x.toNat = 92 then [92, x] else if x.toNat = 10 then [92, 110]
  else if x.toNat < 32 ∨ 126 < x.toNat then [92, 120, dgt (x.toNat / 16), dgt (x.toNat % 16)] else [x]
def qs (l : List UInt8) : List UInt8 := l.flatMap qb
def quo (s : ByteArray) : List UInt8 := [34] ++ qs s.data.toList ++ [34]
theorem qb_len (x : UInt8) : (qb x).length ≤ 4 := by
  unfold qb
  split
  · exact (by decide : 2 ≤ 4)
  · split
    · exact (by decide : 2 ≤ 4)
    · split
      · exact Nat.le_refl 4
      · exact (by decide : 1 ≤ 4)
theorem qs_len (l : List UInt8) : (qs l).length ≤ 4 * l.length := by
  induction l with
  | nil => exact Nat.le_refl _
  | cons x l ih =>
    have e : qs (x :: l) = qb x ++ qs l := rfl
    rw [e, List.length_append, List.length_cons]
    have := qb_len x; omega
theorem qs_step (s : ByteArray) (i : Nat) (hi : i < s.size) : qs (s.data.toList.take (i + 1)) = qs (s.data.toList.take i) ++ qb (s.get! i) := by
  rw [List.take_add_one, get_list s i hi]
  unfold qs
  rw [List.flatMap_append]
  simp
theorem qs_all (s : ByteArray) : s.data.toList.take s.size = s.data.toList := List.take_of_length_le (by rw [Array.length_toList]; exact Nat.le_refl _)
theorem hi_fact : ∀ n : Fin 256, (((⟨#[48, 49, 50, 51, 52, 53, 54, 55, 56, 57, 97, 98, 99, 100, 101, 102]⟩ : ByteArray).get! (n.val / 16)) = dgt (n.val / 16) ∧ ((⟨#[48, 49, 50, 51, 52, 53, 54, 55, 56, 57, 97, 98, 99, 100, 101, 102]⟩ : ByteArray).get! (n.val % 16)) = dgt (n.val % 16)) := by decide +kernel
theorem and_fact : ∀ n : Fin 256, bits .and .u8 (n.val : Int) 15 = ((n.val % 16 : Nat) : Int) := by decide +kernel
theorem byt_apps {B : Nat} {W : World} {v : Value} {l r : List UInt8} {n m : Nat} (hn : l.length = n) (hm : r.length = m) (h : W.ownsRow B 5 1 v (n + m) (bC l ++ bC r)) : Byt B W v (l ++ r) := by
  unfold Byt
  rw [List.length_append, bC_app, hn, hm]
  exact h
theorem cells_new (w : World) (l : List Value) (t : TypeId) : ∀ j v, l[j]? = some v → (w.alloc (.cells l.toArray t)).cell? ((⟨w.heap.size, 0, none⟩ : Addr).add j) = some v := by
  intro j u hj
  rw [addPl, Nat.zero_add, Lib.cell_of_heap (heap_new w _)]
  simpa using hj
theorem bC_one (l : List UInt8) : ∀ u ∈ bC l, u.oneCell' = true := fun u hu => by
  unfold bC at hu
  obtain ⟨b, _, rfl⟩ := List.mem_map.1 hu
  rfl
set_option maxRecDepth 100000 in
set_option maxHeartbeats 8000000 in
theorem appendQuoted_any {B : Nat} {v : Value} {l : List UInt8} (s : ByteArray) (w : World) (h : Byt B w v l) (hl : l.length + 4 * s.size + 100 ≤ 70368744177664) (hB : B ≤ w.heap.size) :
    Calls Try.prog 81 #[v, .string s] w fun e w' => ∃ v', e = .returned v' ∧ Byt B w' v' (l ++ quo s) ∧ Below B w w' := by
  obtain ⟨i5, hi5, hx0, hx1, hx2⟩ := info_parts infoU8
  have HH : Hid (Byt B w v l) := h
  have HL : Hid (l.length + 4 * s.size + 100 ≤ 70368744177664) := hl
  have HBS : Hid (B ≤ w.heap.size) := hB
  obtain ⟨va, vc, rfl⟩ := row_shape HH.out
  obtain ⟨n, hn⟩ : ∃ n, s.size = n := ⟨_, rfl⟩
  have HN : Hid (s.size = n) := hn
  clear h hl hB hn
  have hsn := HN.out
  have HROW : Hid ((w.alloc (.cells #[.int .u8 34] 5)).ownsRow B 5 1 (.slice va l.length vc) l.length (bC l)) := HH.out.alloc _
  go_enter Try.func81, Try.ntmps81
  go_upto_region 3 with (at_builtin; refine wpList_append_own_at _ rfl _ _ 114 rfl B 5 i5 (.int .u8 0) 1 1 Try.underlying114 hi5 hx0 hx1 hx2 rfl (by decide) _ _ _ rfl HROW.out ⟨w.heap.size, 0, none⟩ 1 1 [.int .u8 34] rfl rfl (cells_new _ [.int .u8 34] _) (by simp [Value.oneCell']) (by have := HL.out; unfold maxLen; omega) (by have := HL.out; omega) (by have := HBS.out; simp; omega) ?_; intro v5 w5 ho5 hg5 _ ha5; have HO0 : Hid (Byt B w5 v5 (l ++ [34])) := byt_apps rfl rfl ho5; have HG0 : Hid (Below B w w5) := bel_app (Below.refl _ _) HBS.out HH.out hg5; obtain ⟨qa0, qc0, rfl⟩ := row_shape ho5; clear ho5 hg5 ha5)
  clear HROW
  go_loopg [0, 12] n (fun gm v0 v12 wr => ∃ (i : Nat) (L : List UInt8), v12 = .int .i64 (i : Int) ∧ Hid (gm = n - i ∧ i ≤ n) ∧ Hid (L = (l ++ [34]) ++ qs (s.data.toList.take i)) ∧ Hid (Byt B wr v0 L) ∧ Hid (Below B w wr))
  case atStart => exact ⟨0, l ++ [34], rfl, ⟨rfl, Nat.zero_le _⟩, by rw [List.take_zero]; exact (List.append_nil _).symm, HO0, HG0⟩
  case round =>
    clear HO0 HG0
    obtain ⟨i, L, rfl, HI, HLQ, HO, HB⟩ := hrel
    obtain ⟨ra, rc, hv⟩ := row_shape HO.out
    subst hv
    have HSZ : Hid (B ≤ wr.heap.size) := Nat.le_trans HBS.out HB.out.size
    have HCL : Hid (L.length + 100 ≤ 70368744177664 + 10) := by
      have h7 := congrArg List.length HLQ.out
      rw [List.length_append, List.length_append] at h7
      have h8 := qs_len (s.data.toList.take i)
      rw [List.length_take] at h8
      have h9 := HL.out; have h10 := HI.out; have h11 := HN.out
      have h12 : [(34 : UInt8)].length = 1 := rfl
      show _ ≤ _; omega
    by_cases hi : i < n
    · have e1 : decide ((i : Int) < (n : Int)) = true := by rw [decide_eq_true_eq]; omega
      have e2 : decide (i < n) = true := by rw [decide_eq_true_eq]; omega
      have HIM : Hid (i < n) := hi
      have hwi := w64n i (by have := HL.out; have := HN.out; omega)
      have HLS : Hid (qs (s.data.toList.take (i + 1)) = qs (s.data.toList.take i) ++ qb (s.get! i)) := qs_step s i (by rw [HN.out]; exact hi)
      replace HLS : Hid ((l ++ [34]) ++ qs (s.data.toList.take (i + 1)) = L ++ qb (s.get! i)) := by show _ = _; rw [HLS.out, HLQ.out]; simp only [List.append_assoc]
      have hidx := idx_fact s i (by rw [HN.out]; exact hi)
      obtain ⟨m, hm⟩ : ∃ m, (s.get! i).toNat = m := ⟨_, rfl⟩
      have hm8 : m < 256 := by rw [← hm]; exact UInt8.toNat_lt _
      have hgm : s.get! i = Nat.toUInt8 m := by rw [← hm]; simp
      rw [hm] at hidx
      clear hi hsn
      by_cases c34 : m = 34
      · have HX : Hid (qb (s.get! i) = [92, 34]) := by
          show _ = _
          unfold qb
          rw [hm, if_pos (Or.inl c34), hgm, c34]
          rfl
        subst c34
        clear hm hgm hm8
        have HROW : Hid ((wr.alloc (.cells #[.int .u8 92, .int .u8 34] 5)).ownsRow B 5 1 (.slice ra L.length rc) L.length (bC L)) := HO.out.alloc _
        go_wp2_with (at_builtin; refine wpList_append_own_at _ rfl _ _ 114 rfl B 5 i5 (.int .u8 0) 1 1 Try.underlying114 hi5 hx0 hx1 hx2 rfl (by decide) _ _ _ rfl HROW.out ⟨wr.heap.size, 0, none⟩ 2 2 [.int .u8 92, .int .u8 34] rfl rfl (cells_new _ [.int .u8 92, .int .u8 34] _) (by simp [Value.oneCell']) (by have := HCL.out; unfold maxLen; omega) (by have := HCL.out; omega) (by have := HSZ.out; simp; omega) ?_; intro v5 w5 ho5 hg5 _ ha5; have HO5 : Hid (Byt B w5 v5 (L ++ [92, 34])) := byt_apps rfl rfl ho5; have HG5 : Hid (Below B w w5) := bel_app HB.out HSZ.out HO.out hg5; obtain ⟨qa, qc, rfl⟩ := row_shape ho5; clear ho5 hg5 ha5)
        go_roundg (n - (i + 1))
        case measure => have := HI.out; have := HIM.out; omega
        case rel => exact ⟨i + 1, _, by first | rfl | (rw [show (i : Int) + 1 = ((i + 1 : Nat) : Int) by omega]), ⟨rfl, HIM.out⟩, by rw [HLS.out, HX.out]; rfl, HO5, HG5⟩
      by_cases c92 : m = 92
      · have HX : Hid (qb (s.get! i) = [92, 92]) := by
          show _ = _
          unfold qb
          rw [hm, if_pos (Or.inr c92), hgm, c92]
          rfl
        subst c92
        clear hm hgm hm8
        have HROW : Hid ((wr.alloc (.cells #[.int .u8 92, .int .u8 92] 5)).ownsRow B 5 1 (.slice ra L.length rc) L.length (bC L)) := HO.out.alloc _
        go_wp2_with (at_builtin; refine wpList_append_own_at _ rfl _ _ 114 rfl B 5 i5 (.int .u8 0) 1 1 Try.underlying114 hi5 hx0 hx1 hx2 rfl (by decide) _ _ _ rfl HROW.out ⟨wr.heap.size, 0, none⟩ 2 2 [.int .u8 92, .int .u8 92] rfl rfl (cells_new _ [.int .u8 92, .int .u8 92] _) (by simp [Value.oneCell']) (by have := HCL.out; unfold maxLen; omega) (by have := HCL.out; omega) (by have := HSZ.out; simp; omega) ?_; intro v5 w5 ho5 hg5 _ ha5; have HO5 : Hid (Byt B w5 v5 (L ++ [92, 92])) := byt_apps rfl rfl ho5; have HG5 : Hid (Below B w w5) := bel_app HB.out HSZ.out HO.out hg5; obtain ⟨qa, qc, rfl⟩ := row_shape ho5; clear ho5 hg5 ha5)
        go_roundg (n - (i + 1))
        case measure => have := HI.out; have := HIM.out; omega
        case rel => exact ⟨i + 1, _, by first | rfl | (rw [show (i : Int) + 1 = ((i + 1 : Nat) : Int) by omega]), ⟨rfl, HIM.out⟩, by rw [HLS.out, HX.out]; rfl, HO5, HG5⟩
      by_cases c10 : m = 10
      · have HX : Hid (qb (s.get! i) = [92, 110]) := by
          show _ = _
          unfold qb
          rw [hm, if_neg (by omega), if_pos c10]
        subst c10
        clear hm hgm hm8 c34 c92
        have HROW : Hid ((wr.alloc (.cells #[.int .u8 92, .int .u8 110] 5)).ownsRow B 5 1 (.slice ra L.length rc) L.length (bC L)) := HO.out.alloc _
        go_wp2_with (at_builtin; refine wpList_append_own_at _ rfl _ _ 114 rfl B 5 i5 (.int .u8 0) 1 1 Try.underlying114 hi5 hx0 hx1 hx2 rfl (by decide) _ _ _ rfl HROW.out ⟨wr.heap.size, 0, none⟩ 2 2 [.int .u8 92, .int .u8 110] rfl rfl (cells_new _ [.int .u8 92, .int .u8 110] _) (by simp [Value.oneCell']) (by have := HCL.out; unfold maxLen; omega) (by have := HCL.out; omega) (by have := HSZ.out; simp; omega) ?_; intro v5 w5 ho5 hg5 _ ha5; have HO5 : Hid (Byt B w5 v5 (L ++ [92, 110])) := byt_apps rfl rfl ho5; have HG5 : Hid (Below B w w5) := bel_app HB.out HSZ.out HO.out hg5; obtain ⟨qa, qc, rfl⟩ := row_shape ho5; clear ho5 hg5 ha5)
        go_roundg (n - (i + 1))
        case measure => have := HI.out; have := HIM.out; omega
        case rel => exact ⟨i + 1, _, by first | rfl | (rw [show (i : Int) + 1 = ((i + 1 : Nat) : Int) by omega]), ⟨rfl, HIM.out⟩, by rw [HLS.out, HX.out]; rfl, HO5, HG5⟩
      by_cases cl : m < 32
      · have HX : Hid (qb (s.get! i) = [92, 120, dgt (m / 16), dgt (m % 16)]) := by
          show _ = _
          unfold qb
          rw [hm, if_neg (by omega), if_neg c10, if_pos (Or.inl cl)]
        obtain ⟨ha1, ha2⟩ := hi_fact ⟨m, hm8⟩
        have hand := and_fact ⟨m, hm8⟩
        simp only at ha1 ha2 hand
        have hi1 := idx8_fact ⟨#[48, 49, 50, 51, 52, 53, 54, 55, 56, 57, 97, 98, 99, 100, 101, 102]⟩ (m / 16) (by show m / 16 < 16; omega)
        have hi2 := idx8_fact ⟨#[48, 49, 50, 51, 52, 53, 54, 55, 56, 57, 97, 98, 99, 100, 101, 102]⟩ (m % 16) (by show m % 16 < 16; omega)
        rw [ha1] at hi1
        rw [ha2] at hi2
        obtain ⟨a, ea⟩ : ∃ a, m / 16 = a := ⟨_, rfl⟩
        obtain ⟨b, eb⟩ : ∃ b, m % 16 = b := ⟨_, rfl⟩
        rw [ea, eb] at HX
        rw [ea] at hi1
        rw [eb] at hi2 hand
        have hdv : ((m : Int) / 16) = (a : Int) := by omega
        have htd : (m : Int).tdiv 16 = (a : Int) := by rw [Int.tdiv_eq_ediv_of_nonneg (by omega)]; omega
        have htm : (m : Int).tmod 16 = (b : Int) := by rw [Int.tmod_eq_emod_of_nonneg (by omega)]; omega
        have hmd : ((m : Int) % 16) = (b : Int) := by omega
        obtain ⟨p, hp⟩ : ∃ p, dgt a = p := ⟨_, rfl⟩
        obtain ⟨q, hq⟩ : ∃ q, dgt b = q := ⟨_, rfl⟩
        rw [hp] at hi1 HX
        rw [hq] at hi2 HX
        have hwa : IntKind.i64.wrap (a : Int) = (a : Int) := by rw [IntKind.wrap_i64]; omega
        have hwb : IntKind.i64.wrap (b : Int) = (b : Int) := by rw [IntKind.wrap_i64]; omega
        have ha16 : (a : Int) < 16 := by omega
        have hb16 : (b : Int) < 16 := by omega
        have e34 : ((m : Int) == 34) = false := by rw [beq_eq_false_iff_ne]; omega
        have e92 : ((m : Int) == 92) = false := by rw [beq_eq_false_iff_ne]; omega
        have e10 : ((m : Int) == 10) = false := by rw [beq_eq_false_iff_ne]; omega
        have l1 : decide ((m : Int) < 32) = true := by rw [decide_eq_true_eq]; omega
        have l2 : decide (m < 32) = true := by rw [decide_eq_true_eq]; omega
        clear cl
        clear ha1 ha2 ea eb hp hq hm hgm hm8 c34 c92 c10
        go_upto_region 14 with fail
        obtain ⟨WD, hWD⟩ : ∃ WD, wr.drew = WD := ⟨_, rfl⟩
        have HBD : Hid (Below B w WD) := by rw [← hWD]; exact HB.out.drew
        have HHD : Hid (WD.ownsRow B 5 1 (.slice ra L.length rc) L.length (bC L)) := by rw [← hWD]; exact row_up HO.out (Below.drew (Below.refl _ _))
        have HSD : Hid (B ≤ WD.heap.size) := by rw [← hWD]; exact HSZ.out
        refine wp_region_noPanic ?_
        refine wp_region_held_drew (S := fun _ => True) (by kernel_rfl) trivial (fun hHeld => ?_)
        rw [hWD]
        clear hWD
        refine wpAnyH_take (i := 0) (oi := { dst := _, op := _, type := _, pos := _, after := _, guard := _ }) (v := ?_) rfl (by kernel_rfl) (by kernel_rfl) (by kernel_rfl) (fun _ _ _ h => h) (Or.inl ⟨by rfl, ?_⟩) (by assumption) ?_
        rotate_left
        · intro W hSw
          (try dsimp only at hSw)
          go_simp
          (try with_reducible rfl)
        try simp only [Act.put, List.setIfInBounds_toArray, List.set_cons_zero, List.set_cons_succ]
        refine wpAnyH_take (i := 1) (oi := { dst := _, op := _, type := _, pos := _, after := _, guard := _ }) (v := ?_) rfl (by kernel_rfl) (by kernel_rfl) (by kernel_rfl) (fun _ _ _ h => h) (Or.inl ⟨by rfl, ?_⟩) (by assumption) ?_
        rotate_left
        · intro W hSw
          (try dsimp only at hSw)
          go_simp
          (try with_reducible rfl)
        try simp only [Act.put, List.setIfInBounds_toArray, List.set_cons_zero, List.set_cons_succ]
        refine wpAnyH_take (i := 2) (oi := { dst := _, op := _, type := _, pos := _, after := _, guard := _ }) (v := ?_) rfl (by kernel_rfl) (by kernel_rfl) (by kernel_rfl) (fun _ _ _ h => h) (Or.inl ⟨by rfl, ?_⟩) (by assumption) ?_
        rotate_left
        · intro W hSw
          (try dsimp only at hSw)
          go_simp
          (try with_reducible rfl)
        try simp only [Act.put, List.setIfInBounds_toArray, List.set_cons_zero, List.set_cons_succ]
        refine wpAnyH_take (i := 3) (oi := { dst := _, op := _, type := _, pos := _, after := _, guard := _ }) (v := ?_) rfl (by kernel_rfl) (by kernel_rfl) (by kernel_rfl) (fun _ _ _ h => h) (Or.inl ⟨by rfl, ?_⟩) (by assumption) ?_
        rotate_left
        · intro W hSw
          (try dsimp only at hSw)
          go_simp
          (try with_reducible rfl)
        try simp only [Act.put, List.setIfInBounds_toArray, List.set_cons_zero, List.set_cons_succ]
        refine wpAnyH_take (i := 4) (oi := { dst := _, op := _, type := _, pos := _, after := _, guard := _ }) (v := ?_) rfl (by kernel_rfl) (by kernel_rfl) (by kernel_rfl) (fun _ _ _ h => h) (Or.inl ⟨by rfl, ?_⟩) (by assumption) ?_
        rotate_left
        · intro W hSw
          (try dsimp only at hSw)
          go_simp
          (try with_reducible rfl)
        try simp only [Act.put, List.setIfInBounds_toArray, List.set_cons_zero, List.set_cons_succ]
        refine wpAnyH_take (i := 5) (oi := { dst := _, op := _, type := _, pos := _, after := _, guard := _ }) (v := ?_) rfl (by kernel_rfl) (by kernel_rfl) (by kernel_rfl) (fun _ _ _ h => h) (Or.inl ⟨by rfl, ?_⟩) (by assumption) ?_
        rotate_left
        · intro W hSw
          (try dsimp only at hSw)
          go_simp
          (try with_reducible rfl)
        try simp only [Act.put, List.setIfInBounds_toArray, List.set_cons_zero, List.set_cons_succ]
        refine wpAnyH_take (i := 6) (oi := { dst := _, op := _, type := _, pos := _, after := _, guard := _ }) (v := ?_) rfl (by kernel_rfl) (by kernel_rfl) (by kernel_rfl) (fun _ _ _ h => h) (Or.inl ⟨by rfl, ?_⟩) (by assumption) ?_
        rotate_left
        · intro W hSw
          (try dsimp only at hSw)
          go_simp
          (try with_reducible rfl)
        try simp only [Act.put, List.setIfInBounds_toArray, List.set_cons_zero, List.set_cons_succ]
        refine wpAnyH_ready (rs := [7]) (by kernel_rfl) (by simp) ?_
        refine AllReadyH.cons (o := { dst := _, op := _, type := _, pos := _, after := _, guard := _ }) rfl (fun K hK => ?_) AllReadyH.nil
        go_simp
        refine hK.out _ _ ?_ (fun hHeld => ?_)
        · exact trivial
        clear hK K
        try simp only [Act.put, List.setIfInBounds_toArray, List.set_cons_zero, List.set_cons_succ]
        have HROW : Hid ((WD.alloc (.cells #[.int .u8 92, .int .u8 120, .int .u8 (p.toNat : Int), .int .u8 (q.toNat : Int)] 5)).ownsRow B 5 1 (.slice ra L.length rc) L.length (bC L)) := HHD.out.alloc _
        refine wpAnyH_ready (rs := [8]) (by kernel_rfl) (by simp) ?_
        refine AllReadyH.cons (o := { dst := _, op := _, type := _, pos := _, after := _, guard := _ }) rfl (fun K hK => ?_) AllReadyH.nil
        refine step_append_lies _ rfl (.tmp 42) (.tmp 49) 114 rfl B 5 i5 (.int .u8 0) 1 1 Try.underlying114 hi5 hx0 hx1 hx2 rfl (by decide) (.slice ra L.length rc) L.length (bC L) rfl HROW.out ⟨WD.heap.size, 0, none⟩ 4 4 [.int .u8 92, .int .u8 120, .int .u8 (p.toNat : Int), .int .u8 (q.toNat : Int)] rfl rfl (cells_new _ [.int .u8 92, .int .u8 120, .int .u8 (p.toNat : Int), .int .u8 (q.toNat : Int)] _) (fun u hu => by simp at hu; rcases hu with rfl | rfl | rfl | rfl <;> rfl) (by decide) (by have := HCL.out; unfold maxLen; omega) (by have := HCL.out; omega) (by have := HSD.out; simp; omega) (WD.heap.size + 1) (by simp) ?_
        intro g5 c5 w5 ho5 hg5 _ _
        have HO5 : Hid (Byt B w5 (.slice (some ⟨g5, 0, none⟩) (L.length + 4) c5) (L ++ [92, 120, p, q])) := byt_apps rfl rfl ho5
        have HG5 : Hid (Below B w w5) := bel_app HBD.out HSD.out HHD.out hg5
        clear ho5 hg5
        refine hK.out _ _ ?_ (fun hHeld => ?_)
        · exact trivial
        clear hK K
        try simp only [Act.put, List.setIfInBounds_toArray, List.set_cons_zero, List.set_cons_succ]
        refine wpAnyH_take (i := 9) (oi := { dst := _, op := _, type := _, pos := _, after := _, guard := _ }) (v := ?_) rfl (by kernel_rfl) (by kernel_rfl) (by kernel_rfl) (fun _ _ _ h => h) (Or.inl ⟨by rfl, ?_⟩) (by assumption) ?_
        rotate_left
        · intro W hSw
          (try dsimp only at hSw)
          go_simp
          (try with_reducible rfl)
        try simp only [Act.put, List.setIfInBounds_toArray, List.set_cons_zero]
        refine wpAnyH_done (by kernel_rfl) ?_ _
        clear hHeld
        refine NoPanic.normal ?_
        go_wp2_with fail
        go_roundg (n - (i + 1))
        case measure => have := HI.out; have := HIM.out; omega
        case rel => exact ⟨i + 1, _, by first | rfl | (rw [show (i : Int) + 1 = ((i + 1 : Nat) : Int) by omega]), ⟨rfl, HIM.out⟩, by rw [HLS.out, HX.out]; rfl, HO5, HG5⟩
      by_cases cg : 126 < m
      · have HX : Hid (qb (s.get! i) = [92, 120, dgt (m / 16), dgt (m % 16)]) := by
          show _ = _
          unfold qb
          rw [hm, if_neg (by omega), if_neg c10, if_pos (Or.inr cg)]
        obtain ⟨ha1, ha2⟩ := hi_fact ⟨m, hm8⟩
        have hand := and_fact ⟨m, hm8⟩
        simp only at ha1 ha2 hand
        have hi1 := idx8_fact ⟨#[48, 49, 50, 51, 52, 53, 54, 55, 56, 57, 97, 98, 99, 100, 101, 102]⟩ (m / 16) (by show m / 16 < 16; omega)
        have hi2 := idx8_fact ⟨#[48, 49, 50, 51, 52, 53, 54, 55, 56, 57, 97, 98, 99, 100, 101, 102]⟩ (m % 16) (by show m % 16 < 16; omega)
        rw [ha1] at hi1
        rw [ha2] at hi2
        obtain ⟨a, ea⟩ : ∃ a, m / 16 = a := ⟨_, rfl⟩
        obtain ⟨b, eb⟩ : ∃ b, m % 16 = b := ⟨_, rfl⟩
        rw [ea, eb] at HX
        rw [ea] at hi1
        rw [eb] at hi2 hand
        have hdv : ((m : Int) / 16) = (a : Int) := by omega
        have htd : (m : Int).tdiv 16 = (a : Int) := by rw [Int.tdiv_eq_ediv_of_nonneg (by omega)]; omega
        have htm : (m : Int).tmod 16 = (b : Int) := by rw [Int.tmod_eq_emod_of_nonneg (by omega)]; omega
        have hmd : ((m : Int) % 16) = (b : Int) := by omega
        obtain ⟨p, hp⟩ : ∃ p, dgt a = p := ⟨_, rfl⟩
        obtain ⟨q, hq⟩ : ∃ q, dgt b = q := ⟨_, rfl⟩
        rw [hp] at hi1 HX
        rw [hq] at hi2 HX
        have hwa : IntKind.i64.wrap (a : Int) = (a : Int) := by rw [IntKind.wrap_i64]; omega
        have hwb : IntKind.i64.wrap (b : Int) = (b : Int) := by rw [IntKind.wrap_i64]; omega
        have ha16 : (a : Int) < 16 := by omega
        have hb16 : (b : Int) < 16 := by omega
        have e34 : ((m : Int) == 34) = false := by rw [beq_eq_false_iff_ne]; omega
        have e92 : ((m : Int) == 92) = false := by rw [beq_eq_false_iff_ne]; omega
        have e10 : ((m : Int) == 10) = false := by rw [beq_eq_false_iff_ne]; omega
        have l1 : decide ((m : Int) < 32) = false := by rw [decide_eq_false_iff_not]; omega
        have l2 : decide (m < 32) = false := by rw [decide_eq_false_iff_not]; omega
        have g1 : decide ((m : Int) > 126) = true := by rw [decide_eq_true_eq]; omega
        have g2 : decide ((126 : Int) < (m : Int)) = true := by rw [decide_eq_true_eq]; omega
        have g3 : decide (126 < m) = true := by rw [decide_eq_true_eq]; omega
        clear cl cg
        clear ha1 ha2 ea eb hp hq hm hgm hm8 c34 c92 c10
        go_upto_region 14 with fail
        obtain ⟨WD, hWD⟩ : ∃ WD, wr.drew = WD := ⟨_, rfl⟩
        have HBD : Hid (Below B w WD) := by rw [← hWD]; exact HB.out.drew
        have HHD : Hid (WD.ownsRow B 5 1 (.slice ra L.length rc) L.length (bC L)) := by rw [← hWD]; exact row_up HO.out (Below.drew (Below.refl _ _))
        have HSD : Hid (B ≤ WD.heap.size) := by rw [← hWD]; exact HSZ.out
        refine wp_region_noPanic ?_
        refine wp_region_held_drew (S := fun _ => True) (by kernel_rfl) trivial (fun hHeld => ?_)
        rw [hWD]
        clear hWD
        refine wpAnyH_take (i := 0) (oi := { dst := _, op := _, type := _, pos := _, after := _, guard := _ }) (v := ?_) rfl (by kernel_rfl) (by kernel_rfl) (by kernel_rfl) (fun _ _ _ h => h) (Or.inl ⟨by rfl, ?_⟩) (by assumption) ?_
        rotate_left
        · intro W hSw
          (try dsimp only at hSw)
          go_simp
          (try with_reducible rfl)
        try simp only [Act.put, List.setIfInBounds_toArray, List.set_cons_zero, List.set_cons_succ]
        refine wpAnyH_take (i := 1) (oi := { dst := _, op := _, type := _, pos := _, after := _, guard := _ }) (v := ?_) rfl (by kernel_rfl) (by kernel_rfl) (by kernel_rfl) (fun _ _ _ h => h) (Or.inl ⟨by rfl, ?_⟩) (by assumption) ?_
        rotate_left
        · intro W hSw
          (try dsimp only at hSw)
          go_simp
          (try with_reducible rfl)
        try simp only [Act.put, List.setIfInBounds_toArray, List.set_cons_zero, List.set_cons_succ]
        refine wpAnyH_take (i := 2) (oi := { dst := _, op := _, type := _, pos := _, after := _, guard := _ }) (v := ?_) rfl (by kernel_rfl) (by kernel_rfl) (by kernel_rfl) (fun _ _ _ h => h) (Or.inl ⟨by rfl, ?_⟩) (by assumption) ?_
        rotate_left
        · intro W hSw
          (try dsimp only at hSw)
          go_simp
          (try with_reducible rfl)
        try simp only [Act.put, List.setIfInBounds_toArray, List.set_cons_zero, List.set_cons_succ]
        refine wpAnyH_take (i := 3) (oi := { dst := _, op := _, type := _, pos := _, after := _, guard := _ }) (v := ?_) rfl (by kernel_rfl) (by kernel_rfl) (by kernel_rfl) (fun _ _ _ h => h) (Or.inl ⟨by rfl, ?_⟩) (by assumption) ?_
        rotate_left
        · intro W hSw
          (try dsimp only at hSw)
          go_simp
          (try with_reducible rfl)
        try simp only [Act.put, List.setIfInBounds_toArray, List.set_cons_zero, List.set_cons_succ]
        refine wpAnyH_take (i := 4) (oi := { dst := _, op := _, type := _, pos := _, after := _, guard := _ }) (v := ?_) rfl (by kernel_rfl) (by kernel_rfl) (by kernel_rfl) (fun _ _ _ h => h) (Or.inl ⟨by rfl, ?_⟩) (by assumption) ?_
        rotate_left
        · intro W hSw
          (try dsimp only at hSw)
          go_simp
          (try with_reducible rfl)
        try simp only [Act.put, List.setIfInBounds_toArray, List.set_cons_zero, List.set_cons_succ]
        refine wpAnyH_take (i := 5) (oi := { dst := _, op := _, type := _, pos := _, after := _, guard := _ }) (v := ?_) rfl (by kernel_rfl) (by kernel_rfl) (by kernel_rfl) (fun _ _ _ h => h) (Or.inl ⟨by rfl, ?_⟩) (by assumption) ?_
        rotate_left
        · intro W hSw
          (try dsimp only at hSw)
          go_simp
          (try with_reducible rfl)
        try simp only [Act.put, List.setIfInBounds_toArray, List.set_cons_zero, List.set_cons_succ]
        refine wpAnyH_take (i := 6) (oi := { dst := _, op := _, type := _, pos := _, after := _, guard := _ }) (v := ?_) rfl (by kernel_rfl) (by kernel_rfl) (by kernel_rfl) (fun _ _ _ h => h) (Or.inl ⟨by rfl, ?_⟩) (by assumption) ?_
        rotate_left
        · intro W hSw
          (try dsimp only at hSw)
          go_simp
          (try with_reducible rfl)
        try simp only [Act.put, List.setIfInBounds_toArray, List.set_cons_zero, List.set_cons_succ]
        refine wpAnyH_ready (rs := [7]) (by kernel_rfl) (by simp) ?_
        refine AllReadyH.cons (o := { dst := _, op := _, type := _, pos := _, after := _, guard := _ }) rfl (fun K hK => ?_) AllReadyH.nil
        go_simp
        refine hK.out _ _ ?_ (fun hHeld => ?_)
        · exact trivial
        clear hK K
        try simp only [Act.put, List.setIfInBounds_toArray, List.set_cons_zero, List.set_cons_succ]
        have HROW : Hid ((WD.alloc (.cells #[.int .u8 92, .int .u8 120, .int .u8 (p.toNat : Int), .int .u8 (q.toNat : Int)] 5)).ownsRow B 5 1 (.slice ra L.length rc) L.length (bC L)) := HHD.out.alloc _
        refine wpAnyH_ready (rs := [8]) (by kernel_rfl) (by simp) ?_
        refine AllReadyH.cons (o := { dst := _, op := _, type := _, pos := _, after := _, guard := _ }) rfl (fun K hK => ?_) AllReadyH.nil
        refine step_append_lies _ rfl (.tmp 42) (.tmp 49) 114 rfl B 5 i5 (.int .u8 0) 1 1 Try.underlying114 hi5 hx0 hx1 hx2 rfl (by decide) (.slice ra L.length rc) L.length (bC L) rfl HROW.out ⟨WD.heap.size, 0, none⟩ 4 4 [.int .u8 92, .int .u8 120, .int .u8 (p.toNat : Int), .int .u8 (q.toNat : Int)] rfl rfl (cells_new _ [.int .u8 92, .int .u8 120, .int .u8 (p.toNat : Int), .int .u8 (q.toNat : Int)] _) (fun u hu => by simp at hu; rcases hu with rfl | rfl | rfl | rfl <;> rfl) (by decide) (by have := HCL.out; unfold maxLen; omega) (by have := HCL.out; omega) (by have := HSD.out; simp; omega) (WD.heap.size + 1) (by simp) ?_
        intro g5 c5 w5 ho5 hg5 _ _
        have HO5 : Hid (Byt B w5 (.slice (some ⟨g5, 0, none⟩) (L.length + 4) c5) (L ++ [92, 120, p, q])) := byt_apps rfl rfl ho5
        have HG5 : Hid (Below B w w5) := bel_app HBD.out HSD.out HHD.out hg5
        clear ho5 hg5
        refine hK.out _ _ ?_ (fun hHeld => ?_)
        · exact trivial
        clear hK K
        try simp only [Act.put, List.setIfInBounds_toArray, List.set_cons_zero, List.set_cons_succ]
        refine wpAnyH_take (i := 9) (oi := { dst := _, op := _, type := _, pos := _, after := _, guard := _ }) (v := ?_) rfl (by kernel_rfl) (by kernel_rfl) (by kernel_rfl) (fun _ _ _ h => h) (Or.inl ⟨by rfl, ?_⟩) (by assumption) ?_
        rotate_left
        · intro W hSw
          (try dsimp only at hSw)
          go_simp
          (try with_reducible rfl)
        try simp only [Act.put, List.setIfInBounds_toArray, List.set_cons_zero]
        refine wpAnyH_done (by kernel_rfl) ?_ _
        clear hHeld
        refine NoPanic.normal ?_
        go_wp2_with fail
        go_roundg (n - (i + 1))
        case measure => have := HI.out; have := HIM.out; omega
        case rel => exact ⟨i + 1, _, by first | rfl | (rw [show (i : Int) + 1 = ((i + 1 : Nat) : Int) by omega]), ⟨rfl, HIM.out⟩, by rw [HLS.out, HX.out]; rfl, HO5, HG5⟩
      have HX : Hid (qb (s.get! i) = [s.get! i]) := by
        show _ = _
        unfold qb
        rw [hm, if_neg (by omega), if_neg c10, if_neg (by omega)]
      have e34 : ((m : Int) == 34) = false := by rw [beq_eq_false_iff_ne]; omega
      have e92 : ((m : Int) == 92) = false := by rw [beq_eq_false_iff_ne]; omega
      have e10 : ((m : Int) == 10) = false := by rw [beq_eq_false_iff_ne]; omega
      have l1 : decide ((m : Int) < 32) = false := by rw [decide_eq_false_iff_not]; omega
      have l2 : decide (m < 32) = false := by rw [decide_eq_false_iff_not]; omega
      have g1 : decide ((m : Int) > 126) = false := by rw [decide_eq_false_iff_not]; omega
      have g2 : decide ((126 : Int) < (m : Int)) = false := by rw [decide_eq_false_iff_not]; omega
      have g3 : decide (126 < m) = false := by rw [decide_eq_false_iff_not]; omega
      have HXB : Hid ((s.get! i).toNat = m) := hm
      clear hgm hm8 c34 c92 c10 cl cg hm
      have HROW : Hid ((wr.alloc (.cells #[.int .u8 (m : Int)] 5)).ownsRow B 5 1 (.slice ra L.length rc) L.length (bC L)) := HO.out.alloc _
      go_wp2_with (at_builtin; refine wpList_append_own_at _ rfl _ _ 114 rfl B 5 i5 (.int .u8 0) 1 1 Try.underlying114 hi5 hx0 hx1 hx2 rfl (by decide) _ _ _ rfl HROW.out ⟨wr.heap.size, 0, none⟩ 1 1 [.int .u8 (m : Int)] rfl rfl (cells_new _ [.int .u8 (m : Int)] _) (by simp [Value.oneCell']) (by have := HCL.out; unfold maxLen; omega) (by have := HCL.out; omega) (by have := HSZ.out; simp; omega) ?_; intro v5 w5 ho5 hg5 _ ha5; have HO5 : Hid (Byt B w5 v5 (L ++ [s.get! i])) := byt_apps rfl rfl (by rw [show bC [s.get! i] = [.int .u8 (m : Int)] by show [Value.int .u8 ((s.get! i).toNat : Int)] = _; rw [HXB.out]]; exact ho5); have HG5 : Hid (Below B w w5) := bel_app HB.out HSZ.out HO.out hg5; obtain ⟨qa, qc, rfl⟩ := row_shape ho5; clear ho5 hg5 ha5)
      go_roundg (n - (i + 1))
      case measure => have := HI.out; have := HIM.out; omega
      case rel => exact ⟨i + 1, _, by first | rfl | (rw [show (i : Int) + 1 = ((i + 1 : Nat) : Int) by omega]), ⟨rfl, HIM.out⟩, by rw [HLS.out, HX.out]; rfl, HO5, HG5⟩
    · have e1 : decide ((i : Int) < (n : Int)) = false := by rw [decide_eq_false_iff_not]; omega
      have e2 : decide (i < n) = false := by rw [decide_eq_false_iff_not]; omega
      have HQ : Hid (l ++ quo s = L ++ [34]) := by
        have h7 : i = s.size := by have := HI.out; have := HN.out; omega
        show _ = _
        unfold quo
        rw [HLQ.out, h7, qs_all]
        simp
      clear hi
      have HROW : Hid ((wr.alloc (.cells #[.int .u8 34] 5)).ownsRow B 5 1 (.slice ra L.length rc) L.length (bC L)) := HO.out.alloc _
      go_wp2_with (at_builtin; refine wpList_append_own_at _ rfl _ _ 114 rfl B 5 i5 (.int .u8 0) 1 1 Try.underlying114 hi5 hx0 hx1 hx2 rfl (by decide) _ _ _ rfl HROW.out ⟨wr.heap.size, 0, none⟩ 1 1 [.int .u8 34] rfl rfl (cells_new _ [.int .u8 34] _) (by simp [Value.oneCell']) (by have := HCL.out; unfold maxLen; omega) (by have := HCL.out; omega) (by have := HSZ.out; simp; omega) ?_; intro v5 w5 ho5 hg5 _ ha5; have HO5 : Hid (Byt B w5 v5 (L ++ [34])) := byt_apps rfl rfl ho5; have HG5 : Hid (Below B w w5) := bel_app HB.out HSZ.out HO.out hg5; obtain ⟨qa, qc, rfl⟩ := row_shape ho5; clear ho5 hg5 ha5)
      go_ret
      exact ⟨_, rfl, by rw [HQ.out]; exact HO5.out, HG5.out⟩
set_option maxRecDepth 100000 in
set_option maxHeartbeats 8000000 in
theorem rquoted_any (s : ByteArray) (w : World) (hl : 4 * s.size + 100 ≤ 70368744177664) :
    Calls Try.prog 84 #[.string s] w fun e w' => e = .returned (.string ⟨(quo s).toArray⟩) ∧ Below w.heap.size w w' := by
  obtain ⟨i5, hi5, hx0, hx1, hx2⟩ := info_parts infoU8
  have HL : Hid (4 * s.size + 100 ≤ 70368744177664) := hl
  obtain ⟨n, hn⟩ : ∃ n, s.size = n := ⟨_, rfl⟩
  have HN : Hid (s.size = n) := hn
  obtain ⟨B, hB⟩ : ∃ B, w.heap.size = B := ⟨_, rfl⟩
  have HBS : Hid (w.heap.size = B) := hB
  rw [hB]
  clear hl hn hB
  have HO0 : Hid (Byt B (w.alloc (.cells #[.int .u8 34] 5)) (.slice (some ⟨B, 0, none⟩) 1 1) [34]) := by
    have h7 := World.ownsRow_lit (base := B) (e := 5) (size := 1) w #[.int .u8 34] 1 (by rw [HBS.out]; exact Nat.le_refl _) (by decide) rfl
    rw [HBS.out] at h7
    exact h7
  have HG0 : Hid (Below B w (w.alloc (.cells #[.int .u8 34] 5))) := by rw [← HBS.out]; exact bel_up _ _
  go_enter Try.func84, Try.ntmps84
  go_upto_region 4 with fail
  rw [HBS.out]
  go_loopg [4, 5] n (fun gm v4 v5 wr => ∃ (i : Nat) (L : List UInt8), v5 = .int .i64 (i : Int) ∧ Hid (gm = n - i ∧ i ≤ n) ∧ Hid (L = [34] ++ qs (s.data.toList.take i)) ∧ Hid (Byt B wr v4 L) ∧ Hid (Below B w wr))
  case atStart => exact ⟨0, [34], rfl, ⟨rfl, Nat.zero_le _⟩, by rw [List.take_zero]; exact (List.append_nil _).symm, HO0, HG0⟩
  case round =>
    clear HO0 HG0
    obtain ⟨i, L, rfl, HI, HLQ, HO, HB⟩ := hrel
    obtain ⟨ra, rc, hv⟩ := row_shape HO.out
    subst hv
    have HSZ : Hid (B ≤ wr.heap.size) := by rw [← HBS.out]; exact HB.out.size
    have HCL : Hid (L.length + 100 ≤ 70368744177664 + 10) := by
      have h7 := congrArg List.length HLQ.out
      rw [List.length_append] at h7
      have h8 := qs_len (s.data.toList.take i)
      rw [List.length_take] at h8
      have h9 := HL.out; have h10 := HI.out; have h11 := HN.out
      have h12 : [(34 : UInt8)].length = 1 := rfl
      show _ ≤ _; omega
    by_cases hi : i < n
    · have e1 : decide ((i : Int) < (n : Int)) = true := by rw [decide_eq_true_eq]; omega
      have e2 : decide (i < n) = true := by rw [decide_eq_true_eq]; omega
      have e3 : decide ((i : Int) < (s.size : Int)) = true := by rw [decide_eq_true_eq, HN.out]; omega
      have e4 : decide (i < s.size) = true := by rw [decide_eq_true_eq, HN.out]; omega
      have HIM : Hid (i < n) := hi
      have hwi := w64n i (by have := HL.out; have := HN.out; omega)
      have HLS : Hid (qs (s.data.toList.take (i + 1)) = qs (s.data.toList.take i) ++ qb (s.get! i)) := qs_step s i (by rw [HN.out]; exact hi)
      replace HLS : Hid ([34] ++ qs (s.data.toList.take (i + 1)) = L ++ qb (s.get! i)) := by show _ = _; rw [HLS.out, HLQ.out]; simp only [List.append_assoc]
      have hidx := idx_fact s i (by rw [HN.out]; exact hi)
      obtain ⟨m, hm⟩ : ∃ m, (s.get! i).toNat = m := ⟨_, rfl⟩
      have hm8 : m < 256 := by rw [← hm]; exact UInt8.toNat_lt _
      have hgm : s.get! i = Nat.toUInt8 m := by rw [← hm]; simp
      rw [hm] at hidx
      have hwm : IntKind.i64.wrap (m : Int) = (m : Int) := by rw [IntKind.wrap_i64]; omega
      clear hi
      by_cases c34 : m = 34
      · have HX : Hid (qb (s.get! i) = [92, 34]) := by
          show _ = _
          unfold qb
          rw [hm, if_pos (Or.inl c34), hgm, c34]
          rfl
        subst c34
        clear hm hgm hm8
        have HROW : Hid ((wr.alloc (.cells #[.int .u8 92, .int .u8 34] 5)).ownsRow B 5 1 (.slice ra L.length rc) L.length (bC L)) := HO.out.alloc _
        go_wp2_with (at_builtin; refine wpList_append_own_at _ rfl _ _ 114 rfl B 5 i5 (.int .u8 0) 1 1 Try.underlying114 hi5 hx0 hx1 hx2 rfl (by decide) _ _ _ rfl HROW.out ⟨wr.heap.size, 0, none⟩ 2 2 [.int .u8 92, .int .u8 34] rfl rfl (cells_new _ [.int .u8 92, .int .u8 34] _) (by simp [Value.oneCell']) (by have := HCL.out; unfold maxLen; omega) (by have := HCL.out; omega) (by have := HSZ.out; simp; omega) ?_; intro v5 w5 ho5 hg5 _ ha5; have HO5 : Hid (Byt B w5 v5 (L ++ [92, 34])) := byt_apps rfl rfl ho5; have HG5 : Hid (Below B w w5) := bel_app HB.out HSZ.out HO.out hg5; obtain ⟨qa, qc, rfl⟩ := row_shape ho5; clear ho5 hg5 ha5)
        go_roundg (n - (i + 1))
        case measure => have := HI.out; have := HIM.out; omega
        case rel => exact ⟨i + 1, _, by first | rfl | (rw [show (i : Int) + 1 = ((i + 1 : Nat) : Int) by omega]), ⟨rfl, HIM.out⟩, by rw [HLS.out, HX.out]; rfl, HO5, HG5⟩
      by_cases c92 : m = 92
      · have HX : Hid (qb (s.get! i) = [92, 92]) := by
          show _ = _
          unfold qb
          rw [hm, if_pos (Or.inr c92), hgm, c92]
          rfl
        subst c92
        clear hm hgm hm8
        have HROW : Hid ((wr.alloc (.cells #[.int .u8 92, .int .u8 92] 5)).ownsRow B 5 1 (.slice ra L.length rc) L.length (bC L)) := HO.out.alloc _
        go_wp2_with (at_builtin; refine wpList_append_own_at _ rfl _ _ 114 rfl B 5 i5 (.int .u8 0) 1 1 Try.underlying114 hi5 hx0 hx1 hx2 rfl (by decide) _ _ _ rfl HROW.out ⟨wr.heap.size, 0, none⟩ 2 2 [.int .u8 92, .int .u8 92] rfl rfl (cells_new _ [.int .u8 92, .int .u8 92] _) (by simp [Value.oneCell']) (by have := HCL.out; unfold maxLen; omega) (by have := HCL.out; omega) (by have := HSZ.out; simp; omega) ?_; intro v5 w5 ho5 hg5 _ ha5; have HO5 : Hid (Byt B w5 v5 (L ++ [92, 92])) := byt_apps rfl rfl ho5; have HG5 : Hid (Below B w w5) := bel_app HB.out HSZ.out HO.out hg5; obtain ⟨qa, qc, rfl⟩ := row_shape ho5; clear ho5 hg5 ha5)
        go_roundg (n - (i + 1))
        case measure => have := HI.out; have := HIM.out; omega
        case rel => exact ⟨i + 1, _, by first | rfl | (rw [show (i : Int) + 1 = ((i + 1 : Nat) : Int) by omega]), ⟨rfl, HIM.out⟩, by rw [HLS.out, HX.out]; rfl, HO5, HG5⟩
      by_cases c10 : m = 10
      · have HX : Hid (qb (s.get! i) = [92, 110]) := by
          show _ = _
          unfold qb
          rw [hm, if_neg (by omega), if_pos c10]
        subst c10
        clear hm hgm hm8 c34 c92
        have HROW : Hid ((wr.alloc (.cells #[.int .u8 92, .int .u8 110] 5)).ownsRow B 5 1 (.slice ra L.length rc) L.length (bC L)) := HO.out.alloc _
        go_wp2_with (at_builtin; refine wpList_append_own_at _ rfl _ _ 114 rfl B 5 i5 (.int .u8 0) 1 1 Try.underlying114 hi5 hx0 hx1 hx2 rfl (by decide) _ _ _ rfl HROW.out ⟨wr.heap.size, 0, none⟩ 2 2 [.int .u8 92, .int .u8 110] rfl rfl (cells_new _ [.int .u8 92, .int .u8 110] _) (by simp [Value.oneCell']) (by have := HCL.out; unfold maxLen; omega) (by have := HCL.out; omega) (by have := HSZ.out; simp; omega) ?_; intro v5 w5 ho5 hg5 _ ha5; have HO5 : Hid (Byt B w5 v5 (L ++ [92, 110])) := byt_apps rfl rfl ho5; have HG5 : Hid (Below B w w5) := bel_app HB.out HSZ.out HO.out hg5; obtain ⟨qa, qc, rfl⟩ := row_shape ho5; clear ho5 hg5 ha5)
        go_roundg (n - (i + 1))
        case measure => have := HI.out; have := HIM.out; omega
        case rel => exact ⟨i + 1, _, by first | rfl | (rw [show (i : Int) + 1 = ((i + 1 : Nat) : Int) by omega]), ⟨rfl, HIM.out⟩, by rw [HLS.out, HX.out]; rfl, HO5, HG5⟩
      by_cases cl : m < 32
      · have HX : Hid (qb (s.get! i) = [92, 120, dgt (m / 16), dgt (m % 16)]) := by
          show _ = _
          unfold qb
          rw [hm, if_neg (by omega), if_neg c10, if_pos (Or.inl cl)]
        obtain ⟨ha1, ha2⟩ := hi_fact ⟨m, hm8⟩
        have hand := and_fact ⟨m, hm8⟩
        simp only at ha1 ha2 hand
        have hi1 := idx_fact ⟨#[48, 49, 50, 51, 52, 53, 54, 55, 56, 57, 97, 98, 99, 100, 101, 102]⟩ (m / 16) (by show m / 16 < 16; omega)
        have hi2 := idx_fact ⟨#[48, 49, 50, 51, 52, 53, 54, 55, 56, 57, 97, 98, 99, 100, 101, 102]⟩ (m % 16) (by show m % 16 < 16; omega)
        rw [ha1] at hi1
        rw [ha2] at hi2
        obtain ⟨a, ea⟩ : ∃ a, m / 16 = a := ⟨_, rfl⟩
        obtain ⟨b, eb⟩ : ∃ b, m % 16 = b := ⟨_, rfl⟩
        rw [ea, eb] at HX
        rw [ea] at hi1
        rw [eb] at hi2 hand
        have hdv : ((m : Int) / 16) = (a : Int) := by omega
        have htd : (m : Int).tdiv 16 = (a : Int) := by rw [Int.tdiv_eq_ediv_of_nonneg (by omega)]; omega
        have htm : (m : Int).tmod 16 = (b : Int) := by rw [Int.tmod_eq_emod_of_nonneg (by omega)]; omega
        have hmd : ((m : Int) % 16) = (b : Int) := by omega
        obtain ⟨p, hp⟩ : ∃ p, dgt a = p := ⟨_, rfl⟩
        obtain ⟨q, hq⟩ : ∃ q, dgt b = q := ⟨_, rfl⟩
        rw [hp] at hi1 HX
        rw [hq] at hi2 HX
        have hwa : IntKind.i64.wrap (a : Int) = (a : Int) := by rw [IntKind.wrap_i64]; omega
        have hwb : IntKind.i64.wrap (b : Int) = (b : Int) := by rw [IntKind.wrap_i64]; omega
        have ha16 : (a : Int) < 16 := by omega
        have hb16 : (b : Int) < 16 := by omega
        have e34 : ((m : Int) == 34) = false := by rw [beq_eq_false_iff_ne]; omega
        have e92 : ((m : Int) == 92) = false := by rw [beq_eq_false_iff_ne]; omega
        have e10 : ((m : Int) == 10) = false := by rw [beq_eq_false_iff_ne]; omega
        have l1 : decide ((m : Int) < 32) = true := by rw [decide_eq_true_eq]; omega
        have l2 : decide (m < 32) = true := by rw [decide_eq_true_eq]; omega
        clear cl
        clear ha1 ha2 ea eb hp hq hm hgm hm8 c34 c92 c10
        go_upto_region 13 with fail
        obtain ⟨WD, hWD⟩ : ∃ WD, wr.drew = WD := ⟨_, rfl⟩
        have HBD : Hid (Below B w WD) := by rw [← hWD]; exact HB.out.drew
        have HHD : Hid (WD.ownsRow B 5 1 (.slice ra L.length rc) L.length (bC L)) := by rw [← hWD]; exact row_up HO.out (Below.drew (Below.refl _ _))
        have HSD : Hid (B ≤ WD.heap.size) := by rw [← hWD]; exact HSZ.out
        refine wp_region_noPanic ?_
        refine wp_region_held_drew (S := fun _ => True) (by kernel_rfl) trivial (fun hHeld => ?_)
        rw [hWD]
        clear hWD
        refine wpAnyH_take (i := 0) (oi := { dst := _, op := _, type := _, pos := _, after := _, guard := _ }) (v := ?_) rfl (by kernel_rfl) (by kernel_rfl) (by kernel_rfl) (fun _ _ _ h => h) (Or.inl ⟨by rfl, ?_⟩) (by assumption) ?_
        rotate_left
        · intro W hSw
          (try dsimp only at hSw)
          go_simp
          (try with_reducible rfl)
        try simp only [Act.put, List.setIfInBounds_toArray, List.set_cons_zero, List.set_cons_succ]
        refine wpAnyH_take (i := 1) (oi := { dst := _, op := _, type := _, pos := _, after := _, guard := _ }) (v := ?_) rfl (by kernel_rfl) (by kernel_rfl) (by kernel_rfl) (fun _ _ _ h => h) (Or.inl ⟨by rfl, ?_⟩) (by assumption) ?_
        rotate_left
        · intro W hSw
          (try dsimp only at hSw)
          go_simp
          (try with_reducible rfl)
        try simp only [Act.put, List.setIfInBounds_toArray, List.set_cons_zero, List.set_cons_succ]
        refine wpAnyH_take (i := 2) (oi := { dst := _, op := _, type := _, pos := _, after := _, guard := _ }) (v := ?_) rfl (by kernel_rfl) (by kernel_rfl) (by kernel_rfl) (fun _ _ _ h => h) (Or.inl ⟨by rfl, ?_⟩) (by assumption) ?_
        rotate_left
        · intro W hSw
          (try dsimp only at hSw)
          go_simp
          (try with_reducible rfl)
        try simp only [Act.put, List.setIfInBounds_toArray, List.set_cons_zero, List.set_cons_succ]
        refine wpAnyH_take (i := 3) (oi := { dst := _, op := _, type := _, pos := _, after := _, guard := _ }) (v := ?_) rfl (by kernel_rfl) (by kernel_rfl) (by kernel_rfl) (fun _ _ _ h => h) (Or.inl ⟨by rfl, ?_⟩) (by assumption) ?_
        rotate_left
        · intro W hSw
          (try dsimp only at hSw)
          go_simp
          (try with_reducible rfl)
        try simp only [Act.put, List.setIfInBounds_toArray, List.set_cons_zero, List.set_cons_succ]
        refine wpAnyH_take (i := 4) (oi := { dst := _, op := _, type := _, pos := _, after := _, guard := _ }) (v := ?_) rfl (by kernel_rfl) (by kernel_rfl) (by kernel_rfl) (fun _ _ _ h => h) (Or.inl ⟨by rfl, ?_⟩) (by assumption) ?_
        rotate_left
        · intro W hSw
          (try dsimp only at hSw)
          go_simp
          (try with_reducible rfl)
        try simp only [Act.put, List.setIfInBounds_toArray, List.set_cons_zero, List.set_cons_succ]
        refine wpAnyH_take (i := 5) (oi := { dst := _, op := _, type := _, pos := _, after := _, guard := _ }) (v := ?_) rfl (by kernel_rfl) (by kernel_rfl) (by kernel_rfl) (fun _ _ _ h => h) (Or.inl ⟨by rfl, ?_⟩) (by assumption) ?_
        rotate_left
        · intro W hSw
          (try dsimp only at hSw)
          go_simp
          (try with_reducible rfl)
        try simp only [Act.put, List.setIfInBounds_toArray, List.set_cons_zero, List.set_cons_succ]
        refine wpAnyH_take (i := 6) (oi := { dst := _, op := _, type := _, pos := _, after := _, guard := _ }) (v := ?_) rfl (by kernel_rfl) (by kernel_rfl) (by kernel_rfl) (fun _ _ _ h => h) (Or.inl ⟨by rfl, ?_⟩) (by assumption) ?_
        rotate_left
        · intro W hSw
          (try dsimp only at hSw)
          go_simp
          (try with_reducible rfl)
        try simp only [Act.put, List.setIfInBounds_toArray, List.set_cons_zero, List.set_cons_succ]
        refine wpAnyH_take (i := 7) (oi := { dst := _, op := _, type := _, pos := _, after := _, guard := _ }) (v := ?_) rfl (by kernel_rfl) (by kernel_rfl) (by kernel_rfl) (fun _ _ _ h => h) (Or.inl ⟨by rfl, ?_⟩) (by assumption) ?_
        rotate_left
        · intro W hSw
          (try dsimp only at hSw)
          go_simp
          (try with_reducible rfl)
        try simp only [Act.put, List.setIfInBounds_toArray, List.set_cons_zero, List.set_cons_succ]
        refine wpAnyH_take (i := 8) (oi := { dst := _, op := _, type := _, pos := _, after := _, guard := _ }) (v := ?_) rfl (by kernel_rfl) (by kernel_rfl) (by kernel_rfl) (fun _ _ _ h => h) (Or.inl ⟨by rfl, ?_⟩) (by assumption) ?_
        rotate_left
        · intro W hSw
          (try dsimp only at hSw)
          go_simp
          (try with_reducible rfl)
        try simp only [Act.put, List.setIfInBounds_toArray, List.set_cons_zero, List.set_cons_succ]
        refine wpAnyH_ready (rs := [9]) (by kernel_rfl) (by simp) ?_
        refine AllReadyH.cons (o := { dst := _, op := _, type := _, pos := _, after := _, guard := _ }) rfl (fun K hK => ?_) AllReadyH.nil
        go_simp
        refine hK.out _ _ ?_ (fun hHeld => ?_)
        · exact trivial
        clear hK K
        try simp only [Act.put, List.setIfInBounds_toArray, List.set_cons_zero, List.set_cons_succ]
        have HROW : Hid ((WD.alloc (.cells #[.int .u8 92, .int .u8 120, .int .u8 (p.toNat : Int), .int .u8 (q.toNat : Int)] 5)).ownsRow B 5 1 (.slice ra L.length rc) L.length (bC L)) := HHD.out.alloc _
        refine wpAnyH_ready (rs := [10]) (by kernel_rfl) (by simp) ?_
        refine AllReadyH.cons (o := { dst := _, op := _, type := _, pos := _, after := _, guard := _ }) rfl (fun K hK => ?_) AllReadyH.nil
        refine step_append_lies _ rfl (.tmp 50) (.tmp 59) 114 rfl B 5 i5 (.int .u8 0) 1 1 Try.underlying114 hi5 hx0 hx1 hx2 rfl (by decide) (.slice ra L.length rc) L.length (bC L) rfl HROW.out ⟨WD.heap.size, 0, none⟩ 4 4 [.int .u8 92, .int .u8 120, .int .u8 (p.toNat : Int), .int .u8 (q.toNat : Int)] rfl rfl (cells_new _ [.int .u8 92, .int .u8 120, .int .u8 (p.toNat : Int), .int .u8 (q.toNat : Int)] _) (fun u hu => by simp at hu; rcases hu with rfl | rfl | rfl | rfl <;> rfl) (by decide) (by have := HCL.out; unfold maxLen; omega) (by have := HCL.out; omega) (by have := HSD.out; simp; omega) (WD.heap.size + 1) (by simp) ?_
        intro g5 c5 w5 ho5 hg5 _ _
        have HO5 : Hid (Byt B w5 (.slice (some ⟨g5, 0, none⟩) (L.length + 4) c5) (L ++ [92, 120, p, q])) := byt_apps rfl rfl ho5
        have HG5 : Hid (Below B w w5) := bel_app HBD.out HSD.out HHD.out hg5
        clear ho5 hg5
        refine hK.out _ _ ?_ (fun hHeld => ?_)
        · exact trivial
        clear hK K
        try simp only [Act.put, List.setIfInBounds_toArray, List.set_cons_zero, List.set_cons_succ]
        refine wpAnyH_take (i := 11) (oi := { dst := _, op := _, type := _, pos := _, after := _, guard := _ }) (v := ?_) rfl (by kernel_rfl) (by kernel_rfl) (by kernel_rfl) (fun _ _ _ h => h) (Or.inl ⟨by rfl, ?_⟩) (by assumption) ?_
        rotate_left
        · intro W hSw
          (try dsimp only at hSw)
          go_simp
          (try with_reducible rfl)
        try simp only [Act.put, List.setIfInBounds_toArray, List.set_cons_zero, List.set_cons_succ]
        refine wpAnyH_done (by kernel_rfl) ?_ _
        clear hHeld
        refine NoPanic.normal ?_
        go_wp2_with fail
        go_roundg (n - (i + 1))
        case measure => have := HI.out; have := HIM.out; omega
        case rel => exact ⟨i + 1, _, by first | rfl | (rw [show (i : Int) + 1 = ((i + 1 : Nat) : Int) by omega]), ⟨rfl, HIM.out⟩, by rw [HLS.out, HX.out]; rfl, HO5, HG5⟩
      by_cases cg : 126 < m
      · have HX : Hid (qb (s.get! i) = [92, 120, dgt (m / 16), dgt (m % 16)]) := by
          show _ = _
          unfold qb
          rw [hm, if_neg (by omega), if_neg c10, if_pos (Or.inr cg)]
        obtain ⟨ha1, ha2⟩ := hi_fact ⟨m, hm8⟩
        have hand := and_fact ⟨m, hm8⟩
        simp only at ha1 ha2 hand
        have hi1 := idx_fact ⟨#[48, 49, 50, 51, 52, 53, 54, 55, 56, 57, 97, 98, 99, 100, 101, 102]⟩ (m / 16) (by show m / 16 < 16; omega)
        have hi2 := idx_fact ⟨#[48, 49, 50, 51, 52, 53, 54, 55, 56, 57, 97, 98, 99, 100, 101, 102]⟩ (m % 16) (by show m % 16 < 16; omega)
        rw [ha1] at hi1
        rw [ha2] at hi2
        obtain ⟨a, ea⟩ : ∃ a, m / 16 = a := ⟨_, rfl⟩
        obtain ⟨b, eb⟩ : ∃ b, m % 16 = b := ⟨_, rfl⟩
        rw [ea, eb] at HX
        rw [ea] at hi1
        rw [eb] at hi2 hand
        have hdv : ((m : Int) / 16) = (a : Int) := by omega
        have htd : (m : Int).tdiv 16 = (a : Int) := by rw [Int.tdiv_eq_ediv_of_nonneg (by omega)]; omega
        have htm : (m : Int).tmod 16 = (b : Int) := by rw [Int.tmod_eq_emod_of_nonneg (by omega)]; omega
        have hmd : ((m : Int) % 16) = (b : Int) := by omega
        obtain ⟨p, hp⟩ : ∃ p, dgt a = p := ⟨_, rfl⟩
        obtain ⟨q, hq⟩ : ∃ q, dgt b = q := ⟨_, rfl⟩
        rw [hp] at hi1 HX
        rw [hq] at hi2 HX
        have hwa : IntKind.i64.wrap (a : Int) = (a : Int) := by rw [IntKind.wrap_i64]; omega
        have hwb : IntKind.i64.wrap (b : Int) = (b : Int) := by rw [IntKind.wrap_i64]; omega
        have ha16 : (a : Int) < 16 := by omega
        have hb16 : (b : Int) < 16 := by omega
        have e34 : ((m : Int) == 34) = false := by rw [beq_eq_false_iff_ne]; omega
        have e92 : ((m : Int) == 92) = false := by rw [beq_eq_false_iff_ne]; omega
        have e10 : ((m : Int) == 10) = false := by rw [beq_eq_false_iff_ne]; omega
        have l1 : decide ((m : Int) < 32) = false := by rw [decide_eq_false_iff_not]; omega
        have l2 : decide (m < 32) = false := by rw [decide_eq_false_iff_not]; omega
        have g1 : decide ((m : Int) > 126) = true := by rw [decide_eq_true_eq]; omega
        have g2 : decide ((126 : Int) < (m : Int)) = true := by rw [decide_eq_true_eq]; omega
        have g3 : decide (126 < m) = true := by rw [decide_eq_true_eq]; omega
        clear cl cg
        clear ha1 ha2 ea eb hp hq hm hgm hm8 c34 c92 c10
        go_upto_region 13 with fail
        obtain ⟨WD, hWD⟩ : ∃ WD, wr.drew = WD := ⟨_, rfl⟩
        have HBD : Hid (Below B w WD) := by rw [← hWD]; exact HB.out.drew
        have HHD : Hid (WD.ownsRow B 5 1 (.slice ra L.length rc) L.length (bC L)) := by rw [← hWD]; exact row_up HO.out (Below.drew (Below.refl _ _))
        have HSD : Hid (B ≤ WD.heap.size) := by rw [← hWD]; exact HSZ.out
        refine wp_region_noPanic ?_
        refine wp_region_held_drew (S := fun _ => True) (by kernel_rfl) trivial (fun hHeld => ?_)
        rw [hWD]
        clear hWD
        refine wpAnyH_take (i := 0) (oi := { dst := _, op := _, type := _, pos := _, after := _, guard := _ }) (v := ?_) rfl (by kernel_rfl) (by kernel_rfl) (by kernel_rfl) (fun _ _ _ h => h) (Or.inl ⟨by rfl, ?_⟩) (by assumption) ?_
        rotate_left
        · intro W hSw
          (try dsimp only at hSw)
          go_simp
          (try with_reducible rfl)
        try simp only [Act.put, List.setIfInBounds_toArray, List.set_cons_zero, List.set_cons_succ]
        refine wpAnyH_take (i := 1) (oi := { dst := _, op := _, type := _, pos := _, after := _, guard := _ }) (v := ?_) rfl (by kernel_rfl) (by kernel_rfl) (by kernel_rfl) (fun _ _ _ h => h) (Or.inl ⟨by rfl, ?_⟩) (by assumption) ?_
        rotate_left
        · intro W hSw
          (try dsimp only at hSw)
          go_simp
          (try with_reducible rfl)
        try simp only [Act.put, List.setIfInBounds_toArray, List.set_cons_zero, List.set_cons_succ]
        refine wpAnyH_take (i := 2) (oi := { dst := _, op := _, type := _, pos := _, after := _, guard := _ }) (v := ?_) rfl (by kernel_rfl) (by kernel_rfl) (by kernel_rfl) (fun _ _ _ h => h) (Or.inl ⟨by rfl, ?_⟩) (by assumption) ?_
        rotate_left
        · intro W hSw
          (try dsimp only at hSw)
          go_simp
          (try with_reducible rfl)
        try simp only [Act.put, List.setIfInBounds_toArray, List.set_cons_zero, List.set_cons_succ]
        refine wpAnyH_take (i := 3) (oi := { dst := _, op := _, type := _, pos := _, after := _, guard := _ }) (v := ?_) rfl (by kernel_rfl) (by kernel_rfl) (by kernel_rfl) (fun _ _ _ h => h) (Or.inl ⟨by rfl, ?_⟩) (by assumption) ?_
        rotate_left
        · intro W hSw
          (try dsimp only at hSw)
          go_simp
          (try with_reducible rfl)
        try simp only [Act.put, List.setIfInBounds_toArray, List.set_cons_zero, List.set_cons_succ]
        refine wpAnyH_take (i := 4) (oi := { dst := _, op := _, type := _, pos := _, after := _, guard := _ }) (v := ?_) rfl (by kernel_rfl) (by kernel_rfl) (by kernel_rfl) (fun _ _ _ h => h) (Or.inl ⟨by rfl, ?_⟩) (by assumption) ?_
        rotate_left
        · intro W hSw
          (try dsimp only at hSw)
          go_simp
          (try with_reducible rfl)
        try simp only [Act.put, List.setIfInBounds_toArray, List.set_cons_zero, List.set_cons_succ]
        refine wpAnyH_take (i := 5) (oi := { dst := _, op := _, type := _, pos := _, after := _, guard := _ }) (v := ?_) rfl (by kernel_rfl) (by kernel_rfl) (by kernel_rfl) (fun _ _ _ h => h) (Or.inl ⟨by rfl, ?_⟩) (by assumption) ?_
        rotate_left
        · intro W hSw
          (try dsimp only at hSw)
          go_simp
          (try with_reducible rfl)
        try simp only [Act.put, List.setIfInBounds_toArray, List.set_cons_zero, List.set_cons_succ]
        refine wpAnyH_take (i := 6) (oi := { dst := _, op := _, type := _, pos := _, after := _, guard := _ }) (v := ?_) rfl (by kernel_rfl) (by kernel_rfl) (by kernel_rfl) (fun _ _ _ h => h) (Or.inl ⟨by rfl, ?_⟩) (by assumption) ?_
        rotate_left
        · intro W hSw
          (try dsimp only at hSw)
          go_simp
          (try with_reducible rfl)
        try simp only [Act.put, List.setIfInBounds_toArray, List.set_cons_zero, List.set_cons_succ]
        refine wpAnyH_take (i := 7) (oi := { dst := _, op := _, type := _, pos := _, after := _, guard := _ }) (v := ?_) rfl (by kernel_rfl) (by kernel_rfl) (by kernel_rfl) (fun _ _ _ h => h) (Or.inl ⟨by rfl, ?_⟩) (by assumption) ?_
        rotate_left
        · intro W hSw
          (try dsimp only at hSw)
          go_simp
          (try with_reducible rfl)
        try simp only [Act.put, List.setIfInBounds_toArray, List.set_cons_zero, List.set_cons_succ]
        refine wpAnyH_take (i := 8) (oi := { dst := _, op := _, type := _, pos := _, after := _, guard := _ }) (v := ?_) rfl (by kernel_rfl) (by kernel_rfl) (by kernel_rfl) (fun _ _ _ h => h) (Or.inl ⟨by rfl, ?_⟩) (by assumption) ?_
        rotate_left
        · intro W hSw
          (try dsimp only at hSw)
          go_simp
          (try with_reducible rfl)
        try simp only [Act.put, List.setIfInBounds_toArray, List.set_cons_zero, List.set_cons_succ]
        refine wpAnyH_ready (rs := [9]) (by kernel_rfl) (by simp) ?_
        refine AllReadyH.cons (o := { dst := _, op := _, type := _, pos := _, after := _, guard := _ }) rfl (fun K hK => ?_) AllReadyH.nil
        go_simp
        refine hK.out _ _ ?_ (fun hHeld => ?_)
        · exact trivial
        clear hK K
        try simp only [Act.put, List.setIfInBounds_toArray, List.set_cons_zero, List.set_cons_succ]
        have HROW : Hid ((WD.alloc (.cells #[.int .u8 92, .int .u8 120, .int .u8 (p.toNat : Int), .int .u8 (q.toNat : Int)] 5)).ownsRow B 5 1 (.slice ra L.length rc) L.length (bC L)) := HHD.out.alloc _
        refine wpAnyH_ready (rs := [10]) (by kernel_rfl) (by simp) ?_
        refine AllReadyH.cons (o := { dst := _, op := _, type := _, pos := _, after := _, guard := _ }) rfl (fun K hK => ?_) AllReadyH.nil
        refine step_append_lies _ rfl (.tmp 50) (.tmp 59) 114 rfl B 5 i5 (.int .u8 0) 1 1 Try.underlying114 hi5 hx0 hx1 hx2 rfl (by decide) (.slice ra L.length rc) L.length (bC L) rfl HROW.out ⟨WD.heap.size, 0, none⟩ 4 4 [.int .u8 92, .int .u8 120, .int .u8 (p.toNat : Int), .int .u8 (q.toNat : Int)] rfl rfl (cells_new _ [.int .u8 92, .int .u8 120, .int .u8 (p.toNat : Int), .int .u8 (q.toNat : Int)] _) (fun u hu => by simp at hu; rcases hu with rfl | rfl | rfl | rfl <;> rfl) (by decide) (by have := HCL.out; unfold maxLen; omega) (by have := HCL.out; omega) (by have := HSD.out; simp; omega) (WD.heap.size + 1) (by simp) ?_
        intro g5 c5 w5 ho5 hg5 _ _
        have HO5 : Hid (Byt B w5 (.slice (some ⟨g5, 0, none⟩) (L.length + 4) c5) (L ++ [92, 120, p, q])) := byt_apps rfl rfl ho5
        have HG5 : Hid (Below B w w5) := bel_app HBD.out HSD.out HHD.out hg5
        clear ho5 hg5
        refine hK.out _ _ ?_ (fun hHeld => ?_)
        · exact trivial
        clear hK K
        try simp only [Act.put, List.setIfInBounds_toArray, List.set_cons_zero, List.set_cons_succ]
        refine wpAnyH_take (i := 11) (oi := { dst := _, op := _, type := _, pos := _, after := _, guard := _ }) (v := ?_) rfl (by kernel_rfl) (by kernel_rfl) (by kernel_rfl) (fun _ _ _ h => h) (Or.inl ⟨by rfl, ?_⟩) (by assumption) ?_
        rotate_left
        · intro W hSw
          (try dsimp only at hSw)
          go_simp
          (try with_reducible rfl)
        try simp only [Act.put, List.setIfInBounds_toArray, List.set_cons_zero, List.set_cons_succ]
        refine wpAnyH_done (by kernel_rfl) ?_ _
        clear hHeld
        refine NoPanic.normal ?_
        go_wp2_with fail
        go_roundg (n - (i + 1))
        case measure => have := HI.out; have := HIM.out; omega
        case rel => exact ⟨i + 1, _, by first | rfl | (rw [show (i : Int) + 1 = ((i + 1 : Nat) : Int) by omega]), ⟨rfl, HIM.out⟩, by rw [HLS.out, HX.out]; rfl, HO5, HG5⟩
      have HX : Hid (qb (s.get! i) = [s.get! i]) := by
        show _ = _
        unfold qb
        rw [hm, if_neg (by omega), if_neg c10, if_neg (by omega)]
      have e34 : ((m : Int) == 34) = false := by rw [beq_eq_false_iff_ne]; omega
      have e92 : ((m : Int) == 92) = false := by rw [beq_eq_false_iff_ne]; omega
      have e10 : ((m : Int) == 10) = false := by rw [beq_eq_false_iff_ne]; omega
      have l1 : decide ((m : Int) < 32) = false := by rw [decide_eq_false_iff_not]; omega
      have l2 : decide (m < 32) = false := by rw [decide_eq_false_iff_not]; omega
      have g1 : decide ((m : Int) > 126) = false := by rw [decide_eq_false_iff_not]; omega
      have g2 : decide ((126 : Int) < (m : Int)) = false := by rw [decide_eq_false_iff_not]; omega
      have g3 : decide (126 < m) = false := by rw [decide_eq_false_iff_not]; omega
      have HXB : Hid ((s.get! i).toNat = m) := hm
      clear hgm hm8 c34 c92 c10 cl cg hm
      have HROW : Hid ((wr.alloc (.cells #[.int .u8 (m : Int)] 5)).ownsRow B 5 1 (.slice ra L.length rc) L.length (bC L)) := HO.out.alloc _
      go_wp2_with (at_builtin; refine wpList_append_own_at _ rfl _ _ 114 rfl B 5 i5 (.int .u8 0) 1 1 Try.underlying114 hi5 hx0 hx1 hx2 rfl (by decide) _ _ _ rfl HROW.out ⟨wr.heap.size, 0, none⟩ 1 1 [.int .u8 (m : Int)] rfl rfl (cells_new _ [.int .u8 (m : Int)] _) (by simp [Value.oneCell']) (by have := HCL.out; unfold maxLen; omega) (by have := HCL.out; omega) (by have := HSZ.out; simp; omega) ?_; intro v5 w5 ho5 hg5 _ ha5; have HO5 : Hid (Byt B w5 v5 (L ++ [s.get! i])) := byt_apps rfl rfl (by rw [show bC [s.get! i] = [.int .u8 (m : Int)] by show [Value.int .u8 ((s.get! i).toNat : Int)] = _; rw [HXB.out]]; exact ho5); have HG5 : Hid (Below B w w5) := bel_app HB.out HSZ.out HO.out hg5; obtain ⟨qa, qc, rfl⟩ := row_shape ho5; clear ho5 hg5 ha5)
      go_roundg (n - (i + 1))
      case measure => have := HI.out; have := HIM.out; omega
      case rel => exact ⟨i + 1, _, by first | rfl | (rw [show (i : Int) + 1 = ((i + 1 : Nat) : Int) by omega]), ⟨rfl, HIM.out⟩, by rw [HLS.out, HX.out]; rfl, HO5, HG5⟩
    · have e1 : decide ((i : Int) < (n : Int)) = false := by rw [decide_eq_false_iff_not]; omega
      have e2 : decide (i < n) = false := by rw [decide_eq_false_iff_not]; omega
      have e3 : decide ((i : Int) < (s.size : Int)) = false := by rw [decide_eq_false_iff_not, HN.out]; omega
      have e4 : decide (i < s.size) = false := by rw [decide_eq_false_iff_not, HN.out]; omega
      have HQ : Hid (quo s = L ++ [34]) := by
        have h7 : i = s.size := by have := HI.out; have := HN.out; omega
        show _ = _
        unfold quo
        rw [HLQ.out, h7, qs_all]
      clear hi
      have HROW : Hid ((wr.alloc (.cells #[.int .u8 34] 5)).ownsRow B 5 1 (.slice ra L.length rc) L.length (bC L)) := HO.out.alloc _
      go_wp2_with (at_builtin; refine wpList_append_own_at _ rfl _ _ 114 rfl B 5 i5 (.int .u8 0) 1 1 Try.underlying114 hi5 hx0 hx1 hx2 rfl (by decide) _ _ _ rfl HROW.out ⟨wr.heap.size, 0, none⟩ 1 1 [.int .u8 34] rfl rfl (cells_new _ [.int .u8 34] _) (by simp [Value.oneCell']) (by have := HCL.out; unfold maxLen; omega) (by have := HCL.out; omega) (by have := HSZ.out; simp; omega) ?_; intro v5 w5 ho5 hg5 _ ha5; have HO5 : Hid (Byt B w5 v5 (L ++ [34])) := byt_apps rfl rfl ho5; have HG5 : Hid (Below B w w5) := bel_app HB.out HSZ.out HO.out hg5; obtain ⟨qa, qc, rfl⟩ := row_shape ho5; clear ho5 hg5 ha5; have hcv := byt_conv HO5.out)
      go_ret
      exact ⟨by rw [HQ.out]; rfl, HG5.out⟩
end Go.Proofs.Ytcfmpmhdjkchjaa
