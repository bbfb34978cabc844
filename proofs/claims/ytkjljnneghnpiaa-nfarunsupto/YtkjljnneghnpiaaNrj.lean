import Derived.Test.YtkjljnneghnpiaaNri
namespace Go.Proofs.Ytkjljnneghnpiaa
open Go.RowKit

/-- The bytes of a text. -/
def byt (t : ByteArray) : List Nat := t.data.toList.map UInt8.toNat
theorem byt_len (t : ByteArray) : (byt t).length = t.size := by unfold byt; rw [List.length_map, Array.length_toList]; rfl
theorem byt_get (t : ByteArray) (i : Nat) (hi : i < t.size) : (byt t)[i]? = some (t.get! i).toNat := by
  unfold byt
  rw [List.getElem?_map, Array.getElem?_toList, get_bang t i hi]
  have : t.data[i]? = some t.data[i] := Array.getElem?_eq_getElem hi
  rw [this]; rfl
theorem byt_take (t : ByteArray) (i : Nat) (hi : i < t.size) : (byt t).take (i + 1) = (byt t).take i ++ [(t.get! i).toNat] := by
  rw [List.take_add_one, byt_get t i hi]; rfl
theorem taken_iff {N : Mc} {s : List Nat} {T : Nat → Bool} (h : Sof N s T) : (N.isS N.fin && T N.fin.toNat) = true ↔ N.Tk s := by
  rw [Bool.and_eq_true]
  constructor
  · rintro ⟨hf, ht⟩; exact ⟨hf, (h _ (isS_lt hf)).1 ht⟩
  · rintro ⟨hf, ha⟩; exact ⟨hf, (h _ (isS_lt hf)).2 ha⟩

set_option maxRecDepth 100000 in
set_option maxHeartbeats 4000000 in
theorem raccepts_any {vo vt vf : Value} {N : Mc} (hs : Small N) (t : ByteArray) (ht : t.size ≤ 100000000000) (w : World) (hp : Parts w.heap.size w vo vt vf N) :
    Calls Try.prog 10 #[nfW vo vt vf N, .string t] w fun e w' => (∃ d, e = .returned (.bool d) ∧ (d = true ↔ N.Tk (byt t))) ∧ Below w.heap.size w w' := by
  obtain ⟨a1, c1, a2, c2, a3, c3, rfl, rfl, rfl⟩ := hp.shapes
  obtain ⟨W1, hW1⟩ : ∃ W1, W1 = w.alloc (.cells #[.slice a1 N.on.length c1, .slice a2 N.tos.length c2, .slice a3 N.free.length c3, .int .i64 N.start, .int .i64 N.fin] 26) := ⟨_, rfl⟩
  have HX1 : Hid (Bxs W1 w.heap.size (.slice a1 N.on.length c1) (.slice a2 N.tos.length c2) (.slice a3 N.free.length c3) N) := by rw [hW1]; exact Bxs.made w _ _ _ N
  have HB1 : Hid (Below w.heap.size w W1) := by rw [hW1]; exact bel_up _ _
  have HP : Hid (Parts w.heap.size w (.slice a1 N.on.length c1) (.slice a2 N.tos.length c2) (.slice a3 N.free.length c3) N) := hp
  have HS : Hid (Small N) := hs
  have HT : Hid (t.size ≤ 100000000000) := ht
  have HW1 : Hid (W1 = w.alloc (.cells #[.slice a1 N.on.length c1, .slice a2 N.tos.length c2, .slice a3 N.free.length c3, .int .i64 N.start, .int .i64 N.fin] 26)) := hW1
  obtain ⟨x0, x1, x2, x3, x4⟩ := HX1.out
  clear hW1 hp hs ht
  go_enter Try.func10, Try.ntmps10
  go_upto_region 1 with fail
  rw [← HW1.out]
  go_wp2_with fail
  refine (rfirst_any HS.out W1 (HP.out.mono HB1.out HB1.out.size)).mono ?_
  rintro e w2 ⟨g0, rfl, T00, h1, h2, h3, h4⟩
  have HL2 : Hid (Blw w2 g0 N.on.length T00) := h1
  have HO2 : Hid (Sof N [] T00) := h2
  have HB2 : Hid (Below w.heap.size w w2) := below_trans HB1.out h3
  have HX2 : Hid (Bxs w2 w.heap.size (.slice a1 N.on.length c1) (.slice a2 N.tos.length c2) (.slice a3 N.free.length c3) N) := HX1.out.up h3
  clear h1 h2 h3 h4 x0 x1 x2 x3 x4
  go_wp2_with fail
  go_loopg [5, 6] t.size (fun gm ov iv wv => ∃ (g i : Nat) (T : Nat → Bool), ov = .slice (some ⟨g, 0, none⟩) N.on.length N.on.length ∧ iv = .int .i64 (i : Int) ∧ Hid (i ≤ t.size ∧ gm = t.size - i) ∧ Hid (Below w.heap.size w wv) ∧ Hid (Bxs wv w.heap.size (.slice a1 N.on.length c1) (.slice a2 N.tos.length c2) (.slice a3 N.free.length c3) N) ∧ Hid (Blw wv g N.on.length T) ∧ Hid (Sof N ((byt t).take i) T))
  case atStart => exact ⟨g0, 0, T00, rfl, rfl, ⟨Nat.zero_le _, rfl⟩, HB2, HX2, HL2, by rw [List.take_zero]; exact HO2⟩
  case round =>
    obtain ⟨g, i, T, rfl, rfl, HI, HB5, HX5, HL5, HO5⟩ := hrel
    clear HB2 HX2 HL2 HO2
    have HP5 : Hid (Parts wr.heap.size wr (.slice a1 N.on.length c1) (.slice a2 N.tos.length c2) (.slice a3 N.free.length c3) N) := HP.out.mono HB5.out HB5.out.size
    obtain ⟨x0, x1, x2, x3, x4⟩ := HX5.out
    by_cases hlt : i < t.size
    · have e1 : decide ((i : Int) < (t.size : Int)) = true := by rw [decide_eq_true_eq]; omega
      have e2 : decide (i < t.size) = true := by rw [decide_eq_true_eq]; omega
      have HLT : Hid (i < t.size) := hlt
      have hix := idx_fact t i hlt
      have hwr : IntKind.i64.wrap ((i : Int) + 1) = ((i + 1 : Nat) : Int) := by rw [IntKind.wrap_i64]; have := HT.out; omega
      clear hlt
      go_upto_region 5 with fail
      have HPW : Hid (∀ W, Below wr.heap.size wr W → W.cell? ⟨w.heap.size, 0, none⟩ = some (.slice a1 N.on.length c1) ∧ W.cell? ⟨w.heap.size, 1, none⟩ = some (.slice a2 N.tos.length c2) ∧ W.cell? ⟨w.heap.size, 2, none⟩ = some (.slice a3 N.free.length c3) ∧ W.cell? ⟨w.heap.size, 3, none⟩ = some (.int .i64 N.start) ∧ W.cell? ⟨w.heap.size, 4, none⟩ = some (.int .i64 N.fin) ∧ Below wr.heap.size wr W) := fun W hW => ⟨below_cell hW x0, below_cell hW x1, below_cell hW x2, below_cell hW x3, below_cell hW x4, hW⟩
      clear x0 x1 x2 x3 x4
      refine wp_region_noPanic ?_
      refine wp_region_held_drew (S := fun W => W.cell? ⟨w.heap.size, 0, none⟩ = some (.slice a1 N.on.length c1) ∧ W.cell? ⟨w.heap.size, 1, none⟩ = some (.slice a2 N.tos.length c2) ∧ W.cell? ⟨w.heap.size, 2, none⟩ = some (.slice a3 N.free.length c3) ∧ W.cell? ⟨w.heap.size, 3, none⟩ = some (.int .i64 N.start) ∧ W.cell? ⟨w.heap.size, 4, none⟩ = some (.int .i64 N.fin) ∧ Below wr.heap.size wr W) (by kernel_rfl) (HPW.out _ (Below.drew (Below.refl _ _))) (fun hHeld => ?_)
      refine wpAnyH_take (i := 0) (oi := { dst := _, op := _, type := _, pos := _, after := _, guard := _ }) (v := ?_) rfl (by kernel_rfl) (by kernel_rfl) (by kernel_rfl) (fun _ _ _ h => h) (Or.inl ⟨by rfl, ?_⟩) (by assumption) ?_
      rotate_left
      · intro W hSw
        (try dsimp only at hSw)
        go_simp
        (try with_reducible rfl)
      try simp only [Act.put, List.setIfInBounds_toArray, List.set_cons_zero, List.set_cons_succ]
      refine wpAnyH_take (i := 1) (oi := { dst := _, op := _, type := _, pos := _, after := _, guard := _ }) (v := ?_) rfl (by kernel_rfl) (by kernel_rfl) (by kernel_rfl) (fun _ _ _ h => h) (Or.inl ⟨by rfl, ?_⟩) (by assumption) ?_
      rotate_left
      · intro W hSw
        (try dsimp only at hSw)
        go_simp
        (try with_reducible rfl)
      try simp only [Act.put, List.setIfInBounds_toArray, List.set_cons_zero, List.set_cons_succ]
      refine wpAnyH_take (i := 2) (oi := { dst := _, op := _, type := _, pos := _, after := _, guard := _ }) (v := ?_) rfl (by kernel_rfl) (by kernel_rfl) (by kernel_rfl) (fun _ _ _ h => h) (Or.inl ⟨by rfl, ?_⟩) (by assumption) ?_
      rotate_left
      · intro W hSw
        (try dsimp only at hSw)
        go_simp
        (try with_reducible rfl)
      try simp only [Act.put, List.setIfInBounds_toArray, List.set_cons_zero, List.set_cons_succ]
      refine wpAnyH_take (i := 3) (oi := { dst := _, op := _, type := _, pos := _, after := _, guard := _ }) (v := ?_) rfl (by kernel_rfl) (by kernel_rfl) (by kernel_rfl) (fun _ _ _ h => h) (Or.inl ⟨by rfl, ?_⟩) (by assumption) ?_
      rotate_left
      · intro W hSw
        (try dsimp only at hSw)
        go_simp
        (try with_reducible rfl)
      try simp only [Act.put, List.setIfInBounds_toArray, List.set_cons_zero, List.set_cons_succ]
      refine wpAnyH_take (i := 4) (oi := { dst := _, op := _, type := _, pos := _, after := _, guard := _ }) (v := ?_) rfl (by kernel_rfl) (by kernel_rfl) (by kernel_rfl) (fun _ _ _ h => h) (Or.inl ⟨by rfl, ?_⟩) (by assumption) ?_
      rotate_left
      · intro W hSw
        (try dsimp only at hSw)
        go_simp
        (try with_reducible rfl)
      try simp only [Act.put, List.setIfInBounds_toArray, List.set_cons_zero, List.set_cons_succ]
      refine wpAnyH_ready (rs := [5]) (by kernel_rfl) (by simp) ?_
      refine AllReadyH.cons (o := { dst := _, op := _, type := _, pos := _, after := _, guard := _ }) rfl (fun K hK => ?_) AllReadyH.nil
      go_simp
      refine (rread_any (b := (t.get! i).toNat) HS.out _ (HP5.out.mono (Below.drew (Below.refl _ _)) (by simp)) (HL5.out.up (Below.drew (Below.refl _ _))).row HO5.out (UInt8.toNat_lt _)).mono ?_
      rintro e w6 ⟨g', rfl, T', h1, h2, h3, h4⟩
      have B6 : Hid (Below wr.heap.size wr w6) := below_trans (Below.drew (Below.refl _ _)) h3
      have HL6 : Hid (Blw w6 g' N.on.length T') := h1
      have HO6 : Hid (Sof N ((byt t).take (i + 1)) T') := by rw [byt_take t i HLT.out]; exact h2
      clear h1 h2 h3 h4
      go_wp2_with fail
      refine hK.out _ _ ?_ (fun hHeld => ?_)
      · (try dsimp only)
        exact HPW.out _ B6.out
      clear hK K
      try simp only [Act.put, List.setIfInBounds_toArray, List.set_cons_zero, List.set_cons_succ]
      refine wpAnyH_take (i := 6) (oi := { dst := _, op := _, type := _, pos := _, after := _, guard := _ }) (v := ?_) rfl (by kernel_rfl) (by kernel_rfl) (by kernel_rfl) (fun _ _ _ h => h) (Or.inl ⟨by rfl, ?_⟩) (by assumption) ?_
      rotate_left
      · intro W hSw
        (try dsimp only at hSw)
        go_simp
        (try with_reducible rfl)
      try simp only [Act.put, List.setIfInBounds_toArray, List.set_cons_zero, List.set_cons_succ]
      refine wpAnyH_done (by kernel_rfl) ?_ _
      refine NoPanic.normal ?_
      clear hHeld HPW hix e1 e2
      go_wp2_with fail
      go_roundg (t.size - (i + 1))
      case measure => have := HI.out; have := HLT.out; omega
      case rel => exact ⟨g', i + 1, T', rfl, by first | rfl | (rw [show (i : Int) + 1 = ((i + 1 : Nat) : Int) by omega]), ⟨HLT.out, rfl⟩, below_trans HB5.out B6.out, HX5.out.up B6.out, HL6, HO6⟩
    · have e1 : decide ((i : Int) < (t.size : Int)) = false := by rw [decide_eq_false_iff_not]; omega
      have e2 : decide (i < t.size) = false := by rw [decide_eq_false_iff_not]; omega
      have HO6 : Hid (Sof N (byt t) T) := by
        have h := HO5.out
        rw [List.take_of_length_le (by rw [byt_len]; have := HI.out; omega)] at h; exact h
      clear hlt
      go_wp2_with fail
      refine (rtaken_any wr HP5.out HL5.out.row).mono ?_
      rintro e w6 ⟨rfl, hb6⟩
      have HB6 : Hid (Below w.heap.size w w6) := below_trans HB5.out hb6
      clear hb6 x0 x1 x2 x3 x4
      go_wp2_with fail
      go_ret
      exact ⟨⟨_, rfl, taken_iff HO6.out⟩, HB6.out⟩
end Go.Proofs.Ytkjljnneghnpiaa
