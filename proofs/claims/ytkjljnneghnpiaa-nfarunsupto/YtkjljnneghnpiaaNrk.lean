import Derived.Test.YtkjljnneghnpiaaNrj
import Derived.Test.YtkjljnneghnpiaaNft
namespace Go.Proofs.Ytkjljnneghnpiaa
open Go.RowKit

set_option maxRecDepth 100000 in
set_option maxHeartbeats 8000000 in
theorem rrun_any {vo vt vf : Value} {N : Mc} (hs : Small N) (t : ByteArray) (ht : t.size ≤ 100000000000) (at_ : Int) (w : World) (hp : Parts w.heap.size w vo vt vf N) :
    Calls Try.prog 9 #[nfW vo vt vf N, .string t, .int .i64 at_] w fun e w' => (∃ x y, e = .returned (.tuple #[.int .i64 x, .int .i64 y]) ∧ RunS N t at_ x y) ∧ Below w.heap.size w w' := by
  obtain ⟨a1, c1, a2, c2, a3, c3, rfl, rfl, rfl⟩ := hp.shapes
  obtain ⟨W1, hW1⟩ : ∃ W1, W1 = w.alloc (.cells #[.slice a1 N.on.length c1, .slice a2 N.tos.length c2, .slice a3 N.free.length c3, .int .i64 N.start, .int .i64 N.fin] 26) := ⟨_, rfl⟩
  have HX1 : Hid (Bxs W1 w.heap.size (.slice a1 N.on.length c1) (.slice a2 N.tos.length c2) (.slice a3 N.free.length c3) N) := by rw [hW1]; exact Bxs.made w _ _ _ N
  have HB1 : Hid (Below w.heap.size w W1) := by rw [hW1]; exact bel_up _ _
  have HP : Hid (Parts w.heap.size w (.slice a1 N.on.length c1) (.slice a2 N.tos.length c2) (.slice a3 N.free.length c3) N) := hp
  have HS : Hid (Small N) := hs
  have HT : Hid (t.size ≤ 100000000000) := ht
  have HW1 : Hid (W1 = w.alloc (.cells #[.slice a1 N.on.length c1, .slice a2 N.tos.length c2, .slice a3 N.free.length c3, .int .i64 N.start, .int .i64 N.fin] 26)) := hW1
  clear hW1 hp hs ht
  by_cases h0 : at_ < 0
  · have d0 : decide (at_ < 0) = true := by simpa using h0
    have H0 : Hid (at_ < 0) := h0
    clear h0
    go_enter Try.func9, Try.ntmps9
    go_wp2_with fail
    go_ret2
    exact ⟨⟨_, _, rfl, .inl ⟨.inl H0.out, rfl, rfl⟩⟩, bel_up _ _⟩
  obtain ⟨a, rfl⟩ : ∃ a : Nat, at_ = (a : Int) := ⟨at_.toNat, by omega⟩
  have d0 : decide ((a : Int) < 0) = false := by rw [decide_eq_false_iff_not]; omega
  clear h0
  by_cases h1 : t.size < a
  · have d1 : decide ((t.size : Int) < (a : Int)) = true := by rw [decide_eq_true_eq]; omega
    have d2 : decide (t.size < a) = true := by rw [decide_eq_true_eq]; omega
    have H1 : Hid (t.size < a) := h1
    clear h1
    go_enter Try.func9, Try.ntmps9
    go_wp2_with fail
    go_ret2
    exact ⟨⟨_, _, rfl, .inl ⟨.inr (by have := H1.out; omega), rfl, rfl⟩⟩, bel_up _ _⟩
  have d1 : decide ((t.size : Int) < (a : Int)) = false := by rw [decide_eq_false_iff_not]; omega
  have d2 : decide (t.size < a) = false := by rw [decide_eq_false_iff_not]; omega
  have H1 : Hid (a ≤ t.size) := by show a ≤ t.size; omega
  clear h1
  obtain ⟨x0, x1, x2, x3, x4⟩ := HX1.out
  go_enter Try.func9, Try.ntmps9
  go_upto_region 1 with fail
  rw [← HW1.out]
  go_wp2_with fail
  refine (rfirst_any HS.out W1 (HP.out.mono HB1.out HB1.out.size)).mono ?_
  rintro e w2 ⟨g0, rfl, T00, h1, h2, h3, h4⟩
  have HL2 : Hid (Blw w2 g0 N.on.length T00) := h1
  have HO2 : Hid (Sof N [] T00) := h2
  have HB2 : Hid (Below w.heap.size w w2) := below_trans HB1.out h3
  have HX2 : Hid (Bxs w2 w.heap.size (.slice a1 N.on.length c1) (.slice a2 N.tos.length c2) (.slice a3 N.free.length c3) N) := HX1.out.up h3
  clear h1 h2 h3 h4 x0 x1 x2 x3 x4 d0 d1 d2
  obtain ⟨s, hsd⟩ : ∃ s, (bts t).drop a = s := ⟨_, rfl⟩
  have HSD : Hid ((bts t).drop a = s) := hsd
  have HSL : Hid (s.length = t.size - a) := by rw [← hsd, List.length_drop, bts_len]; rfl
  clear hsd
  go_wp2_with fail
  go_loopg [8, 9, 10] (s.length + 1) (fun gm ev ov av wv => ∃ (g i : Nat) (x : Int) (T : Nat → Bool), ov = .slice (some ⟨g, 0, none⟩) N.on.length N.on.length ∧ av = .int .i64 ((a + i : Nat) : Int) ∧ ev = .int .i64 x ∧ Hid (i ≤ s.length + 1 ∧ gm = s.length + 1 - i) ∧ Hid (Below w.heap.size w wv) ∧ Hid (Bxs wv w.heap.size (.slice a1 N.on.length c1) (.slice a2 N.tos.length c2) (.slice a3 N.free.length c3) N) ∧ Hid (Blw wv g N.on.length T) ∧ Hid (i ≤ s.length → Sof N (s.take i) T) ∧ Hid (Best N s a i x) ∧ Hid (∀ j, j < i → N.Op (s.take j)))
  case atStart => exact ⟨g0, 0, -1, T00, rfl, rfl, rfl, ⟨Nat.zero_le _, rfl⟩, HB2, HX2, HL2, fun _ => by rw [List.take_zero]; exact HO2.out, .inl ⟨rfl, fun j hj => by omega⟩, fun j hj => by omega⟩
  case round =>
    obtain ⟨g, i, x, T, rfl, rfl, rfl, HI0, HB5, HX5, HL5, HO50, HBE, HOP⟩ := hrel
    clear HB2 HX2 HL2 HO2
    obtain ⟨p, hpp⟩ : ∃ p, a + i = p := ⟨_, rfl⟩
    rw [hpp]
    have HPP : Hid (a + i = p) := hpp
    clear hpp
    obtain ⟨x0, x1, x2, x3, x4⟩ := HX5.out
    by_cases hle : p ≤ t.size
    · have e1 : decide ((p : Int) ≤ (t.size : Int)) = true := by rw [decide_eq_true_eq]; omega
      have e2 : decide (p ≤ t.size) = true := by rw [decide_eq_true_eq]; omega
      have HI : Hid (i ≤ s.length ∧ gk = s.length + 1 - i) := ⟨by have := HPP.out; have := HSL.out; omega, HI0.out.2⟩
      have HO5 : Hid (Sof N (s.take i) T) := HO50.out HI.out.1
      clear hle HI0 HO50
      go_wp2_with fail
      refine (rtaken_any wr (HP.out.mono HB5.out HB5.out.size) HL5.out.row).mono ?_
      rintro e w6 ⟨rfl, hb6⟩
      have HB6 : Hid (Below w.heap.size w w6) := below_trans HB5.out hb6
      have HX6 : Hid (Bxs w6 w.heap.size (.slice a1 N.on.length c1) (.slice a2 N.tos.length c2) (.slice a3 N.free.length c3) N) := HX5.out.up hb6
      have HL6 : Hid (Blw w6 g N.on.length T) := HL5.out.up hb6
      have HD := taken_iff HO5.out
      obtain ⟨d, hd⟩ : ∃ d, (N.isS N.fin && T N.fin.toNat) = d := ⟨_, rfl⟩
      rw [hd] at HD ⊢
      have HDD : Hid (d = true ↔ N.Tk (s.take i)) := HD
      clear hb6 x0 x1 x2 x3 x4 HD hd e1 e2
      obtain ⟨z0, z1, z2, z3, z4⟩ := HX6.out
      cases d
      · have HBE1 : Hid (Best N s a (i + 1) x) := HBE.out.no (fun h => by have := HDD.out.2 h; cases this)
        go_wp2_with fail
        refine (ropen_any HS.out w6 (HP.out.mono HB6.out HB6.out.size) HL6.out.row HO5.out).mono ?_
        rintro e w7 ⟨⟨o, rfl, ho⟩, hb7⟩
        have HO : Hid (o = true ↔ N.Op (s.take i)) := ho
        have HB7 : Hid (Below w.heap.size w w7) := below_trans HB6.out hb7
        have HX7 : Hid (Bxs w7 w.heap.size (.slice a1 N.on.length c1) (.slice a2 N.tos.length c2) (.slice a3 N.free.length c3) N) := HX6.out.up hb7
        have HL7 : Hid (Blw w7 g N.on.length T) := HL6.out.up hb7
        have HP7 : Hid (Parts w7.heap.size w7 (.slice a1 N.on.length c1) (.slice a2 N.tos.length c2) (.slice a3 N.free.length c3) N) := HP.out.mono HB7.out HB7.out.size
        clear ho hb7 z0 z1 z2 z3 z4
        obtain ⟨y0, y1, y2, y3, y4⟩ := HX7.out
        cases o
        · go_wp2_with fail
          go_ret2
          obtain ⟨e1, hA, hE⟩ := HBE1.out.ans (f := i) HI.out.1 HOP.out (.inl ⟨rfl, fun h => by have := HO.out.2 h; cases this⟩)
          refine ⟨⟨_, _, rfl, .inr ⟨a, rfl, H1.out, e1, i, ?_, hE, by have := HPP.out; omega⟩⟩, HB7.out⟩
          rw [HSD.out]; exact hA
        · have HOP1 : Hid (∀ j, j < i + 1 → N.Op (s.take j)) := fun j hj => (by omega : j < i ∨ j = i).elim (HOP.out j) (fun e => e ▸ HO.out.1 rfl)
          by_cases hend : p < t.size
          · have u1 : decide ((p : Int) < (t.size : Int)) = true := by rw [decide_eq_true_eq]; omega
            have u2 : decide (p < t.size) = true := by rw [decide_eq_true_eq]; omega
            have hix := idx_fact t p hend
            have HPL : Hid (p < t.size) := hend
            have hwr : IntKind.i64.wrap ((p : Int) + 1) = ((p + 1 : Nat) : Int) := by rw [IntKind.wrap_i64]; have := HT.out; omega
            clear hend
            go_upto_region 13 with fail
            have HPW : Hid (∀ W, Below w7.heap.size w7 W → W.cell? ⟨w.heap.size, 0, none⟩ = some (.slice a1 N.on.length c1) ∧ W.cell? ⟨w.heap.size, 1, none⟩ = some (.slice a2 N.tos.length c2) ∧ W.cell? ⟨w.heap.size, 2, none⟩ = some (.slice a3 N.free.length c3) ∧ W.cell? ⟨w.heap.size, 3, none⟩ = some (.int .i64 N.start) ∧ W.cell? ⟨w.heap.size, 4, none⟩ = some (.int .i64 N.fin) ∧ Below w7.heap.size w7 W) := fun W hW => ⟨below_cell hW y0, below_cell hW y1, below_cell hW y2, below_cell hW y3, below_cell hW y4, hW⟩
            clear y0 y1 y2 y3 y4
            refine wp_region_noPanic ?_
            refine wp_region_held_drew (S := fun W => W.cell? ⟨w.heap.size, 0, none⟩ = some (.slice a1 N.on.length c1) ∧ W.cell? ⟨w.heap.size, 1, none⟩ = some (.slice a2 N.tos.length c2) ∧ W.cell? ⟨w.heap.size, 2, none⟩ = some (.slice a3 N.free.length c3) ∧ W.cell? ⟨w.heap.size, 3, none⟩ = some (.int .i64 N.start) ∧ W.cell? ⟨w.heap.size, 4, none⟩ = some (.int .i64 N.fin) ∧ Below w7.heap.size w7 W) (by kernel_rfl) (HPW.out _ (Below.drew (Below.refl _ _))) (fun hHeld => ?_)
            refine wpAnyH_take (i := 0) (oi := { dst := _, op := _, type := _, pos := _, after := _, guard := _ }) (v := ?_) rfl (by kernel_rfl) (by kernel_rfl) (by kernel_rfl) (fun _ _ _ h => h) (Or.inl ⟨by rfl, ?_⟩) (by assumption) ?_
            rotate_left
            · intro W hSw
              (try dsimp only at hSw)
              go_simp
              (try with_reducible rfl)
            try simp only [Act.put, List.setIfInBounds_toArray, List.set_cons_zero, List.set_cons_succ]
            refine wpAnyH_take (i := 1) (oi := { dst := _, op := _, type := _, pos := _, after := _, guard := _ }) (v := ?_) rfl (by kernel_rfl) (by kernel_rfl) (by kernel_rfl) (fun _ _ _ h => h) (Or.inl ⟨by rfl, ?_⟩) (by assumption) ?_
            rotate_left
            · intro W hSw
              (try dsimp only at hSw)
              go_simp
              (try with_reducible rfl)
            try simp only [Act.put, List.setIfInBounds_toArray, List.set_cons_zero, List.set_cons_succ]
            refine wpAnyH_take (i := 2) (oi := { dst := _, op := _, type := _, pos := _, after := _, guard := _ }) (v := ?_) rfl (by kernel_rfl) (by kernel_rfl) (by kernel_rfl) (fun _ _ _ h => h) (Or.inl ⟨by rfl, ?_⟩) (by assumption) ?_
            rotate_left
            · intro W hSw
              (try dsimp only at hSw)
              go_simp
              (try with_reducible rfl)
            try simp only [Act.put, List.setIfInBounds_toArray, List.set_cons_zero, List.set_cons_succ]
            refine wpAnyH_take (i := 3) (oi := { dst := _, op := _, type := _, pos := _, after := _, guard := _ }) (v := ?_) rfl (by kernel_rfl) (by kernel_rfl) (by kernel_rfl) (fun _ _ _ h => h) (Or.inl ⟨by rfl, ?_⟩) (by assumption) ?_
            rotate_left
            · intro W hSw
              (try dsimp only at hSw)
              go_simp
              (try with_reducible rfl)
            try simp only [Act.put, List.setIfInBounds_toArray, List.set_cons_zero, List.set_cons_succ]
            refine wpAnyH_take (i := 4) (oi := { dst := _, op := _, type := _, pos := _, after := _, guard := _ }) (v := ?_) rfl (by kernel_rfl) (by kernel_rfl) (by kernel_rfl) (fun _ _ _ h => h) (Or.inl ⟨by rfl, ?_⟩) (by assumption) ?_
            rotate_left
            · intro W hSw
              (try dsimp only at hSw)
              go_simp
              (try with_reducible rfl)
            try simp only [Act.put, List.setIfInBounds_toArray, List.set_cons_zero, List.set_cons_succ]
            refine wpAnyH_ready (rs := [5]) (by kernel_rfl) (by simp) ?_
            refine AllReadyH.cons (o := { dst := _, op := _, type := _, pos := _, after := _, guard := _ }) rfl (fun K hK => ?_) AllReadyH.nil
            go_simp
            refine (rread_any (b := (t.get! p).toNat) HS.out _ (HP7.out.mono (Below.drew (Below.refl _ _)) (by simp)) (HL7.out.up (Below.drew (Below.refl _ _))).row HO5.out (UInt8.toNat_lt _)).mono ?_
            rintro e w8 ⟨g', rfl, T', h1, h2, h3, h4⟩
            have B8 : Hid (Below w7.heap.size w7 w8) := below_trans (Below.drew (Below.refl _ _)) h3
            have HL8 : Hid (Blw w8 g' N.on.length T') := h1
            have HO8 : Hid (Sof N (s.take i ++ [(t.get! p).toNat]) T') := h2
            clear h1 h2 h3 h4
            go_wp2_with fail
            refine hK.out _ _ ?_ (fun hHeld => ?_)
            · (try dsimp only)
              exact HPW.out _ B8.out
            clear hK K
            try simp only [Act.put, List.setIfInBounds_toArray, List.set_cons_zero, List.set_cons_succ]
            refine wpAnyH_take (i := 6) (oi := { dst := _, op := _, type := _, pos := _, after := _, guard := _ }) (v := ?_) rfl (by kernel_rfl) (by kernel_rfl) (by kernel_rfl) (fun _ _ _ h => h) (Or.inl ⟨by rfl, ?_⟩) (by assumption) ?_
            rotate_left
            · intro W hSw
              (try dsimp only at hSw)
              go_simp
              (try with_reducible rfl)
            try simp only [Act.put, List.setIfInBounds_toArray, List.set_cons_zero, List.set_cons_succ]
            refine wpAnyH_done (by kernel_rfl) ?_ _
            refine NoPanic.normal ?_
            clear hHeld HPW hix u1 u2
            go_wp2_with fail
            go_roundg (s.length + 1 - (i + 1))
            case measure => have := HI.out; omega
            case rel =>
              have hil : i < s.length := by have := HPP.out; have := HSL.out; have := HPL.out; omega
              refine ⟨g', i + 1, x, T', rfl, by rw [show (p : Int) + 1 = ((a + (i + 1) : Nat) : Int) by have := HPP.out; omega], rfl, ⟨by omega, rfl⟩, below_trans HB7.out B8.out, HX7.out.up B8.out, HL8, fun _ => ?_, HBE1, HOP1⟩
              have e1 : s.take (i + 1) = s.take i ++ [(t.get! p).toNat] := by
                rw [List.take_add_one]
                congr 1
                rw [← HSD.out, List.getElem?_drop, HPP.out, bts_get t p HPL.out]
                rfl
              rw [e1]
              exact HO8.out
          · have u1 : decide ((p : Int) < (t.size : Int)) = false := by rw [decide_eq_false_iff_not]; omega
            have u2 : decide (p < t.size) = false := by rw [decide_eq_false_iff_not]; omega
            have HPE : Hid (i = s.length) := by have := HPP.out; have := HSL.out; have := HI.out; show i = s.length; omega
            have hwr : IntKind.i64.wrap ((p : Int) + 1) = ((p + 1 : Nat) : Int) := by rw [IntKind.wrap_i64]; have := HT.out; have := HPP.out; have := HSL.out; have := HI.out.1; have := H1.out; omega
            clear hend
            go_wp2_with fail
            go_roundg (s.length + 1 - (i + 1))
            case measure => have := HI.out; omega
            case rel => exact ⟨g, i + 1, x, T, rfl, by rw [show (p : Int) + 1 = ((a + (i + 1) : Nat) : Int) by have := HPP.out; omega], rfl, ⟨by have := HPE.out; omega, rfl⟩, HB7, HX7, HL7, fun h => by have := HPE.out; omega, HBE1, HOP1⟩
      · have HBE1 : Hid (Best N s a (i + 1) (p : Int)) := by
          have h := Best.yes (a := a) (HDD.out.1 rfl)
          have e : (a : Int) + i = (p : Int) := by have := HPP.out; omega
          rw [e] at h
          exact h
        go_wp2_with fail
        refine (ropen_any HS.out w6 (HP.out.mono HB6.out HB6.out.size) HL6.out.row HO5.out).mono ?_
        rintro e w7 ⟨⟨o, rfl, ho⟩, hb7⟩
        have HO : Hid (o = true ↔ N.Op (s.take i)) := ho
        have HB7 : Hid (Below w.heap.size w w7) := below_trans HB6.out hb7
        have HX7 : Hid (Bxs w7 w.heap.size (.slice a1 N.on.length c1) (.slice a2 N.tos.length c2) (.slice a3 N.free.length c3) N) := HX6.out.up hb7
        have HL7 : Hid (Blw w7 g N.on.length T) := HL6.out.up hb7
        have HP7 : Hid (Parts w7.heap.size w7 (.slice a1 N.on.length c1) (.slice a2 N.tos.length c2) (.slice a3 N.free.length c3) N) := HP.out.mono HB7.out HB7.out.size
        clear ho hb7 z0 z1 z2 z3 z4
        obtain ⟨y0, y1, y2, y3, y4⟩ := HX7.out
        cases o
        · go_wp2_with fail
          go_ret2
          obtain ⟨e1, hA, hE⟩ := HBE1.out.ans (f := i) HI.out.1 HOP.out (.inl ⟨rfl, fun h => by have := HO.out.2 h; cases this⟩)
          refine ⟨⟨_, _, rfl, .inr ⟨a, rfl, H1.out, e1, i, ?_, hE, by have := HPP.out; omega⟩⟩, HB7.out⟩
          rw [HSD.out]; exact hA
        · have HOP1 : Hid (∀ j, j < i + 1 → N.Op (s.take j)) := fun j hj => (by omega : j < i ∨ j = i).elim (HOP.out j) (fun e => e ▸ HO.out.1 rfl)
          by_cases hend : p < t.size
          · have u1 : decide ((p : Int) < (t.size : Int)) = true := by rw [decide_eq_true_eq]; omega
            have u2 : decide (p < t.size) = true := by rw [decide_eq_true_eq]; omega
            have hix := idx_fact t p hend
            have HPL : Hid (p < t.size) := hend
            have hwr : IntKind.i64.wrap ((p : Int) + 1) = ((p + 1 : Nat) : Int) := by rw [IntKind.wrap_i64]; have := HT.out; omega
            clear hend
            go_upto_region 13 with fail
            have HPW : Hid (∀ W, Below w7.heap.size w7 W → W.cell? ⟨w.heap.size, 0, none⟩ = some (.slice a1 N.on.length c1) ∧ W.cell? ⟨w.heap.size, 1, none⟩ = some (.slice a2 N.tos.length c2) ∧ W.cell? ⟨w.heap.size, 2, none⟩ = some (.slice a3 N.free.length c3) ∧ W.cell? ⟨w.heap.size, 3, none⟩ = some (.int .i64 N.start) ∧ W.cell? ⟨w.heap.size, 4, none⟩ = some (.int .i64 N.fin) ∧ Below w7.heap.size w7 W) := fun W hW => ⟨below_cell hW y0, below_cell hW y1, below_cell hW y2, below_cell hW y3, below_cell hW y4, hW⟩
            clear y0 y1 y2 y3 y4
            refine wp_region_noPanic ?_
            refine wp_region_held_drew (S := fun W => W.cell? ⟨w.heap.size, 0, none⟩ = some (.slice a1 N.on.length c1) ∧ W.cell? ⟨w.heap.size, 1, none⟩ = some (.slice a2 N.tos.length c2) ∧ W.cell? ⟨w.heap.size, 2, none⟩ = some (.slice a3 N.free.length c3) ∧ W.cell? ⟨w.heap.size, 3, none⟩ = some (.int .i64 N.start) ∧ W.cell? ⟨w.heap.size, 4, none⟩ = some (.int .i64 N.fin) ∧ Below w7.heap.size w7 W) (by kernel_rfl) (HPW.out _ (Below.drew (Below.refl _ _))) (fun hHeld => ?_)
            refine wpAnyH_take (i := 0) (oi := { dst := _, op := _, type := _, pos := _, after := _, guard := _ }) (v := ?_) rfl (by kernel_rfl) (by kernel_rfl) (by kernel_rfl) (fun _ _ _ h => h) (Or.inl ⟨by rfl, ?_⟩) (by assumption) ?_
            rotate_left
            · intro W hSw
              (try dsimp only at hSw)
              go_simp
              (try with_reducible rfl)
            try simp only [Act.put, List.setIfInBounds_toArray, List.set_cons_zero, List.set_cons_succ]
            refine wpAnyH_take (i := 1) (oi := { dst := _, op := _, type := _, pos := _, after := _, guard := _ }) (v := ?_) rfl (by kernel_rfl) (by kernel_rfl) (by kernel_rfl) (fun _ _ _ h => h) (Or.inl ⟨by rfl, ?_⟩) (by assumption) ?_
            rotate_left
            · intro W hSw
              (try dsimp only at hSw)
              go_simp
              (try with_reducible rfl)
            try simp only [Act.put, List.setIfInBounds_toArray, List.set_cons_zero, List.set_cons_succ]
            refine wpAnyH_take (i := 2) (oi := { dst := _, op := _, type := _, pos := _, after := _, guard := _ }) (v := ?_) rfl (by kernel_rfl) (by kernel_rfl) (by kernel_rfl) (fun _ _ _ h => h) (Or.inl ⟨by rfl, ?_⟩) (by assumption) ?_
            rotate_left
            · intro W hSw
              (try dsimp only at hSw)
              go_simp
              (try with_reducible rfl)
            try simp only [Act.put, List.setIfInBounds_toArray, List.set_cons_zero, List.set_cons_succ]
            refine wpAnyH_take (i := 3) (oi := { dst := _, op := _, type := _, pos := _, after := _, guard := _ }) (v := ?_) rfl (by kernel_rfl) (by kernel_rfl) (by kernel_rfl) (fun _ _ _ h => h) (Or.inl ⟨by rfl, ?_⟩) (by assumption) ?_
            rotate_left
            · intro W hSw
              (try dsimp only at hSw)
              go_simp
              (try with_reducible rfl)
            try simp only [Act.put, List.setIfInBounds_toArray, List.set_cons_zero, List.set_cons_succ]
            refine wpAnyH_take (i := 4) (oi := { dst := _, op := _, type := _, pos := _, after := _, guard := _ }) (v := ?_) rfl (by kernel_rfl) (by kernel_rfl) (by kernel_rfl) (fun _ _ _ h => h) (Or.inl ⟨by rfl, ?_⟩) (by assumption) ?_
            rotate_left
            · intro W hSw
              (try dsimp only at hSw)
              go_simp
              (try with_reducible rfl)
            try simp only [Act.put, List.setIfInBounds_toArray, List.set_cons_zero, List.set_cons_succ]
            refine wpAnyH_ready (rs := [5]) (by kernel_rfl) (by simp) ?_
            refine AllReadyH.cons (o := { dst := _, op := _, type := _, pos := _, after := _, guard := _ }) rfl (fun K hK => ?_) AllReadyH.nil
            go_simp
            refine (rread_any (b := (t.get! p).toNat) HS.out _ (HP7.out.mono (Below.drew (Below.refl _ _)) (by simp)) (HL7.out.up (Below.drew (Below.refl _ _))).row HO5.out (UInt8.toNat_lt _)).mono ?_
            rintro e w8 ⟨g', rfl, T', h1, h2, h3, h4⟩
            have B8 : Hid (Below w7.heap.size w7 w8) := below_trans (Below.drew (Below.refl _ _)) h3
            have HL8 : Hid (Blw w8 g' N.on.length T') := h1
            have HO8 : Hid (Sof N (s.take i ++ [(t.get! p).toNat]) T') := h2
            clear h1 h2 h3 h4
            go_wp2_with fail
            refine hK.out _ _ ?_ (fun hHeld => ?_)
            · (try dsimp only)
              exact HPW.out _ B8.out
            clear hK K
            try simp only [Act.put, List.setIfInBounds_toArray, List.set_cons_zero, List.set_cons_succ]
            refine wpAnyH_take (i := 6) (oi := { dst := _, op := _, type := _, pos := _, after := _, guard := _ }) (v := ?_) rfl (by kernel_rfl) (by kernel_rfl) (by kernel_rfl) (fun _ _ _ h => h) (Or.inl ⟨by rfl, ?_⟩) (by assumption) ?_
            rotate_left
            · intro W hSw
              (try dsimp only at hSw)
              go_simp
              (try with_reducible rfl)
            try simp only [Act.put, List.setIfInBounds_toArray, List.set_cons_zero, List.set_cons_succ]
            refine wpAnyH_done (by kernel_rfl) ?_ _
            refine NoPanic.normal ?_
            clear hHeld HPW hix u1 u2
            go_wp2_with fail
            go_roundg (s.length + 1 - (i + 1))
            case measure => have := HI.out; omega
            case rel =>
              have hil : i < s.length := by have := HPP.out; have := HSL.out; have := HPL.out; omega
              refine ⟨g', i + 1, (p : Int), T', rfl, by rw [show (p : Int) + 1 = ((a + (i + 1) : Nat) : Int) by have := HPP.out; omega], rfl, ⟨by omega, rfl⟩, below_trans HB7.out B8.out, HX7.out.up B8.out, HL8, fun _ => ?_, HBE1, HOP1⟩
              have e1 : s.take (i + 1) = s.take i ++ [(t.get! p).toNat] := by
                rw [List.take_add_one]
                congr 1
                rw [← HSD.out, List.getElem?_drop, HPP.out, bts_get t p HPL.out]
                rfl
              rw [e1]
              exact HO8.out
          · have u1 : decide ((p : Int) < (t.size : Int)) = false := by rw [decide_eq_false_iff_not]; omega
            have u2 : decide (p < t.size) = false := by rw [decide_eq_false_iff_not]; omega
            have HPE : Hid (i = s.length) := by have := HPP.out; have := HSL.out; have := HI.out; show i = s.length; omega
            have hwr : IntKind.i64.wrap ((p : Int) + 1) = ((p + 1 : Nat) : Int) := by rw [IntKind.wrap_i64]; have := HT.out; have := HPP.out; have := HSL.out; have := HI.out.1; have := H1.out; omega
            clear hend
            go_wp2_with fail
            go_roundg (s.length + 1 - (i + 1))
            case measure => have := HI.out; omega
            case rel => exact ⟨g, i + 1, (p : Int), T, rfl, by rw [show (p : Int) + 1 = ((a + (i + 1) : Nat) : Int) by have := HPP.out; omega], rfl, ⟨by have := HPE.out; omega, rfl⟩, HB7, HX7, HL7, fun h => by have := HPE.out; omega, HBE1, HOP1⟩
    · have e1 : decide ((p : Int) ≤ (t.size : Int)) = false := by rw [decide_eq_false_iff_not]; omega
      have e2 : decide (p ≤ t.size) = false := by rw [decide_eq_false_iff_not]; omega
      have HIE : Hid (i = s.length + 1) := by have := HPP.out; have := HSL.out; have := HI0.out; have := H1.out; show i = s.length + 1; omega
      have hwt : IntKind.i64.wrap ((t.size : Int) + 1) = ((t.size + 1 : Nat) : Int) := by rw [IntKind.wrap_i64]; have := HT.out; omega
      clear hle
      go_wp2_with fail
      go_ret2
      have hb := HBE.out
      rw [HIE.out] at hb
      obtain ⟨e1, hA, hE⟩ := hb.ans (f := s.length + 1) (Nat.le_refl _) (fun j hj => HOP.out j (by have := HIE.out; omega)) (.inr ⟨rfl, rfl⟩)
      refine ⟨⟨_, _, rfl, .inr ⟨a, rfl, H1.out, e1, s.length + 1, ?_, hE, by have := HSL.out; have := H1.out; omega⟩⟩, HB5.out⟩
      rw [HSD.out]; exact hA
end Go.Proofs.Ytkjljnneghnpiaa
