import Derived.Test.YtkjljnneghnpiaaNrd
namespace Go.Proofs.Ytkjljnneghnpiaa
open Go.RowKit

/-- The set of the start. -/
def Mc.st0 (N : Mc) : Nat → Bool := if N.isS N.start then upd (fun _ => false) N.start.toNat else fun _ => false
theorem fr_first {N : Mc} {t : Nat} : Fr N N.st0 t ↔ N.At [] t := by
  constructor
  · intro h
    induction h with
    | base hp hs =>
      unfold Mc.st0 at hs
      cases h0 : N.isS N.start
      · rw [h0] at hs; cases hs
      · rw [h0, if_pos rfl] at hs
        rcases upd_inv hs with rfl | h
        · exact .start h0
        · cases h
    | step hp hm hq ih => exact (Mc.At.free ih hm (isS_nat hq) :)
  · intro h
    generalize hu : ([] : List Nat) = u at h
    induction h with
    | start h0 => exact .base (isS_lt h0) (by unfold Mc.st0; rw [h0, if_pos rfl]; exact upd_self)
    | free hp hm hs ih =>
      refine .step (ih hu) ?_ (isS_lt hs)
      simp [Mc.isS] at hs
      rw [Int.toNat_of_nonneg hs.1]; exact hm
    | byte _ _ _ => exact absurd hu (by simp)
theorem fr_read {N : Mc} {T S : Nat → Bool} {s : List Nat} {b t : Nat} (hb : b < 256) (hT : ∀ p, p < N.on.length → (T p = true ↔ N.At s p)) (hS : ∀ q, q < N.on.length → (S q = true ↔ ∃ p, p < N.on.length ∧ T p = true ∧ N.onR p (q : Int) b = true)) : Fr N S t ↔ N.At (s ++ [b]) t := by
  constructor
  · intro h
    induction h with
    | base hp hs =>
      obtain ⟨p, h1, h2, h3⟩ := (hS _ hp).1 hs
      obtain ⟨h4, h5⟩ := (onR_iff hp hb).1 h3
      exact .byte ((hT p h1).1 h2) h4 h5
    | step hp hm hq ih => exact (Mc.At.free ih hm (isS_nat hq) :)
  · intro h
    generalize hu : s ++ [b] = u at h
    induction h with
    | start h0 => exact absurd hu (by simp)
    | free hp hm hs ih =>
      refine .step (ih hu) ?_ (isS_lt hs)
      simp [Mc.isS] at hs
      rw [Int.toNat_of_nonneg hs.1]; exact hm
    | byte hp ht hc =>
      obtain ⟨e1, e2⟩ := List.append_inj' hu rfl
      subst e1
      have e3 := List.singleton_inj.1 e2
      subst e3
      have hq := toOf_lt ht
      exact .base hq ((hS _ hq).2 ⟨_, Mc.At.lt hp, (hT _ (Mc.At.lt hp)).2 hp, (onR_iff hq hb).2 ⟨ht, hc⟩⟩)
/-- The set of what has been read. -/
def Sof (N : Mc) (s : List Nat) (T : Nat → Bool) : Prop := ∀ t, t < N.on.length → (T t = true ↔ N.At s t)
/-- What is known while a byte is read. -/
def RdJ (N : Mc) (T S : Nat → Bool) (b p q : Nat) : Prop := ∀ t, t < N.on.length → (S t = true ↔ ∃ p', p' < N.on.length ∧ T p' = true ∧ N.onR p' (t : Int) b = true ∧ (p' < p ∨ (p' = p ∧ t < q)))
variable {N : Mc} {T S : Nat → Bool} {b p q : Nat}
theorem RdJ.start : RdJ N T (fun _ => false) b 0 0 := fun t _ => ⟨fun h => Bool.noConfusion h, fun ⟨p', _, _, _, h⟩ => by omega⟩
theorem RdJ.pass (h : RdJ N T S b p q) (hn : N.onR p (q : Int) b = false) : RdJ N T S b p (q + 1) := fun t ht => by
  rw [h t ht]
  constructor
  · rintro ⟨p', h1, h2, h3, h4⟩; exact ⟨p', h1, h2, h3, by omega⟩
  · rintro ⟨p', h1, h2, h3, h4⟩
    refine ⟨p', h1, h2, h3, ?_⟩
    by_cases e : p' = p ∧ t = q
    · obtain ⟨rfl, rfl⟩ := e; rw [hn] at h3; cases h3
    · omega
theorem RdJ.put (h : RdJ N T S b p q) (hp : p < N.on.length) (htp : T p = true) (hn : N.onR p (q : Int) b = true) : RdJ N T (upd S q) b p (q + 1) := fun t ht => by
  constructor
  · intro hu
    rcases upd_inv hu with rfl | hu
    · exact ⟨p, hp, htp, hn, by omega⟩
    · obtain ⟨p', h1, h2, h3, h4⟩ := (h t ht).1 hu; exact ⟨p', h1, h2, h3, by omega⟩
  · rintro ⟨p', h1, h2, h3, h4⟩
    by_cases e : t = q
    · subst e; exact upd_self
    · exact upd_mono ((h t ht).2 ⟨p', h1, h2, h3, by omega⟩)
theorem RdJ.next (h : RdJ N T S b p q) (hn : T p = false ∨ N.on.length ≤ q) : RdJ N T S b (p + 1) 0 := fun t ht => by
  rw [h t ht]
  constructor
  · rintro ⟨p', h1, h2, h3, h4⟩; exact ⟨p', h1, h2, h3, by omega⟩
  · rintro ⟨p', h1, h2, h3, h4⟩
    refine ⟨p', h1, h2, h3, ?_⟩
    by_cases e : p' = p
    · subst e
      rcases hn with hn | hn
      · rw [hn] at h2; cases h2
      · exact .inr ⟨rfl, by omega⟩
    · omega

set_option maxRecDepth 100000 in
set_option maxHeartbeats 4000000 in
theorem rtaken_any {vo vt vf : Value} {N : Mc} {T : Nat → Bool} {g : Nat} (w : World) (hp : Parts w.heap.size w vo vt vf N) (ht : Bls w g N.on.length T) :
    Calls Try.prog 20 #[nfW vo vt vf N, .slice (some ⟨g, 0, none⟩) N.on.length N.on.length] w fun e w' => e = .returned (.bool (N.isS N.fin && T N.fin.toNat)) ∧ Below w.heap.size w w' := by
  obtain ⟨a1, c1, a2, c2, a3, c3, rfl, rfl, rfl⟩ := hp.shapes
  obtain ⟨W1, hW1⟩ : ∃ W1, W1 = w.alloc (.cells #[.slice a1 N.on.length c1, .slice a2 N.tos.length c2, .slice a3 N.free.length c3, .int .i64 N.start, .int .i64 N.fin] 26) := ⟨_, rfl⟩
  have hX : Bxs W1 w.heap.size (.slice a1 N.on.length c1) (.slice a2 N.tos.length c2) (.slice a3 N.free.length c3) N := by rw [hW1]; exact Bxs.made w _ _ _ N
  have HB1 : Hid (Below w.heap.size w W1) := by rw [hW1]; exact bel_up _ _
  have HP1 : Hid (Parts W1.heap.size W1 (.slice a1 N.on.length c1) (.slice a2 N.tos.length c2) (.slice a3 N.free.length c3) N) := hp.mono HB1.out HB1.out.size
  have HW1 : Hid (W1 = w.alloc (.cells #[.slice a1 N.on.length c1, .slice a2 N.tos.length c2, .slice a3 N.free.length c3, .int .i64 N.start, .int .i64 N.fin] 26)) := hW1
  have HT : Hid (Bls W1 g N.on.length T) := ht.mono HB1.out
  have HX : Hid _ := hX
  obtain ⟨b0, b1, b2, b3, b4⟩ := hX
  clear hW1 hp ht
  cases hf : N.isS N.fin
  · have HF : Hid (N.isS N.fin = false) := hf
    clear hf
    go_enter Try.func20, Try.ntmps20
    go_upto_region 1 with fail
    rw [← HW1.out]
    go_wp2_with fail
    refine (ris_any N.fin W1 HP1.out).mono ?_
    rintro e w2 ⟨rfl, hb2⟩
    have HB2 : Hid (Below w.heap.size w w2) := below_trans HB1.out hb2
    rw [HF.out]
    clear hb2
    go_wp2_with fail
    go_ret
    exact ⟨rfl, HB2.out⟩
  · have HF : Hid (N.isS N.fin = true) := hf
    have hlt := isS_lt hf
    obtain ⟨f, hff⟩ : ∃ f : Nat, N.fin = (f : Int) := ⟨N.fin.toNat, by simp [Mc.isS] at hf; omega⟩
    have e0 : N.fin.toNat = f := by omega
    rw [e0] at hlt ⊢
    have e1 : decide ((f : Int) < (N.on.length : Int)) = true := by rw [decide_eq_true_eq]; omega
    have HLT : Hid (f < N.on.length) := hlt
    have HFF : Hid (N.fin = (f : Int)) := hff
    clear hf hlt e0 hff
    go_enter Try.func20, Try.ntmps20
    go_upto_region 1 with fail
    rw [← HW1.out]
    go_wp2_with fail
    refine (ris_any N.fin W1 HP1.out).mono ?_
    rintro e w2 ⟨rfl, hb2⟩
    have HB2 : Hid (Below w.heap.size w w2) := below_trans HB1.out hb2
    have hx2 := HX.out.up hb2
    obtain ⟨d0, d1, d2, d3, d4⟩ := hx2
    rw [HFF.out] at d4
    have k := (HT.out.mono hb2).c f HLT.out
    rw [HF.out]
    clear hb2 b0 b1 b2 b3 b4
    go_wp2_with fail
    go_ret
    exact ⟨rfl, HB2.out⟩

set_option maxRecDepth 100000 in
set_option maxHeartbeats 4000000 in
theorem rfirst_any {vo vt vf : Value} {N : Mc} (hs : Small N) (w : World) (hp : Parts w.heap.size w vo vt vf N) :
    Calls Try.prog 19 #[nfW vo vt vf N] w fun e w' => ∃ g, e = .returned (.slice (some ⟨g, 0, none⟩) N.on.length N.on.length) ∧ ∃ T, Blw w' g N.on.length T ∧ Sof N [] T ∧ Below w.heap.size w w' ∧ w.heap.size ≤ g := by
  obtain ⟨a1, c1, a2, c2, a3, c3, rfl, rfl, rfl⟩ := hp.shapes
  have hn := hs.on
  obtain ⟨W1, hW1⟩ : ∃ W1, W1 = w.alloc (.cells #[.slice a1 N.on.length c1, .slice a2 N.tos.length c2, .slice a3 N.free.length c3, .int .i64 N.start, .int .i64 N.fin] 26) := ⟨_, rfl⟩
  obtain ⟨W2, hW2⟩ : ∃ W2, W2 = W1.alloc (.cells (madeCells #[.bool false] N.on.length) 4) := ⟨_, rfl⟩
  have hz1 : W1.heap.size = w.heap.size + 1 := by rw [hW1]; simp
  have HBX : Hid (Bxs W2 w.heap.size (.slice a1 N.on.length c1) (.slice a2 N.tos.length c2) (.slice a3 N.free.length c3) N) := by rw [hW2]; refine Bxs.up ?_ (bel_up _ _); rw [hW1]; exact Bxs.made w _ _ _ N
  have HB2 : Hid (Below w.heap.size w W2) := by rw [hW2]; refine below_trans ?_ (bel_up _ _); rw [hW1]; exact bel_up _ _
  have HBL : Hid (Blw W2 W1.heap.size N.on.length (fun _ => false)) := by rw [hW2]; exact Blw.made W1 _
  have mk := mk_bools N.on.length hn W1
  have HP : Hid (Parts w.heap.size w (.slice a1 N.on.length c1) (.slice a2 N.tos.length c2) (.slice a3 N.free.length c3) N) := hp
  have HS : Hid (Small N) := hs
  have HN : Hid (N.on.length ≤ 1048576) := hn
  rw [← hW2] at mk
  have HW1 : Hid (W1 = w.alloc (.cells #[.slice a1 N.on.length c1, .slice a2 N.tos.length c2, .slice a3 N.free.length c3, .int .i64 N.start, .int .i64 N.fin] 26)) := hW1
  clear hW2 hW1 hp hs hn
  obtain ⟨g, hg⟩ : ∃ g, W1.heap.size = g := ⟨_, rfl⟩
  rw [hg] at mk HBL hz1
  clear hg
  have HG : Hid (g = w.heap.size + 1) := hz1
  clear hz1
  have HX1 : Hid (Bxs W1 w.heap.size (.slice a1 N.on.length c1) (.slice a2 N.tos.length c2) (.slice a3 N.free.length c3) N) := by rw [HW1.out]; exact Bxs.made w _ _ _ N
  obtain ⟨b0, b1, b2, b3, b4⟩ := HX1.out
  obtain ⟨d0, d1, d2, d3, d4⟩ := HBX.out
  have HP2 : Hid (Parts W2.heap.size W2 (.slice a1 N.on.length c1) (.slice a2 N.tos.length c2) (.slice a3 N.free.length c3) N) := HP.out.mono HB2.out HB2.out.size
  cases hf : N.isS N.start
  · have HF : Hid (N.isS N.start = false) := hf
    have HFI : Hid (N.st0 = fun _ => false) := by show N.st0 = _; unfold Mc.st0; rw [hf]; rfl
    clear hf
    go_enter Try.func19, Try.ntmps19
    go_upto_region 1 with fail
    rw [← HW1.out]
    go_wp2_with fail
    refine (ris_any N.start W2 HP2.out).mono ?_
    rintro e w3 ⟨rfl, hb3⟩
    have HB3 : Hid (Below w.heap.size w w3) := below_trans HB2.out hb3
    have HL3 : Hid (Blw w3 g N.on.length (fun _ => false)) := HBL.out.up hb3
    obtain ⟨r0, r1, r2, r3, r4⟩ := HBX.out.up hb3
    rw [HF.out]
    clear hb3 mk b0 b1 b2 b3 b4 d0 d1 d2 d3 d4
    go_wp2_with fail
    refine (rgrow_any HS.out w3 (HP.out.mono HB3.out HB3.out.size) HL3.out.row).mono ?_
    rintro e w4 ⟨g', rfl, T, h1, h2, h3, h4⟩
    have HH : Hid (Blw w4 g' N.on.length T ∧ Sof N [] T ∧ Below w.heap.size w w4 ∧ w.heap.size ≤ g') := ⟨h1, fun t ht => by rw [h2 t ht, ← HFI.out]; exact fr_first, below_trans HB3.out h3, Nat.le_trans HB3.out.size h4⟩
    clear h1 h2 h3 h4
    go_wp2_with fail
    go_ret
    exact ⟨g', rfl, T, HH.out⟩
  · have HF : Hid (N.isS N.start = true) := hf
    have HFI : Hid (N.st0 = upd (fun _ => false) N.start.toNat) := by show N.st0 = _; unfold Mc.st0; rw [hf]; rfl
    have hlt := isS_lt hf
    obtain ⟨f, hff⟩ : ∃ f : Nat, N.start = (f : Int) := ⟨N.start.toNat, by simp [Mc.isS] at hf; omega⟩
    have e0 : N.start.toNat = f := by omega
    rw [e0] at hlt HFI
    have e1 : decide ((f : Int) < (N.on.length : Int)) = true := by rw [decide_eq_true_eq]; omega
    have HLT : Hid (f < N.on.length) := hlt
    have HFF : Hid (N.start = (f : Int)) := hff
    clear hf hlt e0 hff
    go_enter Try.func19, Try.ntmps19
    go_upto_region 1 with fail
    rw [← HW1.out]
    go_wp2_with fail
    refine (ris_any N.start W2 HP2.out).mono ?_
    rintro e w3 ⟨rfl, hb3⟩
    have HB3 : Hid (Below w.heap.size w w3) := below_trans HB2.out hb3
    have HL3 : Hid (Blw w3 g N.on.length (fun _ => false)) := HBL.out.up hb3
    have HX3 : Hid (Bxs w3 w.heap.size (.slice a1 N.on.length c1) (.slice a2 N.tos.length c2) (.slice a3 N.free.length c3) N) := HBX.out.up hb3
    have k1 := HL3.out.row.c f HLT.out
    have k2 := HL3.out.fr f
    have r3 := HX3.out.c3
    rw [HFF.out] at r3
    rw [HF.out]
    clear hb3 mk b0 b1 b2 b3 b4 d0 d1 d2 d3 d4
    obtain ⟨W4, hW4⟩ : ∃ W4, W4 = w3.setCell ⟨g, f, none⟩ (.bool true) := ⟨_, rfl⟩
    have HB4 : Hid (Below w.heap.size w W4) := by rw [hW4]; exact below_set HB3.out (by have := HG.out; omega) _
    have HX4 : Hid (Bxs W4 w.heap.size (.slice a1 N.on.length c1) (.slice a2 N.tos.length c2) (.slice a3 N.free.length c3) N) := by rw [hW4]; exact HX3.out.set (by have := HG.out; omega) _
    have HL4 : Hid (Blw W4 g N.on.length (upd (fun _ => false) f)) := by rw [hW4]; exact HL3.out.set HLT.out
    have HW4 : Hid (W4 = w3.setCell ⟨g, f, none⟩ (.bool true)) := hW4
    obtain ⟨r0, r1, r2, r3', r4⟩ := HX4.out
    clear hW4
    go_upto_region 4 with fail
    rw [← HW4.out]
    clear r3
    go_wp2_with fail
    refine (rgrow_any HS.out W4 (HP.out.mono HB4.out HB4.out.size) HL4.out.row).mono ?_
    rintro e w5 ⟨g', rfl, T, h1, h2, h3, h4⟩
    have HH : Hid (Blw w5 g' N.on.length T ∧ Sof N [] T ∧ Below w.heap.size w w5 ∧ w.heap.size ≤ g') := ⟨h1, fun t ht => by rw [h2 t ht, ← HFI.out]; exact fr_first, below_trans HB4.out h3, Nat.le_trans HB4.out.size h4⟩
    clear h1 h2 h3 h4
    go_wp2_with fail
    go_ret
    exact ⟨g', rfl, T, HH.out⟩
end Go.Proofs.Ytkjljnneghnpiaa
