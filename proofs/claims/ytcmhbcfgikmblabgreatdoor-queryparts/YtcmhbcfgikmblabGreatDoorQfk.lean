import Derived.Test.YtcmhbcfgikmblabGreatDoorQye
namespace Go.Proofs.YtcmhbcfgikmblabGreatDoor.Qy
open Go.RowKit Go.Maps

theorem RwN.one {f : Nat} {W : World} {v : Value} {n : Nat} {cs : List Value} (h : RwN f W v n cs) (hn : 0 < n) : ∃ g o cap, v = .slice (some ⟨g, o, none⟩) n cap ∧ g ≠ f ∧ n ≤ cap ∧ ∀ j u, cs[j]? = some u → W.cell? ⟨g, o + j, none⟩ = some u := by
  obtain ⟨a, g, o, cap, e, h1, h2, h3, h4⟩ := h
  exact ⟨g, o, cap, by rw [e, h2 hn], h3, h1, h4⟩
theorem RwN.form {f : Nat} {W : World} {v : Value} {n : Nat} {cs : List Value} (h : RwN f W v n cs) : ∃ a cap, v = .slice a n cap := by
  obtain ⟨a, g, o, cap, e, _⟩ := h
  exact ⟨a, cap, e⟩
theorem RwN.tail {f : Nat} {W : World} {g o n cap : Nat} {l : List Int} (h : RwN f W (.slice (some ⟨g, o, none⟩) (n + 1) cap) (n + 1) (iC l)) : RwN f W (.slice (if cap = 1 then some ⟨g, o, none⟩ else some ⟨g, o + 1, none⟩) n (cap - 1)) n (iC (l.drop 1)) := by
  obtain ⟨a, g', o', cap', e, h1, h2, h3, h4⟩ := h
  obtain ⟨e1, -, e3⟩ := Value.slice.inj e
  have h5 := h2 (by omega)
  rw [h5] at e1
  have e4 := Option.some.inj e1
  injection e4 with e5 e6
  subst e5 e6 e3
  refine ⟨_, g, o + 1, cap - 1, rfl, by omega, fun hn => by rw [if_neg (by omega)], h3, fun j u hu => ?_⟩
  rw [Nat.add_assoc]
  refine h4 _ _ ?_
  unfold iC at hu ⊢
  rw [List.map_drop, List.getElem?_drop] at hu
  exact hu
theorem kl_drop (P : List Pn) (p j : Nat) (hj : j < Tr.kA (pks P) p) : (iC ((Tr.kl (pks P) p (Tr.kA (pks P) p)).drop j))[0]? = some (.int .i64 ((Tr.wA (pks P) (p + 1) j : Nat) : Int)) := by
  have hl := Tr.kl_len (pks P) p (Tr.kA (pks P) p)
  have h1 := iC_get ((Tr.kl (pks P) p (Tr.kA (pks P) p)).drop j) 0 (by rw [List.length_drop, hl]; omega)
  rw [h1]
  have h2 := Tr.kl_get (pks P) p (Tr.kA (pks P) p) j hj
  rw [List.getD_eq_getElem?_getD, List.getElem?_drop, Nat.add_zero, ← List.getD_eq_getElem?_getD, h2]
set_option maxRecDepth 100000 in
set_option maxHeartbeats 8000000 in
theorem goOn_any {P : List Pn} {cs : List Cd} {T : List Tr.Nd} {s : ByteArray} {sb f : Nat} {vp vr vk vt ve : Value} {n : Nat} (hP : Tr.Fo (pks P)) (hT : Tr.Fo (Tr.kds T)) (hF : FC P cs T s sb f vp vr vk vt ve n) {w0 : World} (hS : Sr w0 sb f P cs T s vp vr vk vt ve) {lb nb eb xb gb p e : Nat} (hp : p < P.length) (hlb : w0.heap.size ≤ lb) (hnb : w0.heap.size ≤ nb) :
    ∀ (k : Nat) (W : World) (F : List Int) (j a : Nat) (lv : Value), Fs f w0 W → Fd W f F → F.length = P.length → Bx W f lb nb eb xb gb sb lv a e → RwN f w0 lv (Tr.kA (pks P) p - j) (iC ((Tr.kl (pks P) p (Tr.kA (pks P) p)).drop j)) → j ≤ Tr.kA (pks P) p → Wi (Tr.kds T) e a → e - a < k → e - a ≤ n →
    Calls Tryz.prog 54 #[.pointer (some ⟨lb, 0, none⟩), .pointer (some ⟨nb, 0, none⟩), .pointer (some ⟨eb, 0, none⟩), .pointer (some ⟨xb, 0, none⟩), .pointer (some ⟨gb, 0, none⟩)] W fun e' w' => ∃ F', e' = .returned (.bool (gK P T e (kF (pks P) p j) a).isSome) ∧ Fs f w0 w' ∧ Fd w' f F' ∧ Kr P T e p j a F F' := by
  intro k
  induction k with
  | zero => intro W F j a lv _ _ _ _ _ _ _ hk; omega
  | succ k ih =>
    intro W F j a lv hfs hfd hfl hbx hlv hj hwi hk hn
    have HFO : Hid (Tr.Fo (pks P) ∧ Tr.Fo (Tr.kds T)) := ⟨hP, hT⟩
    have HS : Hid (Sr w0 sb f P cs T s vp vr vk vt ve) := hS
    have HPL : Hid (p < P.length) := hp
    have HLN : Hid (w0.heap.size ≤ lb ∧ w0.heap.size ≤ nb) := ⟨hlb, hnb⟩
    have HFS : Hid (Fs f w0 W) := hfs
    have HFD : Hid (Fd W f F ∧ F.length = P.length) := ⟨hfd, hfl⟩
    have HBX : Hid (Bx W f lb nb eb xb gb sb lv a e) := hbx
    have HWI : Hid (Wi (Tr.kds T) e a ∧ e - a < k + 1 ∧ e - a ≤ n) := ⟨hwi, hk, hn⟩
    have HIH : Hid (∀ (W : World) (F : List Int) (j a : Nat) (lv : Value), Fs f w0 W → Fd W f F → F.length = P.length → Bx W f lb nb eb xb gb sb lv a e → RwN f w0 lv (Tr.kA (pks P) p - j) (iC ((Tr.kl (pks P) p (Tr.kA (pks P) p)).drop j)) → j ≤ Tr.kA (pks P) p → Wi (Tr.kds T) e a → e - a < k → e - a ≤ n →
      Calls Tryz.prog 54 #[.pointer (some ⟨lb, 0, none⟩), .pointer (some ⟨nb, 0, none⟩), .pointer (some ⟨eb, 0, none⟩), .pointer (some ⟨xb, 0, none⟩), .pointer (some ⟨gb, 0, none⟩)] W fun e' w' => ∃ F', e' = .returned (.bool (gK P T e (kF (pks P) p j) a).isSome) ∧ Fs f w0 w' ∧ Fd w' f F' ∧ Kr P T e p j a F F') := ih
    have HFC0 : Hid (FC P cs T s sb f vp vr vk vt ve n) := hF
    have c0 := rcell hbx.l 0 _ rfl
    obtain ⟨RB, hRB⟩ : ∃ RB, (gK P T e (kF (pks P) p j) a).isSome = RB := ⟨_, rfl⟩
    have HRB : Hid ((gK P T e (kF (pks P) p j) a).isSome = RB) := hRB
    rw [hRB]
    clear ih hF hS hRB
    rcases Nat.lt_or_ge j (Tr.kA (pks P) p) with hjl | hjg
    · obtain ⟨m1, hm1⟩ : ∃ m1, Tr.kA (pks P) p - j = m1 + 1 := ⟨Tr.kA (pks P) p - j - 1, by omega⟩
      have HM1 : Hid (Tr.kA (pks P) p - j = m1 + 1) := hm1
      rw [hm1] at hlv
      obtain ⟨lg, lo, lc, hlve, hlg, hlc, hcel⟩ := hlv.one (by omega)
      subst hlve
      have HTL : Hid _ := hlv.tail
      have HLG : Hid (lg ≠ f) := hlg
      have HJL : Hid (j < Tr.kA (pks P) p) := hjl
      have HL0 : Hid (w0.cell? ⟨lg, lo, none⟩ = some (.int .i64 ((Tr.wA (pks P) (p + 1) j : Nat) : Int))) := hcel 0 _ (kl_drop P p j hjl)
      obtain ⟨C, hC⟩ : ∃ C, Tr.wA (pks P) (p + 1) j = C := ⟨_, rfl⟩
      have HC : Hid (Tr.wA (pks P) (p + 1) j = C) := hC
      rw [hC] at HL0
      obtain ⟨m, hm⟩ : ∃ m, m1 + 1 = m := ⟨_, rfl⟩
      have HM : Hid (m1 + 1 = m) := hm
      rw [hm] at c0 HBX hlc
      have d0 : (m == 0) = false := by rw [beq_eq_false_iff_ne]; omega
      have d1 : ((m : Int) == 0) = false := by rw [beq_eq_false_iff_ne]; omega
      have d2 : (0 : Int) < (m : Int) := by omega
      have d3 : 0 < m := by omega
      have d4 : (1 : Int) ≤ (m : Int) := by omega
      have d5 : 1 ≤ m := by omega
      clear hlv hcel hm1 hjl hC hm hfs hfd hfl hbx hj hwi hk hn hP hT hp hlb hnb hlg
      go_enter Tryz.func54, Tryz.ntmps54
      go_upto_region 3 with fail
      clear c0
      go_loopg [] (e - a) (fun gm wr => ∃ (A : Nat) (F1 : List Int), Hid (Fs f w0 wr) ∧ Hid (Fd wr f F1 ∧ F1.length = P.length) ∧ Hid (Bx wr f lb nb eb xb gb sb (.slice (some ⟨lg, lo, none⟩) m lc) A e) ∧ Hid (Wi (Tr.kds T) e A ∧ e - A ≤ e - a ∧ gm = e - A) ∧ Hid ((∀ H, Kr P T e p j A F1 H → Kr P T e p j a F H) ∧ gK P T e (kF (pks P) p j) a = gK P T e (kF (pks P) p j) A))
      case atStart => exact ⟨a, F, HFS, HFD, HBX, ⟨HWI.out.1, Nat.le_refl _, rfl⟩, ⟨fun _ h => h, rfl⟩⟩
      case round =>
        obtain ⟨A, F1, HF1, HD1, HX1, HW1, HK1⟩ := hrel
        have n0 := rcell HX1.out.n 0 _ rfl
        have n1 := Lib.frozen_of_heap HX1.out.n 0
        have e0 := rcell HX1.out.e 0 _ rfl
        by_cases hae : A < e
        · have g1 : decide ((A : Int) < (e : Int)) = true := by rw [decide_eq_true_eq]; omega
          have g2 : decide (A < e) = true := by rw [decide_eq_true_eq]; omega
          have HAE : Hid (A < e) := hae
          obtain ⟨q1, q2, q3, q4⟩ := HW1.out.1.next HFO.out.2 hae
          rw [Tr.kds_len] at q4
          have HQ : Hid (Wi (Tr.kds T) e (Tr.eA (Tr.kds T) A) ∧ A < Tr.eA (Tr.kds T) A ∧ Tr.eA (Tr.kds T) A ≤ e ∧ A < T.length) := ⟨q1, q2, q3, q4⟩
          have HSr : Hid (Sr wr sb f P cs T s vp vr vk vt ve) := HS.out.keep HF1.out
          have x0 := rcell HX1.out.x 0 _ rfl
          have s4 := rcell HSr.out.blk 4 _ rfl
          obtain ⟨eg, eo, ec, hve, heg, hec⟩ := end_cell HSr.out.he A q4
          rw [hve] at s4
          obtain ⟨E, hE⟩ : ∃ E, Tr.eA (Tr.kds T) A = E := ⟨_, rfl⟩
          have HE : Hid (Tr.eA (Tr.kds T) A = E) := hE
          rw [hE] at hec
          obtain ⟨tl, htl⟩ : ∃ tl, T.length = tl := ⟨_, rfl⟩
          rw [htl] at s4
          have g3 : (A : Int) < (tl : Int) := by omega
          have g4 : A < tl := by omega
          obtain ⟨W2, hW2⟩ : ∃ W2, W2 = wr.setCell ⟨nb, 0, none⟩ (.int .i64 (E : Int)) := ⟨_, rfl⟩
          have HX2 : Hid (Bx W2 f lb nb eb xb gb sb (.slice (some ⟨lg, lo, none⟩) m lc) E e) := by rw [hW2]; exact HX1.out.next E
          have HF2 : Hid (Fs f w0 W2) := by rw [hW2]; exact HF1.out.far HLN.out.2 _ _
          have HD2 : Hid (Fd W2 f F1) := by rw [hW2]; exact HD1.out.1.far (Ne.symm HX1.out.o.2.1)
          have HLC : Hid (W2.cell? ⟨lg, lo, none⟩ = some (.int .i64 (C : Int))) := HF2.out.cell HL0.out HLG.out
          have HPC : Hid (C < P.length) := by rw [← HC.out]; exact (pat_in HFO.out.1 HPL.out HJL.out).1
          have HFC : Hid (∀ (W9 : World), W9 = W2.drew → Calls Tryz.prog 21 #[.pointer (some ⟨sb, 0, none⟩), .int .i64 (C : Int), .int .i64 (A : Int)] W9 fun e w' => ∃ F', e = .returned (.bool (gN P T C A).isSome) ∧ Fs f W9 w' ∧ Fd w' f F' ∧ Nr P T C A F1 F') := fun W9 h9 => by
            subst h9
            have hb9 : Below W2.heap.size W2 W2.drew := Below.drew (Below.refl _ _)
            exact HFC0.out _ F1 C A (HS.out.keep (HF2.out.up hb9)) (HD2.out.up hb9) HD1.out.2 HPC.out HQ.out.2.2.2 (by have := HW1.out; have := HWI.out; have := HQ.out; omega)
          clear hae q1 q2 q3 q4 hve heg hE htl
          go_upto_region 6 with fail
          rw [← hW2]
          clear n0 n1 e0 x0 s4 hec hW2
          obtain ⟨GB, hGB⟩ : ∃ GB, (gN P T C A).isSome = GB := ⟨_, rfl⟩
          have HGB : Hid ((gN P T C A).isSome = GB) := hGB
          rw [hGB] at HFC
          clear hGB
          refine wp_region_noPanic ?_
          refine wp_region_held_drew (S := fun W => W.cell? ⟨xb, 0, none⟩ = some (.pointer (some ⟨sb, 0, none⟩)) ∧ W.cell? ⟨lb, 0, none⟩ = some (.slice (some ⟨lg, lo, none⟩) m lc) ∧ W.cell? ⟨lg, lo, none⟩ = some (.int .i64 (C : Int))) (by kernel_rfl) ⟨rcell HX2.out.x 0 _ rfl, rcell HX2.out.l 0 _ rfl, HLC.out⟩ (fun hHeld => ?_)
          refine wpAnyH_take (i := 0) (oi := { dst := _, op := _, type := _, pos := _, after := _, guard := _ }) (v := ?_) rfl (by kernel_rfl) (by kernel_rfl) (by kernel_rfl) (fun _ _ _ h => h) (Or.inl ⟨by rfl, ?_⟩) (by assumption) ?_
          rotate_left
          · intro W hSw
            (try dsimp only at hSw)
            obtain ⟨k0, k1, k2⟩ := hSw
            go_simp
            (try with_reducible rfl)
          try simp only [Act.put, List.setIfInBounds_toArray, List.set_cons_zero, List.set_cons_succ]
          refine wpAnyH_take (i := 1) (oi := { dst := _, op := _, type := _, pos := _, after := _, guard := _ }) (v := ?_) rfl (by kernel_rfl) (by kernel_rfl) (by kernel_rfl) (fun _ _ _ h => h) (Or.inl ⟨by rfl, ?_⟩) (by assumption) ?_
          rotate_left
          · intro W hSw
            (try dsimp only at hSw)
            obtain ⟨k0, k1, k2⟩ := hSw
            go_simp
            (try with_reducible rfl)
          try simp only [Act.put, List.setIfInBounds_toArray, List.set_cons_zero, List.set_cons_succ]
          refine wpAnyH_take (i := 2) (oi := { dst := _, op := _, type := _, pos := _, after := _, guard := _ }) (v := ?_) rfl (by kernel_rfl) (by kernel_rfl) (by kernel_rfl) (fun _ _ _ h => h) (Or.inl ⟨by rfl, ?_⟩) (by assumption) ?_
          rotate_left
          · intro W hSw
            (try dsimp only at hSw)
            go_simp
            (try with_reducible rfl)
          try simp only [Act.put, List.setIfInBounds_toArray, List.set_cons_zero, List.set_cons_succ]
          refine wpAnyH_take (i := 3) (oi := { dst := _, op := _, type := _, pos := _, after := _, guard := _ }) (v := ?_) rfl (by kernel_rfl) (by kernel_rfl) (by kernel_rfl) (fun _ _ _ h => h) (Or.inl ⟨by rfl, ?_⟩) (by assumption) ?_
          rotate_left
          · intro W hSw
            (try dsimp only at hSw)
            obtain ⟨k0, k1, k2⟩ := hSw
            go_simp
            (try with_reducible rfl)
          try simp only [Act.put, List.setIfInBounds_toArray, List.set_cons_zero, List.set_cons_succ]
          refine wpAnyH_take (i := 4) (oi := { dst := _, op := _, type := _, pos := _, after := _, guard := _ }) (v := ?_) rfl (by kernel_rfl) (by kernel_rfl) (by kernel_rfl) (fun _ _ _ h => h) (Or.inl ⟨by rfl, ?_⟩) (by assumption) ?_
          rotate_left
          · intro W hSw
            (try dsimp only at hSw)
            go_simp
            (try with_reducible rfl)
          try simp only [Act.put, List.setIfInBounds_toArray, List.set_cons_zero, List.set_cons_succ]
          refine wpAnyH_ready (rs := [5]) (by kernel_rfl) (by simp) ?_
          refine AllReadyH.cons (o := { dst := _, op := _, type := _, pos := _, after := _, guard := _ }) rfl (fun K hK => ?_) AllReadyH.nil
          go_simp
          refine Calls.mono (HFC.out _ rfl) ?_
          rintro e' w3 ⟨F3, rfl, hf3, hd3, hn3⟩
          have HF3 : Hid (Fs f W2 w3) := (Fs.bel (Below.drew (Below.refl _ _))).trans hf3
          have HD3 : Hid (Fd w3 f F3) := hd3
          have HN3 : Hid (Nr P T C A F1 F3) := hn3
          have HX3 : Hid (Bx w3 f lb nb eb xb gb sb (.slice (some ⟨lg, lo, none⟩) m lc) E e) := HX2.out.keep HF3.out
          have HC3 : Hid (w3.cell? ⟨lg, lo, none⟩ = some (.int .i64 (C : Int))) := HF3.out.cell HLC.out HLG.out
          clear hf3 hd3 hn3
          go_wp2_with fail
          refine hK.out _ _ ?_ (fun hHeld => ?_)
          · first | exact trivial | (exact ⟨rcell HX3.out.x 0 _ rfl, rcell HX3.out.l 0 _ rfl, HC3.out⟩)
          clear hK K
          try simp only [Act.put, List.setIfInBounds_toArray, List.set_cons_zero, List.set_cons_succ]
          refine wpAnyH_done (by kernel_rfl) ?_ _
          refine NoPanic.normal ?_
          clear hHeld
          have HL3 : Hid (F3.length = P.length) := by show _ = _; rw [← HD1.out.2]; exact HN3.out.1.1
          have HF4 : Hid (Fs f w0 w3) := HF2.out.trans HF3.out
          cases GB with
          | false =>
            have HNO : Hid (gN P T C A = none) := by
              have h9 := HGB.out
              cases hq : gN P T C A with
              | none => exact rfl
              | some l => rw [hq] at h9; cases h9
            have HK3 : Hid ((∀ H, Kr P T e p j E F3 H → Kr P T e p j a F H) ∧ gK P T e (kF (pks P) p j) a = gK P T e (kF (pks P) p j) E) := by
              have h1 := HN3.out
              have h2 := HNO.out
              rw [← HC.out] at h1 h2
              rw [← HE.out]
              exact ⟨fun H hH => HK1.out.1 H (Kr.miss HFO.out.1 HFO.out.2 HPL.out HJL.out HW1.out.1 HAE.out h1 h2 hH), HK1.out.2.trans (gK_misses HFO.out.2 HJL.out HW1.out.1 HAE.out h2)⟩
            go_wp2_with fail
            go_roundg (e - E)
            case measure => have := HW1.out; have := HQ.out; have := HE.out; have := HAE.out; omega
            case rel => exact ⟨E, F3, HF4, ⟨HD3.out, HL3.out⟩, HX3, ⟨by rw [← HE.out]; exact HQ.out.1, by have := HW1.out; have := HQ.out; have := HE.out; omega, rfl⟩, HK3⟩
          | true =>
            have l0 := rcell HX3.out.l 0 _ rfl
            have l1 := Lib.frozen_of_heap HX3.out.l 0
            obtain ⟨ad, had⟩ : ∃ ad : Option Addr, (if lc = 1 then some ⟨lg, lo, none⟩ else some ⟨lg, lo + 1, none⟩) = ad := ⟨_, rfl⟩
            have HAD : Hid ((if lc = 1 then some (⟨lg, lo, none⟩ : Addr) else some ⟨lg, lo + 1, none⟩) = ad) := had
            have HM9 : Hid (m - 1 = m1) := by have := HM.out; show _ = _; omega
            clear had
            go_upto_region 8 with fail
            rw [HAD.out, HM9.out]
            obtain ⟨W4, hW4⟩ : ∃ W4, W4 = w3.setCell ⟨lb, 0, none⟩ (.slice ad m1 (lc - 1)) := ⟨_, rfl⟩
            rw [← hW4]
            have HX4 : Hid (Bx W4 f lb nb eb xb gb sb (.slice ad m1 (lc - 1)) E e) := by rw [hW4]; exact HX3.out.left _
            have HF5 : Hid (Fs f w0 W4) := by rw [hW4]; exact HF4.out.far HLN.out.1 _ _
            have HD4 : Hid (Fd W4 f F3) := by rw [hW4]; exact HD3.out.far (Ne.symm HX3.out.o.1)
            have HLV : Hid (RwN f w0 (.slice ad m1 (lc - 1)) (Tr.kA (pks P) p - (j + 1)) (iC ((Tr.kl (pks P) p (Tr.kA (pks P) p)).drop (j + 1)))) := by
              have h9 := HTL.out
              rw [HAD.out, List.drop_drop] at h9
              have h8 : Tr.kA (pks P) p - (j + 1) = m1 := by have := HM1.out; omega
              rw [h8]
              exact h9
            have HREC : Hid _ := HIH.out W4 F3 (j + 1) E _ HF5.out HD4.out HL3.out HX4.out HLV.out HJL.out (by rw [← HE.out]; exact HQ.out.1) (by have := HW1.out; have := HQ.out; have := HE.out; have := HWI.out; have := HAE.out; omega) (by have := HW1.out; have := HQ.out; have := HE.out; have := HWI.out; omega)
            have g0 := rcell HX4.out.g 0 _ rfl
            obtain ⟨QB, hQB⟩ : ∃ QB, (gK P T e (kF (pks P) p (j + 1)) E).isSome = QB := ⟨_, rfl⟩
            have HQB : Hid ((gK P T e (kF (pks P) p (j + 1)) E).isSome = QB) := hQB
            rw [hQB] at HREC
            clear hW4 l0 l1 hQB
            go_wp2_with (go_at_call 54; refine Calls.mono HREC.out ?_; rintro e' w6 ⟨F6, rfl, hf6, hd6, hk6⟩; have HF6 : Hid (Fs f w0 w6) := hf6; have HD6 : Hid (Fd w6 f F6) := hd6; have HK6 : Hid (Kr P T e p (j + 1) E F3 F6) := hk6; clear hf6 hd6 hk6)
            go_ret
            have h1 := HN3.out
            have h2 := HGB.out
            have h3 := HK6.out
            have h4 := HQB.out
            rw [← HC.out] at h1 h2
            rw [← HE.out] at h3 h4
            obtain ⟨r1, r2⟩ := Kr.hit HFO.out.1 HFO.out.2 HPL.out HJL.out HW1.out.1 HAE.out h1 h2 h3
            exact ⟨F6, by rw [← HRB.out, HK1.out.2, r2, h4]; rfl, HF6.out, HD6.out, HK1.out.1 F6 r1⟩
        · have g1 : decide ((A : Int) < (e : Int)) = false := by rw [decide_eq_false_iff_not]; omega
          have g2 : decide (A < e) = false := by rw [decide_eq_false_iff_not]; omega
          obtain ⟨r1, r2⟩ := Kr.out (P := P) (T := T) HJL.out hae F1
          have HRR : Hid (RB = false) := by rw [← HRB.out, HK1.out.2]; exact r2
          have HKK : Hid (Kr P T e p j a F F1) := HK1.out.1 F1 r1
          clear r1 r2 hae
          go_wp2_with fail
          go_ret
          exact ⟨F1, by rw [HRR.out]; rfl, HF1.out, HD1.out.1, HKK.out⟩
    · have hje : j = Tr.kA (pks P) p := by omega
      obtain ⟨r1, r2⟩ := Kr.nil (P := P) (T := T) e p a F
      rw [← hje] at r1 r2
      have HRR : Hid (RB = true) := by rw [← HRB.out]; exact r2
      have HKK : Hid (Kr P T e p j a F F) := r1
      have h0 : Tr.kA (pks P) p - j = 0 := by omega
      rw [h0] at hlv
      obtain ⟨la, lc, hlve⟩ := hlv.form
      subst hlve
      clear hlv hje r1 r2 h0 hjg hfs hfd hfl hbx hj hwi hk hn hP hT hp hlb hnb
      go_enter Tryz.func54, Tryz.ntmps54
      go_wp2_with fail
      go_ret
      exact ⟨F, by rw [HRR.out]; rfl, HFS.out, HFD.out.1, HKK.out⟩
end Go.Proofs.YtcmhbcfgikmblabGreatDoor.Qy
