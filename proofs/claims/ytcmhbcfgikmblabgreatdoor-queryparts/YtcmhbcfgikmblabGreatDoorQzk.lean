import Derived.Test.YtcmhbcfgikmblabGreatDoorQye
import Derived.Laws.EntriesVeiled
namespace Go.Proofs.YtcmhbcfgikmblabGreatDoor.Qy
open Go.RowKit Go.Maps

theorem RwN.one {f : Nat} {W : World} {v : Value} {n : Nat} {cs : List Value} (h : RwN f W v n cs) (hn : 0 < n) : ∃ g o cap, v = .slice (some ⟨g, o, none⟩) n cap ∧ g ≠ f ∧ n ≤ cap ∧ ∀ j u, cs[j]? = some u → W.cell? ⟨g, o + j, none⟩ = some u := by
  obtain ⟨a, g, o, cap, e, h1, h2, h3, h4⟩ := h
  exact ⟨g, o, cap, by rw [e, h2 hn], h3, h1, h4⟩
theorem RwN.form {f : Nat} {W : World} {v : Value} {n : Nat} {cs : List Value} (h : RwN f W v n cs) : ∃ a cap, v = .slice a n cap := by
  obtain ⟨a, g, o, cap, e, _⟩ := h
  exact ⟨a, cap, e⟩
theorem RwN.tail {f : Nat} {W : World} {g o n cap : Nat} {l : List Int} (h : RwN f W (.slice (some ⟨g, o, none⟩) (n + 1) cap) (n + 1) (iC l)) : RwN f W (.slice (if cap = 1 then some ⟨g, o, none⟩ else some ⟨g, o + 1, none⟩) n (cap - 1)) n (iC (l.drop 1)) := by
  obtain ⟨a, g', o', cap', e, h1, h2, h3, h4⟩ := h
  obtain ⟨e1, -, e3⟩ := Value.slice.inj e
  have h5 := h2 (by omega)
  rw [h5] at e1
  have e4 := Option.some.inj e1
  injection e4 with e5 e6
  subst e5 e6 e3
  refine ⟨_, g, o + 1, cap - 1, rfl, by omega, fun hn => by rw [if_neg (by omega)], h3, fun j u hu => ?_⟩
  rw [Nat.add_assoc]
  refine h4 _ _ ?_
  unfold iC at hu ⊢
  rw [List.map_drop, List.getElem?_drop] at hu
  exact hu
theorem kl_drop (P : List Pn) (p j : Nat) (hj : j < Tr.kA (pks P) p) : (iC ((Tr.kl (pks P) p (Tr.kA (pks P) p)).drop j))[0]? = some (.int .i64 ((Tr.wA (pks P) (p + 1) j : Nat) : Int)) := by
  have hl := Tr.kl_len (pks P) p (Tr.kA (pks P) p)
  have h1 := iC_get ((Tr.kl (pks P) p (Tr.kA (pks P) p)).drop j) 0 (by rw [List.length_drop, hl]; omega)
  rw [h1]
  have h2 := Tr.kl_get (pks P) p (Tr.kA (pks P) p) j hj
  rw [List.getD_eq_getElem?_getD, List.getElem?_drop, Nat.add_zero, ← List.getD_eq_getElem?_getD, h2]
set_option maxRecDepth 100000 in
set_option maxHeartbeats 8000000 in
theorem goOn_any {P : List Pn} {cs : List Cd} {T : List Tr.Nd} {s : ByteArray} {sb f : Nat} {vp vr vk vt ve : Value} {n : Nat} (hP : Tr.Fo (pks P)) (hT : Tr.Fo (Tr.kds T)) (hF : FC P cs T s sb f vp vr vk vt ve n) {w0 : World} (hS : Sr w0 sb f P cs T s vp vr vk vt ve) {lb nb eb xb gb p e : Nat} (hp : p < P.length) (hlb : w0.heap.size ≤ lb) (hnb : w0.heap.size ≤ nb) :
    ∀ (k : Nat) (W : World) (F : List Int) (j a : Nat) (lv : Value), Fs f w0 W → Fd W f F → F.length = P.length → Bx W f lb nb eb xb gb sb lv a e → RwN f w0 lv (Tr.kA (pks P) p - j) (iC ((Tr.kl (pks P) p (Tr.kA (pks P) p)).drop j)) → j ≤ Tr.kA (pks P) p → Wi (Tr.kds T) e a → e - a < k → e - a ≤ n →
    Calls Tryz.prog 54 #[.pointer (some ⟨lb, 0, none⟩), .pointer (some ⟨nb, 0, none⟩), .pointer (some ⟨eb, 0, none⟩), .pointer (some ⟨xb, 0, none⟩), .pointer (some ⟨gb, 0, none⟩)] W fun e' w' => ∃ F', e' = .returned (.bool (gK P T e (kF (pks P) p j) a).isSome) ∧ Fs f w0 w' ∧ Fd w' f F' ∧ Kr P T e p j a F F' := by
  intro k
  induction k with
  | zero => intro W F j a lv _ _ _ _ _ _ _ hk; omega
  | succ k ih =>
    intro W F j a lv hfs hfd hfl hbx hlv hj hwi hk hn
    have HFO : Hid (Tr.Fo (pks P) ∧ Tr.Fo (Tr.kds T)) := ⟨hP, hT⟩
    have HS : Hid (Sr w0 sb f P cs T s vp vr vk vt ve) := hS
    have HPL : Hid (p < P.length) := hp
    have HLN : Hid (w0.heap.size ≤ lb ∧ w0.heap.size ≤ nb) := ⟨hlb, hnb⟩
    have HFS : Hid (Fs f w0 W) := hfs
    have HFD : Hid (Fd W f F ∧ F.length = P.length) := ⟨hfd, hfl⟩
    have HBX : Hid (Bx W f lb nb eb xb gb sb lv a e) := hbx
    have HWI : Hid (Wi (Tr.kds T) e a ∧ e - a < k + 1 ∧ e - a ≤ n) := ⟨hwi, hk, hn⟩
    have HIH : Hid (∀ (W : World) (F : List Int) (j a : Nat) (lv : Value), Fs f w0 W → Fd W f F → F.length = P.length → Bx W f lb nb eb xb gb sb lv a e → RwN f w0 lv (Tr.kA (pks P) p - j) (iC ((Tr.kl (pks P) p (Tr.kA (pks P) p)).drop j)) → j ≤ Tr.kA (pks P) p → Wi (Tr.kds T) e a → e - a < k → e - a ≤ n →
      Calls Tryz.prog 54 #[.pointer (some ⟨lb, 0, none⟩), .pointer (some ⟨nb, 0, none⟩), .pointer (some ⟨eb, 0, none⟩), .pointer (some ⟨xb, 0, none⟩), .pointer (some ⟨gb, 0, none⟩)] W fun e' w' => ∃ F', e' = .returned (.bool (gK P T e (kF (pks P) p j) a).isSome) ∧ Fs f w0 w' ∧ Fd w' f F' ∧ Kr P T e p j a F F') := ih
    have HFC0 : Hid (FC P cs T s sb f vp vr vk vt ve n) := hF
    have c0 := rcell hbx.l 0 _ rfl
    obtain ⟨RB, hRB⟩ : ∃ RB, (gK P T e (kF (pks P) p j) a).isSome = RB := ⟨_, rfl⟩
    have HRB : Hid ((gK P T e (kF (pks P) p j) a).isSome = RB) := hRB
    rw [hRB]
    clear ih hF hS hRB
    rcases Nat.lt_or_ge j (Tr.kA (pks P) p) with hjl | hjg
    · obtain ⟨m1, hm1⟩ : ∃ m1, Tr.kA (pks P) p - j = m1 + 1 := ⟨Tr.kA (pks P) p - j - 1, by omega⟩
      have HM1 : Hid (Tr.kA (pks P) p - j = m1 + 1) := hm1
      rw [hm1] at hlv
      obtain ⟨lg, lo, lc, hlve, hlg, hlc, hcel⟩ := hlv.one (by omega)
      subst hlve
      have HTL : Hid _ := hlv.tail
      have HLG : Hid (lg ≠ f) := hlg
      have HJL : Hid (j < Tr.kA (pks P) p) := hjl
      have HL0 : Hid (w0.cell? ⟨lg, lo, none⟩ = some (.int .i64 ((Tr.wA (pks P) (p + 1) j : Nat) : Int))) := hcel 0 _ (kl_drop P p j hjl)
      obtain ⟨C, hC⟩ : ∃ C, Tr.wA (pks P) (p + 1) j = C := ⟨_, rfl⟩
      have HC : Hid (Tr.wA (pks P) (p + 1) j = C) := hC
      rw [hC] at HL0
      obtain ⟨m, hm⟩ : ∃ m, m1 + 1 = m := ⟨_, rfl⟩
      have HM : Hid (m1 + 1 = m) := hm
      rw [hm] at c0 HBX hlc
      have d0 : (m == 0) = false := by rw [beq_eq_false_iff_ne]; omega
      have d1 : ((m : Int) == 0) = false := by rw [beq_eq_false_iff_ne]; omega
      have d2 : (0 : Int) < (m : Int) := by omega
      have d3 : 0 < m := by omega
      have d4 : (1 : Int) ≤ (m : Int) := by omega
      have d5 : 1 ≤ m := by omega
      clear hlv hcel hm1 hjl hC hm hfs hfd hfl hbx hj hwi hk hn hP hT hp hlb hnb hlg
      go_enter Tryz.func54, Tryz.ntmps54
      go_upto_region 3 with fail
      clear c0
      go_loopg [] (e - a) (fun gm wr => ∃ (A : Nat) (F1 : List Int), Hid (Fs f w0 wr) ∧ Hid (Fd wr f F1 ∧ F1.length = P.length) ∧ Hid (Bx wr f lb nb eb xb gb sb (.slice (some ⟨lg, lo, none⟩) m lc) A e) ∧ Hid (Wi (Tr.kds T) e A ∧ e - A ≤ e - a ∧ gm = e - A) ∧ Hid ((∀ H, Kr P T e p j A F1 H → Kr P T e p j a F H) ∧ gK P T e (kF (pks P) p j) a = gK P T e (kF (pks P) p j) A))
      case atStart => exact ⟨a, F, HFS, HFD, HBX, ⟨HWI.out.1, Nat.le_refl _, rfl⟩, ⟨fun _ h => h, rfl⟩⟩
      case round =>
        obtain ⟨A, F1, HF1, HD1, HX1, HW1, HK1⟩ := hrel
        have n0 := rcell HX1.out.n 0 _ rfl
        have n1 := Lib.frozen_of_heap HX1.out.n 0
        have e0 := rcell HX1.out.e 0 _ rfl
        by_cases hae : A < e
        · have g1 : decide ((A : Int) < (e : Int)) = true := by rw [decide_eq_true_eq]; omega
          have g2 : decide (A < e) = true := by rw [decide_eq_true_eq]; omega
          have HAE : Hid (A < e) := hae
          obtain ⟨q1, q2, q3, q4⟩ := HW1.out.1.next HFO.out.2 hae
          rw [Tr.kds_len] at q4
          have HQ : Hid (Wi (Tr.kds T) e (Tr.eA (Tr.kds T) A) ∧ A < Tr.eA (Tr.kds T) A ∧ Tr.eA (Tr.kds T) A ≤ e ∧ A < T.length) := ⟨q1, q2, q3, q4⟩
          have HSr : Hid (Sr wr sb f P cs T s vp vr vk vt ve) := HS.out.keep HF1.out
          have x0 := rcell HX1.out.x 0 _ rfl
          have s4 := rcell HSr.out.blk 4 _ rfl
          obtain ⟨eg, eo, ec, hve, heg, hec⟩ := end_cell HSr.out.he A q4
          rw [hve] at s4
          obtain ⟨E, hE⟩ : ∃ E, Tr.eA (Tr.kds T) A = E := ⟨_, rfl⟩
          have HE : Hid (Tr.eA (Tr.kds T) A = E) := hE
          rw [hE] at hec
          obtain ⟨tl, htl⟩ : ∃ tl, T.length = tl := ⟨_, rfl⟩
          rw [htl] at s4
          have g3 : (A : Int) < (tl : Int) := by omega
          have g4 : A < tl := by omega
          obtain ⟨W2, hW2⟩ : ∃ W2, W2 = wr.setCell ⟨nb, 0, none⟩ (.int .i64 (E : Int)) := ⟨_, rfl⟩
          have HX2 : Hid (Bx W2 f lb nb eb xb gb sb (.slice (some ⟨lg, lo, none⟩) m lc) E e) := by rw [hW2]; exact HX1.out.next E
          have HF2 : Hid (Fs f w0 W2) := by rw [hW2]; exact HF1.out.far HLN.out.2 _ _
          have HD2 : Hid (Fd W2 f F1) := by rw [hW2]; exact HD1.out.1.far (Ne.symm HX1.out.o.2.1)
          have HLC : Hid (W2.cell? ⟨lg, lo, none⟩ = some (.int .i64 (C : Int))) := HF2.out.cell HL0.out HLG.out
          have HPC : Hid (C < P.length) := by rw [← HC.out]; exact (pat_in HFO.out.1 HPL.out HJL.out).1
          have HFC : Hid (∀ (W9 : World), W9 = W2.drew → Calls Tryz.prog 21 #[.pointer (some ⟨sb, 0, none⟩), .int .i64 (C : Int), .int .i64 (A : Int)] W9 fun e w' => ∃ F', e = .returned (.bool (gN P T C A).isSome) ∧ Fs f W9 w' ∧ Fd w' f F' ∧ Nr P T C A F1 F') := fun W9 h9 => by
            subst h9
            have hb9 : Below W2.heap.size W2 W2.drew := Below.drew (Below.refl _ _)
            exact HFC0.out _ F1 C A (HS.out.keep (HF2.out.up hb9)) (HD2.out.up hb9) HD1.out.2 HPC.out HQ.out.2.2.2 (by have := HW1.out; have := HWI.out; have := HQ.out; omega)
          clear hae q1 q2 q3 q4 hve heg hE htl
          go_upto_region 6 with fail
          rw [← hW2]
          clear n0 n1 e0 x0 s4 hec hW2
          obtain ⟨GB, hGB⟩ : ∃ GB, (gN P T C A).isSome = GB := ⟨_, rfl⟩
          have HGB : Hid ((gN P T C A).isSome = GB) := hGB
          rw [hGB] at HFC
          clear hGB
          refine wp_region_noPanic ?_
          refine wp_region_held_drew (S := fun W => W.cell? ⟨xb, 0, none⟩ = some (.pointer (some ⟨sb, 0, none⟩)) ∧ W.cell? ⟨lb, 0, none⟩ = some (.slice (some ⟨lg, lo, none⟩) m lc) ∧ W.cell? ⟨lg, lo, none⟩ = some (.int .i64 (C : Int))) (by kernel_rfl) ⟨rcell HX2.out.x 0 _ rfl, rcell HX2.out.l 0 _ rfl, HLC.out⟩ (fun hHeld => ?_)
          refine wpAnyH_take (i := 0) (oi := { dst := _, op := _, type := _, pos := _, after := _, guard := _ }) (v := ?_) rfl (by kernel_rfl) (by kernel_rfl) (by kernel_rfl) (fun _ _ _ h => h) (Or.inl ⟨by rfl, ?_⟩) (by assumption) ?_
          rotate_left
          · intro W hSw
            (try dsimp only at hSw)
            obtain ⟨k0, k1, k2⟩ := hSw
            go_simp
            (try with_reducible rfl)
          try simp only [Act.put, List.setIfInBounds_toArray, List.set_cons_zero, List.set_cons_succ]
          refine wpAnyH_take (i := 1) (oi := { dst := _, op := _, type := _, pos := _, after := _, guard := _ }) (v := ?_) rfl (by kernel_rfl) (by kernel_rfl) (by kernel_rfl) (fun _ _ _ h => h) (Or.inl ⟨by rfl, ?_⟩) (by assumption) ?_
          rotate_left
          · intro W hSw
            (try dsimp only at hSw)
            obtain ⟨k0, k1, k2⟩ := hSw
            go_simp
            (try with_reducible rfl)
          try simp only [Act.put, List.setIfInBounds_toArray, List.set_cons_zero, List.set_cons_succ]
          refine wpAnyH_take (i := 2) (oi := { dst := _, op := _, type := _, pos := _, after := _, guard := _ }) (v := ?_) rfl (by kernel_rfl) (by kernel_rfl) (by kernel_rfl) (fun _ _ _ h => h) (Or.inl ⟨by rfl, ?_⟩) (by assumption) ?_
          rotate_left
          · intro W hSw
            (try dsimp only at hSw)
            go_simp
            (try with_reducible rfl)
          try simp only [Act.put, List.setIfInBounds_toArray, List.set_cons_zero, List.set_cons_succ]
          refine wpAnyH_take (i := 3) (oi := { dst := _, op := _, type := _, pos := _, after := _, guard := _ }) (v := ?_) rfl (by kernel_rfl) (by kernel_rfl) (by kernel_rfl) (fun _ _ _ h => h) (Or.inl ⟨by rfl, ?_⟩) (by assumption) ?_
          rotate_left
          · intro W hSw
            (try dsimp only at hSw)
            obtain ⟨k0, k1, k2⟩ := hSw
            go_simp
            (try with_reducible rfl)
          try simp only [Act.put, List.setIfInBounds_toArray, List.set_cons_zero, List.set_cons_succ]
          refine wpAnyH_take (i := 4) (oi := { dst := _, op := _, type := _, pos := _, after := _, guard := _ }) (v := ?_) rfl (by kernel_rfl) (by kernel_rfl) (by kernel_rfl) (fun _ _ _ h => h) (Or.inl ⟨by rfl, ?_⟩) (by assumption) ?_
          rotate_left
          · intro W hSw
            (try dsimp only at hSw)
            go_simp
            (try with_reducible rfl)
          try simp only [Act.put, List.setIfInBounds_toArray, List.set_cons_zero, List.set_cons_succ]
          refine wpAnyH_ready (rs := [5]) (by kernel_rfl) (by simp) ?_
          refine AllReadyH.cons (o := { dst := _, op := _, type := _, pos := _, after := _, guard := _ }) rfl (fun K hK => ?_) AllReadyH.nil
          go_simp
          refine Calls.mono (HFC.out _ rfl) ?_
          rintro e' w3 ⟨F3, rfl, hf3, hd3, hn3⟩
          have HF3 : Hid (Fs f W2 w3) := (Fs.bel (Below.drew (Below.refl _ _))).trans hf3
          have HD3 : Hid (Fd w3 f F3) := hd3
          have HN3 : Hid (Nr P T C A F1 F3) := hn3
          have HX3 : Hid (Bx w3 f lb nb eb xb gb sb (.slice (some ⟨lg, lo, none⟩) m lc) E e) := HX2.out.keep HF3.out
          have HC3 : Hid (w3.cell? ⟨lg, lo, none⟩ = some (.int .i64 (C : Int))) := HF3.out.cell HLC.out HLG.out
          clear hf3 hd3 hn3
          go_wp2_with fail
          refine hK.out _ _ ?_ (fun hHeld => ?_)
          · first | exact trivial | (exact ⟨rcell HX3.out.x 0 _ rfl, rcell HX3.out.l 0 _ rfl, HC3.out⟩)
          clear hK K
          try simp only [Act.put, List.setIfInBounds_toArray, List.set_cons_zero, List.set_cons_succ]
          refine wpAnyH_done (by kernel_rfl) ?_ _
          refine NoPanic.normal ?_
          clear hHeld
          have HL3 : Hid (F3.length = P.length) := by show _ = _; rw [← HD1.out.2]; exact HN3.out.1.1
          have HF4 : Hid (Fs f w0 w3) := HF2.out.trans HF3.out
          cases GB with
          | false =>
            have HNO : Hid (gN P T C A = none) := by
              have h9 := HGB.out
              cases hq : gN P T C A with
              | none => exact rfl
              | some l => rw [hq] at h9; cases h9
            have HK3 : Hid ((∀ H, Kr P T e p j E F3 H → Kr P T e p j a F H) ∧ gK P T e (kF (pks P) p j) a = gK P T e (kF (pks P) p j) E) := by
              have h1 := HN3.out
              have h2 := HNO.out
              rw [← HC.out] at h1 h2
              rw [← HE.out]
              exact ⟨fun H hH => HK1.out.1 H (Kr.miss HFO.out.1 HFO.out.2 HPL.out HJL.out HW1.out.1 HAE.out h1 h2 hH), HK1.out.2.trans (gK_misses HFO.out.2 HJL.out HW1.out.1 HAE.out h2)⟩
            go_wp2_with fail
            go_roundg (e - E)
            case measure => have := HW1.out; have := HQ.out; have := HE.out; have := HAE.out; omega
            case rel => exact ⟨E, F3, HF4, ⟨HD3.out, HL3.out⟩, HX3, ⟨by rw [← HE.out]; exact HQ.out.1, by have := HW1.out; have := HQ.out; have := HE.out; omega, rfl⟩, HK3⟩
          | true =>
            have l0 := rcell HX3.out.l 0 _ rfl
            have l1 := Lib.frozen_of_heap HX3.out.l 0
            obtain ⟨ad, had⟩ : ∃ ad : Option Addr, (if lc = 1 then some ⟨lg, lo, none⟩ else some ⟨lg, lo + 1, none⟩) = ad := ⟨_, rfl⟩
            have HAD : Hid ((if lc = 1 then some (⟨lg, lo, none⟩ : Addr) else some ⟨lg, lo + 1, none⟩) = ad) := had
            have HM9 : Hid (m - 1 = m1) := by have := HM.out; show _ = _; omega
            clear had
            go_upto_region 8 with fail
            rw [HAD.out, HM9.out]
            obtain ⟨W4, hW4⟩ : ∃ W4, W4 = w3.setCell ⟨lb, 0, none⟩ (.slice ad m1 (lc - 1)) := ⟨_, rfl⟩
            rw [← hW4]
            have HX4 : Hid (Bx W4 f lb nb eb xb gb sb (.slice ad m1 (lc - 1)) E e) := by rw [hW4]; exact HX3.out.left _
            have HF5 : Hid (Fs f w0 W4) := by rw [hW4]; exact HF4.out.far HLN.out.1 _ _
            have HD4 : Hid (Fd W4 f F3) := by rw [hW4]; exact HD3.out.far (Ne.symm HX3.out.o.1)
            have HLV : Hid (RwN f w0 (.slice ad m1 (lc - 1)) (Tr.kA (pks P) p - (j + 1)) (iC ((Tr.kl (pks P) p (Tr.kA (pks P) p)).drop (j + 1)))) := by
              have h9 := HTL.out
              rw [HAD.out, List.drop_drop] at h9
              have h8 : Tr.kA (pks P) p - (j + 1) = m1 := by have := HM1.out; omega
              rw [h8]
              exact h9
            have HREC : Hid _ := HIH.out W4 F3 (j + 1) E _ HF5.out HD4.out HL3.out HX4.out HLV.out HJL.out (by rw [← HE.out]; exact HQ.out.1) (by have := HW1.out; have := HQ.out; have := HE.out; have := HWI.out; have := HAE.out; omega) (by have := HW1.out; have := HQ.out; have := HE.out; have := HWI.out; omega)
            have g0 := rcell HX4.out.g 0 _ rfl
            obtain ⟨QB, hQB⟩ : ∃ QB, (gK P T e (kF (pks P) p (j + 1)) E).isSome = QB := ⟨_, rfl⟩
            have HQB : Hid ((gK P T e (kF (pks P) p (j + 1)) E).isSome = QB) := hQB
            rw [hQB] at HREC
            clear hW4 l0 l1 hQB
            go_wp2_with (go_at_call 54; refine Calls.mono HREC.out ?_; rintro e' w6 ⟨F6, rfl, hf6, hd6, hk6⟩; have HF6 : Hid (Fs f w0 w6) := hf6; have HD6 : Hid (Fd w6 f F6) := hd6; have HK6 : Hid (Kr P T e p (j + 1) E F3 F6) := hk6; clear hf6 hd6 hk6)
            go_ret
            have h1 := HN3.out
            have h2 := HGB.out
            have h3 := HK6.out
            have h4 := HQB.out
            rw [← HC.out] at h1 h2
            rw [← HE.out] at h3 h4
            obtain ⟨r1, r2⟩ := Kr.hit HFO.out.1 HFO.out.2 HPL.out HJL.out HW1.out.1 HAE.out h1 h2 h3
            exact ⟨F6, by rw [← HRB.out, HK1.out.2, r2, h4]; rfl, HF6.out, HD6.out, HK1.out.1 F6 r1⟩
        · have g1 : decide ((A : Int) < (e : Int)) = false := by rw [decide_eq_false_iff_not]; omega
          have g2 : decide (A < e) = false := by rw [decide_eq_false_iff_not]; omega
          obtain ⟨r1, r2⟩ := Kr.out (P := P) (T := T) HJL.out hae F1
          have HRR : Hid (RB = false) := by rw [← HRB.out, HK1.out.2]; exact r2
          have HKK : Hid (Kr P T e p j a F F1) := HK1.out.1 F1 r1
          clear r1 r2 hae
          go_wp2_with fail
          go_ret
          exact ⟨F1, by rw [HRR.out]; rfl, HF1.out, HD1.out.1, HKK.out⟩
    · have hje : j = Tr.kA (pks P) p := by omega
      obtain ⟨r1, r2⟩ := Kr.nil (P := P) (T := T) e p a F
      rw [← hje] at r1 r2
      have HRR : Hid (RB = true) := by rw [← HRB.out]; exact r2
      have HKK : Hid (Kr P T e p j a F F) := r1
      have h0 : Tr.kA (pks P) p - j = 0 := by omega
      rw [h0] at hlv
      obtain ⟨la, lc, hlve⟩ := hlv.form
      subst hlve
      clear hlv hje r1 r2 h0 hjg hfs hfd hfl hbx hj hwi hk hn hP hT hp hlb hnb
      go_enter Tryz.func54, Tryz.ntmps54
      go_wp2_with fail
      go_ret
      exact ⟨F, by rw [HRR.out]; rfl, HFS.out, HFD.out.1, HKK.out⟩
end Go.Proofs.YtcmhbcfgikmblabGreatDoor.Qy
namespace Go.Proofs.YtcmhbcfgikmblabGreatDoor.Qy
open Go.RowKit Go.Maps

theorem part_at {W : World} {sb f : Nat} {P : List Pn} {cs : List Cd} {T : List Tr.Nd} {s : ByteArray} {vp vr vk vt ve : Value} (h : Sr W sb f P cs T s vp vr vk vt ve) (p : Nat) (hp : p < P.length) : ∃ g o cap x, vr = .slice (some ⟨g, o, none⟩) P.length cap ∧ g ≠ f ∧ W.cell? ⟨g, o + p, none⟩ = some x ∧ RwN f W x (Tr.kA (pks P) p) (iC (Tr.kl (pks P) p (Tr.kA (pks P) p))) := by
  obtain ⟨vs, h1, h2, h3⟩ := h.hr
  obtain ⟨g, o, cap, e, hn, hc⟩ := h2.place (by omega)
  have hx : vs[p]? = some (vs[p]'(by omega)) := List.getElem?_eq_getElem _
  exact ⟨g, o, cap, _, e, hn, hc p _ hx, h3 p _ hx⟩
set_option maxRecDepth 100000 in
set_option maxHeartbeats 8000000 in
theorem kidsFit_any {P : List Pn} {cs : List Cd} {T : List Tr.Nd} {s : ByteArray} {sb f : Nat} {vp vr vk vt ve : Value} {n : Nat} (hP : Tr.Fo (pks P)) (hT : Tr.Fo (Tr.kds T)) (hz : Tr.Sm T) (hF : FC P cs T s sb f vp vr vk vt ve n) {w : World} (hS : Sr w sb f P cs T s vp vr vk vt ve) {F : List Int} (hd : Fd w f F) (hl : F.length = P.length) (p v : Nat) (hp : p < P.length) (hv : v < T.length) (hn : Tr.eA (Tr.kds T) v - v ≤ n + 1) :
    Calls Tryz.prog 39 #[.pointer (some ⟨sb, 0, none⟩), .int .i64 (p : Int), .int .i64 (v : Int)] w fun e w' => ∃ F', e = .returned (.bool (gK P T (Tr.eA (Tr.kds T) v) (kF (pks P) p 0) (v + 1)).isSome) ∧ Fs f w w' ∧ Fd w' f F' ∧ Kr P T (Tr.eA (Tr.kds T) v) p 0 (v + 1) F F' := by
  have HS : Hid (Sr w sb f P cs T s vp vr vk vt ve) := hS
  have HFD : Hid (Fd w f F ∧ F.length = P.length) := ⟨hd, hl⟩
  have HEL : Hid (v < Tr.eA (Tr.kds T) v ∧ Tr.eA (Tr.kds T) v - v ≤ n + 1) := ⟨(hT.elt v (by rw [Tr.kds_len]; exact hv)).1, hn⟩
  have HWI : Hid (Wi (Tr.kds T) (Tr.eA (Tr.kds T) v) (v + 1)) := Wi.first v (by rw [Tr.kds_len]; exact hv)
  have HGO : Hid (∀ (lb nb eb xb gb : Nat) (W : World) (lv : Value), w.heap.size ≤ lb → w.heap.size ≤ nb → Fs f w W → Fd W f F → Bx W f lb nb eb xb gb sb lv (v + 1) (Tr.eA (Tr.kds T) v) → RwN f w lv (Tr.kA (pks P) p) (iC (Tr.kl (pks P) p (Tr.kA (pks P) p))) → Calls Tryz.prog 54 #[.pointer (some ⟨lb, 0, none⟩), .pointer (some ⟨nb, 0, none⟩), .pointer (some ⟨eb, 0, none⟩), .pointer (some ⟨xb, 0, none⟩), .pointer (some ⟨gb, 0, none⟩)] W fun e' w' => ∃ F', e' = .returned (.bool (gK P T (Tr.eA (Tr.kds T) v) (kF (pks P) p 0) (v + 1)).isSome) ∧ Fs f w w' ∧ Fd w' f F' ∧ Kr P T (Tr.eA (Tr.kds T) v) p 0 (v + 1) F F') := fun lb nb eb xb gb W lv h1 h2 h3 h4 h5 h6 => goOn_any hP hT hF hS hp h1 h2 _ W F 0 (v + 1) lv h3 h4 hl h5 (by rw [Nat.sub_zero, List.drop_zero]; exact h6) (Nat.zero_le _) HWI.out (Nat.lt_succ_self _) (by have := HEL.out; omega)
  obtain ⟨rg, ro, rc, x, hvr, hrg, hrc, hrx⟩ := part_at hS p hp
  obtain ⟨eg, eo, ec, hve, heg, hec⟩ := end_cell hS.he v hv
  have s1 := rcell hS.blk 1 _ rfl
  have s4 := rcell hS.blk 4 _ rfl
  rw [hvr] at s1
  rw [hve] at s4
  obtain ⟨E, hE⟩ : ∃ E, Tr.eA (Tr.kds T) v = E := ⟨_, rfl⟩
  rw [hE] at hec HGO ⊢
  obtain ⟨RB, hRB⟩ : ∃ RB, (gK P T E (kF (pks P) p 0) (v + 1)).isSome = RB := ⟨_, rfl⟩
  rw [hRB] at HGO ⊢
  obtain ⟨V1, hV1⟩ : ∃ V1, v + 1 = V1 := ⟨_, rfl⟩
  rw [hV1] at HGO ⊢
  obtain ⟨pl, hpl⟩ : ∃ pl, P.length = pl := ⟨_, rfl⟩
  obtain ⟨tl, htl⟩ : ∃ tl, T.length = tl := ⟨_, rfl⟩
  rw [hpl] at s1
  rw [htl] at s4
  have HRX : Hid (RwN f w x (Tr.kA (pks P) p) (iC (Tr.kl (pks P) p (Tr.kA (pks P) p)))) := hrx
  obtain ⟨xa, xc, hxv⟩ := hrx.form
  obtain ⟨kk, hkk⟩ : ∃ kk, Tr.kA (pks P) p = kk := ⟨_, rfl⟩
  rw [hkk] at hxv HRX HGO
  subst hxv
  have d1 : (p : Int) < (pl : Int) := by omega
  have d2 : p < pl := by omega
  have d3 : (v : Int) < (tl : Int) := by omega
  have d4 : v < tl := by omega
  have d5 : (0 : Int) ≤ (v : Int) := by omega
  have hwv : IntKind.i64.wrap ((v : Int) + 1) = (V1 : Int) := by
    have h9 := hz
    unfold Tr.Sm at h9
    rw [w64n v (by omega), ← hV1]
  have HTV : Hid (IntKind.i64.wrap ((v : Int) + 1) = (V1 : Int)) := hwv
  obtain ⟨xb, hxb⟩ : ∃ xb, w.heap.size = xb := ⟨_, rfl⟩
  obtain ⟨W0, hW0⟩ : ∃ W0, W0 = w.alloc (.cells #[.pointer (some ⟨sb, 0, none⟩)] 58) := ⟨_, rfl⟩
  have HB0 : Hid (Below w.heap.size w W0) := by rw [hW0]; exact bel_up _ _
  have hx0 : W0.heap[xb]? = some (.cells #[.pointer (some ⟨sb, 0, none⟩)] 58 (0, 0)) := by rw [hW0, ← hxb]; exact heap_new w _
  have HX0 : Hid (W0.heap[xb]? = some (.cells #[.pointer (some ⟨sb, 0, none⟩)] 58 (0, 0))) := hx0
  have HXB : Hid (w.heap.size = xb ∧ W0.heap.size = xb + 1) := ⟨hxb, by rw [hW0, ← hxb]; simp⟩
  have x0 := rcell hx0 0 _ rfl
  have t1 := below_cell HB0.out s1
  have t2 := below_cell HB0.out hrc
  have HT4 : Hid (∀ W, Below w.heap.size w W → W.cell? ⟨sb, 4, none⟩ = some (.slice (some ⟨eg, eo, none⟩) tl ec) ∧ W.cell? ⟨eg, eo + v, none⟩ = some (.int .i64 (E : Int))) := fun W hW => ⟨below_cell hW s4, below_cell hW hec⟩
  clear hP hT hz hF hS hd hl hp hv hn hvr hrg hrc hrx hve heg hec s1 s4 hE hRB hV1 hpl htl hkk hx0
  go_enter Tryz.func39, Tryz.ntmps39
  go_upto_region 1 with fail
  first | rw [← hW0, hxb] | rw [← hW0]
  clear hW0 hxb
  obtain ⟨W1, hW1⟩ : ∃ W1, W1 = W0.alloc (.cells #[.slice xa kk xc] 34) := ⟨_, rfl⟩
  go_upto_region 2 with fail
  rw [← hW1]
  obtain ⟨lb, hlb⟩ : ∃ lb, W0.heap.size = lb := ⟨_, rfl⟩
  have hl1 : W1.heap[lb]? = some (.cells #[.slice xa kk xc] 34 (0, 0)) := by rw [hW1, ← hlb]; exact heap_new W0 _
  have HL1 : Hid (W1.heap[lb]? = some (.cells #[.slice xa kk xc] 34 (0, 0))) := hl1
  have HBL : Hid (Below W0.heap.size W0 W1) := by rw [hW1]; exact bel_up _ _
  have HLB : Hid (W0.heap.size = lb ∧ W1.heap.size = lb + 1) := ⟨hlb, by rw [hW1, ← hlb]; simp⟩
  have HB1 : Hid (Below w.heap.size w W1) := below_trans HB0.out HBL.out
  have HX1 : Hid (W1.heap[xb]? = some (.cells #[.pointer (some ⟨sb, 0, none⟩)] 58 (0, 0))) := (HBL.out.block _ (lt_of_heap HX0.out)).trans HX0.out
  try rw [hlb]
  have HRD : Hid (∀ W, Below W1.heap.size W1 W → W.cell? ⟨xb, 0, none⟩ = some (.pointer (some ⟨sb, 0, none⟩)) ∧ W.cell? ⟨sb, 4, none⟩ = some (.slice (some ⟨eg, eo, none⟩) tl ec) ∧ W.cell? ⟨eg, eo + v, none⟩ = some (.int .i64 (E : Int)) ∧ True ∧ True) := fun W hW => ⟨below_cell hW (rcell HX1.out 0 _ rfl), (HT4.out W (below_trans HB1.out hW)).1, (HT4.out W (below_trans HB1.out hW)).2, trivial, trivial⟩
  clear hW1 hl1 hlb x0 t1 t2
  go_cut [8, 9] from 18 to 26 (fun v8 v9 wd => ∃ nb eb : Nat, v8 = .pointer (some ⟨nb, 0, none⟩) ∧ v9 = .pointer (some ⟨eb, 0, none⟩) ∧ Hid (wd.heap[nb]? = some (.cells #[.int .i64 (V1 : Int)] 3 (0, 0)) ∧ wd.heap[eb]? = some (.cells #[.int .i64 (E : Int)] 3 (0, 0))) ∧ Hid (W1.heap.size ≤ nb ∧ W1.heap.size ≤ eb ∧ nb ≠ eb) ∧ Hid (Below W1.heap.size W1 wd))
  case first =>
    refine wp_region_noPanic ?_
    refine wp_region_held_drew (S := fun W => Below W1.heap.size W1 W) (by kernel_rfl) (Below.drew (Below.refl _ _)) (fun hHeld => ?_)
    refine wpAnyH_take (i := 0) (oi := { dst := _, op := _, type := _, pos := _, after := _, guard := _ }) (v := ?_) rfl (by kernel_rfl) (by kernel_rfl) (by kernel_rfl) (fun _ _ _ h => h) (Or.inl ⟨by rfl, ?_⟩) (by assumption) ?_
    rotate_left
    · intro W hSw
      (try dsimp only at hSw)
      go_simp
      (try with_reducible rfl)
    try simp only [Act.put, List.setIfInBounds_toArray, List.set_cons_zero, List.set_cons_succ]
    refine wpAnyH_take (i := 1) (oi := { dst := _, op := _, type := _, pos := _, after := _, guard := _ }) (v := ?_) rfl (by kernel_rfl) (by kernel_rfl) (by kernel_rfl) (fun _ _ _ h => h) (Or.inl ⟨by rfl, ?_⟩) (by assumption) ?_
    rotate_left
    · intro W hSw
      (try dsimp only at hSw)
      go_simp
      (try with_reducible rfl)
    try simp only [Act.put, List.setIfInBounds_toArray, List.set_cons_zero, List.set_cons_succ]
    refine wpAnyH_take (i := 2) (oi := { dst := _, op := _, type := _, pos := _, after := _, guard := _ }) (v := ?_) rfl (by kernel_rfl) (by kernel_rfl) (by kernel_rfl) (fun _ _ _ h => h) (Or.inl ⟨by rfl, ?_⟩) (by assumption) ?_
    rotate_left
    · intro W hSw
      (try dsimp only at hSw)
      obtain ⟨k0, k1, k2, k3, k4⟩ := HRD.out W hSw
      go_simp
      (try with_reducible rfl)
    try simp only [Act.put, List.setIfInBounds_toArray, List.set_cons_zero, List.set_cons_succ]
    refine wpAnyH_take (i := 3) (oi := { dst := _, op := _, type := _, pos := _, after := _, guard := _ }) (v := ?_) rfl (by kernel_rfl) (by kernel_rfl) (by kernel_rfl) (fun _ _ _ h => h) (Or.inl ⟨by rfl, ?_⟩) (by assumption) ?_
    rotate_left
    · intro W hSw
      (try dsimp only at hSw)
      go_simp
      (try with_reducible rfl)
    try simp only [Act.put, List.setIfInBounds_toArray, List.set_cons_zero, List.set_cons_succ]
    refine wpAnyH_take (i := 4) (oi := { dst := _, op := _, type := _, pos := _, after := _, guard := _ }) (v := ?_) rfl (by kernel_rfl) (by kernel_rfl) (by kernel_rfl) (fun _ _ _ h => h) (Or.inl ⟨by rfl, ?_⟩) (by assumption) ?_
    rotate_left
    · intro W hSw
      (try dsimp only at hSw)
      go_simp
      (try with_reducible rfl)
    try simp only [Act.put, List.setIfInBounds_toArray, List.set_cons_zero, List.set_cons_succ]
    refine wpAnyH_take (i := 5) (oi := { dst := _, op := _, type := _, pos := _, after := _, guard := _ }) (v := ?_) rfl (by kernel_rfl) (by kernel_rfl) (by kernel_rfl) (fun _ _ _ h => h) (Or.inl ⟨by rfl, ?_⟩) (by assumption) ?_
    rotate_left
    · intro W hSw
      (try dsimp only at hSw)
      obtain ⟨k0, k1, k2, k3, k4⟩ := HRD.out W hSw
      go_simp
      (try with_reducible rfl)
    try simp only [Act.put, List.setIfInBounds_toArray, List.set_cons_zero, List.set_cons_succ]
    refine wpAnyH_take (i := 6) (oi := { dst := _, op := _, type := _, pos := _, after := _, guard := _ }) (v := ?_) rfl (by kernel_rfl) (by kernel_rfl) (by kernel_rfl) (fun _ _ _ h => h) (Or.inl ⟨by rfl, ?_⟩) (by assumption) ?_
    rotate_left
    · intro W hSw
      (try dsimp only at hSw)
      go_simp
      (try with_reducible rfl)
    try simp only [Act.put, List.setIfInBounds_toArray, List.set_cons_zero, List.set_cons_succ]
    refine wpAnyH_take (i := 7) (oi := { dst := _, op := _, type := _, pos := _, after := _, guard := _ }) (v := ?_) rfl (by kernel_rfl) (by kernel_rfl) (by kernel_rfl) (fun _ _ _ h => h) (Or.inl ⟨by rfl, ?_⟩) (by assumption) ?_
    rotate_left
    · intro W hSw
      (try dsimp only at hSw)
      go_simp
      (try with_reducible rfl)
    try simp only [Act.put, List.setIfInBounds_toArray, List.set_cons_zero, List.set_cons_succ]
    refine wpAnyH_take (i := 8) (oi := { dst := _, op := _, type := _, pos := _, after := _, guard := _ }) (v := ?_) rfl (by kernel_rfl) (by kernel_rfl) (by kernel_rfl) (fun _ _ _ h => h) (Or.inl ⟨by rfl, ?_⟩) (by assumption) ?_
    rotate_left
    · intro W hSw
      (try dsimp only at hSw)
      obtain ⟨k0, k1, k2, k3, k4⟩ := HRD.out W hSw
      go_simp
      (try with_reducible rfl)
    try simp only [Act.put, List.setIfInBounds_toArray, List.set_cons_zero, List.set_cons_succ]
    refine wpAnyH_ready (rs := [9, 10]) (by kernel_rfl) (by simp) ?_
    refine AllReadyH.cons (o := { dst := _, op := _, type := _, pos := _, after := _, guard := _ }) rfl (fun K hK => ?_) (AllReadyH.cons (o := { dst := _, op := _, type := _, pos := _, after := _, guard := _ }) rfl (fun K hK => ?_) AllReadyH.nil)
    · go_simp
      obtain ⟨Y1, hY1⟩ : ∃ Y1, Y1 = (W1.alloc (.cells #[.int .i64 0] 3)).drew := ⟨_, rfl⟩
      have HY1 : Hid (Below W1.heap.size W1 Y1) := by rw [hY1]; exact (bel_up _ _).trans (Below.drew (Below.refl _ _))
      have hy1 : Y1.heap[W1.heap.size]? = some (.cells #[.int .i64 0] 3 (0, 0)) := by rw [hY1]; exact heap_new W1 _
      have hs1 : Y1.heap.size = W1.heap.size + 1 := by rw [hY1]; simp
      obtain ⟨b1, hb1⟩ : ∃ b1, W1.heap.size = b1 := ⟨_, rfl⟩
      first | rw [← hY1, hb1] | rw [← hY1]
      have HB1 : Hid (W1.heap.size = b1) := hb1
      have HS1 : Hid (Y1.heap.size = b1 + 1) := by rw [← hb1]; exact hs1
      rw [hb1] at hy1
      have HYB : Hid (Y1.heap[b1]? = some (.cells #[.int .i64 0] 3 (0, 0))) := hy1
      clear hY1 hy1 hs1 hb1
      refine hK.out _ _ ?_ (fun hHeld => ?_)
      · exact HY1.out
      clear hK K
      try simp only [Act.put, List.setIfInBounds_toArray, List.set_cons_zero, List.set_cons_succ]
      refine wpAnyH_ready (rs := [10]) (by kernel_rfl) (by simp) ?_
      refine AllReadyH.cons (o := { dst := _, op := _, type := _, pos := _, after := _, guard := _ }) rfl (fun K hK => ?_) AllReadyH.nil
      go_simp
      obtain ⟨Y2, hY2⟩ : ∃ Y2, Y2 = Y1.alloc (.cells #[.int .i64 0] 3) := ⟨_, rfl⟩
      have HY2 : Hid (Below Y1.heap.size Y1 Y2) := by rw [hY2]; exact bel_up _ _
      have hy2 : Y2.heap[Y1.heap.size]? = some (.cells #[.int .i64 0] 3 (0, 0)) := by rw [hY2]; exact heap_new Y1 _
      obtain ⟨b2, hb2⟩ : ∃ b2, Y1.heap.size = b2 := ⟨_, rfl⟩
      first | rw [← hY2, hb2] | rw [← hY2]
      have HB2 : Hid (Y1.heap.size = b2) := hb2
      rw [hb2] at hy2
      have hz1 : Y2.heap[b1]? = some (.cells #[.int .i64 0] 3 (0, 0)) := (HY2.out.block _ (lt_of_heap HYB.out)).trans HYB.out
      have HBN : Hid (b1 ≠ b2) := by have h8 := HB2.out; have h9 := HS1.out; show _ ≠ _; omega
      have HYA : Hid (Y2.heap[b1]? = some (.cells #[.int .i64 0] 3 (0, 0)) ∧ Y2.heap[b2]? = some (.cells #[.int .i64 0] 3 (0, 0))) := ⟨hz1, hy2⟩
      have n0 := rcell (show Y2.heap[b1]? = some (.cells #[.int .i64 0] 3 (0, 0)) by first | exact hz1 | exact hy2) 0 _ rfl
      have n1 := Lib.frozen_of_heap (show Y2.heap[b1]? = some (.cells #[.int .i64 0] 3 (0, 0)) by first | exact hz1 | exact hy2) 0
      clear hY2 hy2 hb2 hz1
      refine hK.out _ _ ?_ (fun hHeld => ?_)
      · exact below_trans HY1.out HY2.out
      clear hK K
      try simp only [Act.put, List.setIfInBounds_toArray, List.set_cons_zero, List.set_cons_succ]
      refine wpAnyH_ready (rs := [11]) (by kernel_rfl) (by simp) ?_
      refine AllReadyH.cons (o := { dst := _, op := _, type := _, pos := _, after := _, guard := _ }) rfl (fun K hK => ?_) AllReadyH.nil
      go_simp
      obtain ⟨Y3, hY3⟩ : ∃ Y3, Y3 = Y2.setCell ⟨b1, 0, none⟩ (.int .i64 (V1 : Int)) := ⟨_, rfl⟩
      rw [← hY3]
      have HY3 : Hid (Y3.heap[b1]? = some (.cells #[.int .i64 (V1 : Int)] 3 (0, 0)) ∧ Y3.heap[b2]? = some (.cells #[.int .i64 0] 3 (0, 0))) := by rw [hY3]; exact ⟨blk_set _ HYA.out.1, (heap_far HBN.out.symm).trans HYA.out.2⟩
      have HG3 : Hid (Below W1.heap.size W1 Y3) := by rw [hY3]; exact Below.setCell (below_trans HY1.out HY2.out) (show W1.heap.size ≤ b1 by have h7 := HB1.out; have h8 := HB2.out; have h9 := HS1.out; omega) _
      have n2 := rcell HY3.out.2 0 _ rfl
      have n3 := Lib.frozen_of_heap HY3.out.2 0
      clear hY3 n0 n1
      refine hK.out _ _ ?_ (fun hHeld => ?_)
      · exact HG3.out
      clear hK K
      try simp only [Act.put, List.setIfInBounds_toArray, List.set_cons_zero, List.set_cons_succ]
      refine wpAnyH_ready (rs := [12]) (by kernel_rfl) (by simp) ?_
      refine AllReadyH.cons (o := { dst := _, op := _, type := _, pos := _, after := _, guard := _ }) rfl (fun K hK => ?_) AllReadyH.nil
      go_simp
      obtain ⟨Y4, hY4⟩ : ∃ Y4, Y4 = Y3.setCell ⟨b2, 0, none⟩ (.int .i64 (E : Int)) := ⟨_, rfl⟩
      rw [← hY4]
      have HY4 : Hid (Y4.heap[b1]? = some (.cells #[.int .i64 (V1 : Int)] 3 (0, 0)) ∧ Y4.heap[b2]? = some (.cells #[.int .i64 (E : Int)] 3 (0, 0))) := by rw [hY4]; exact ⟨(heap_far HBN.out).trans HY3.out.1, blk_set _ HY3.out.2⟩
      have HG4 : Hid (Below W1.heap.size W1 Y4) := by rw [hY4]; exact Below.setCell HG3.out (show W1.heap.size ≤ b2 by have h7 := HB1.out; have h8 := HB2.out; have h9 := HS1.out; omega) _
      clear hY4 n2 n3
      refine hK.out _ _ ?_ (fun hHeld => ?_)
      · exact HG4.out
      clear hK K
      try simp only [Act.put, List.setIfInBounds_toArray, List.set_cons_zero, List.set_cons_succ]
      refine wpAnyH_done (by kernel_rfl) ?_ _
      clear hHeld
      refine NoPanic.normal ?_
      go_wp2_with fail
      go_meet
      exact ⟨b1, b2, rfl, rfl, HY4, ⟨by have h7 := HB1.out; have h8 := HB2.out; have h9 := HS1.out; omega, by have h7 := HB1.out; have h8 := HB2.out; have h9 := HS1.out; omega, by have h9 := HBN.out; omega⟩, HG4⟩
    · go_simp
      obtain ⟨Y1, hY1⟩ : ∃ Y1, Y1 = (W1.alloc (.cells #[.int .i64 0] 3)).drew := ⟨_, rfl⟩
      have HY1 : Hid (Below W1.heap.size W1 Y1) := by rw [hY1]; exact (bel_up _ _).trans (Below.drew (Below.refl _ _))
      have hy1 : Y1.heap[W1.heap.size]? = some (.cells #[.int .i64 0] 3 (0, 0)) := by rw [hY1]; exact heap_new W1 _
      have hs1 : Y1.heap.size = W1.heap.size + 1 := by rw [hY1]; simp
      obtain ⟨b1, hb1⟩ : ∃ b1, W1.heap.size = b1 := ⟨_, rfl⟩
      first | rw [← hY1, hb1] | rw [← hY1]
      have HB1 : Hid (W1.heap.size = b1) := hb1
      have HS1 : Hid (Y1.heap.size = b1 + 1) := by rw [← hb1]; exact hs1
      rw [hb1] at hy1
      have HYB : Hid (Y1.heap[b1]? = some (.cells #[.int .i64 0] 3 (0, 0))) := hy1
      clear hY1 hy1 hs1 hb1
      refine hK.out _ _ ?_ (fun hHeld => ?_)
      · exact HY1.out
      clear hK K
      try simp only [Act.put, List.setIfInBounds_toArray, List.set_cons_zero, List.set_cons_succ]
      refine wpAnyH_ready (rs := [9]) (by kernel_rfl) (by simp) ?_
      refine AllReadyH.cons (o := { dst := _, op := _, type := _, pos := _, after := _, guard := _ }) rfl (fun K hK => ?_) AllReadyH.nil
      go_simp
      obtain ⟨Y2, hY2⟩ : ∃ Y2, Y2 = Y1.alloc (.cells #[.int .i64 0] 3) := ⟨_, rfl⟩
      have HY2 : Hid (Below Y1.heap.size Y1 Y2) := by rw [hY2]; exact bel_up _ _
      have hy2 : Y2.heap[Y1.heap.size]? = some (.cells #[.int .i64 0] 3 (0, 0)) := by rw [hY2]; exact heap_new Y1 _
      obtain ⟨b2, hb2⟩ : ∃ b2, Y1.heap.size = b2 := ⟨_, rfl⟩
      first | rw [← hY2, hb2] | rw [← hY2]
      have HB2 : Hid (Y1.heap.size = b2) := hb2
      rw [hb2] at hy2
      have hz1 : Y2.heap[b1]? = some (.cells #[.int .i64 0] 3 (0, 0)) := (HY2.out.block _ (lt_of_heap HYB.out)).trans HYB.out
      have HBN : Hid (b1 ≠ b2) := by have h8 := HB2.out; have h9 := HS1.out; show _ ≠ _; omega
      have HYA : Hid (Y2.heap[b1]? = some (.cells #[.int .i64 0] 3 (0, 0)) ∧ Y2.heap[b2]? = some (.cells #[.int .i64 0] 3 (0, 0))) := ⟨hz1, hy2⟩
      have n0 := rcell (show Y2.heap[b2]? = some (.cells #[.int .i64 0] 3 (0, 0)) by first | exact hz1 | exact hy2) 0 _ rfl
      have n1 := Lib.frozen_of_heap (show Y2.heap[b2]? = some (.cells #[.int .i64 0] 3 (0, 0)) by first | exact hz1 | exact hy2) 0
      clear hY2 hy2 hb2 hz1
      refine hK.out _ _ ?_ (fun hHeld => ?_)
      · exact below_trans HY1.out HY2.out
      clear hK K
      try simp only [Act.put, List.setIfInBounds_toArray, List.set_cons_zero, List.set_cons_succ]
      refine wpAnyH_ready (rs := [11]) (by kernel_rfl) (by simp) ?_
      refine AllReadyH.cons (o := { dst := _, op := _, type := _, pos := _, after := _, guard := _ }) rfl (fun K hK => ?_) AllReadyH.nil
      go_simp
      obtain ⟨Y3, hY3⟩ : ∃ Y3, Y3 = Y2.setCell ⟨b2, 0, none⟩ (.int .i64 (V1 : Int)) := ⟨_, rfl⟩
      rw [← hY3]
      have HY3 : Hid (Y3.heap[b2]? = some (.cells #[.int .i64 (V1 : Int)] 3 (0, 0)) ∧ Y3.heap[b1]? = some (.cells #[.int .i64 0] 3 (0, 0))) := by rw [hY3]; exact ⟨blk_set _ HYA.out.2, (heap_far HBN.out).trans HYA.out.1⟩
      have HG3 : Hid (Below W1.heap.size W1 Y3) := by rw [hY3]; exact Below.setCell (below_trans HY1.out HY2.out) (show W1.heap.size ≤ b2 by have h7 := HB1.out; have h8 := HB2.out; have h9 := HS1.out; omega) _
      have n2 := rcell HY3.out.2 0 _ rfl
      have n3 := Lib.frozen_of_heap HY3.out.2 0
      clear hY3 n0 n1
      refine hK.out _ _ ?_ (fun hHeld => ?_)
      · exact HG3.out
      clear hK K
      try simp only [Act.put, List.setIfInBounds_toArray, List.set_cons_zero, List.set_cons_succ]
      refine wpAnyH_ready (rs := [12]) (by kernel_rfl) (by simp) ?_
      refine AllReadyH.cons (o := { dst := _, op := _, type := _, pos := _, after := _, guard := _ }) rfl (fun K hK => ?_) AllReadyH.nil
      go_simp
      obtain ⟨Y4, hY4⟩ : ∃ Y4, Y4 = Y3.setCell ⟨b1, 0, none⟩ (.int .i64 (E : Int)) := ⟨_, rfl⟩
      rw [← hY4]
      have HY4 : Hid (Y4.heap[b2]? = some (.cells #[.int .i64 (V1 : Int)] 3 (0, 0)) ∧ Y4.heap[b1]? = some (.cells #[.int .i64 (E : Int)] 3 (0, 0))) := by rw [hY4]; exact ⟨(heap_far HBN.out.symm).trans HY3.out.1, blk_set _ HY3.out.2⟩
      have HG4 : Hid (Below W1.heap.size W1 Y4) := by rw [hY4]; exact Below.setCell HG3.out (show W1.heap.size ≤ b1 by have h7 := HB1.out; have h8 := HB2.out; have h9 := HS1.out; omega) _
      clear hY4 n2 n3
      refine hK.out _ _ ?_ (fun hHeld => ?_)
      · exact HG4.out
      clear hK K
      try simp only [Act.put, List.setIfInBounds_toArray, List.set_cons_zero, List.set_cons_succ]
      refine wpAnyH_done (by kernel_rfl) ?_ _
      clear hHeld
      refine NoPanic.normal ?_
      go_wp2_with fail
      go_meet
      exact ⟨b2, b1, rfl, rfl, HY4, ⟨by have h7 := HB1.out; have h8 := HB2.out; have h9 := HS1.out; omega, by have h7 := HB1.out; have h8 := HB2.out; have h9 := HS1.out; omega, by have h9 := HBN.out; omega⟩, HG4⟩
  case rest =>
    obtain ⟨nb, eb, rfl, rfl, HNE, HNB, HBC⟩ := hcut
    obtain ⟨W5, hW5⟩ : ∃ W5, W5 = wc.alloc (.cells #[.nilFunc] 27) := ⟨_, rfl⟩
    obtain ⟨gb, hgb⟩ : ∃ gb, wc.heap.size = gb := ⟨_, rfl⟩
    have hg5 : W5.heap[gb]? = some (.cells #[.nilFunc] 27 (0, 0)) := by rw [hW5, ← hgb]; exact heap_new wc _
    have HB5 : Hid (Below wc.heap.size wc W5) := by rw [hW5]; exact bel_up _ _
    have HGB : Hid (wc.heap.size = gb) := hgb
    have k0 := rcell hg5 0 _ rfl
    have k1 := Lib.frozen_of_heap hg5 0
    have HG5 : Hid (W5.heap[gb]? = some (.cells #[.nilFunc] 27 (0, 0))) := hg5
    go_upto_region 4 with fail
    first | rw [← hW5, hgb] | rw [← hW5]
    clear hW5 hgb hg5
    go_upto_region 5 with fail
    obtain ⟨W6, hW6⟩ : ∃ W6, W6 = W5.setCell ⟨gb, 0, none⟩ (.func (.func 54) #[] #[.pointer (some ⟨lb, 0, none⟩), .pointer (some ⟨nb, 0, none⟩), .pointer (some ⟨eb, 0, none⟩), .pointer (some ⟨xb, 0, none⟩), .pointer (some ⟨gb, 0, none⟩)]) := ⟨_, rfl⟩
    rw [← hW6]
    have HB6 : Hid (Below wc.heap.size wc W6) := by rw [hW6]; exact Below.setCell HB5.out (show wc.heap.size ≤ gb by have := HGB.out; omega) _
    have HW6 : Hid (Below w.heap.size w W6) := below_trans (below_trans HB1.out HBC.out) HB6.out
    have HBX : Hid (Bx W6 f lb nb eb xb gb sb (.slice xa kk xc) V1 E) := by
      have hff := lt_of_heap HFD.out.1
      have q1 := HXB.out
      have q2 := HLB.out
      have q3 := HNB.out
      have q4 := HGB.out
      have q5 := HBC.out.size
      have q6 := lt_of_heap HNE.out.1
      have q7 := lt_of_heap HNE.out.2
      have q8 := HB0.out.size
      refine ⟨?_, ?_, ?_, ?_, ?_, ⟨by omega, by omega, by omega, by omega, by omega, by omega, by omega⟩, ⟨by omega, by omega, by omega, by omega, by omega⟩⟩
      · exact (HB6.out.block _ (by omega)).trans ((HBC.out.block _ (by omega)).trans HL1.out)
      · exact (HB6.out.block _ (by omega)).trans HNE.out.1
      · exact (HB6.out.block _ (by omega)).trans HNE.out.2
      · exact (HB6.out.block _ (by omega)).trans ((HBC.out.block _ (by omega)).trans HX1.out)
      · rw [hW6]; exact blk_set _ HG5.out
    have HCL : Hid _ := HGO.out lb nb eb xb gb W6 (.slice xa kk xc) (by have q1 := HLB.out; have q8 := HB0.out.size; omega) (by have q3 := HNB.out; have q8 := HB1.out.size; omega) (Fs.bel HW6.out) (HFD.out.1.up HW6.out) HBX.out HRX.out
    have g0 := rcell HBX.out.g 0 _ rfl
    clear hW6 k0 k1
    go_wp2_with (go_at_call 54; refine Calls.mono HCL.out ?_; rintro e' w7 ⟨F7, rfl, hf7, hd7, hk7⟩; have HF7 : Hid (Fs f w w7) := hf7; have HD7 : Hid (Fd w7 f F7) := hd7; have HK7 : Hid (Kr P T E p 0 V1 F F7) := hk7; clear hf7 hd7 hk7)
    go_ret
    exact ⟨F7, rfl, HF7.out, HD7.out, HK7.out⟩
end Go.Proofs.YtcmhbcfgikmblabGreatDoor.Qy
