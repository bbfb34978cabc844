import Derived.Test.YtcmhbcfgikmblabGreatDoorQfp
import Derived.Test.YtcmhbcfgikmblabGreatDoorQsj
namespace Go.Proofs.YtcmhbcfgikmblabGreatDoor.Qy
open Go.RowKit Go.Maps

theorem infoF : (Tryz.prog.info? 36).map (fun i => (i.zero, i.size, i.bytes)) = some (some (.agg #[.slice none 0 0]), 1, 24) := by kernel_rfl
/-- What All answers. -/
def allQ (P : List Pn) (cs : List Cd) (T : List Tr.Nd) (s : ByteArray) : List (List Int) := if shp P cs && (Tr.rt (Tr.kds T)).isSome then alls P cs T s T.length else []
/-- Matches in memory of the call's own. -/
structure Fa (B : Nat) (W : World) (v : Value) (vs : List Value) (R : List (List Int)) (n : Nat) : Prop where
  ow : W.ownsRow B 36 1 v n vs
  ln : vs.length = n ∧ R.length = n
  at' : ∀ i x, vs[i]? = some x → W.ownsRow B 3 1 x (R.getD i []).length (iC (R.getD i []))
theorem own_fs {f B : Nat} {W W' : World} {e : TypeId} {size n : Nat} {v : Value} {xs : List Value} (h : W.ownsRow B e size v n xs) (hf : Fs f W W') (hB : f < B) : W'.ownsRow B e size v n xs := by
  refine ⟨h.1, ?_⟩
  rcases h.2 with h | ⟨g, cap, cur, h0, h1, h2, h3⟩
  · exact .inl h
  · exact .inr ⟨g, cap, cur, h0, h1, (hf.bl g (lt_of_heap h2) (by omega)).trans h2, h3⟩
theorem Fa.fs {f B : Nat} {W W' : World} {v : Value} {vs : List Value} {R : List (List Int)} {n : Nat} (h : Fa B W v vs R n) (hf : Fs f W W') (hB : f < B) : Fa B W' v vs R n := ⟨own_fs h.ow hf hB, h.ln, fun i x hx => own_fs (h.at' i x hx) hf hB⟩
theorem Fa.up {B : Nat} {W W' : World} {v : Value} {vs : List Value} {R : List (List Int)} {n : Nat} (h : Fa B W v vs R n) (hb : Below W.heap.size W W') : Fa B W' v vs R n := ⟨row_up h.ow hb, h.ln, fun i x hx => row_up (h.at' i x hx) hb⟩
theorem Fa.base {B B' : Nat} {W : World} {v : Value} {vs : List Value} {R : List (List Int)} {n : Nat} (h : Fa B W v vs R n) (hb : B' ≤ B) : Fa B' W v vs R n := ⟨row_base h.ow hb, h.ln, fun i x hx => row_base (h.at' i x hx) hb⟩
theorem whole {l : List Int} {r : Nat} (h : Tr.rt l = some r) : Tr.wA l 0 r = l.length := by
  have hf : Tr.Fo l := ⟨r, h⟩
  have ht : Tr.rA l 0 = r := Tr.Fo.top h
  obtain ⟨h1, h2, h3⟩ := hf.end 0 r (Nat.zero_le _) (by omega)
  rcases Nat.lt_or_ge (Tr.wA l 0 r) l.length with h4 | h4
  · have := hf.pos _ h4
    omega
  · omega
theorem Fs.grow {f : Nat} {a b c : World} {row : Option Nat} (h : Fs f a b) (hg : b.grownBy c row) (hr : ∀ r, row = some r → a.heap.size ≤ r) : Fs f a c :=
  ⟨hg.os.trans h.os, hg.tape.trans h.tape, hg.output.trans h.output, Nat.le_trans h.sz hg.size, fun k hk hn => (hg.block k (Nat.lt_of_lt_of_le hk h.sz) (fun e => by have := hr k e.symm; omega)).trans (h.bl k hk hn)⟩
theorem Fa.push {B B' n : Nat} {W W' : World} {v v' : Value} {vs : List Value} {R : List (List Int)} {k : Nat} {x : Value} {l : List Int} (h : Fa B W v vs R k) (hx : W.ownsRow B' 3 1 x n (iC l)) (hn : l.length = n) (hb : B ≤ B') (ho : W'.ownsRow B 36 1 v' (k + 1) (vs ++ [x])) (hg : W.grownBy W' v.ownBlock) : Fa B W' v' (vs ++ [x]) (R ++ [l]) (k + 1) := by
  subst hn
  refine ⟨ho, ⟨by rw [List.length_append, h.ln.1]; rfl, by rw [List.length_append, h.ln.2]; rfl⟩, fun i y hy => ?_⟩
  by_cases hi : i < vs.length
  · rw [List.getElem?_append_left hi] at hy
    have h9 := h.at' i y hy
    have e : (R ++ [l]).getD i [] = R.getD i [] := by
      rw [List.getD_eq_getElem?_getD, List.getD_eq_getElem?_getD, List.getElem?_append_left (by have := h.ln; omega)]
    rw [e]
    exact h9.kept hg (tag_ne h9 h.ow (by decide))
  · rw [List.getElem?_append_right (by omega)] at hy
    have hk2 : i - vs.length = 0 := by
      have := (List.getElem?_eq_some_iff.1 hy).1
      simp at this
      omega
    rw [hk2] at hy
    simp only [List.getElem?_cons_zero, Option.some.injEq] at hy
    subst hy
    have e : (R ++ [l]).getD i [] = l := by
      rw [List.getD_eq_getElem?_getD, List.getElem?_append_right (by have := h.ln; omega), show i - R.length = 0 by have := h.ln; omega]
      rfl
    rw [e]
    have h9 := row_base hx hb
    exact h9.kept hg (tag_ne h9 h.ow (by decide))
theorem pos_one {P : List Pn} (h : Tr.rt (pks P) = some 1) : 0 < P.length := by
  rcases Nat.eq_zero_or_pos P.length with h0 | h0
  · have h8 : P = [] := List.eq_nil_of_length_eq_zero h0
    rw [h8] at h
    cases h
  · exact h0
theorem found_all {P : List Pn} {T : List Tr.Nd} (hP : Tr.rt (pks P) = some 1) {i : Nat} {l F G : List Int} (hl : gN P T 0 i = some l) (hF : F.length = P.length) (h : Nr P T 0 i F G) : G = l := by
  have h1 := gN_len P T ⟨1, hP⟩ 0 i l hl (pos_one hP)
  have h2 : Tr.eA (pks P) 0 = P.length := by
    have h3 := whole hP
    unfold pks at h3 ⊢
    rw [List.length_map] at h3
    exact h3
  exact (h.2 l hl).all (by rw [h1, h2, h.1.1, hF, Nat.sub_zero])
theorem mt1_eq (P : List Pn) (cs : List Cd) (T : List Tr.Nd) (s : ByteArray) (hT : Tr.Fo (Tr.kds T)) (v : Nat) (hv : v < T.length) : mt1 P cs T s v = match gN P T 0 v with
    | some l => if hld P cs T s l then some l else none
    | none => none := by
  unfold mt1
  rw [gN_ft P T hT 0 v hv]
  cases gN P T 0 v <;> rfl
theorem shp_all {P : List Pn} {cs : List Cd} (h : shp P cs = true) : P.length ≤ 32 ∧ cs.length ≤ 16 ∧ Tr.rt (pks P) = some 1 ∧ ∀ c ∈ cs, csh P c = true := by
  unfold shp at h
  simp only [Bool.and_eq_true, decide_eq_true_eq, List.all_eq_true] at h
  exact ⟨h.1, h.2.1, h.2.2.1, h.2.2.2.2⟩
theorem Fv.of {P : List Pn} {T : List Tr.Nd} {l : List Int} (h1 : l.length = P.length) (h2 : ∀ x ∈ l, ∃ b : Nat, x = (b : Int) ∧ b < T.length) : Fv P T l := by
  refine ⟨h1, fun i hi => ?_⟩
  have hm : l.getD i 0 ∈ l := by rw [List.getD_eq_getElem?_getD, List.getElem?_eq_getElem (by omega)]; exact List.getElem_mem _
  exact h2 _ hm
set_option maxRecDepth 100000 in
set_option maxHeartbeats 8000000 in
theorem allq_any {vp vc vt : Value} {P : List Pn} {cs : List Cd} {T : List Tr.Nd} (w : World) (hp : Ps w vp P) (hc : Cs w vc cs) (ht : Tr.Ns w vt T) (hz : Tr.Sm T) (s : ByteArray) : Calls Tryz.prog 8 #[.agg #[vp, vc], vt, .string s] w fun e w' => ∃ v vs, e = .returned v ∧ Fa w.heap.size w' v vs (allQ P cs T s) (allQ P cs T s).length ∧ Below w.heap.size w w' := by
  obtain ⟨W1, hW1⟩ : ∃ W1, W1 = w.alloc (.cells #[vp, vc] 25) := ⟨_, rfl⟩
  have HWB : Hid (Below w.heap.size w W1) := by rw [hW1]; exact bel_up _ _
  have hq1 : W1.heap[w.heap.size]? = some (.cells #[vp, vc] 25 (0, 0)) := by rw [hW1]; exact heap_new w _
  obtain ⟨qb, hqb⟩ : ∃ qb, w.heap.size = qb := ⟨_, rfl⟩
  rw [hqb] at hq1
  have HQC : Hid (∀ W, Below W1.heap.size W1 W → W.cell? ⟨qb, 0, none⟩ = some vp ∧ W.cell? ⟨qb, 1, none⟩ = some vc) := fun W hW => ⟨below_cell hW (rcell hq1 0 _ rfl), below_cell hW (rcell hq1 1 _ rfl)⟩
  have HSH : Hid _ := shaped_any W1 (hp.up HWB.out) (hc.up HWB.out)
  have HRT : Hid (∀ W, Below W1.heap.size W1 W → Calls Tryz.prog 10 #[vt] W fun e w' => e = .returned (.int .i64 (Tr.rts T)) ∧ W = w') := fun W hW => Tr.roots_any W ((ht.up HWB.out).up hW) hz
  have HNS : Hid (∀ W, Below W1.heap.size W1 W → P.length ≤ 32 → cs.length ≤ 16 → Tr.Fo (pks P) → Tr.Fo (Tr.kds T) → Calls Tryz.prog 20 #[.agg #[vp, vc], vt, .string s] W fun e w' => ∃ sb f vr vk ve, e = .returned (.pointer (some ⟨sb, 0, none⟩)) ∧ Sr w' sb f P cs T s vp vr vk vt ve ∧ Fd w' f (List.replicate P.length 0) ∧ Below W.heap.size W w' ∧ W.heap.size ≤ f) := fun W hW h1 h2 h3 h4 => newSearch_any W ((hp.up HWB.out).up hW) ((hc.up HWB.out).up hW) ((ht.up HWB.out).up hW) h1 h2 h3 h4 hz s
  have HZ : Hid (Tr.Sm T) := hz
  obtain ⟨pa, pc, hvp⟩ := hp.form
  obtain ⟨ca, cc, hvc⟩ := hc.form
  obtain ⟨ta, tc, hvt⟩ := ht.form
  obtain ⟨pl, hpl⟩ : ∃ pl, P.length = pl := ⟨_, rfl⟩
  obtain ⟨cn, hcn⟩ : ∃ cn, cs.length = cn := ⟨_, rfl⟩
  obtain ⟨tl, htl⟩ : ∃ tl, T.length = tl := ⟨_, rfl⟩
  have HPL : Hid (P.length = pl) := hpl
  have HCN : Hid (cs.length = cn) := hcn
  have HTL : Hid (T.length = tl) := htl
  rw [hpl] at hvp
  rw [hcn] at hvc
  rw [htl] at hvt
  subst hvp hvc hvt
  obtain ⟨SB, hSB⟩ : ∃ SB, shp P cs = SB := ⟨_, rfl⟩
  rw [hSB] at HSH
  have HSB : Hid (shp P cs = SB) := hSB
  obtain ⟨q0, q1⟩ := HQC.out W1 (Below.refl _ _)
  have HZ0 : Hid (∀ R, R = [] → Fa w.heap.size W1 (.slice none 0 0) [] R R.length) := fun R hR => by
    subst hR
    exact ⟨World.ownsRow_nil _ _ _ _, ⟨rfl, rfl⟩, fun i x hx => by simp at hx⟩
  obtain ⟨RQ, hRQ⟩ : ∃ RQ, allQ P cs T s = RQ := ⟨_, rfl⟩
  have HRQ : Hid (allQ P cs T s = RQ) := hRQ
  rw [hRQ]
  clear hp hc ht hz hq1 hpl hcn htl hSB hRQ
  go_enter Tryz.func8, Tryz.ntmps8
  go_upto_region 1 with fail
  first | rw [← hW1, hqb] | rw [← hW1]
  clear hW1 hqb
  cases SB with
  | false =>
    have HE : Hid (RQ = []) := by rw [← HRQ.out]; unfold allQ; rw [HSB.out]; rfl
    go_wp2_with (go_at_call 9; refine Calls.mono HSH.out ?_; rintro e w2 ⟨rfl, hb2⟩; have HB2 : Hid (Below W1.heap.size W1 w2) := hb2; clear hb2)
    go_ret
    exact ⟨_, [], rfl, (HZ0.out RQ HE.out).up HB2.out, below_trans HWB.out HB2.out⟩
  | true =>
    obtain ⟨a1, a2, a3, a4⟩ := shp_all HSB.out
    have HSO : Hid (P.length ≤ 32 ∧ cs.length ≤ 16 ∧ Tr.rt (pks P) = some 1 ∧ ∀ c ∈ cs, csh P c = true) := ⟨a1, a2, a3, a4⟩
    clear a1 a2 a3 a4
    rcases @Tr.rts_fo T with ⟨r, hr, hr2⟩ | ⟨hr, hr2⟩
    · have HFO : Hid (Tr.Fo (pks P) ∧ Tr.Fo (Tr.kds T)) := ⟨⟨1, HSO.out.2.2.1⟩, ⟨r, hr⟩⟩
      have HRR : Hid (RQ = alls P cs T s tl) := by
        rw [← HRQ.out]
        unfold allQ
        rw [HSB.out, hr, HTL.out]
        rfl
      rw [hr2] at HRT
      have d1 : decide ((r : Int) < 0) = false := by rw [decide_eq_false_iff_not]; omega
      clear hr hr2
      go_upto_region 3 with first | (go_at_call 9; refine Calls.mono HSH.out ?_; rintro e w2 ⟨rfl, hb2⟩; have HB2 : Hid (Below W1.heap.size W1 w2) := hb2; clear hb2) | (go_at_call 10; refine Calls.mono (HRT.out _ HB2.out) ?_; rintro e w3 ⟨rfl, hw3⟩; subst hw3)
      obtain ⟨t0, t1⟩ := HQC.out w2 HB2.out
      clear q0 q1 d1
      go_upto_region 4 with (go_at_call 20; refine Calls.mono (HNS.out _ HB2.out HSO.out.1 HSO.out.2.1 HFO.out.1 HFO.out.2) ?_; rintro e W0 ⟨sb, f, vr, vk, ve, rfl, hsr, hfd, hb3, hwf⟩; have HSR : Hid (Sr W0 sb f P cs T s (.slice pa pl pc) vr vk (.slice ta tl tc) ve) := hsr; have HFD : Hid (Fd W0 f (List.replicate P.length 0)) := hfd; have HB3 : Hid (Below w.heap.size w W0) := below_trans (below_trans HWB.out HB2.out) hb3; have HWF : Hid (w.heap.size ≤ f) := (by have z1 := HWB.out.size; have z2 := HB2.out.size; show _ ≤ _; omega); clear hsr hfd hb3 hwf)
      clear t0 t1
      have HFB : Hid (f < W0.heap.size) := lt_of_heap HFD.out
      have HFT : Hid _ := @fits_any P cs T s sb f (.slice pa pl pc) vr vk (.slice ta tl tc) ve HFO.out.1 HFO.out.2 HZ.out
      have HHO : Hid (∀ W F, Fs f W0 W → Fd W f F → Fv P T F → Calls Tryz.prog 22 #[.pointer (some ⟨sb, 0, none⟩)] W fun e w' => e = .returned (.bool (hld P cs T s F)) ∧ Below W.heap.size W w') := fun W F h1 h2 h3 => hold_any (HSR.out.keep h1) h2 h3 HSO.out.2.2.2 HSO.out.2.1
      obtain ⟨iF, hiF, hx0, hx1, hx2⟩ := info_parts infoF
      go_upto_region 6 with fail
      go_loopg [8, 24] tl (fun gm v8 v24 wr => ∃ (i k : Nat) (vs : List Value) (F : List Int), v24 = .int .i64 (i : Int) ∧ Hid (i ≤ tl ∧ gm = tl - i) ∧ Hid (Fa W0.heap.size wr v8 vs (alls P cs T s i) k) ∧ Hid (k ≤ i) ∧ Hid (Fs f W0 wr) ∧ Hid (Fd wr f F ∧ F.length = P.length))
      case atStart => exact ⟨0, 0, [], _, rfl, ⟨Nat.zero_le _, rfl⟩, ⟨World.ownsRow_nil _ _ _ _, ⟨rfl, rfl⟩, fun i x hx => by simp at hx⟩, Nat.le_refl _, Fs.refl _ _, ⟨HFD.out, by simp⟩⟩
      case round =>
        obtain ⟨i, k, vs, F, rfl, HI, HFA, HKI, HFS, HFF⟩ := hrel
        obtain ⟨oa, oc, hov⟩ := row_shape HFA.out.ow
        subst hov
        by_cases hi : i < tl
        · have e1 : decide ((i : Int) < (tl : Int)) = true := by rw [decide_eq_true_eq]; omega
          have e2 : decide (i < tl) = true := by rw [decide_eq_true_eq]; omega
          have HIL : Hid (i < tl) := hi
          have HIT : Hid (i < T.length) := by rw [HTL.out]; exact hi
          have HFI : Hid _ := HFT.out (Tr.eA (Tr.kds T) i - i) wr F 0 i (HSR.out.keep HFS.out) HFF.out.1 HFF.out.2 (pos_one HSO.out.2.2.1) HIT.out (Nat.le_refl _)
          have hwi := w64n i (by have h9 := HZ.out; unfold Tr.Sm at h9; rw [HTL.out] at h9; omega)
          obtain ⟨GB, hGB⟩ : ∃ GB, (gN P T 0 i).isSome = GB := ⟨_, rfl⟩
          have HGB : Hid ((gN P T 0 i).isSome = GB) := hGB
          rw [hGB] at HFI
          clear hi hGB
          cases GB with
          | false =>
            have HMT : Hid (alls P cs T s (i + 1) = alls P cs T s i) := by
              show _ = _
              rw [alls_succ, mt1_eq P cs T s HFO.out.2 i HIT.out]
              have h9 := HGB.out
              cases hq : gN P T 0 i with
              | none => simp
              | some l => rw [hq] at h9; cases h9
            go_wp2_with (go_at_call 21; refine Calls.mono HFI.out ?_; rintro e w5 ⟨F5, rfl, hf5, hd5, hn5⟩; have HF5 : Hid (Fs f wr w5) := hf5; have HD5 : Hid (Fd w5 f F5) := hd5; have HN5 : Hid (F5.length = P.length) := hn5.1.1.trans HFF.out.2; clear hf5 hd5 hn5)
            go_roundg (tl - (i + 1))
            case measure => have := HI.out; have := HIL.out; omega
            case rel => exact ⟨i + 1, k, vs, F5, by simp, ⟨HIL.out, rfl⟩, by rw [HMT.out]; exact HFA.out.fs HF5.out HFB.out, (by have h9 := HKI.out; show k ≤ i + 1; omega), HFS.out.trans HF5.out, ⟨HD5.out, HN5.out⟩⟩
          | true =>
            obtain ⟨l, hgl⟩ := Option.isSome_iff_exists.1 HGB.out
            have HGL : Hid (gN P T 0 i = some l) := hgl
            have HFV : Hid (Fv P T l) := by
              have h1 := gN_len P T HFO.out.1 0 i l hgl (pos_one HSO.out.2.2.1)
              have h2 : Tr.eA (pks P) 0 = P.length := by
                have h3 := whole HSO.out.2.2.1
                unfold pks at h3 ⊢
                rw [List.length_map] at h3
                exact h3
              exact Fv.of (by rw [h1, h2, Nat.sub_zero]) (gN_mem P T HFO.out.2 0 i l hgl HIT.out)
            obtain ⟨LB, hLB⟩ : ∃ LB, hld P cs T s l = LB := ⟨_, rfl⟩
            have HLB : Hid (hld P cs T s l = LB) := hLB
            have HMT : Hid (alls P cs T s (i + 1) = alls P cs T s i ++ (if LB then [l] else [])) := by
              show _ = _
              rw [alls_succ, mt1_eq P cs T s HFO.out.2 i HIT.out, hgl]
              simp only [hLB]
              cases LB <;> rfl
            clear hgl hLB
            go_upto_if 33 with first | (go_at_call 21; refine Calls.mono HFI.out ?_; rintro e w5 ⟨F5, rfl, hf5, hd5, hn5⟩; have hF5 := found_all HSO.out.2.2.1 HGL.out HFF.out.2 hn5; subst hF5; have HF5 : Hid (Fs f wr w5) := hf5; have HD5 : Hid (Fd w5 f F5) := hd5; have HN5 : Hid (F5.length = P.length) := HFV.out.1; have HHC : Hid _ := HHO.out w5 F5 (HFS.out.trans hf5) hd5 HFV.out; rw [HLB.out] at HHC; clear hf5 hd5 hn5) | (go_at_call 22; refine Calls.mono HHC.out ?_; rintro e w6 ⟨rfl, hb6⟩; have HF6 : Hid (Fs f wr w6) := HF5.out.up hb6; have HD6 : Hid (Fd w6 f F5) := HD5.out.up hb6; clear hb6)
            have HS6 : Hid (Fs f W0 w6) := HFS.out.trans HF6.out
            have HA6 : Hid (Fa W0.heap.size w6 (.slice oa k oc) vs (alls P cs T s i) k) := HFA.out.fs HF6.out HFB.out
            cases LB with
            | false =>
              go_wp2_with fail
              go_roundg (tl - (i + 1))
              case measure => have := HI.out; have := HIL.out; omega
              case rel => exact ⟨i + 1, k, vs, F5, by simp, ⟨HIL.out, rfl⟩, by rw [HMT.out]; simpa using HA6, (by have h9 := HKI.out; show k ≤ i + 1; omega), HS6, ⟨HD6.out, HN5.out⟩⟩
            | true =>
              have s6 := rcell (HSR.out.keep HS6.out).blk 6 _ rfl
              rw [HPL.out] at s6
              have HCN2 : Hid _ := clone_ints w6 HD6.out (by rw [HN5.out, HPL.out]) (by rw [← HPL.out]; exact HSO.out.1)
              have HSZ : Hid (tl * 72 + 4096 ≤ 140737488355328) := by have h9 := HZ.out; unfold Tr.Sm at h9; rw [HTL.out] at h9; exact h9
              have HMX : Hid (k + 1 ≤ maxLen ∧ (k + 1) * 24 ≤ 140737488355328) := by have := HKI.out; have := HIL.out; have := HSZ.out; show _ ∧ _; unfold maxLen; omega
              go_wp2_with first | (go_at_call 23; refine Calls.mono HCN2.out ?_; rintro e w7 ⟨v7, rfl, ho7, hb7⟩; obtain ⟨ya, yc, rfl⟩ := row_shape ho7; have HO7 : Hid (w7.ownsRow w6.heap.size 3 1 (.slice ya pl yc) pl (iC F5)) := ho7; have HB7 : Hid (Below w6.heap.size w6 w7) := hb7; have HA7 : Hid (Fa W0.heap.size w7 (.slice oa k oc) vs (alls P cs T s i) k) := HA6.out.up hb7; have HROW : Hid ((w7.alloc (.cells #[.slice ya pl yc] 36)).ownsRow W0.heap.size 36 1 (.slice oa k oc) k vs) := HA7.out.ow.alloc _; have HSA : Hid (W0.heap.size ≤ (w7.alloc (.cells #[.slice ya pl yc] 36)).heap.size) := Nat.le_trans (Nat.le_trans HS6.out.sz hb7.size) (bel_up _ _).size; clear ho7 hb7) | (at_builtin; refine wpList_append_own_at _ rfl _ _ 30 rfl W0.heap.size 36 iF (.agg #[.slice none 0 0]) 1 24 Tryz.underlying30 hiF hx0 hx1 hx2 rfl (by decide) _ _ _ rfl HROW.out ⟨w7.heap.size, 0, none⟩ 1 1 [.slice ya pl yc] rfl rfl (World.news_of_block (heap_new w7 _)) (by simp [Value.oneCell']) HMX.out.1 HMX.out.2 HSA.out ?_; intro v8 w8 ho8 hg8 _ ha8; have HO8 : Hid (w8.ownsRow W0.heap.size 36 1 v8 (k + 1) (vs ++ [.slice ya pl yc])) := ho8; have HG8 : Hid (w7.grownBy w8 (Value.ownBlock (.slice oa k oc))) := (World.grownBy_alloc _ _ _).trans hg8; obtain ⟨qa, qc, rfl⟩ := row_shape ho8; clear ho8 hg8 ha8)
              have HRB : Hid (∀ r, Value.ownBlock (.slice oa k oc) = some r → W0.heap.size ≤ r) := fun r hr => (row_tag HA7.out.ow r hr).1
              go_roundg (tl - (i + 1))
              case measure => have := HI.out; have := HIL.out; omega
              case rel =>
                refine ⟨i + 1, k + 1, vs ++ [.slice ya pl yc], F5, by simp, ⟨HIL.out, rfl⟩, ?_, (by have h9 := HKI.out; show k + 1 ≤ i + 1; omega), (HS6.out.up HB7.out).grow HG8.out HRB.out, ?_, HN5.out⟩
                · rw [HMT.out]
                  rw [if_pos trivial]
                  exact HA7.out.push HO7.out (by rw [HN5.out, HPL.out]) HS6.out.sz HO8.out HG8.out
                · have h7 := HD6.out.up HB7.out
                  exact (HG8.out.block f (lt_of_heap h7) (fun e => by have h8 := HRB.out f e.symm; have h9 := HFB.out; omega)).trans h7
        · have e1 : decide ((i : Int) < (tl : Int)) = false := by rw [decide_eq_false_iff_not]; omega
          have e2 : decide (i < tl) = false := by rw [decide_eq_false_iff_not]; omega
          have hit : i = tl := by have := HI.out; omega
          subst hit
          have HLE : Hid (RQ.length = k) := by show _ = _; rw [HRR.out]; exact HFA.out.ln.2
          clear hi
          go_wp2_with fail
          go_ret
          refine ⟨_, vs, rfl, ?_, HB3.out.trans (HFS.out.low HWF.out HB3.out.size)⟩
          rw [HLE.out, HRR.out]
          exact HFA.out.base HB3.out.size
    · have HE : Hid (RQ = []) := by rw [← HRQ.out]; unfold allQ; rw [HSB.out, hr]; rfl
      rw [hr2] at HRT
      clear hr hr2
      go_wp2_with first | (go_at_call 9; refine Calls.mono HSH.out ?_; rintro e w2 ⟨rfl, hb2⟩; have HB2 : Hid (Below W1.heap.size W1 w2) := hb2; clear hb2) | (go_at_call 10; refine Calls.mono (HRT.out _ HB2.out) ?_; rintro e w3 ⟨rfl, hw3⟩; subst hw3)
      go_ret
      exact ⟨_, [], rfl, (HZ0.out RQ HE.out).up HB2.out, below_trans HWB.out HB2.out⟩
end Go.Proofs.YtcmhbcfgikmblabGreatDoor.Qy
