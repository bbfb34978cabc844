import Derived.Test.YtockmlaaefbfkaaRri
namespace Go.Proofs.Ytockmlaaefbfkaa
open Go.RowKit Go.Maps

theorem Ol.off {B p b n q : Nat} {W W' : World} {f : Int → Value} {S : List (Int × St)} {c : Int} {cs : Array Value} {t : TypeId} (h : Ol B W p b n f S c) (hq : W.heap[q]? = some (.cells cs t (0, 0))) (h1 : t ≠ 59) (h2 : t ≠ 65) (hg : W.grownBy W' (some q)) : Ol B W' p b n f S c := by
  refine ⟨(hg.block p (lt_of_heap h.h) (fun e => ?_)).trans h.h, h.m.kept hg (fun e => ?_), fun k hk => (h.r k hk).kept hg (.inr (tag_ne_blk (h.r k hk) hq (fun e => h2 e.symm))), h.d, h.pb, h.bb⟩
  · have e' := Option.some.inj e
    have := h.h
    rw [e', hq] at this
    cases this
    exact h1 rfl
  · obtain ⟨es, c', hm⟩ := h.m.heap
    rw [Option.some.inj e, hq] at hm
    cases hm
theorem grown3 {W : World} {b : Nat} {v0 v1 v2 : Value} : W.grownBy (((W.setCell ⟨b, 0, none⟩ v0).setCell ⟨b, 1, none⟩ v1).setCell ⟨b, 2, none⟩ v2) (some b) :=
  (grown_set.trans grown_set).trans grown_set
def rsv (u : Nat → Value) (v : Value) : Value := .agg #[u 0, u 1, u 2, v, u 4, u 5]
/-- All that stands of leaves behind an edit, and how many. -/
def stz (n A D I : Int) (l : List Lf) : List (Int × St) := if rgt n l then sts (cA n A) (cD n A D) I sb0 0 l else []
def cnz (n A D : Int) (l : List Lf) : Int := if rgt n l then cns (cA n A) (cD n A D) 0 l else 0
theorem rgs_step {q : Int} {x : Lf} {r : List Lf} (h : rgs q (x :: r) = true) : ((0 ≤ x.p ∧ x.p ≤ 1048577) ∧ (0 ≤ x.l ∧ x.l ≤ 1048577) ∧ (0 ≤ x.k ∧ x.k ≤ 1048577)) ∧ 0 ≤ q - (x.p + x.l) ∧ rgs (q - (x.p + x.l)) r = true := by
  simp only [rgs, smL, sml, Bool.and_eq_true, decide_eq_true_eq] at h
  exact ⟨⟨h.1.1.1, h.1.1.2, h.1.2⟩, h.2.1, h.2.2⟩
theorem cn1_le (A D o : Int) (x : Lf) : 0 ≤ cn1 A D o x ∧ cn1 A D o x ≤ 1 := by unfold cn1; split <;> omega
theorem cA_in (n A : Int) (h : 0 ≤ n ∧ n ≤ 1048576) : 0 ≤ cA n A ∧ cA n A ≤ 1048576 := by unfold cA clm; omega
theorem cD_in (n A D : Int) (h : 0 ≤ n ∧ n ≤ 1048576) : 0 ≤ cD n A D ∧ cD n A D ≤ 1048576 := by unfold cD clm; omega
set_option maxRecDepth 100000 in
set_option maxHeartbeats 16000000 in
theorem new_any {v : Value} {l : List Lf} (u : Nat → Value) (n A D : Int) (I : ByteArray) (w : World) (h : Lv w v l) (hl : l.length * 56 ≤ 140737488355328) (hI : I.size ≤ 140737488355328) (ha : ∀ x ∈ l, x.a.size ≤ 140737488355328) :
    Calls Try.prog 6 #[.int .i64 n, rsv u v, edv A D I] w fun e w' => ∃ p b m f, e = .returned (.pointer (some ⟨p, 0, none⟩)) ∧ Ol w.heap.size w' p b m f (stz n A D I.size l) (cnz n A D l) ∧ Below w.heap.size w w' := by
  have HH : Hid (Lv w v l) := h
  have HA : Hid (∀ x ∈ l, x.a.size ≤ 140737488355328) := ha
  have HI : Hid (I.size ≤ 140737488355328) := hI
  obtain ⟨a, cap, rfl⟩ := h.form
  obtain ⟨m, hm⟩ : ∃ m, l.length = m := ⟨_, rfl⟩
  have HM : Hid (l.length = m) := hm
  have HRT : Hid (∀ W, Below w.heap.size w W → Calls Try.prog 17 #[.int .i64 n, .slice a l.length cap] W fun e w' => e = .returned (.bool (rgt n l)) ∧ Below W.heap.size W w') := fun W hb => right_any n W (Rw.up h hb) (by omega)
  unfold Lv at HH
  rw [hm] at HH hl HRT ⊢
  have HL : Hid (m * 56 ≤ 140737488355328) := hl
  clear h hm hl ha hI
  obtain ⟨N, hN⟩ : ∃ N, w.heap.size = N := ⟨_, rfl⟩
  obtain ⟨W1, hW1⟩ : ∃ W1, W1 = (((w.alloc (.cells #[u 0, u 1, u 2, .slice a m cap, u 4, u 5] 33)).alloc (.cells #[.int .i64 A, .int .i64 D, .string I] 24)).alloc (.map #[] 0)).alloc (.cells #[.map (some (N + 1 + 1)), .int .i64 0] 59) := ⟨_, rfl⟩
  have HB1 : Hid (Below w.heap.size w W1) := by rw [hW1]; exact below_trans (below_trans (below_trans (bel_up _ _) (bel_up _ _)) (bel_up _ _)) (bel_up _ _)
  have s1 : ∀ (W : World) (o : Obj), (W.alloc o).heap.size = W.heap.size + 1 := fun W o => by simp
  have HRS : Hid (W1.heap[N]? = some (.cells #[u 0, u 1, u 2, .slice a m cap, u 4, u 5] 33 (0, 0))) := by
    show _ = _
    rw [hW1, ← hN, Below.heap_alloc _ _ _ (by simp; omega), Below.heap_alloc _ _ _ (by simp; omega), Below.heap_alloc _ _ _ (by simp)]; exact heap_new w _
  have HED : Hid (W1.heap[N + 1]? = some (.cells #[.int .i64 A, .int .i64 D, .string I] 24 (0, 0))) := by
    show _ = _
    have h1 := heap_new (w.alloc (.cells #[u 0, u 1, u 2, .slice a m cap, u 4, u 5] 33)) (.cells #[.int .i64 A, .int .i64 D, .string I] 24)
    rw [s1] at h1
    rw [hW1, ← hN, Below.heap_alloc _ _ _ (by simp), Below.heap_alloc _ _ _ (by simp)]; exact h1
  have HOL : Hid (Ol N W1 (N + 1 + 1 + 1) (N + 1 + 1) 0 (fun _ => nilS) [] 0) := by
    have h2 := Mp.made ((w.alloc (.cells #[u 0, u 1, u 2, .slice a m cap, u 4, u 5] 33)).alloc (.cells #[.int .i64 A, .int .i64 D, .string I] 24))
    rw [s1, s1, hN] at h2
    refine ⟨?_, ?_, fun k _ => World.ownsRow_nil _ _ _ _, fun j k _ _ _ => .inl rfl, by omega, by omega⟩
    · rw [hW1]
      have h3 := heap_new (((w.alloc (.cells #[u 0, u 1, u 2, .slice a m cap, u 4, u 5] 33)).alloc (.cells #[.int .i64 A, .int .i64 D, .string I] 24)).alloc (.map #[] 0)) (.cells #[.map (some (N + 1 + 1)), .int .i64 0] 59)
      rw [s1, s1, s1, hN] at h3
      exact h3
    · rw [hW1]; exact h2.kept (World.grownBy_alloc _ _ none) (by simp)
  clear s1
  obtain ⟨SS, hSS⟩ : ∃ SS, stz n A D I.size l = SS := ⟨_, rfl⟩
  obtain ⟨CC, hCC⟩ : ∃ CC, cnz n A D l = CC := ⟨_, rfl⟩
  rw [hSS, hCC]
  have HSC : Hid (stz n A D I.size l = SS ∧ cnz n A D l = CC) := ⟨hSS, hCC⟩
  clear hSS hCC
  have hmk : ∀ W : World, (Instr.makeMap 57 none).run Try.prog W = .ok (.map (some W.heap.size)) (W.alloc (.map #[] 0)) := fun W => by kernel_rfl
  unfold rsv edv
  go_enter Try.func6, Try.ntmps6
  go_upto_region 2 with fail
  rw [← hW1]
  clear hW1 hmk
  have r3 := rcell HRS.out 3 _ rfl
  obtain ⟨ok, hok⟩ : ∃ ok, rgt n l = ok := ⟨_, rfl⟩
  rw [hok] at HRT
  have HOK : Hid (rgt n l = ok) := hok
  clear hok
  go_upto_if 20 with (go_at_call 17; refine Calls.mono (HRT.out _ HB1.out) ?_; rintro ee W2 ⟨rfl, hb2⟩; have HRS2 : Hid (W2.heap[N]? = some (.cells #[u 0, u 1, u 2, .slice a m cap, u 4, u 5] 33 (0, 0))) := (hb2.block _ (lt_of_heap HRS.out)).trans HRS.out; have HED2 : Hid (W2.heap[N + 1]? = some (.cells #[.int .i64 A, .int .i64 D, .string I] 24 (0, 0))) := (hb2.block _ (lt_of_heap HED.out)).trans HED.out; have HOL2 : Hid (Ol N W2 (N + 1 + 1 + 1) (N + 1 + 1) 0 (fun _ => nilS) [] 0) := HOL.out.up hb2; have HB2 : Hid (Below w.heap.size w W2) := below_trans HB1.out hb2; clear hb2)
  clear r3 HRS HED HOL HB1
  cases ok with
  | false =>
    go_wp2_with fail
    go_ret
    refine ⟨N + 1 + 1 + 1, N + 1 + 1, 0, fun _ => nilS, rfl, ?_, HB2.out⟩
    rw [← HSC.out.1, ← HSC.out.2]
    unfold stz cnz
    rw [HOK.out, hN]
    exact HOL2.out
  | true =>
    have HRN : Hid ((0 ≤ n ∧ n ≤ 1048576) ∧ rgs n l = true) := by
      have h7 := HOK.out
      unfold rgt at h7
      simp only [Bool.and_eq_true, decide_eq_true_eq] at h7
      exact ⟨⟨h7.1, h7.2.1⟩, h7.2.2⟩
    have HCL : Hid (∀ W, Calls Try.prog 18 #[.int .i64 n, edv A D I] W fun e w' => e = .returned (edv (cA n A) (cD n A D) I) ∧ Below W.heap.size W w') := fun W => eClamp_any n A D I W HRN.out.1 HI.out
    have HAD : Hid ((0 ≤ cA n A ∧ cA n A ≤ 1048576) ∧ (0 ≤ cD n A D ∧ cD n A D ≤ 1048576)) := ⟨cA_in n A HRN.out.1, cD_in n A D HRN.out.1⟩
    have HSZ : Hid (sts (cA n A) (cD n A D) I.size sb0 0 l = SS ∧ cns (cA n A) (cD n A D) 0 l = CC) := by
      have h7 := HSC.out
      unfold stz cnz at h7
      rw [HOK.out] at h7
      exact h7
    clear HSC HOK HRT
    obtain ⟨P, hP⟩ : ∃ P, cA n A = P := ⟨_, rfl⟩
    obtain ⟨Q, hQ⟩ : ∃ Q, cD n A D = Q := ⟨_, rfl⟩
    rw [hP, hQ] at HCL HAD HSZ
    clear hP hQ
    unfold edv at HCL
    have e0 := rcell HED2.out 0 _ rfl; have e1 := rcell HED2.out 1 _ rfl; have e2 := rcell HED2.out 2 _ rfl
    go_upto_region 5 with (go_at_call 18; refine Calls.mono (HCL.out _) ?_; rintro ee W3 ⟨rfl, hb3⟩; have HRS3 : Hid (W3.heap[N]? = some (.cells #[u 0, u 1, u 2, .slice a m cap, u 4, u 5] 33 (0, 0))) := (hb3.block _ (lt_of_heap HRS2.out)).trans HRS2.out; have HED3 : Hid (W3.heap[N + 1]? = some (.cells #[.int .i64 A, .int .i64 D, .string I] 24 (0, 0))) := (hb3.block _ (lt_of_heap HED2.out)).trans HED2.out; have HOL3 : Hid (Ol N W3 (N + 1 + 1 + 1) (N + 1 + 1) 0 (fun _ => nilS) [] 0) := HOL2.out.up hb3; have HB3 : Hid (Below w.heap.size w W3) := below_trans HB2.out hb3; clear hb3 e0 e1 e2; have e0 := rcell HED3.out 0 _ rfl; have e1 := rcell HED3.out 1 _ rfl; have e2 := rcell HED3.out 2 _ rfl; have f0 := Lib.frozen_of_heap HED3.out 0; have f1 := Lib.frozen_of_heap HED3.out 1; have f2 := Lib.frozen_of_heap HED3.out 2)
    clear e0 e1 e2 f0 f1 f2 HRS2 HED2 HOL2 HB2 HCL
    obtain ⟨W4, hW4⟩ : ∃ W4, W4 = ((W3.setCell ⟨N + 1, 0, none⟩ (.int .i64 P)).setCell ⟨N + 1, 1, none⟩ (.int .i64 Q)).setCell ⟨N + 1, 2, none⟩ (.string I) := ⟨_, rfl⟩
    have HED4 : Hid (W4.heap[N + 1]? = some (.cells #[.int .i64 P, .int .i64 Q, .string I] 24 (0, 0))) := by rw [hW4]; exact put3_heap _ _ _ HED3.out
    have HOL4 : Hid (Ol N W4 (N + 1 + 1 + 1) (N + 1 + 1) 0 (fun _ => nilS) [] 0) := by rw [hW4]; exact HOL3.out.off HED3.out (by decide) (by decide) grown3
    have HRS4 : Hid (W4.heap[N]? = some (.cells #[u 0, u 1, u 2, .slice a m cap, u 4, u 5] 33 (0, 0))) := by rw [hW4]; exact (grown3.block _ (lt_of_heap HRS3.out) (fun e => by have := Option.some.inj e; omega)).trans HRS3.out
    have HB4 : Hid (Below w.heap.size w W4) := by rw [hW4]; exact HB3.out.trans (put3_bel (by omega))
    rw [← hW4]
    clear hW4 HRS3 HED3 HOL3 HB3
    go_upto_region 7 with first | (go_at_call 16; refine Calls.mono (start_any _) ?_; rintro ee W5 ⟨rfl, hb5⟩; have HB5 : Hid (Below W4.heap.size W4 W5) := hb5; clear hb5) | (go_at_call 15; refine Calls.mono (encode_start _) ?_; rintro ee W6 ⟨rfl, hb6⟩; have HB6 : Hid (Below W4.heap.size W4 W6) := below_trans HB5.out hb6; clear hb6)
    have HRS6 : Hid (W6.heap[N]? = some (.cells #[u 0, u 1, u 2, .slice a m cap, u 4, u 5] 33 (0, 0))) := (HB6.out.block _ (lt_of_heap HRS4.out)).trans HRS4.out
    have HED6 : Hid (W6.heap[N + 1]? = some (.cells #[.int .i64 P, .int .i64 Q, .string I] 24 (0, 0))) := (HB6.out.block _ (lt_of_heap HED4.out)).trans HED4.out
    have HOL6 : Hid (Ol N W6 (N + 1 + 1 + 1) (N + 1 + 1) 0 (fun _ => nilS) [] 0) := HOL4.out.up HB6.out
    have HW6 : Hid (Below w.heap.size w W6) := below_trans HB4.out HB6.out
    clear HB5 HB6 HRS4 HED4 HOL4 HB4
    have r3 := rcell HRS6.out 3 _ rfl
    go_upto_region 8 with fail
    clear r3 HRS6
    go_loopg [8, 9, 33] m (fun gm v8 v9 v33 wr => ∃ (i : Nat) (o : Int) (b : ByteArray) (S : List (Int × St)) (c : Int) (k : Nat) (f : Int → Value), v33 = .int .i64 (i : Int) ∧ v8 = .int .i64 o ∧ v9 = .string b ∧ Hid (i ≤ m ∧ gm = m - i) ∧ Hid (0 ≤ o ∧ 0 ≤ n - o ∧ rgs (n - o) (l.drop i) = true) ∧ Hid (S ++ sts P Q I.size b o (l.drop i) = sts P Q I.size sb0 0 l) ∧ Hid (c + cns P Q o (l.drop i) = cns P Q 0 l ∧ 0 ≤ c ∧ c ≤ i) ∧ Hid (k ≤ i * 2) ∧ Hid (Ol N wr (N + 1 + 1 + 1) (N + 1 + 1) k f S c) ∧ Hid (wr.heap[N + 1]? = some (.cells #[.int .i64 P, .int .i64 Q, .string I] 24 (0, 0))) ∧ Hid (Below w.heap.size w wr))
    case atStart => exact ⟨0, 0, sb0, [], 0, 0, _, rfl, rfl, rfl, ⟨Nat.zero_le _, rfl⟩, ⟨Int.le_refl _, by have := HRN.out; omega, by rw [Int.sub_zero]; exact HRN.out.2⟩, rfl, ⟨by rw [Int.zero_add]; rfl, by omega, by omega⟩, Nat.le_refl _, HOL6, HED6, HW6⟩
    case round =>
      obtain ⟨i, o, b, S, c, k, f, rfl, rfl, rfl, HIX, HOO, HST, HCN, HKK, HOL, HED, HB⟩ := hrel
      clear HOL6 HED6 HW6
      by_cases hi : i < m
      · have e1 : decide ((i : Int) < (m : Int)) = true := by rw [decide_eq_true_eq]; omega
        have e2 : decide (i < m) = true := by rw [decide_eq_true_eq]; omega
        have b1 : (i : Int) < (m : Int) := by omega
        have b2 : i < m := hi
        have HIM : Hid (i < m) := hi
        have hwi := w64n i (by have := HL.out; omega)
        obtain ⟨g, og, rfl, hc⟩ := Lv.at HH.out HM.out i hi
        obtain ⟨c0, c1, c2, c3, c4, c5⟩ := hc _ HB.out
        have hdr := drop_cons l lfd i (by have := HM.out; omega)
        have hxa := HA.out (l.getD i lfd) (by rw [List.getD_eq_getElem?_getD, List.getElem?_eq_getElem (by have := HM.out; omega)]; exact List.getElem_mem _)
        have HLS : Hid (∀ z, (lst S z).length * 56 ≤ 140737488355328) := fun z => by
          have h1 := sts_lst P Q I.size z l sb0 0
          rw [← HST.out, lst_app, List.length_append] at h1
          have := HM.out
          have := HL.out
          omega
        obtain ⟨x, hx⟩ : ∃ x, l.getD i lfd = x := ⟨_, rfl⟩
        rw [hx] at c0 c1 c2 c3 c4 c5 hdr hxa
        rw [hdr] at HOO HST HCN
        obtain ⟨⟨hxp, hxl, hxk⟩, hq1, hq2⟩ := rgs_step HOO.out.2.2
        obtain ⟨xt, xp, xl, xk, xv, xa⟩ := x
        dsimp only at c0 c1 c2 c3 c4 c5 hxa hxp hxl hxk hq1 hq2
        have HXA : Hid (xa.size ≤ 140737488355328) := hxa
        have HXX : Hid ((0 ≤ xp ∧ xp ≤ 1048577) ∧ (0 ≤ xl ∧ xl ≤ 1048577) ∧ (0 ≤ xk ∧ xk ≤ 1048577)) := ⟨hxp, hxl, hxk⟩
        have HQQ : Hid (0 ≤ n - o - (xp + xl) ∧ rgs (n - o - (xp + xl)) (l.drop (i + 1)) = true) := ⟨hq1, hq2⟩
        clear hi hc hx hdr hxa hxp hxl hxk hq1 hq2
        obtain ⟨W1, hW1⟩ : ∃ W1, W1 = wr.alloc (.cells #[.int .i64 xt, .int .i64 xp, .int .i64 xl, .int .i64 xk, .int .u64 xv, .string xa] 36) := ⟨_, rfl⟩
        have HB1 : Hid (Below wr.heap.size wr W1) := by rw [hW1]; exact bel_up _ _
        have HX1 : Hid (W1.heap[wr.heap.size]? = some (.cells #[.int .i64 xt, .int .i64 xp, .int .i64 xl, .int .i64 xk, .int .u64 xv, .string xa] 36 (0, 0))) := by rw [hW1]; exact heap_new wr _
        obtain ⟨q, hq⟩ : ∃ q, wr.heap.size = q := ⟨_, rfl⟩
        go_upto_region 10 with fail
        rw [← hW1]
        rw [hq] at HX1
        have HQN : Hid (wr.heap.size = q ∧ N ≤ q) := ⟨hq, by have := HB.out.size; omega⟩
        clear hq hW1 c0 c1 c2 c3 c4 c5
        have HOL1 : Hid (Ol N W1 (N + 1 + 1 + 1) (N + 1 + 1) k f S c) := HOL.out.up HB1.out
        have HED1 : Hid (W1.heap[N + 1]? = some (.cells #[.int .i64 P, .int .i64 Q, .string I] 24 (0, 0))) := (HB1.out.block _ (lt_of_heap HED.out)).trans HED.out
        have HW1 : Hid (Below w.heap.size w W1) := below_trans HB.out HB1.out
        clear HOL HED HB HB1
        have x5 := rcell HX1.out 5 _ rfl
        go_upto_region 11 with (go_at_call 19; refine Calls.mono (clone_any xa _ HXA.out) ?_; rintro ee W2 ⟨rfl, hb2⟩; have HX2 : Hid (W2.heap[q]? = some (.cells #[.int .i64 xt, .int .i64 xp, .int .i64 xl, .int .i64 xk, .int .u64 xv, .string xa] 36 (0, 0))) := (hb2.block _ (lt_of_heap HX1.out)).trans HX1.out; have HOL2 : Hid (Ol N W2 (N + 1 + 1 + 1) (N + 1 + 1) k f S c) := HOL1.out.up hb2; have HED2 : Hid (W2.heap[N + 1]? = some (.cells #[.int .i64 P, .int .i64 Q, .string I] 24 (0, 0))) := (hb2.block _ (lt_of_heap HED1.out)).trans HED1.out; have HW2 : Hid (Below w.heap.size w W2) := below_trans HW1.out hb2; clear hb2 x5; have x5 := rcell HX2.out 5 _ rfl; have f5 := Lib.frozen_of_heap HX2.out 5)
        clear x5 f5 HX1 HOL1 HED1 HW1
        obtain ⟨W3, hW3⟩ : ∃ W3, W3 = W2.setCell ⟨q, 5, none⟩ (.string xa) := ⟨_, rfl⟩
        have HX3 : Hid (W3.heap[q]? = some (.cells #[.int .i64 xt, .int .i64 xp, .int .i64 xl, .int .i64 xk, .int .u64 xv, .string xa] 36 (0, 0))) := by rw [hW3]; exact blk_set _ HX2.out
        have HOL3 : Hid (Ol N W3 (N + 1 + 1 + 1) (N + 1 + 1) k f S c) := by rw [hW3]; exact HOL2.out.off HX2.out (by decide) (by decide) grown_set
        have HED3 : Hid (W3.heap[N + 1]? = some (.cells #[.int .i64 P, .int .i64 Q, .string I] 24 (0, 0))) := by
          show _ = _
          rw [hW3, Below.heap_setCell _ _ _ _ (fun e => ?_)]
          · exact HED2.out
          · have e' : N + 1 = q := e
            have h8 := HED2.out
            rw [e', HX2.out] at h8
            cases h8
        have HW3 : Hid (Below w.heap.size w W3) := by rw [hW3]; exact HW2.out.setCell (by have := HQN.out.2; show _ ≤ q; omega) _
        rw [← hW3]
        clear hW3 HX2 HOL2 HED2 HW2
        have HKP : Hid (Calls Try.prog 20 #[.pointer (some ⟨N + 1 + 1 + 1, 0, none⟩), sfv (b, ⟨xt, xp, xl, xk, xv, xa⟩), .int .i64 o, edv P Q I] W3 fun e w' => e = .returned (.tuple #[]) ∧ Kpo N W3 w' (N + 1 + 1 + 1) (N + 1 + 1) (k + 2) (S ++ (kp1 P o (b, ⟨xt, xp, xl, xk, xv, xa⟩) ++ kp2 P Q I.size o (b, ⟨xt, xp, xl, xk, xv, xa⟩))) (c + cn1 P Q o ⟨xt, xp, xl, xk, xv, xa⟩)) := keep_any W3 HOL3.out (b, ⟨xt, xp, xl, xk, xv, xa⟩) o P Q I ⟨HOO.out.1, by have := HOO.out.2.1; have := HRN.out.1; omega⟩ HXX.out.2.2 HAD.out.1 HAD.out.2 HI.out (by have := HKK.out; have := HIM.out; have := HL.out; unfold maxLen; omega) HLS.out ⟨HCN.out.2.1, by have := HCN.out.2.2; have := HIM.out; have := HL.out; omega⟩
        unfold sfv edv at HKP
        have x0 := rcell HX3.out 0 _ rfl; have x1 := rcell HX3.out 1 _ rfl; have x2 := rcell HX3.out 2 _ rfl; have x3 := rcell HX3.out 3 _ rfl; have x4 := rcell HX3.out 4 _ rfl; have x5 := rcell HX3.out 5 _ rfl
        have y0 := rcell HED3.out 0 _ rfl; have y1 := rcell HED3.out 1 _ rfl; have y2 := rcell HED3.out 2 _ rfl
        go_upto_region 12 with (go_at_call 20; refine Calls.mono HKP.out ?_; rintro ee W4 ⟨rfl, hk4⟩; have HK4 : Hid (Kpo N W3 W4 (N + 1 + 1 + 1) (N + 1 + 1) (k + 2) (S ++ (kp1 P o (b, ⟨xt, xp, xl, xk, xv, xa⟩) ++ kp2 P Q I.size o (b, ⟨xt, xp, xl, xk, xv, xa⟩))) (c + cn1 P Q o ⟨xt, xp, xl, xk, xv, xa⟩)) := hk4; clear hk4)
        clear x0 x1 x2 x3 x4 x5 y0 y1 y2 HKP
        obtain ⟨k4, f4, hk4, ho4, hb4, hf4⟩ := HK4.out
        have HX4 : Hid (W4.heap[q]? = some (.cells #[.int .i64 xt, .int .i64 xp, .int .i64 xl, .int .i64 xk, .int .u64 xv, .string xa] 36 (0, 0))) := hf4.blk _ _ _ HX3.out (by decide) (by decide)
        have HED4 : Hid (W4.heap[N + 1]? = some (.cells #[.int .i64 P, .int .i64 Q, .string I] 24 (0, 0))) := hf4.blk _ _ _ HED3.out (by decide) (by decide)
        have HOL4 : Hid (Ol N W4 (N + 1 + 1 + 1) (N + 1 + 1) k4 f4 (S ++ (kp1 P o (b, ⟨xt, xp, xl, xk, xv, xa⟩) ++ kp2 P Q I.size o (b, ⟨xt, xp, xl, xk, xv, xa⟩))) (c + cn1 P Q o ⟨xt, xp, xl, xk, xv, xa⟩)) := ho4
        have HW4 : Hid (Below w.heap.size w W4) := HW3.out.trans (by rw [hN]; exact hb4)
        have HK4L : Hid (k4 ≤ k + 2) := hk4
        clear HK4 hk4 ho4 hb4 hf4 HX3 HOL3 HED3 HW3
        have x1 := rcell HX4.out 1 _ rfl; have x2 := rcell HX4.out 2 _ rfl; have x5 := rcell HX4.out 5 _ rfl
        have w1 : IntKind.i64.wrap (xp + xl) = xp + xl := by have := HXX.out; rw [IntKind.wrap_i64]; omega
        have w2 : IntKind.i64.wrap (o + (xp + xl)) = o + (xp + xl) := by have := HXX.out; have := HOO.out; have := HRN.out.1; rw [IntKind.wrap_i64]; omega
        go_wp2_with fail
        go_roundg (m - (i + 1))
        case measure => have := HIX.out; have := HIM.out; omega
        case rel =>
          refine ⟨i + 1, o + (xp + xl), xa, _, _, k4, f4, by first | rfl | (rw [show (i : Int) + 1 = ((i + 1 : Nat) : Int) by omega]), rfl, rfl, ⟨HIM.out, rfl⟩, ⟨?_, ?_, ?_⟩, ?_, ⟨?_, ?_, ?_⟩, ?_, HOL4, HED4, HW4⟩
          · have := HXX.out; have := HOO.out.1; omega
          · have := HQQ.out.1; omega
          · have h7 := HQQ.out.2
            rw [show n - o - (xp + xl) = n - (o + (xp + xl)) by omega] at h7
            exact h7
          · have h7 := HST.out
            rw [sts] at h7
            rw [← h7, List.append_assoc]
            rfl
          · have h7 := HCN.out.1
            rw [cns] at h7
            rw [← h7, Int.add_assoc]
          · have := HCN.out.2.1; have := (cn1_le P Q o ⟨xt, xp, xl, xk, xv, xa⟩).1; omega
          · have := HCN.out.2.2; have := (cn1_le P Q o ⟨xt, xp, xl, xk, xv, xa⟩).2; omega
          · show k4 ≤ (i + 1) * 2
            have := HKK.out; have := HK4L.out; omega
      · have e1 : decide ((i : Int) < (m : Int)) = false := by rw [decide_eq_false_iff_not]; omega
        have e2 : decide (i < m) = false := by rw [decide_eq_false_iff_not]; omega
        have hdr : l.drop i = [] := List.drop_eq_nil_of_le (by have := HM.out; omega)
        have HST2 : Hid (S = sts P Q I.size sb0 0 l) := by have h7 := HST.out; rw [hdr] at h7; show _ = _; simpa [sts] using h7
        have HCN2 : Hid (c = cns P Q 0 l) := by have h7 := HCN.out.1; rw [hdr] at h7; show _ = _; simpa [cns] using h7
        clear hi hdr
        go_wp2_with fail
        go_ret
        refine ⟨N + 1 + 1 + 1, N + 1 + 1, k, f, rfl, ?_, HB.out⟩
        rw [← HSZ.out.1, ← HSZ.out.2, ← HST2.out, ← HCN2.out, hN]
        exact HOL.out
end Go.Proofs.Ytockmlaaefbfkaa
