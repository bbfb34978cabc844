import Derived.Test.YthfijmabagjdkaaQre
namespace Go.Proofs.Ythfijmabagjdkaa.Qy
open Go.RowKit Go.Maps

theorem Mp.step {B : Nat} {w w1 w2 : World} {r : Nat} {s s' : Rs} (h : Mp B w w1 r s) (k : Mp B w1 w2 r s') : Mp B w w2 r s' := ⟨k.rq, h.be.trans k.be⟩
def PC (n : Nat) : Prop := ∀ (B r : Nat) (vn vc : Value) (s : Rs) (w : World), Rq B w r vn vc s → Iv s → 2 * s.ws.length ≤ n → Calls Try.prog 25 #[.pointer (some ⟨r, 0, none⟩)] w fun e w' => e = .returned (.bool (rdP n none s).1) ∧ Mp B w w' r (rdP n none s).2
def CC (n : Nat) : Prop := ∀ (B r : Nat) (vn vc : Value) (s : Rs) (i : Nat) (w : World), Rq B w r vn vc s → Iv s → i < s.ns.length → 2 * s.ws.length + 1 ≤ n → Calls Try.prog 57 #[.pointer (some ⟨r, 0, none⟩), .int .i64 (i : Int)] w fun e w' => e = .returned (.bool (rdP n (some i) s).1) ∧ Mp B w w' r (rdP n (some i) s).2
theorem w64i (z : Int) (h0 : 0 ≤ z) (h1 : z ≤ 32) : IntKind.i64.wrap (z + 1) = z + 1 := by rw [IntKind.wrap_i64]; omega
set_option maxRecDepth 100000 in
set_option maxHeartbeats 8000000 in
theorem children_any (n : Nat) (hP : ∀ m, m < n → PC m) : CC n := by
  intro B r vn vc s i w h hv hi hn
  have HP : Hid (∀ m, m < n → PC m) := hP
  have HB0 : Hid (B ≤ w.heap.size) := h.size.1
  obtain ⟨R, hR⟩ : ∃ R, rdP n (some i) s = R := ⟨_, rfl⟩
  rw [hR]
  have HR0 : Hid (rdP n (some i) s = R ∧ Iv s ∧ i < s.ns.length ∧ 2 * s.ws.length + 1 ≤ n ∧ Rq B w r vn vc s) := ⟨hR, hv, hi, hn, h⟩
  clear h hv hi hn hR hP
  go_enter Try.func57, Try.ntmps57
  go_upto_region 1 with fail
  go_loopg [] n (fun gm wr => ∃ (m : Nat) (s' : Rs) (vn' vc' : Value), Hid (gm = m ∧ m ≤ n) ∧ Hid (rdP m (some i) s' = R ∧ Iv s' ∧ i < s'.ns.length ∧ 2 * s'.ws.length + 1 ≤ m ∧ Rq B wr r vn' vc' s') ∧ Hid (Below B w wr))
  case atStart => exact ⟨n, s, vn, vc, ⟨rfl, Nat.le_refl _⟩, HR0, Below.refl _ _⟩
  case round =>
    clear HR0
    obtain ⟨m, s, vn, vc, HG, HS, HBW⟩ := hrel
    obtain ⟨hR, hv, hi, hm, h⟩ := HS.out
    clear HS
    obtain ⟨m, rfl⟩ : ∃ k, m = k + 1 := ⟨m - 1, by omega⟩
    have HC : Hid _ := takes_any [41] wr h
    have HV : Hid (Iv s) := hv
    have HI : Hid (i < s.ns.length) := hi
    have HM : Hid (2 * s.ws.length + 1 ≤ m + 1) := hm
    have HBR : Hid (B ≤ wr.heap.size) := h.size.1
    have HPM : Hid (PC m) := HP.out m (by have := HG.out.2; omega)
    unfold rdP at hR
    cases hA : se s 5 [41] with
    | true =>
      rw [hA, if_pos rfl] at hR
      have e2 : tk s [41] = tl s := by unfold tk; rw [hA]; rfl
      rw [hA, e2] at HC
      subst hR
      clear hA e2 h hv hi hm
      go_wp2_with (go_at_call 58; refine Calls.mono HC.out ?_; rintro e w2 ⟨rfl, hk⟩; have HK : Hid (Kp B wr w2 r vn vc (tl s)) := hk; clear hk)
      go_ret
      have := HK.out.mp HBR.out
      exact ⟨rfl, this.rq, HBW.out.trans this.be⟩
    | false =>
      rw [hA, if_neg (by decide)] at hR
      have e2 : tk s [41] = s := by unfold tk; rw [hA]; rfl
      rw [hA, e2] at HC
      clear hA e2 h hv hi hm
      cases hc : rdP m none s with
      | mk b s1 =>
        have HPP : Hid (∀ w2, Rq B w2 r vn vc s → Calls Try.prog 25 #[.pointer (some ⟨r, 0, none⟩)] w2 fun e w' => e = .returned (.bool b) ∧ Mp B w2 w' r s1) := fun w2 h2 => by
          have := HPM.out B r vn vc s w2 h2 HV.out (by have := HM.out; omega)
          rw [hc] at this
          exact this
        rw [hc] at hR
        cases b with
        | false =>
          simp only at hR
          subst hR
          clear hc
          go_wp2_with first | (go_at_call 58; refine Calls.mono HC.out ?_; rintro e w2 ⟨rfl, hk⟩; have HK : Hid (Kp B wr w2 r vn vc s) := hk; clear hk) | (go_at_call 25; refine Calls.mono (HPP.out _ HK.out.1) ?_; rintro e w3 ⟨rfl, hk⟩; have HK3 : Hid (Mp B w2 w3 r s1) := hk; clear hk)
          go_ret
          exact ⟨rfl, HK3.out.rq, (HBW.out.trans (HK.out.mp HBR.out).be).trans HK3.out.be⟩
        | true =>
          simp only at hR
          have HR : Hid (rdP m (some i) (upN s1 i fun p => { p with kd := p.kd + 1 }) = R) := hR
          obtain ⟨q1, q2⟩ := (rdP_dn m).1 s s1 hc HV.out
          have q3 : i < s1.ns.length := by have := q1.ns; have := HI.out; omega
          have q4 := q1.iv.kid i q3 (by have := q1.dz; have := HV.out.ks; omega)
          have q5 := q1.iv.kd i q3
          have HQ : Hid (Iv (upN s1 i fun p => { p with kd := p.kd + 1 }) ∧ i < (upN s1 i fun p => { p with kd := p.kd + 1 }).ns.length ∧ 2 * s1.ws.length + 1 ≤ m ∧ i < s1.ns.length) := ⟨q4.iv, by have := q4.ns; omega, by have := HM.out; omega, q3⟩
          have HKD : Hid (0 ≤ (s1.ns.getD i pz).kd ∧ (s1.ns.getD i pz).kd ≤ 32) := q5
          clear hc hR q1 q2 q3 q4 q5
          go_upto_region 4 with first | (go_at_call 58; refine Calls.mono HC.out ?_; rintro e w2 ⟨rfl, hk⟩; have HK : Hid (Kp B wr w2 r vn vc s) := hk; clear hk) | (go_at_call 25; refine Calls.mono (HPP.out _ HK.out.1) ?_; rintro e w3 ⟨rfl, hk⟩; have HK3 : Hid (Mp B w2 w3 r s1) := hk; clear hk)
          obtain ⟨vn3, vc3, hr3⟩ := HK3.out.rq
          obtain ⟨g, c, rfl, hg, _, hc, _, _, _, _, q4, qf, hgr⟩ := hr3.row i HQ.out.2.2.2
          obtain ⟨_, _, _, _, _, k1, _⟩ := hr3.open
          obtain ⟨ln, hln⟩ : ∃ ln, s1.ns.length = ln := ⟨_, rfl⟩
          rw [hln] at k1 hc
          have HR3 : Hid (Rq B w3 r (.slice (some ⟨g, 0, none⟩) s1.ns.length c) vc3 s1) := hr3
          have HG3 : Hid (B ≤ g) := hg
          have f4 := qf (i * 5 + 4)
          have b1 : (i : Int) < (ln : Int) := by have := HQ.out.2.2.2; omega
          have b2 : i < ln := by have := HQ.out.2.2.2; omega
          have hwk := w64i _ HKD.out.1 HKD.out.2
          obtain ⟨kd, hkd⟩ : ∃ kd, (s1.ns.getD i pz).kd = kd := ⟨_, rfl⟩
          have HKE : Hid ((s1.ns.getD i pz).kd = kd) := hkd
          rw [hkd] at q4 hwk
          have HBZ : Hid (Below B w w3) := (HBW.out.trans (HK.out.mp HBR.out).be).trans HK3.out.be
          clear hr3 qf hgr hg hkd hln hc
          go_wp2_with fail
          go_roundg m
          case measure => have := HG.out.1; omega
          case rel =>
            have h9 := HR3.out.setN i 4 (.int .i64 (kd + 1)) (fun p => { p with kd := p.kd + 1 }) HQ.out.2.2.2 (by omega) (by rw [← HKE.out]; rfl)
            exact ⟨m, (upN s1 i fun p => { p with kd := p.kd + 1 }), .slice (some ⟨g, 0, none⟩) s1.ns.length c, vc3, ⟨rfl, by have := HG.out.2; omega⟩, ⟨HR.out, HQ.out.1, HQ.out.2.1, HQ.out.2.2.1, h9⟩, Below.setCell HBZ.out HG3.out _⟩
/-- A node's two changes are one. -/
theorem upN_two (s : Rs) (i : Nat) (f g : Pn → Pn) (hi : i < s.ns.length) : upN (upN s i f) i g = upN s i (fun p => g (f p)) := by
  unfold upN
  simp only
  rw [List.set_set]
  have e : (s.ns.set i (f (s.ns.getD i pz))).getD i pz = f (s.ns.getD i pz) := by
    rw [List.getD_eq_getElem?_getD, List.getElem?_set_self hi]; rfl
  rw [e]
set_option maxRecDepth 100000 in
set_option maxHeartbeats 8000000 in
theorem node_any {B r : Nat} {vn vc : Value} {s : Rs} (n i : Nat) (hC : CC n) (w : World) (h : Rq B w r vn vc s) (hv : Iv s) (hi : i < s.ns.length) (hm : 2 * s.ws.length ≤ n + 1) : Calls Try.prog 45 #[.pointer (some ⟨r, 0, none⟩), .int .i64 (i : Int)] w fun e w' => e = .returned (.bool (ndS n s i).1) ∧ Mp B w w' r (ndS n s i).2 := by
  have HC : Hid _ := nodeAhead_any w h
  have HR : Hid (Rq B w r vn vc s) := h
  have HB0 : Hid (B ≤ w.heap.size) := h.size.1
  obtain ⟨R, hR⟩ : ∃ R, ndS n s i = R := ⟨_, rfl⟩
  rw [hR]
  unfold ndS at hR
  cases hA : ndA s with
  | false =>
    rw [hA, if_pos (by decide)] at hR
    subst hR
    rw [hA] at HC
    clear h hv hi hm hA hC
    go_enter Try.func45, Try.ntmps45
    go_wp2_with first | (go_at_call 43; refine Calls.mono HC.out ?_; rintro e w2 ⟨rfl, hb⟩; have HK : Hid (Kp B w w2 r vn vc s) := (Kp.refl HR.out).up hb; clear hb) | (go_at_call 44; refine (fail_any 200 _ HK.out.1).mono ?_; rintro e w3 ⟨rfl, hk⟩; have HK3 : Hid (Kp B w w3 r vn vc (fl s 200)) := HK.out.trans hk; clear hk)
    go_ret
    exact ⟨rfl, HK3.out.mp HB0.out⟩
  | true =>
    have hk0 : (hd s).k ≠ 0 := by
      unfold ndA se at hA
      simp only [Bool.or_eq_true, Bool.and_eq_true, beq_iff_eq] at hA
      omega
    have hlen := ndA_ne hA
    rw [hA, if_neg (by decide)] at hR
    rw [hA] at HC
    have HK0 : Hid ((hd s).k ≠ 0) := hk0
    have HV : Hid (Iv s) := hv
    have HI : Hid (i < s.ns.length) := hi
    have HM : Hid (2 * s.ws.length ≤ n + 1 ∧ (tl s).ws.length + 1 = s.ws.length) := ⟨hm, hlen⟩
    have HCC : Hid (CC n) := hC
    obtain ⟨x, hx⟩ : ∃ x, hd s = x := ⟨_, rfl⟩
    have HX : Hid (hd s = x) := hx
    have HRR : Hid _ := hR
    clear h hv hi hm hA hC hk0 hlen hR hx
    go_enter Try.func45, Try.ntmps45
    go_upto_region 3 with (go_at_call 43; refine Calls.mono HC.out ?_; rintro e w2 ⟨rfl, hb⟩; have HK : Hid (Kp B w w2 r vn vc s) := (Kp.refl HR.out).up hb; clear hb)
    obtain ⟨g, o, m, cp, k0, _, _, _, _, hn, _, c0, c1, c2, c3, _⟩ := HK.out.1.open
    rw [HX.out] at c0 c1 c2 c3
    have d1 : (0 : Int) < (m : Int) := by omega
    clear hn
    go_upto_region 4 with fail
    obtain ⟨W3, hW3⟩ : ∃ W3, W3 = w2.alloc (.cells #[.int .i64 x.k, .string ⟨x.t.toArray⟩, .int .i64 x.n, .int .i64 x.a] 41) := ⟨_, rfl⟩
    rw [← hW3]
    have hb3 : Below w2.heap.size w2 W3 := by rw [hW3]; exact bel_up _ _
    have HK3 : Hid (Kp B w W3 r vn vc s) := HK.out.up hb3
    have hnew := heap_new w2 (.cells #[.int .i64 x.k, .string ⟨x.t.toArray⟩, .int .i64 x.n, .int .i64 x.a] 41)
    rw [← hW3] at hnew
    have hne : w2.heap.size ≠ r := by have := HK.out.1.size.2; omega
    clear k0 c0 c1 c2 c3 d1 hW3 hb3
    obtain ⟨g, o, m, cp, k0, _, _, _, _, hn, hcp, _, _, _, _, ht⟩ := HK3.out.1.open
    have HT : Hid _ := ht HK0.out
    have f0 := HK3.out.1.froz 0
    have d2 : (1 : Int) ≤ (m : Int) := by omega
    have d3 : 1 ≤ m := by omega
    have d4 : ¬ cp = 1 := by have := HT.out.1; omega
    obtain ⟨bx, hbx⟩ : ∃ bx, w2.heap.size = bx := ⟨_, rfl⟩
    rw [hbx] at hnew hne ⊢
    have HNE : Hid (bx ≠ r) := hne
    have HNEW : Hid (W3.heap[bx]? = some (.cells #[.int .i64 x.k, .string ⟨x.t.toArray⟩, .int .i64 x.n, .int .i64 x.a] 41 (0, 0))) := hnew
    have HBX : Hid (w2.heap.size = bx) := hbx
    clear ht hn hnew hne hbx hcp
    go_upto_region 5 with fail
    obtain ⟨W4, hW4⟩ : ∃ W4, W4 = W3.setCell ⟨r, 0, none⟩ (.slice (some ⟨g, o + 4, none⟩) (m - 1) (cp - 1)) := ⟨_, rfl⟩
    have HK4 : Hid (Kp B w W4 r vn vc (tl s)) := by rw [hW4]; exact HK3.out.set0 HT.out.2.2 HT.out.2.1
    have hbk : W4.heap[bx]? = some (.cells #[.int .i64 x.k, .string ⟨x.t.toArray⟩, .int .i64 x.n, .int .i64 x.a] 41 (0, 0)) := by rw [hW4, heap_far HNE.out]; exact HNEW.out
    have b0 : W4.cell? ⟨bx, 0, none⟩ = some (.int .i64 x.k) := rcell hbk 0 _ rfl
    have b1 : W4.cell? ⟨bx, 1, none⟩ = some (.string ⟨x.t.toArray⟩) := rcell hbk 1 _ rfl
    rw [← hW4]
    have HBK : Hid (W4.heap[bx]? = some (.cells #[.int .i64 x.k, .string ⟨x.t.toArray⟩, .int .i64 x.n, .int .i64 x.a] 41 (0, 0))) := hbk
    clear hW4 k0 f0 d2 d3 d4 HT hbk HNEW
    have hR := HRR.out
    rw [HX.out] at hR
    clear HRR
    by_cases hx2 : x.k = 2
    · rw [if_pos hx2] at hR
      subst hR
      rw [hx2] at b0
      obtain ⟨g, c, rfl, hg, ⟨cur, hcur⟩, hc, q0, q1, _, _, _, qf, hgr⟩ := HK4.out.1.row i (by show i < s.ns.length; exact HI.out)
      obtain ⟨_, _, _, _, _, k1, _⟩ := HK4.out.1.open
      obtain ⟨ln, hln⟩ : ∃ ln, (tl s).ns.length = ln := ⟨_, rfl⟩
      rw [hln] at k1 HK4
      have HLN : Hid ((tl s).ns.length = ln) := hln
      have HG3 : Hid (B ≤ g) := hg
      have f5 := qf (i * 5)
      have f6 := qf (i * 5 + 1)
      have a1 : (i : Int) < (ln : Int) := by have := HI.out; have h9 : s.ns.length = ln := hln; omega
      have a2 : i < ln := by have := HI.out; have h9 : s.ns.length = ln := hln; omega
      have hgb : bx ≠ g := by
        intro e
        have h9 := HBK.out
        rw [e, hcur] at h9
        cases h9
      have t1 : (W4.setCell ⟨g, i * 5 + 1, none⟩ (.bool true)).drew.cell? ⟨bx, 1, none⟩ = some (.string ⟨x.t.toArray⟩) := cell_keep b1 hgb
      have t2 : (W4.setCell ⟨g, i * 5 + 1, none⟩ (.bool true)).drew.cell? ⟨r, 1, none⟩ = some (.slice (some ⟨g, 0, none⟩) ln c) := cell_keep k1 (fun e => hgr e.symm)
      clear hx2 qf hgr hg hcur hc hln
      go_upto_region 6 with fail
      have j1 : W4.drew.cell? ⟨r, 1, none⟩ = some (.slice (some ⟨g, 0, none⟩) ln c) := k1
      have j2 : W4.drew.cell? ⟨bx, 1, none⟩ = some (.string ⟨x.t.toArray⟩) := b1
      have j3 : W4.drew.cell? ⟨g, i * 5, none⟩ = some (.string ((tl s).ns.getD i pz).nm) := q0
      have j4 : W4.drew.cell? ⟨g, i * 5 + 1, none⟩ = some (.bool ((tl s).ns.getD i pz).lit) := q1
      have j5 : W4.drew.frozen? ⟨g, i * 5, none⟩ = false := f5
      have j6 : W4.drew.frozen? ⟨g, i * 5 + 1, none⟩ = false := f6
      go_region
      have h8 : Hid (i < (tl s).ns.length) := HI.out
      have h9 := (HK4.out.1.setN i 1 (.bool true) (fun p => { p with lit := true }) h8.out (by omega) rfl).setN i 0 (.string ⟨x.t.toArray⟩) (fun p => { p with nm := ⟨x.t.toArray⟩ }) (by show i < ((tl s).ns.set i _).length; rw [List.length_set]; exact h8.out) (by omega) rfl
      rw [upN_two _ _ _ _ h8.out] at h9
      have H9 : Hid (Rq B ((W4.setCell ⟨g, i * 5 + 1, none⟩ (.bool true)).setCell ⟨g, i * 5, none⟩ (.string ⟨x.t.toArray⟩)).drew r (.slice (some ⟨g, 0, none⟩) ln c) vc (upN (tl s) i fun p => { p with lit := true, nm := bs x.t })) := h9.drew
      have H10 : Hid (Below B w ((W4.setCell ⟨g, i * 5 + 1, none⟩ (.bool true)).setCell ⟨g, i * 5, none⟩ (.string ⟨x.t.toArray⟩)).drew) := Below.drew (Below.setCell (Below.setCell (HK4.out.bel HB0.out) HG3.out _) HG3.out _)
      clear h8 h9 j1 j2 j3 j4 j5 j6 t1 t2 k1 b0 b1 q0 q1 f5 f6
      go_wp2_with fail
      go_ret
      exact ⟨rfl, ⟨_, _, H9.out⟩, H10.out⟩
    · rw [if_neg hx2] at hR
      have m2 : (x.k == 2) = false := by simpa using hx2
      have HCN : Hid _ := name_any i W4 HK4.out.1 (by show i < s.ns.length; exact HI.out)
      clear hx2
      by_cases hy : (hd (tl s)).k = 1
      · rw [if_neg (by omega)] at hR
        obtain ⟨S, hS⟩ : ∃ S, tl (if nmA (tl s) then upN (tl s) i fun p => { p with nm := bs (hd (tl s)).t } else tl s) = S := ⟨_, rfl⟩
        have e1 : nmS (tl s) i = (true, S) := by unfold nmS; rw [if_neg (by omega), hS]
        rw [hS] at hR
        rw [e1] at HCN
        have q1 := nms_dn HV.out.tl.iv i (by show i < s.ns.length; exact HI.out)
        rw [hS] at q1
        have q2 : S.ws.length + 2 ≤ s.ws.length + 1 := by have := q1.ws; have := HM.out.2; omega
        subst hR
        have HQ : Hid (Iv S ∧ i < S.ns.length ∧ S.ws.length + 1 ≤ s.ws.length) := ⟨q1.iv, by have := q1.ns; have h9 : (tl s).ns.length = s.ns.length := rfl; have := HI.out; omega, by omega⟩
        clear hy hS e1 q1 q2
        go_wp2_with first | (go_at_call 56; refine Calls.mono HCN.out ?_; rintro e w5 ⟨rfl, hk⟩; have HK5 : Hid (Mp B W4 w5 r S) := hk; clear hk; obtain ⟨vn5, vc5, hr5⟩ := HK5.out.rq; have HR5 : Hid (Rq B w5 r vn5 vc5 S) := hr5; clear hr5) | (go_at_call 57; refine (HCC.out B r vn5 vc5 S i w5 HR5.out HQ.out.1 HQ.out.2.1 (by have := HQ.out.2.2; have := HM.out.1; omega)).mono ?_; rintro e w6 ⟨rfl, hk⟩; have HK6 : Hid (Mp B w5 w6 r (rdP n (some i) S).2) := hk; clear hk)
        go_ret
        refine ⟨?_, HK6.out.rq, ((HK4.out.bel HB0.out).trans HK5.out.be).trans HK6.out.be⟩
        rfl
      · rw [if_pos hy] at hR
        have e1 : nmS (tl s) i = (false, fl (tl s) 200) := by unfold nmS; rw [if_pos hy]
        rw [e1] at HCN
        subst hR
        clear hy e1
        go_wp2_with (go_at_call 56; refine Calls.mono HCN.out ?_; rintro e w5 ⟨rfl, hk⟩; have HK5 : Hid (Mp B W4 w5 r (fl (tl s) 200)) := hk; clear hk)
        go_ret
        exact ⟨rfl, HK5.out.rq, (HK4.out.bel HB0.out).trans HK5.out.be⟩
end Go.Proofs.Ythfijmabagjdkaa.Qy
