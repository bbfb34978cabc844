import Derived.Test.YthfijmabagjdkaaQtf
import Derived.Test.YthfijmabagjdkaaQtg
namespace Go.Proofs.Ythfijmabagjdkaa.Qy
open Go.RowKit Go.Maps

theorem Rr.appC {B : Nat} {W W5 : World} {r : Nat} {vl vn vc v5 : Value} {L : List Wd} {m : Rm} {o : Obj} (p : Cd) (h : Rr B W r vl vn vc L m) (hg : (W.alloc o).grownBy W5 vc.ownBlock) (ho : W5.ownsRow B 48 4 v5 (m.cs.length + 1) (flat cf m.cs ++ cf p)) : Rr B (W5.setCell ⟨r, 3, none⟩ v5) r vl vn v5 L (adR m p) ∧ Kr W (W5.setCell ⟨r, 3, none⟩ v5) (fun j => j = r ∨ vc.ownBlock = some j) := by
  have hg' : W.grownBy W5 vc.ownBlock := (World.grownBy_alloc W o vc.ownBlock).trans hg
  have hb : Below B W W5 := (Below.refl B W).grown hg' h.size.1 (fun r hr => (row_tag h.cs r hr).1)
  have hb2 : Below B W (W5.setCell ⟨r, 3, none⟩ v5) := Below.setCell hb h.lt _
  have k1 : W5.heap[r]? = some (.cells #[vl, .int .i64 (m.at_ : Int), vn, vc, .int .i64 m.e, .int .i64 (m.po : Int)] 38 (0, 0)) := (hg'.block r (lt_of_heap h.blk) (fun e => tag_ne_blk h.cs h.blk (by decide) e.symm)).trans h.blk
  have kn : W5.ownsRow B 46 5 vn m.ns.length (flat pf m.ns) := h.ns.kept hg' (tag_ne h.ns h.cs (by decide))
  have kc : W5.ownsRow B 48 4 v5 (m.cs ++ [p]).length (flat cf (m.cs ++ [p])) := by
    rw [List.length_append, flat_app]
    have : flat cf [p] = cf p := by simp [flat]
    rw [this]
    exact ho
  refine ⟨⟨h.lt, by rw [blk_set _ k1]; rfl, h.wl.up hb2, (row_off k1 kn (by decide)).1, (row_off k1 kc (by decide)).1⟩, ?_⟩
  exact ((Kr.of_grown hg').mono (fun j e => .inr e)).trans (Kr.set _ _ _ _) (fun j e => .inl (.inl e))
/-- The reader, and a condition in a block of its own. -/
structure Cx (B : Nat) (W : World) (r cb : Nat) (vl vn vc : Value) (L : List Wd) (m : Rm) (c : Cd) : Prop where
  rr : Rr B W r vl vn vc L m
  bk : W.heap[cb]? = some (.cells #[.bool c.nt, .string c.a, .string c.b, .string c.tx] 48 (0, 0))
  ne : vc.ownBlock ≠ some cb
  nn : vn.ownBlock ≠ some cb
  lt : B ≤ cb
theorem Cx.far {B : Nat} {W : World} {r cb : Nat} {vl vn vc : Value} {L : List Wd} {m : Rm} {c : Cd} (h : Cx B W r cb vl vn vc L m c) : cb ≠ r := by
  rintro rfl
  have h2 := h.bk
  rw [h.rr.blk] at h2
  cases h2
theorem Cx.kr {B : Nat} {W W' : World} {r cb : Nat} {vl vn vc : Value} {L : List Wd} {m m' : Rm} {c : Cd} (h : Cx B W r cb vl vn vc L m c) (h2 : Rr B W' r vl vn vc L m') (k : Kr W W' (fun j => j = r)) : Cx B W' r cb vl vn vc L m' c :=
  ⟨h2, (k.block cb (lt_of_heap h.bk) h.far).trans h.bk, h.ne, h.nn, h.lt⟩
theorem Cx.up {B : Nat} {W W' : World} {r cb : Nat} {vl vn vc : Value} {L : List Wd} {m : Rm} {c : Cd} (h : Cx B W r cb vl vn vc L m c) (hb : Below W.heap.size W W') : Cx B W' r cb vl vn vc L m c :=
  ⟨h.rr.up hb, (hb.block cb (lt_of_heap h.bk)).trans h.bk, h.ne, h.nn, h.lt⟩
theorem Cx.set {B : Nat} {W : World} {r cb : Nat} {vl vn vc : Value} {L : List Wd} {m : Rm} {c : Cd} (h : Cx B W r cb vl vn vc L m c) (j : Nat) (x : Value) (c' : Cd) (hx : (#[Value.bool c.nt, .string c.a, .string c.b, .string c.tx] : Array Value).setIfInBounds j x = #[.bool c'.nt, .string c'.a, .string c'.b, .string c'.tx]) : Cx B (W.setCell ⟨cb, j, none⟩ x) r cb vl vn vc L m c' :=
  ⟨h.rr.far h.lt h.far h.nn h.ne, by rw [blk_set _ h.bk, hx], h.ne, h.nn, h.lt⟩
theorem WL.kind {B : Nat} {W : World} {g o n c : Nat} {L : List Wd} (h : WL B W (.slice (some ⟨g, o, none⟩) n c) L) (i : Nat) (hi : i < L.length) : W.cell? ⟨g, o + i * 4, none⟩ = some (.int .i64 (L.getD i w0).k) := by
  obtain ⟨ad, cap, e, hc⟩ := h
  obtain ⟨g2, o2, e2, -, c1, -⟩ := hc i hi
  obtain ⟨e3, -, -⟩ := Value.slice.inj e
  rw [← e3] at e2
  have e4 := Option.some.inj e2
  injection e4 with e5 e6
  subst e5 e6
  exact c1
theorem cpR_at (L : List Wd) (m : Rm) : (cpR L m).2.at_ ≤ m.at_ + 2 := by
  unfold cpR; split
  · split
    · split <;> exact Nat.le_refl _
    · show m.at_ + 1 ≤ _; omega
  · show m.at_ + 1 ≤ _; omega
theorem cdR_eq (L : List Wd) (m : Rm) (U V : Bool) (hU : unR L m = U) (hV : seR L m.at_ 1 [119, 104, 101, 110] = V) (a : ByteArray) (m2 : Rm) (h2 : cpR L ⟨m.at_ + 1, m.ns, m.cs, m.e, m.po⟩ = (a, m2)) : cdR L m = if (U || V) = false then ⟨m.at_, m.ns, m.cs, 200, m.at_⟩
  else if 16 ≤ m.cs.length then ⟨m.at_, m.ns, m.cs, 202, m.at_⟩
  else if (tqR L m2).e = 0 then adR (otR L (tqR L m2)).1 ⟨U, a, (otR L (tqR L m2)).2.1, (otR L (tqR L m2)).2.2⟩ else tqR L m2 := by
  unfold cdR cqR
  rw [h2, hU, hV]
set_option maxRecDepth 100000 in
set_option maxHeartbeats 16000000 in
theorem rcond_any {L : List Wd} {B r : Nat} {vl vn : Value} {ca : Option Addr} {cn cc : Nat} {m : Rm} (w : World) (h : Rr B w r vl vn (.slice ca cn cc) L m) (hL : L.length ≤ 1048576) (he : m.e = 0) (hl : m.at_ ≤ L.length) (hnl : m.ns.length ≤ 64) (hcl : m.cs.length ≤ 16) : Calls Try.prog 11 #[.pointer (some ⟨r, 0, none⟩)] w fun e w' => e = .returned (.tuple #[]) ∧ ∃ ca' cn' cc', Rr B w' r vl vn (.slice ca' cn' cc') L (cdR L m) ∧ Kr w w' (fun j => j = r ∨ (Value.slice ca cn cc).ownBlock = some j) ∧ ∀ j, (Value.slice ca' cn' cc').ownBlock = some j → (Value.slice ca cn cc).ownBlock = some j ∨ w.heap.size ≤ j := by
  obtain ⟨iC, hiC, hx0, hx1, hx2⟩ := info_parts infoC
  obtain ⟨rfl, -⟩ : cn = m.cs.length ∧ True := by
    obtain ⟨a9, c9, e9⟩ := row_shape h.cs
    exact ⟨(Value.slice.inj e9).2.1, trivial⟩
  obtain ⟨la, lc, hvl, hlw⟩ := h.wl
  subst hvl
  have HLA : Hid (∀ i, i < L.length → ∃ g o, la = some ⟨g, o, none⟩) := fun i hi => by obtain ⟨g, o, e, -⟩ := hlw i hi; exact ⟨g, o, e⟩
  clear hlw
  obtain ⟨nl, hnlE⟩ : ∃ nl, L.length = nl := ⟨_, rfl⟩
  have HNL : Hid (L.length = nl) := hnlE
  rw [hnlE] at h ⊢
  clear hnlE
  obtain ⟨ln, hln⟩ : ∃ ln, m.cs.length = ln := ⟨_, rfl⟩
  have HLN : Hid (m.cs.length = ln) := hln
  rw [hln] at h hcl ⊢
  have HR : Hid (Rr B w r (.slice la nl lc) vn (.slice ca ln cc) L m) := h
  have HM : Hid (m.e = 0 ∧ m.at_ ≤ L.length ∧ m.ns.length ≤ 64 ∧ ln ≤ 16 ∧ L.length ≤ 1048576) := ⟨he, hl, hnl, hcl, hL⟩
  have HSU : Hid _ := rsees_any m.at_ 1 [117, 110, 108, 101, 115, 115] w h
  have HSV : Hid _ := rsees_any m.at_ 1 [119, 104, 101, 110] w h
  obtain ⟨U, hU⟩ : ∃ U, unR L m = U := ⟨_, rfl⟩
  obtain ⟨V, hV⟩ : ∃ V, seR L m.at_ 1 [119, 104, 101, 110] = V := ⟨_, rfl⟩
  obtain ⟨⟨a, m2⟩, hq⟩ : ∃ q, cpR L ⟨m.at_ + 1, m.ns, m.cs, m.e, m.po⟩ = q := ⟨_, rfl⟩
  have hR := cdR_eq L m U V hU hV a m2 hq
  rw [hln] at hR
  obtain ⟨R, hRR⟩ : ∃ R, cdR L m = R := ⟨_, rfl⟩
  rw [hRR] at hR ⊢
  rw [show seR L m.at_ 1 [117, 110, 108, 101, 115, 115] = U from hU] at HSU
  rw [hV] at HSV
  have HQ : Hid (cpR L ⟨m.at_ + 1, m.ns, m.cs, m.e, m.po⟩ = (a, m2)) := hq
  have HQ2 : Hid (m2.ns = m.ns ∧ m2.cs = m.cs ∧ m2.at_ ≤ m.at_ + 3) := by
    have h1 := cpR_ns L ⟨m.at_ + 1, m.ns, m.cs, m.e, m.po⟩
    have h2 := cpR_at L ⟨m.at_ + 1, m.ns, m.cs, m.e, m.po⟩
    rw [hq] at h1 h2
    exact ⟨h1.1, h1.2, h2⟩
  have HRE : Hid _ := hR
  obtain ⟨-, k1, -, k3, -, -⟩ := h.open
  have f1 := HR.out.froz 1
  have hwa : IntKind.i64.wrap ((m.at_ : Int) + 1) = (m.at_ : Int) + 1 := by rw [IntKind.wrap_i64]; omega
  clear h he hl hnl hcl hL hU hV hq hR hRR hln
  go_enter Try.func11, Try.ntmps11
  go_upto_region 1 with (go_at_call 17; refine Calls.mono HSU.out ?_; rintro e w1 ⟨rfl, rfl⟩)
  go_cut [20] from 10 to 20 (fun v20 wd => v20 = .bool (!U && !V) ∧ Hid (w = wd))
  case first =>
    cases U with
    | true =>
      go_wp2_with fail
      go_meet
      exact ⟨rfl, rfl⟩
    | false =>
      go_wp2_with (go_at_call 17; refine Calls.mono HSV.out ?_; rintro e w1 ⟨rfl, rfl⟩)
      go_meet
      exact ⟨by simp, rfl⟩
  case rest =>
    obtain ⟨rfl, hwd⟩ := hcut
    obtain rfl := hwd.out
    clear HSU HSV
    cases hz : (!U && !V) with
    | true =>
      have hRE := HRE.out
      have hz2 : (U || V) = false := by cases U <;> cases V <;> simp_all
      rw [hz2, if_pos rfl] at hRE
      subst hRE
      clear hz hz2 HRE
      go_wp2_with (go_at_call 19; refine Calls.mono (rstop_any 200 m.at_ _ HR.out HM.out.1) ?_; rintro e w2 ⟨rfl, hr2, hk2⟩; have HR2 : Hid (Rr B w2 r (.slice la nl lc) vn (.slice ca ln cc) L ⟨m.at_, m.ns, m.cs, 200, m.at_⟩) := hr2; have HK2 : Hid _ := hk2; clear hr2 hk2)
      refine bodyPost_ret (results_none rfl _ _ _) rfl ⟨rfl, ca, ln, cc, HR2.out, HK2.out.mono (fun j e => .inl e), fun j e => .inl e⟩
    | false =>
      have hRE := HRE.out
      rw [if_neg (by revert hz; cases U <;> cases V <;> decide)] at hRE
      clear hz HRE
      by_cases h16 : 16 ≤ ln
      · rw [if_pos h16] at hRE
        subst hRE
        have d1 : decide ((16 : Int) ≤ (ln : Int)) = true := by rw [decide_eq_true_eq]; omega
        have d2 : decide (16 ≤ ln) = true := by rw [decide_eq_true_eq]; omega
        clear h16
        go_wp2_with (go_at_call 19; refine Calls.mono (rstop_any 202 m.at_ _ HR.out HM.out.1) ?_; rintro e w2 ⟨rfl, hr2, hk2⟩; have HR2 : Hid (Rr B w2 r (.slice la nl lc) vn (.slice ca ln cc) L ⟨m.at_, m.ns, m.cs, 202, m.at_⟩) := hr2; have HK2 : Hid _ := hk2; clear hr2 hk2)
        refine bodyPost_ret (results_none rfl _ _ _) rfl ⟨rfl, ca, ln, cc, HR2.out, HK2.out.mono (fun j e => .inl e), fun j e => .inl e⟩
      · rw [if_neg h16] at hRE
        have d1 : decide ((16 : Int) ≤ (ln : Int)) = false := by rw [decide_eq_false_iff_not]; omega
        have d2 : decide (16 ≤ ln) = false := by rw [decide_eq_false_iff_not]; omega
        have HLC : Hid (ln < 16) := by show _ < _; omega
        have HRE : Hid _ := hRE
        clear h16 hRE
        go_upto_region 6 with fail
        obtain ⟨w1, hw1⟩ : ∃ w1, w1 = w.setCell ⟨r, 1, none⟩ (.int .i64 ((m.at_ : Int) + 1)) := ⟨_, rfl⟩
        have HR1 : Hid (Rr B w1 r (.slice la nl lc) vn (.slice ca ln cc) L ⟨m.at_ + 1, m.ns, m.cs, m.e, m.po⟩) := by
          have h9 := HR.out.set1 (m.at_ + 1)
          rw [hw1]
          push_cast at h9
          exact h9
        have HK1 : Hid (Kr w w1 (fun j => j = r)) := by rw [hw1]; exact Kr.set _ _ _ _
        have HCP : Hid (Calls Try.prog 23 #[.pointer (some ⟨r, 0, none⟩)] w1 fun e w' => e = .returned (.string a) ∧ Rr B w' r (.slice la nl lc) vn (.slice ca ln cc) L m2 ∧ Kr w1 w' (fun j => j = r)) := by
          have h9 := rcapture_any w1 HR1.out HM.out.1 (by show m.at_ + 1 ≤ _; have := HM.out; omega) (by show m.ns.length ≤ _; have := HM.out; omega)
          rw [HQ.out] at h9
          exact h9
        rw [← hw1]
        clear hw1 k1 k3 f1 hwa d1 d2 HQ
        go_upto_region 7 with (go_at_call 23; refine Calls.mono HCP.out ?_; rintro e w2 ⟨rfl, hr2, hk2⟩; have HR2 : Hid (Rr B w2 r (.slice la nl lc) vn (.slice ca ln cc) L m2) := hr2; have HK2 : Hid (Kr w1 w2 (fun j => j = r)) := hk2; clear hr2 hk2)
        obtain ⟨w4, hw4⟩ : ∃ w4, w4 = w2.alloc (.cells #[.bool U, .string a, .string ⟨#[]⟩, .string ⟨#[]⟩] 48) := ⟨_, rfl⟩
        obtain ⟨cb, hcb⟩ : ∃ cb, w2.heap.size = cb := ⟨_, rfl⟩
        have HB4 : Hid (Below w2.heap.size w2 w4) := by rw [hw4]; exact bel_up _ _
        have HC4 : Hid (Cx B w4 r cb (.slice la nl lc) vn (.slice ca ln cc) L m2 ⟨U, a, ⟨#[]⟩, ⟨#[]⟩⟩) := by
          refine ⟨HR2.out.up HB4.out, by rw [hw4, ← hcb]; exact heap_new _ _, fun e => ?_, fun e => ?_, by rw [← hcb]; exact HR2.out.size.1⟩
          · have h8 := (HR2.out.cs.lt cb e).2; omega
          · have h8 := (HR2.out.ns.lt cb e).2; omega
        have HSZ : Hid (w.heap.size ≤ cb) := by rw [← hcb]; exact Nat.le_trans HK1.out.size HK2.out.size
        have HK4 : Hid (Kr w w4 (fun j => j = r)) := (HK1.out.trans HK2.out (fun j e => .inl e)).trans (S' := fun _ => False) (Kr.of_below HB4.out) (fun j e => e.elim)
        rw [← hw4, hcb]
        clear hw4 hcb HK1 HK2 HR1 HR2 HB4 HR HCP
        obtain ⟨at2, ns2, cs2, e2, po2⟩ := m2
        by_cases hE : e2 = 0
        case neg =>
          have k4 : w4.cell? ⟨r, 4, none⟩ = some (.int .i64 e2) := HC4.out.rr.open.2.2.2.2.1
          have d1 : (e2 == 0) = false := by rw [beq_eq_false_iff_ne]; exact hE
          have HX : Hid (R = ⟨at2, ns2, cs2, e2, po2⟩) := by
            have h9 := HRE.out
            have h8 : tqR L ⟨at2, ns2, cs2, e2, po2⟩ = ⟨at2, ns2, cs2, e2, po2⟩ := by unfold tqR; rw [if_neg hE]
            rw [h8, if_neg hE] at h9
            exact h9
          go_wp2_with fail
          refine bodyPost_ret (results_none rfl _ _ _) rfl ⟨rfl, ca, ln, cc, (by rw [HX.out]; exact HC4.out.rr), HK4.out.mono (fun j e => .inl e), fun j e => .inl e⟩
        case pos =>
          subst hE
          have k4 : w4.cell? ⟨r, 4, none⟩ = some (.int .i64 0) := HC4.out.rr.open.2.2.2.2.1
          have htk := rtake_any 5 [61] w4 HC4.out.rr rfl (by show at2 ≤ _; have := HQ2.out.2.2; have := HM.out; dsimp only at *; omega)
          obtain ⟨a3, ha3⟩ : ∃ a3, at2 + 1 = a3 := ⟨_, rfl⟩
          have HA3 : Hid (at2 + 1 = a3) := ha3
          cases hT : seR L at2 5 [61] with
          | false =>
            dsimp only at htk
            rw [hT, ha3, if_neg (by decide)] at htk
            have HTK : Hid _ := htk
            have HX : Hid (R = ⟨a3, ns2, cs2, 200, at2⟩) := by
              have h9 := HRE.out
              have h8 : tqR L ⟨at2, ns2, cs2, 0, po2⟩ = ⟨a3, ns2, cs2, 200, at2⟩ := by unfold tqR; rw [if_pos rfl, if_neg (by rw [hT]; decide), ← ha3]
              rw [h8, if_neg (show ¬(200 : Int) = 0 by decide)] at h9
              exact h9
            clear htk ha3 hT
            go_wp2_with (go_at_call 20; refine Calls.mono HTK.out ?_; rintro e w5 ⟨rfl, hr5, hk5⟩; have HR5 : Hid (Rr B w5 r (.slice la nl lc) vn (.slice ca ln cc) L ⟨a3, ns2, cs2, 200, at2⟩) := hr5; have HK5 : Hid (Kr w4 w5 (fun j => j = r)) := hk5; have k5 : w5.cell? ⟨r, 4, none⟩ = some (.int .i64 200) := hr5.open.2.2.2.2.1; clear hr5 hk5)
            refine bodyPost_ret (results_none rfl _ _ _) rfl ⟨rfl, ca, ln, cc, (by rw [HX.out]; exact HR5.out), (HK4.out.trans HK5.out (fun j e => .inl e)).mono (fun j e => .inl e), fun j e => .inl e⟩
          | true =>
            dsimp only at htk
            rw [hT, ha3, if_pos rfl] at htk
            have HTK : Hid _ := htk
            have HX : Hid (R = adR (otR L ⟨a3, ns2, cs2, 0, po2⟩).1 ⟨U, a, (otR L ⟨a3, ns2, cs2, 0, po2⟩).2.1, (otR L ⟨a3, ns2, cs2, 0, po2⟩).2.2⟩) := by
              have h9 := HRE.out
              have h8 : tqR L ⟨at2, ns2, cs2, 0, po2⟩ = ⟨a3, ns2, cs2, 0, po2⟩ := by unfold tqR; rw [if_pos rfl, if_pos hT, ← ha3]
              rw [h8, if_pos rfl] at h9
              exact h9
            have HA3L : Hid (a3 ≤ L.length) := by have := (seR_lt hT).1; show _ ≤ _; omega
            clear htk ha3 hT HRE
            go_upto_region 10 with (go_at_call 20; refine Calls.mono HTK.out ?_; rintro e w5 ⟨rfl, hr5, hk5⟩; have HC5 : Hid (Cx B w5 r cb (.slice la nl lc) vn (.slice ca ln cc) L ⟨a3, ns2, cs2, 0, po2⟩ ⟨U, a, ⟨#[]⟩, ⟨#[]⟩⟩) := HC4.out.kr hr5 hk5; have HK5 : Hid (Kr w w5 (fun j => j = r)) := HK4.out.trans hk5 (fun j e => .inl e); have k5 : w5.cell? ⟨r, 4, none⟩ = some (.int .i64 0) := hr5.open.2.2.2.2.1; clear hr5 hk5)
            clear k4 k5 HTK HC4 HK4
            obtain ⟨Z, hZ⟩ : ∃ Z, decide (a3 < L.length ∧ (L.getD a3 w0).k = 2) = Z := ⟨_, rfl⟩
            have HZ : Hid (decide (a3 < L.length ∧ (L.getD a3 w0).k = 2) = Z) := hZ
            clear hZ
            go_cut [86] from 63 to 86 (fun v86 wd => v86 = .bool Z ∧ Hid (Cx B wd r cb (.slice la nl lc) vn (.slice ca ln cc) L ⟨a3, ns2, cs2, 0, po2⟩ ⟨U, a, ⟨#[]⟩, ⟨#[]⟩⟩) ∧ Hid (Kr w wd (fun j => j = r)))
            case first =>
              obtain ⟨w6, hw6⟩ : ∃ w6, w6 = w5.drew := ⟨_, rfl⟩
              have HB6 : Hid (Below w5.heap.size w5 w6) := by rw [hw6]; exact Below.drew (Below.refl _ _)
              have HC6 : Hid (Cx B w6 r cb (.slice la nl lc) vn (.slice ca ln cc) L ⟨a3, ns2, cs2, 0, po2⟩ ⟨U, a, ⟨#[]⟩, ⟨#[]⟩⟩) := HC5.out.up HB6.out
              have HK6 : Hid (Kr w w6 (fun j => j = r)) := HK5.out.trans (S' := fun _ => False) (Kr.of_below HB6.out) (fun j e => e.elim)
              by_cases hA : a3 < L.length
              · obtain ⟨lg, lo, rfl⟩ := HLA.out a3 hA
                obtain ⟨kk, hkk⟩ : ∃ kk, (L.getD a3 w0).k = kk := ⟨_, rfl⟩
                have HKK : Hid (∀ W, Cx B W r cb (.slice (some ⟨lg, lo, none⟩) nl lc) vn (.slice ca ln cc) L ⟨a3, ns2, cs2, 0, po2⟩ ⟨U, a, ⟨#[]⟩, ⟨#[]⟩⟩ → W.cell? ⟨lg, lo + a3 * 4, none⟩ = some (.int .i64 kk)) := fun W hW => by rw [← hkk]; exact hW.rr.wl.kind a3 hA
                have HZK : Hid (Z = (kk == 2)) := by
                  have h9 := HZ.out
                  rw [hkk] at h9
                  show _ = _
                  rw [← h9]
                  by_cases h8 : kk = 2
                  · rw [decide_eq_true ⟨hA, h8⟩, h8]; rfl
                  · rw [decide_eq_false (fun h => h8 h.2), beq_eq_false_iff_ne.2 h8]
                have b0 : (0 : Int) ≤ (a3 : Int) := by omega
                have b1 : (a3 : Int) < (nl : Int) := by have := HNL.out; omega
                have b2 : a3 < nl := by have := HNL.out; omega
                clear hA hkk
                refine wp_region_noPanic ?_
                refine wp_region_held_drew (S := fun W => Cx B W r cb (.slice (some ⟨lg, lo, none⟩) nl lc) vn (.slice ca ln cc) L ⟨a3, ns2, cs2, 0, po2⟩ ⟨U, a, ⟨#[]⟩, ⟨#[]⟩⟩) (by kernel_rfl) (by rw [← hw6]; exact HC6.out) (fun hHeld => ?_)
                rw [← hw6] at hHeld ⊢
                clear hw6
                refine wpAnyH_take (i := 0) (oi := { dst := _, op := _, type := _, pos := _, after := _, guard := _ }) (v := ?_) rfl (by kernel_rfl) (by kernel_rfl) (by kernel_rfl) (fun _ _ _ h => h) (Or.inl ⟨by rfl, ?_⟩) (by assumption) ?_
                rotate_left
                · intro W hSw
                  (try dsimp only at hSw)
                  go_simp
                  (try with_reducible rfl)
                try simp only [Act.put, List.setIfInBounds_toArray, List.set_cons_zero, List.set_cons_succ]
                refine wpAnyH_take (i := 1) (oi := { dst := _, op := _, type := _, pos := _, after := _, guard := _ }) (v := ?_) rfl (by kernel_rfl) (by kernel_rfl) (by kernel_rfl) (fun _ _ _ h => h) (Or.inl ⟨by rfl, ?_⟩) (by assumption) ?_
                rotate_left
                · intro W hSw
                  (try dsimp only at hSw)
                  go_simp
                  (try with_reducible rfl)
                try simp only [Act.put, List.setIfInBounds_toArray, List.set_cons_zero, List.set_cons_succ]
                refine wpAnyH_take (i := 2) (oi := { dst := _, op := _, type := _, pos := _, after := _, guard := _ }) (v := ?_) rfl (by kernel_rfl) (by kernel_rfl) (by kernel_rfl) (fun _ _ _ h => h) (Or.inl ⟨by rfl, ?_⟩) (by assumption) ?_
                rotate_left
                · intro W hSw
                  (try dsimp only at hSw)
                  go_simp
                  (try with_reducible rfl)
                try simp only [Act.put, List.setIfInBounds_toArray, List.set_cons_zero, List.set_cons_succ]
                refine wpAnyH_take (i := 3) (oi := { dst := _, op := _, type := _, pos := _, after := _, guard := _ }) (v := ?_) rfl (by kernel_rfl) (by kernel_rfl) (by kernel_rfl) (fun _ _ _ h => h) (Or.inl ⟨by rfl, ?_⟩) (by assumption) ?_
                rotate_left
                · intro W hSw
                  (try dsimp only at hSw)
                  have y1 := hSw.rr.open.2.1
                  go_simp
                  (try with_reducible rfl)
                try simp only [Act.put, List.setIfInBounds_toArray, List.set_cons_zero, List.set_cons_succ]
                refine wpAnyH_take (i := 4) (oi := { dst := _, op := _, type := _, pos := _, after := _, guard := _ }) (v := ?_) rfl (by kernel_rfl) (by kernel_rfl) (by kernel_rfl) (fun _ _ _ h => h) (Or.inl ⟨by rfl, ?_⟩) (by assumption) ?_
                rotate_left
                · intro W hSw
                  (try dsimp only at hSw)
                  go_simp
                  (try with_reducible rfl)
                try simp only [Act.put, List.setIfInBounds_toArray, List.set_cons_zero, List.set_cons_succ]
                refine wpAnyH_take (i := 5) (oi := { dst := _, op := _, type := _, pos := _, after := _, guard := _ }) (v := ?_) rfl (by kernel_rfl) (by kernel_rfl) (by kernel_rfl) (fun _ _ _ h => h) (Or.inl ⟨by rfl, ?_⟩) (by assumption) ?_
                rotate_left
                · intro W hSw
                  (try dsimp only at hSw)
                  go_simp
                  (try with_reducible rfl)
                try simp only [Act.put, List.setIfInBounds_toArray, List.set_cons_zero, List.set_cons_succ]
                refine wpAnyH_take (i := 6) (oi := { dst := _, op := _, type := _, pos := _, after := _, guard := _ }) (v := ?_) rfl (by kernel_rfl) (by kernel_rfl) (by kernel_rfl) (fun _ _ _ h => h) (Or.inl ⟨by rfl, ?_⟩) (by assumption) ?_
                rotate_left
                · intro W hSw
                  (try dsimp only at hSw)
                  go_simp
                  (try with_reducible rfl)
                try simp only [Act.put, List.setIfInBounds_toArray, List.set_cons_zero, List.set_cons_succ]
                refine wpAnyH_take (i := 7) (oi := { dst := _, op := _, type := _, pos := _, after := _, guard := _ }) (v := ?_) rfl (by kernel_rfl) (by kernel_rfl) (by kernel_rfl) (fun _ _ _ h => h) (Or.inl ⟨by rfl, ?_⟩) (by assumption) ?_
                rotate_left
                · intro W hSw
                  (try dsimp only at hSw)
                  have y0 := hSw.rr.open.1
                  go_simp
                  (try with_reducible rfl)
                try simp only [Act.put, List.setIfInBounds_toArray, List.set_cons_zero, List.set_cons_succ]
                refine wpAnyH_take (i := 8) (oi := { dst := _, op := _, type := _, pos := _, after := _, guard := _ }) (v := ?_) rfl (by kernel_rfl) (by kernel_rfl) (by kernel_rfl) (fun _ _ _ h => h) (Or.inl ⟨by rfl, ?_⟩) (by assumption) ?_
                rotate_left
                · intro W hSw
                  (try dsimp only at hSw)
                  go_simp
                  (try with_reducible rfl)
                try simp only [Act.put, List.setIfInBounds_toArray, List.set_cons_zero, List.set_cons_succ]
                refine wpAnyH_take (i := 9) (oi := { dst := _, op := _, type := _, pos := _, after := _, guard := _ }) (v := ?_) rfl (by kernel_rfl) (by kernel_rfl) (by kernel_rfl) (fun _ _ _ h => h) (Or.inl ⟨by rfl, ?_⟩) (by assumption) ?_
                rotate_left
                · intro W hSw
                  (try dsimp only at hSw)
                  go_simp
                  (try with_reducible rfl)
                try simp only [Act.put, List.setIfInBounds_toArray, List.set_cons_zero, List.set_cons_succ]
                refine wpAnyH_take (i := 10) (oi := { dst := _, op := _, type := _, pos := _, after := _, guard := _ }) (v := ?_) rfl (by kernel_rfl) (by kernel_rfl) (by kernel_rfl) (fun _ _ _ h => h) (Or.inl ⟨by rfl, ?_⟩) (by assumption) ?_
                rotate_left
                · intro W hSw
                  (try dsimp only at hSw)
                  go_simp
                  (try with_reducible rfl)
                try simp only [Act.put, List.setIfInBounds_toArray, List.set_cons_zero, List.set_cons_succ]
                refine wpAnyH_take (i := 11) (oi := { dst := _, op := _, type := _, pos := _, after := _, guard := _ }) (v := ?_) rfl (by kernel_rfl) (by kernel_rfl) (by kernel_rfl) (fun _ _ _ h => h) (Or.inl ⟨by rfl, ?_⟩) (by assumption) ?_
                rotate_left
                · intro W hSw
                  (try dsimp only at hSw)
                  go_simp
                  (try with_reducible rfl)
                try simp only [Act.put, List.setIfInBounds_toArray, List.set_cons_zero, List.set_cons_succ]
                refine wpAnyH_take (i := 12) (oi := { dst := _, op := _, type := _, pos := _, after := _, guard := _ }) (v := ?_) rfl (by kernel_rfl) (by kernel_rfl) (by kernel_rfl) (fun _ _ _ h => h) (Or.inl ⟨by rfl, ?_⟩) (by assumption) ?_
                rotate_left
                · intro W hSw
                  (try dsimp only at hSw)
                  go_simp
                  (try with_reducible rfl)
                try simp only [Act.put, List.setIfInBounds_toArray, List.set_cons_zero, List.set_cons_succ]
                refine wpAnyH_take (i := 13) (oi := { dst := _, op := _, type := _, pos := _, after := _, guard := _ }) (v := ?_) rfl (by kernel_rfl) (by kernel_rfl) (by kernel_rfl) (fun _ _ _ h => h) (Or.inl ⟨by rfl, ?_⟩) (by assumption) ?_
                rotate_left
                · intro W hSw
                  (try dsimp only at hSw)
                  go_simp
                  (try with_reducible rfl)
                try simp only [Act.put, List.setIfInBounds_toArray, List.set_cons_zero, List.set_cons_succ]
                refine wpAnyH_take (i := 14) (oi := { dst := _, op := _, type := _, pos := _, after := _, guard := _ }) (v := ?_) rfl (by kernel_rfl) (by kernel_rfl) (by kernel_rfl) (fun _ _ _ h => h) (Or.inl ⟨by rfl, ?_⟩) (by assumption) ?_
                rotate_left
                · intro W hSw
                  (try dsimp only at hSw)
                  have y0 := hSw.rr.open.1
                  go_simp
                  (try with_reducible rfl)
                try simp only [Act.put, List.setIfInBounds_toArray, List.set_cons_zero, List.set_cons_succ]
                refine wpAnyH_take (i := 15) (oi := { dst := _, op := _, type := _, pos := _, after := _, guard := _ }) (v := ?_) rfl (by kernel_rfl) (by kernel_rfl) (by kernel_rfl) (fun _ _ _ h => h) (Or.inl ⟨by rfl, ?_⟩) (by assumption) ?_
                rotate_left
                · intro W hSw
                  (try dsimp only at hSw)
                  go_simp
                  (try with_reducible rfl)
                try simp only [Act.put, List.setIfInBounds_toArray, List.set_cons_zero, List.set_cons_succ]
                refine wpAnyH_take (i := 16) (oi := { dst := _, op := _, type := _, pos := _, after := _, guard := _ }) (v := ?_) rfl (by kernel_rfl) (by kernel_rfl) (by kernel_rfl) (fun _ _ _ h => h) (Or.inl ⟨by rfl, ?_⟩) (by assumption) ?_
                rotate_left
                · intro W hSw
                  (try dsimp only at hSw)
                  go_simp
                  (try with_reducible rfl)
                try simp only [Act.put, List.setIfInBounds_toArray, List.set_cons_zero, List.set_cons_succ]
                refine wpAnyH_take (i := 17) (oi := { dst := _, op := _, type := _, pos := _, after := _, guard := _ }) (v := ?_) rfl (by kernel_rfl) (by kernel_rfl) (by kernel_rfl) (fun _ _ _ h => h) (Or.inl ⟨by rfl, ?_⟩) (by assumption) ?_
                rotate_left
                · intro W hSw
                  (try dsimp only at hSw)
                  go_simp
                  (try with_reducible rfl)
                try simp only [Act.put, List.setIfInBounds_toArray, List.set_cons_zero, List.set_cons_succ]
                refine wpAnyH_take (i := 18) (oi := { dst := _, op := _, type := _, pos := _, after := _, guard := _ }) (v := ?_) rfl (by kernel_rfl) (by kernel_rfl) (by kernel_rfl) (fun _ _ _ h => h) (Or.inl ⟨by rfl, ?_⟩) (by assumption) ?_
                rotate_left
                · intro W hSw
                  (try dsimp only at hSw)
                  have y1 := hSw.rr.open.2.1
                  go_simp
                  (try with_reducible rfl)
                try simp only [Act.put, List.setIfInBounds_toArray, List.set_cons_zero, List.set_cons_succ]
                refine wpAnyH_take (i := 19) (oi := { dst := _, op := _, type := _, pos := _, after := _, guard := _ }) (v := ?_) rfl (by kernel_rfl) (by kernel_rfl) (by kernel_rfl) (fun _ _ _ h => h) (Or.inl ⟨by rfl, ?_⟩) (by assumption) ?_
                rotate_left
                · intro W hSw
                  (try dsimp only at hSw)
                  go_simp
                  (try with_reducible rfl)
                try simp only [Act.put, List.setIfInBounds_toArray, List.set_cons_zero, List.set_cons_succ]
                refine wpAnyH_take (i := 20) (oi := { dst := _, op := _, type := _, pos := _, after := _, guard := _ }) (v := ?_) rfl (by kernel_rfl) (by kernel_rfl) (by kernel_rfl) (fun _ _ _ h => h) (Or.inl ⟨by rfl, ?_⟩) (by assumption) ?_
                rotate_left
                · intro W hSw
                  (try dsimp only at hSw)
                  go_simp
                  (try with_reducible rfl)
                try simp only [Act.put, List.setIfInBounds_toArray, List.set_cons_zero, List.set_cons_succ]
                refine wpAnyH_take (i := 21) (oi := { dst := _, op := _, type := _, pos := _, after := _, guard := _ }) (v := ?_) rfl (by kernel_rfl) (by kernel_rfl) (by kernel_rfl) (fun _ _ _ h => h) (Or.inl ⟨by rfl, ?_⟩) (by assumption) ?_
                rotate_left
                · intro W hSw
                  (try dsimp only at hSw)
                  have y2 := HKK.out W hSw
                  go_simp
                  (try with_reducible rfl)
                try simp only [Act.put, List.setIfInBounds_toArray, List.set_cons_zero, List.set_cons_succ]
                refine wpAnyH_take (i := 22) (oi := { dst := _, op := _, type := _, pos := _, after := _, guard := _ }) (v := ?_) rfl (by kernel_rfl) (by kernel_rfl) (by kernel_rfl) (fun _ _ _ h => h) (Or.inl ⟨by rfl, ?_⟩) (by assumption) ?_
                rotate_left
                · intro W hSw
                  (try dsimp only at hSw)
                  go_simp
                  (try with_reducible rfl)
                try simp only [Act.put, List.setIfInBounds_toArray, List.set_cons_zero, List.set_cons_succ]
                refine wpAnyH_take (i := 23) (oi := { dst := _, op := _, type := _, pos := _, after := _, guard := _ }) (v := ?_) rfl (by kernel_rfl) (by kernel_rfl) (by kernel_rfl) (fun _ _ _ h => h) (Or.inl ⟨by rfl, ?_⟩) (by assumption) ?_
                rotate_left
                · intro W hSw
                  (try dsimp only at hSw)
                  go_simp
                  (try with_reducible rfl)
                try simp only [Act.put, List.setIfInBounds_toArray, List.set_cons_zero, List.set_cons_succ]
                refine wpAnyH_done (by kernel_rfl) ?_ _
                refine NoPanic.normal ?_
                clear hHeld
                go_wp2_with fail
                go_meet
                exact ⟨by rw [HZK.out], HC6.out, HK6.out⟩
              · have HZK : Hid (Z = false) := by
                  have h9 := HZ.out
                  rw [decide_eq_false (fun h => hA h.1)] at h9
                  exact h9.symm
                have b1 : decide ((a3 : Int) < (nl : Int)) = false := by have := HNL.out; rw [decide_eq_false_iff_not]; omega
                have b2 : decide (a3 < nl) = false := by have := HNL.out; rw [decide_eq_false_iff_not]; omega
                clear hA
                refine wp_region_noPanic ?_
                refine wp_region_held_drew (S := fun W => Cx B W r cb (.slice la nl lc) vn (.slice ca ln cc) L ⟨a3, ns2, cs2, 0, po2⟩ ⟨U, a, ⟨#[]⟩, ⟨#[]⟩⟩) (by kernel_rfl) (by rw [← hw6]; exact HC6.out) (fun hHeld => ?_)
                rw [← hw6] at hHeld ⊢
                clear hw6
                refine wpAnyH_take (i := 0) (oi := { dst := _, op := _, type := _, pos := _, after := _, guard := _ }) (v := ?_) rfl (by kernel_rfl) (by kernel_rfl) (by kernel_rfl) (fun _ _ _ h => h) (Or.inl ⟨by rfl, ?_⟩) (by assumption) ?_
                rotate_left
                · intro W hSw
                  (try dsimp only at hSw)
                  go_simp
                  (try with_reducible rfl)
                try simp only [Act.put, List.setIfInBounds_toArray, List.set_cons_zero, List.set_cons_succ]
                refine wpAnyH_take (i := 1) (oi := { dst := _, op := _, type := _, pos := _, after := _, guard := _ }) (v := ?_) rfl (by kernel_rfl) (by kernel_rfl) (by kernel_rfl) (fun _ _ _ h => h) (Or.inl ⟨by rfl, ?_⟩) (by assumption) ?_
                rotate_left
                · intro W hSw
                  (try dsimp only at hSw)
                  go_simp
                  (try with_reducible rfl)
                try simp only [Act.put, List.setIfInBounds_toArray, List.set_cons_zero, List.set_cons_succ]
                refine wpAnyH_take (i := 2) (oi := { dst := _, op := _, type := _, pos := _, after := _, guard := _ }) (v := ?_) rfl (by kernel_rfl) (by kernel_rfl) (by kernel_rfl) (fun _ _ _ h => h) (Or.inl ⟨by rfl, ?_⟩) (by assumption) ?_
                rotate_left
                · intro W hSw
                  (try dsimp only at hSw)
                  go_simp
                  (try with_reducible rfl)
                try simp only [Act.put, List.setIfInBounds_toArray, List.set_cons_zero, List.set_cons_succ]
                refine wpAnyH_take (i := 3) (oi := { dst := _, op := _, type := _, pos := _, after := _, guard := _ }) (v := ?_) rfl (by kernel_rfl) (by kernel_rfl) (by kernel_rfl) (fun _ _ _ h => h) (Or.inl ⟨by rfl, ?_⟩) (by assumption) ?_
                rotate_left
                · intro W hSw
                  (try dsimp only at hSw)
                  have y1 := hSw.rr.open.2.1
                  go_simp
                  (try with_reducible rfl)
                try simp only [Act.put, List.setIfInBounds_toArray, List.set_cons_zero, List.set_cons_succ]
                refine wpAnyH_take (i := 4) (oi := { dst := _, op := _, type := _, pos := _, after := _, guard := _ }) (v := ?_) rfl (by kernel_rfl) (by kernel_rfl) (by kernel_rfl) (fun _ _ _ h => h) (Or.inl ⟨by rfl, ?_⟩) (by assumption) ?_
                rotate_left
                · intro W hSw
                  (try dsimp only at hSw)
                  go_simp
                  (try with_reducible rfl)
                try simp only [Act.put, List.setIfInBounds_toArray, List.set_cons_zero, List.set_cons_succ]
                refine wpAnyH_take (i := 5) (oi := { dst := _, op := _, type := _, pos := _, after := _, guard := _ }) (v := ?_) rfl (by kernel_rfl) (by kernel_rfl) (by kernel_rfl) (fun _ _ _ h => h) (Or.inl ⟨by rfl, ?_⟩) (by assumption) ?_
                rotate_left
                · intro W hSw
                  (try dsimp only at hSw)
                  go_simp
                  (try with_reducible rfl)
                try simp only [Act.put, List.setIfInBounds_toArray, List.set_cons_zero, List.set_cons_succ]
                refine wpAnyH_take (i := 6) (oi := { dst := _, op := _, type := _, pos := _, after := _, guard := _ }) (v := ?_) rfl (by kernel_rfl) (by kernel_rfl) (by kernel_rfl) (fun _ _ _ h => h) (Or.inl ⟨by rfl, ?_⟩) (by assumption) ?_
                rotate_left
                · intro W hSw
                  (try dsimp only at hSw)
                  go_simp
                  (try with_reducible rfl)
                try simp only [Act.put, List.setIfInBounds_toArray, List.set_cons_zero, List.set_cons_succ]
                refine wpAnyH_take (i := 7) (oi := { dst := _, op := _, type := _, pos := _, after := _, guard := _ }) (v := ?_) rfl (by kernel_rfl) (by kernel_rfl) (by kernel_rfl) (fun _ _ _ h => h) (Or.inl ⟨by rfl, ?_⟩) (by assumption) ?_
                rotate_left
                · intro W hSw
                  (try dsimp only at hSw)
                  have y0 := hSw.rr.open.1
                  go_simp
                  (try with_reducible rfl)
                try simp only [Act.put, List.setIfInBounds_toArray, List.set_cons_zero, List.set_cons_succ]
                refine wpAnyH_take (i := 8) (oi := { dst := _, op := _, type := _, pos := _, after := _, guard := _ }) (v := ?_) rfl (by kernel_rfl) (by kernel_rfl) (by kernel_rfl) (fun _ _ _ h => h) (Or.inl ⟨by rfl, ?_⟩) (by assumption) ?_
                rotate_left
                · intro W hSw
                  (try dsimp only at hSw)
                  go_simp
                  (try with_reducible rfl)
                try simp only [Act.put, List.setIfInBounds_toArray, List.set_cons_zero, List.set_cons_succ]
                refine wpAnyH_take (i := 9) (oi := { dst := _, op := _, type := _, pos := _, after := _, guard := _ }) (v := ?_) rfl (by kernel_rfl) (by kernel_rfl) (by kernel_rfl) (fun _ _ _ h => h) (Or.inl ⟨by rfl, ?_⟩) (by assumption) ?_
                rotate_left
                · intro W hSw
                  (try dsimp only at hSw)
                  go_simp
                  (try with_reducible rfl)
                try simp only [Act.put, List.setIfInBounds_toArray, List.set_cons_zero, List.set_cons_succ]
                refine wpAnyH_take (i := 10) (oi := { dst := _, op := _, type := _, pos := _, after := _, guard := _ }) (v := ?_) rfl (by kernel_rfl) (by kernel_rfl) (by kernel_rfl) (fun _ _ _ h => h) (Or.inl ⟨by rfl, ?_⟩) (by assumption) ?_
                rotate_left
                · intro W hSw
                  (try dsimp only at hSw)
                  go_simp
                  (try with_reducible rfl)
                try simp only [Act.put, List.setIfInBounds_toArray, List.set_cons_zero, List.set_cons_succ]
                refine wpAnyH_take (i := 11) (oi := { dst := _, op := _, type := _, pos := _, after := _, guard := _ }) rfl (by kernel_rfl) (by kernel_rfl) (by kernel_rfl) (fun _ _ _ h => h) (Or.inr ⟨by rfl, rfl⟩) (by assumption) ?_
                try simp only [Act.put, List.setIfInBounds_toArray, List.set_cons_zero, List.set_cons_succ]
                refine wpAnyH_take (i := 12) (oi := { dst := _, op := _, type := _, pos := _, after := _, guard := _ }) rfl (by kernel_rfl) (by kernel_rfl) (by kernel_rfl) (fun _ _ _ h => h) (Or.inr ⟨by rfl, rfl⟩) (by assumption) ?_
                try simp only [Act.put, List.setIfInBounds_toArray, List.set_cons_zero, List.set_cons_succ]
                refine wpAnyH_take (i := 13) (oi := { dst := _, op := _, type := _, pos := _, after := _, guard := _ }) rfl (by kernel_rfl) (by kernel_rfl) (by kernel_rfl) (fun _ _ _ h => h) (Or.inr ⟨by rfl, rfl⟩) (by assumption) ?_
                try simp only [Act.put, List.setIfInBounds_toArray, List.set_cons_zero, List.set_cons_succ]
                refine wpAnyH_take (i := 14) (oi := { dst := _, op := _, type := _, pos := _, after := _, guard := _ }) rfl (by kernel_rfl) (by kernel_rfl) (by kernel_rfl) (fun _ _ _ h => h) (Or.inr ⟨by rfl, rfl⟩) (by assumption) ?_
                try simp only [Act.put, List.setIfInBounds_toArray, List.set_cons_zero, List.set_cons_succ]
                refine wpAnyH_take (i := 15) (oi := { dst := _, op := _, type := _, pos := _, after := _, guard := _ }) rfl (by kernel_rfl) (by kernel_rfl) (by kernel_rfl) (fun _ _ _ h => h) (Or.inr ⟨by rfl, rfl⟩) (by assumption) ?_
                try simp only [Act.put, List.setIfInBounds_toArray, List.set_cons_zero, List.set_cons_succ]
                refine wpAnyH_take (i := 16) (oi := { dst := _, op := _, type := _, pos := _, after := _, guard := _ }) rfl (by kernel_rfl) (by kernel_rfl) (by kernel_rfl) (fun _ _ _ h => h) (Or.inr ⟨by rfl, rfl⟩) (by assumption) ?_
                try simp only [Act.put, List.setIfInBounds_toArray, List.set_cons_zero, List.set_cons_succ]
                refine wpAnyH_take (i := 17) (oi := { dst := _, op := _, type := _, pos := _, after := _, guard := _ }) rfl (by kernel_rfl) (by kernel_rfl) (by kernel_rfl) (fun _ _ _ h => h) (Or.inr ⟨by rfl, rfl⟩) (by assumption) ?_
                try simp only [Act.put, List.setIfInBounds_toArray, List.set_cons_zero, List.set_cons_succ]
                refine wpAnyH_take (i := 18) (oi := { dst := _, op := _, type := _, pos := _, after := _, guard := _ }) rfl (by kernel_rfl) (by kernel_rfl) (by kernel_rfl) (fun _ _ _ h => h) (Or.inr ⟨by rfl, rfl⟩) (by assumption) ?_
                try simp only [Act.put, List.setIfInBounds_toArray, List.set_cons_zero, List.set_cons_succ]
                refine wpAnyH_take (i := 19) (oi := { dst := _, op := _, type := _, pos := _, after := _, guard := _ }) rfl (by kernel_rfl) (by kernel_rfl) (by kernel_rfl) (fun _ _ _ h => h) (Or.inr ⟨by rfl, rfl⟩) (by assumption) ?_
                try simp only [Act.put, List.setIfInBounds_toArray, List.set_cons_zero, List.set_cons_succ]
                refine wpAnyH_take (i := 20) (oi := { dst := _, op := _, type := _, pos := _, after := _, guard := _ }) rfl (by kernel_rfl) (by kernel_rfl) (by kernel_rfl) (fun _ _ _ h => h) (Or.inr ⟨by rfl, rfl⟩) (by assumption) ?_
                try simp only [Act.put, List.setIfInBounds_toArray, List.set_cons_zero, List.set_cons_succ]
                refine wpAnyH_take (i := 21) (oi := { dst := _, op := _, type := _, pos := _, after := _, guard := _ }) rfl (by kernel_rfl) (by kernel_rfl) (by kernel_rfl) (fun _ _ _ h => h) (Or.inr ⟨by rfl, rfl⟩) (by assumption) ?_
                try simp only [Act.put, List.setIfInBounds_toArray, List.set_cons_zero, List.set_cons_succ]
                refine wpAnyH_take (i := 22) (oi := { dst := _, op := _, type := _, pos := _, after := _, guard := _ }) rfl (by kernel_rfl) (by kernel_rfl) (by kernel_rfl) (fun _ _ _ h => h) (Or.inr ⟨by rfl, rfl⟩) (by assumption) ?_
                try simp only [Act.put, List.setIfInBounds_toArray, List.set_cons_zero, List.set_cons_succ]
                refine wpAnyH_take (i := 23) (oi := { dst := _, op := _, type := _, pos := _, after := _, guard := _ }) (v := ?_) rfl (by kernel_rfl) (by kernel_rfl) (by kernel_rfl) (fun _ _ _ h => h) (Or.inl ⟨by rfl, ?_⟩) (by assumption) ?_
                rotate_left
                · intro W hSw
                  (try dsimp only at hSw)
                  go_simp
                  (try with_reducible rfl)
                try simp only [Act.put, List.setIfInBounds_toArray, List.set_cons_zero, List.set_cons_succ]
                refine wpAnyH_done (by kernel_rfl) ?_ _
                refine NoPanic.normal ?_
                clear hHeld
                go_wp2_with fail
                go_meet
                exact ⟨by rw [HZK.out], HC6.out, HK6.out⟩
            case rest =>
              obtain ⟨rfl, HC7, HK7⟩ := hcut
              clear HC5 HK5
              have HQC : Hid (ns2 = m.ns ∧ cs2 = m.cs ∧ a3 ≤ m.at_ + 4) := by have h1 := HQ2.out; have h2 := HA3.out; refine ⟨h1.1, h1.2.1, ?_⟩; omega
              obtain ⟨⟨m5, b5, x5⟩, hot⟩ : ∃ q, otR L ⟨a3, ns2, cs2, 0, po2⟩ = q := ⟨_, rfl⟩
              have HOT : Hid (otR L ⟨a3, ns2, cs2, 0, po2⟩ = (m5, b5, x5)) := hot
              have hX := HX.out
              rw [hot] at hX
              have HX5 : Hid (R = adR m5 ⟨U, a, b5, x5⟩) := hX
              clear hX HX hot HA3
              go_upto_if 86 with fail
              go_cut [] from 87 to 109 (fun wd => Hid (Cx B wd r cb (.slice la nl lc) vn (.slice ca ln cc) L m5 ⟨U, a, b5, x5⟩) ∧ Hid (Kr w wd (fun j => j = r)))
              case first =>
                cases Z with
                | true =>
                  have hzz := of_decide_eq_true HZ.out
                  have hA : a3 < L.length := hzz.1
                  obtain ⟨lg, lo, rfl⟩ := HLA.out a3 hA
                  obtain ⟨tt, htt⟩ : ∃ tt, (L.getD a3 w0).t = tt := ⟨_, rfl⟩
                  have HTC : Hid (∀ W, Rr B W r (.slice (some ⟨lg, lo, none⟩) nl lc) vn (.slice ca ln cc) L ⟨a3, ns2, cs2, 0, po2⟩ → W.cell? ⟨lg, lo + a3 * 4 + 1, none⟩ = some (.string ⟨tt.toArray⟩)) := fun W hW => by rw [← htt]; exact hW.wl.text a3 hA
                  have HO : Hid (m5 = ⟨a3 + 1, ns2, cs2, 0, po2⟩ ∧ b5 = ⟨#[]⟩ ∧ x5 = bs tt) := by
                    have h9 := HOT.out
                    unfold otR at h9
                    rw [if_pos hzz] at h9
                    dsimp only at h9
                    rw [htt] at h9
                    injection h9 with h1 h2
                    injection h2 with h2 h3
                    exact ⟨h1.symm, h2.symm, h3.symm⟩
                  obtain ⟨rfl, rfl, rfl⟩ := HO.out
                  have b0 : (0 : Int) ≤ (a3 : Int) := by omega
                  have b1 : (a3 : Int) < (nl : Int) := by have := HNL.out; omega
                  have b2 : a3 < nl := by have := HNL.out; omega
                  clear hzz hA htt HO
                  go_upto_region 11 with fail
                  obtain ⟨w8, hw8⟩ : ∃ w8, w8 = wc.drew := ⟨_, rfl⟩
                  have HB8 : Hid (Below wc.heap.size wc w8) := by rw [hw8]; exact Below.drew (Below.refl _ _)
                  have HC8 : Hid (Cx B w8 r cb (.slice (some ⟨lg, lo, none⟩) nl lc) vn (.slice ca ln cc) L ⟨a3, ns2, cs2, 0, po2⟩ ⟨U, a, ⟨#[]⟩, ⟨#[]⟩⟩) := HC7.out.up HB8.out
                  have HK8 : Hid (Kr w w8 (fun j => j = r)) := HK7.out.trans (S' := fun _ => False) (Kr.of_below HB8.out) (fun j e => e.elim)
                  have p3 := rcell HC8.out.bk 3 _ rfl
                  have z3 : w8.frozen? ⟨cb, 3, none⟩ = false := Lib.frozen_of_heap HC8.out.bk 3
                  refine wp_region_noPanic ?_
                  refine wp_region_held_drew (S := fun W => Rr B W r (.slice (some ⟨lg, lo, none⟩) nl lc) vn (.slice ca ln cc) L ⟨a3, ns2, cs2, 0, po2⟩) (by kernel_rfl) (by rw [← hw8]; exact HC8.out.rr) (fun hHeld => ?_)
                  rw [← hw8] at hHeld ⊢
                  clear hw8
                  refine wpAnyH_take (i := 0) (oi := { dst := _, op := _, type := _, pos := _, after := _, guard := _ }) (v := ?_) rfl (by kernel_rfl) (by kernel_rfl) (by kernel_rfl) (fun _ _ _ h => h) (Or.inl ⟨by rfl, ?_⟩) (by assumption) ?_
                  rotate_left
                  · intro W hSw
                    (try dsimp only at hSw)
                    go_simp
                    (try with_reducible rfl)
                  try simp only [Act.put, List.setIfInBounds_toArray, List.set_cons_zero, List.set_cons_succ]
                  refine wpAnyH_take (i := 1) (oi := { dst := _, op := _, type := _, pos := _, after := _, guard := _ }) (v := ?_) rfl (by kernel_rfl) (by kernel_rfl) (by kernel_rfl) (fun _ _ _ h => h) (Or.inl ⟨by rfl, ?_⟩) (by assumption) ?_
                  rotate_left
                  · intro W hSw
                    (try dsimp only at hSw)
                    go_simp
                    (try with_reducible rfl)
                  try simp only [Act.put, List.setIfInBounds_toArray, List.set_cons_zero, List.set_cons_succ]
                  refine wpAnyH_take (i := 2) (oi := { dst := _, op := _, type := _, pos := _, after := _, guard := _ }) (v := ?_) rfl (by kernel_rfl) (by kernel_rfl) (by kernel_rfl) (fun _ _ _ h => h) (Or.inl ⟨by rfl, ?_⟩) (by assumption) ?_
                  rotate_left
                  · intro W hSw
                    (try dsimp only at hSw)
                    go_simp
                    (try with_reducible rfl)
                  try simp only [Act.put, List.setIfInBounds_toArray, List.set_cons_zero, List.set_cons_succ]
                  refine wpAnyH_take (i := 3) (oi := { dst := _, op := _, type := _, pos := _, after := _, guard := _ }) (v := ?_) rfl (by kernel_rfl) (by kernel_rfl) (by kernel_rfl) (fun _ _ _ h => h) (Or.inl ⟨by rfl, ?_⟩) (by assumption) ?_
                  rotate_left
                  · intro W hSw
                    (try dsimp only at hSw)
                    have y0 := hSw.open.1
                    go_simp
                    (try with_reducible rfl)
                  try simp only [Act.put, List.setIfInBounds_toArray, List.set_cons_zero, List.set_cons_succ]
                  refine wpAnyH_take (i := 4) (oi := { dst := _, op := _, type := _, pos := _, after := _, guard := _ }) (v := ?_) rfl (by kernel_rfl) (by kernel_rfl) (by kernel_rfl) (fun _ _ _ h => h) (Or.inl ⟨by rfl, ?_⟩) (by assumption) ?_
                  rotate_left
                  · intro W hSw
                    (try dsimp only at hSw)
                    go_simp
                    (try with_reducible rfl)
                  try simp only [Act.put, List.setIfInBounds_toArray, List.set_cons_zero, List.set_cons_succ]
                  refine wpAnyH_take (i := 5) (oi := { dst := _, op := _, type := _, pos := _, after := _, guard := _ }) (v := ?_) rfl (by kernel_rfl) (by kernel_rfl) (by kernel_rfl) (fun _ _ _ h => h) (Or.inl ⟨by rfl, ?_⟩) (by assumption) ?_
                  rotate_left
                  · intro W hSw
                    (try dsimp only at hSw)
                    go_simp
                    (try with_reducible rfl)
                  try simp only [Act.put, List.setIfInBounds_toArray, List.set_cons_zero, List.set_cons_succ]
                  refine wpAnyH_take (i := 6) (oi := { dst := _, op := _, type := _, pos := _, after := _, guard := _ }) (v := ?_) rfl (by kernel_rfl) (by kernel_rfl) (by kernel_rfl) (fun _ _ _ h => h) (Or.inl ⟨by rfl, ?_⟩) (by assumption) ?_
                  rotate_left
                  · intro W hSw
                    (try dsimp only at hSw)
                    go_simp
                    (try with_reducible rfl)
                  try simp only [Act.put, List.setIfInBounds_toArray, List.set_cons_zero, List.set_cons_succ]
                  refine wpAnyH_take (i := 7) (oi := { dst := _, op := _, type := _, pos := _, after := _, guard := _ }) (v := ?_) rfl (by kernel_rfl) (by kernel_rfl) (by kernel_rfl) (fun _ _ _ h => h) (Or.inl ⟨by rfl, ?_⟩) (by assumption) ?_
                  rotate_left
                  · intro W hSw
                    (try dsimp only at hSw)
                    have y1 := hSw.open.2.1
                    go_simp
                    (try with_reducible rfl)
                  try simp only [Act.put, List.setIfInBounds_toArray, List.set_cons_zero, List.set_cons_succ]
                  refine wpAnyH_take (i := 8) (oi := { dst := _, op := _, type := _, pos := _, after := _, guard := _ }) (v := ?_) rfl (by kernel_rfl) (by kernel_rfl) (by kernel_rfl) (fun _ _ _ h => h) (Or.inl ⟨by rfl, ?_⟩) (by assumption) ?_
                  rotate_left
                  · intro W hSw
                    (try dsimp only at hSw)
                    go_simp
                    (try with_reducible rfl)
                  try simp only [Act.put, List.setIfInBounds_toArray, List.set_cons_zero, List.set_cons_succ]
                  refine wpAnyH_take (i := 9) (oi := { dst := _, op := _, type := _, pos := _, after := _, guard := _ }) (v := ?_) rfl (by kernel_rfl) (by kernel_rfl) (by kernel_rfl) (fun _ _ _ h => h) (Or.inl ⟨by rfl, ?_⟩) (by assumption) ?_
                  rotate_left
                  · intro W hSw
                    (try dsimp only at hSw)
                    go_simp
                    (try with_reducible rfl)
                  try simp only [Act.put, List.setIfInBounds_toArray, List.set_cons_zero, List.set_cons_succ]
                  refine wpAnyH_take (i := 10) (oi := { dst := _, op := _, type := _, pos := _, after := _, guard := _ }) (v := ?_) rfl (by kernel_rfl) (by kernel_rfl) (by kernel_rfl) (fun _ _ _ h => h) (Or.inl ⟨by rfl, ?_⟩) (by assumption) ?_
                  rotate_left
                  · intro W hSw
                    (try dsimp only at hSw)
                    have y2 := HTC.out W hSw
                    go_simp
                    (try with_reducible rfl)
                  try simp only [Act.put, List.setIfInBounds_toArray, List.set_cons_zero, List.set_cons_succ]
                  refine wpAnyH_take (i := 11) (oi := { dst := _, op := _, type := _, pos := _, after := _, guard := _ }) (v := ?_) rfl (by kernel_rfl) (by kernel_rfl) (by kernel_rfl) (fun _ _ _ h => h) (Or.inl ⟨by rfl, ?_⟩) (by assumption) ?_
                  rotate_left
                  · intro W hSw
                    (try dsimp only at hSw)
                    go_simp
                    (try with_reducible rfl)
                  try simp only [Act.put, List.setIfInBounds_toArray, List.set_cons_zero, List.set_cons_succ]
                  refine wpAnyH_ready (rs := [12]) (by kernel_rfl) (by simp) ?_
                  refine AllReadyH.cons (o := { dst := _, op := _, type := _, pos := _, after := _, guard := _ }) rfl (fun K hK => ?_) AllReadyH.nil
                  go_simp
                  refine hK.out _ _ ?_ (fun hHeld => ?_)
                  · exact HC8.out.rr.far HC8.out.lt HC8.out.far HC8.out.nn HC8.out.ne
                  clear hK K
                  try simp only [Act.put, List.setIfInBounds_toArray, List.set_cons_zero, List.set_cons_succ]
                  refine wpAnyH_done (by kernel_rfl) ?_ _
                  refine NoPanic.normal ?_
                  clear hHeld
                  obtain ⟨w9, hw9⟩ : ∃ w9, w9 = w8.setCell ⟨cb, 3, none⟩ (.string ⟨tt.toArray⟩) := ⟨_, rfl⟩
                  have HC9 : Hid (Cx B w9 r cb (.slice (some ⟨lg, lo, none⟩) nl lc) vn (.slice ca ln cc) L ⟨a3, ns2, cs2, 0, po2⟩ ⟨U, a, ⟨#[]⟩, bs tt⟩) := by rw [hw9]; exact HC8.out.set 3 (.string (bs tt)) ⟨U, a, ⟨#[]⟩, bs tt⟩ rfl
                  have HK9 : Hid (Kr w w9 (fun j => j = r)) := by rw [hw9]; exact HK8.out.trans (Kr.set _ _ _ _) (fun j e => .inr (by rw [e]; exact HSZ.out))
                  rw [← hw9]
                  clear hw9 p3 z3 HC8 HK8
                  obtain ⟨-, k1, -⟩ := HC9.out.rr.open
                  have f1 := HC9.out.rr.froz 1
                  have hw2 : IntKind.i64.wrap ((a3 : Int) + 1) = (a3 : Int) + 1 := by have := HA3L.out; have := HM.out; rw [IntKind.wrap_i64]; omega
                  go_wp2_with fail
                  go_meet
                  refine ⟨HC9.out.kr ?_ (Kr.set _ _ _ _), HK9.out.trans (Kr.set _ _ _ _) (fun j e => .inl e)⟩
                  have h9 := HC9.out.rr.set1 (a3 + 1)
                  push_cast at h9
                  exact h9
                | false =>
                  have hzz := of_decide_eq_false HZ.out
                  have HO : Hid (cpR L ⟨a3, ns2, cs2, 0, po2⟩ = (b5, m5) ∧ x5 = ⟨#[]⟩) := by
                    have h9 := HOT.out
                    unfold otR at h9
                    rw [if_neg hzz] at h9
                    injection h9 with h1 h2
                    injection h2 with h2 h3
                    exact ⟨Prod.ext h2 h1, h3.symm⟩
                  obtain ⟨hcp, rfl⟩ := HO.out
                  have HCP : Hid (Calls Try.prog 23 #[.pointer (some ⟨r, 0, none⟩)] wc fun e w' => e = .returned (.string b5) ∧ Rr B w' r (.slice la nl lc) vn (.slice ca ln cc) L m5 ∧ Kr wc w' (fun j => j = r)) := by
                    have h9 := rcapture_any wc HC7.out.rr rfl (by show a3 ≤ _; have := HA3L.out; have := HM.out; omega) (by show ns2.length ≤ _; have := HM.out; rw [HQC.out.1]; omega)
                    rw [hcp] at h9
                    exact h9
                  clear hzz hcp HO
                  go_wp2_with (go_at_call 23; refine Calls.mono HCP.out ?_; rintro e w8 ⟨rfl, hr8, hk8⟩; have HC8 : Hid (Cx B w8 r cb (.slice la nl lc) vn (.slice ca ln cc) L m5 ⟨U, a, ⟨#[]⟩, ⟨#[]⟩⟩) := HC7.out.kr hr8 hk8; have HK8 : Hid (Kr w w8 (fun j => j = r)) := HK7.out.trans hk8 (fun j e => .inl e); have p2 := rcell HC8.out.bk 2 _ rfl; have z2 : w8.frozen? ⟨cb, 2, none⟩ = false := Lib.frozen_of_heap HC8.out.bk 2; clear hr8 hk8)
                  go_meet
                  exact ⟨HC8.out.set 2 (.string b5) ⟨U, a, b5, ⟨#[]⟩⟩ rfl, HK8.out.trans (Kr.set _ _ _ _) (fun j e => .inr (by rw [e]; exact HSZ.out))⟩
              case rest =>
                obtain ⟨HC10, HK10⟩ := hcut
                have HC5L : Hid (m5.cs.length = ln) := by
                  have h1 : m5.cs = cs2 := by
                    have h9 := HOT.out
                    unfold otR at h9
                    split at h9
                    · injection h9 with h1 h2
                      rw [← h1]
                    · have h2 := (cpR_ns L ⟨a3, ns2, cs2, 0, po2⟩).2
                      injection h9 with h1 h3
                      rw [h1] at h2
                      exact h2
                  rw [h1, HQC.out.2.1]; exact HLN.out
                clear HOT HZ HC7 HK7
                go_upto_region 14 with fail
                obtain ⟨wD, hwD⟩ : ∃ wD, wD = wc.drew := ⟨_, rfl⟩
                have HBD : Hid (Below wc.heap.size wc wD) := by rw [hwD]; exact Below.drew (Below.refl _ _)
                have HCD : Hid (Cx B wD r cb (.slice la nl lc) vn (.slice ca ln cc) L m5 ⟨U, a, b5, x5⟩) := HC10.out.up HBD.out
                have HKD : Hid (Kr w wD (fun j => j = r)) := HK10.out.trans (S' := fun _ => False) (Kr.of_below HBD.out) (fun j e => e.elim)
                have HROW : Hid ((wD.alloc (.cells #[.bool U, .string a, .string b5, .string x5] 48)).ownsRow B 48 4 (.slice ca ln cc) ln (flat cf m5.cs)) := by
                  have h9 := HCD.out.rr.cs
                  rw [HC5L.out] at h9
                  exact h9.alloc _
                have k3D : wD.cell? ⟨r, 3, none⟩ = some (.slice ca ln cc) := HCD.out.rr.open.2.2.2.1
                have k3E : (wD.alloc (.cells #[.bool U, .string a, .string b5, .string x5] 48)).cell? ⟨r, 3, none⟩ = some (.slice ca ln cc) := cell_up _ k3D
                clear HC10 HK10
                refine wp_region_noPanic ?_
                refine wp_region_held_drew (S := fun W => W.heap[cb]? = some (.cells #[.bool U, .string a, .string b5, .string x5] 48 (0, 0))) (by kernel_rfl) (by rw [← hwD]; exact HCD.out.bk) (fun hHeld => ?_)
                rw [← hwD] at hHeld ⊢
                clear hwD
                refine wpAnyH_take (i := 0) (oi := { dst := _, op := _, type := _, pos := _, after := _, guard := _ }) (v := ?_) rfl (by kernel_rfl) (by kernel_rfl) (by kernel_rfl) (fun _ _ _ h => h) (Or.inl ⟨by rfl, ?_⟩) (by assumption) ?_
                rotate_left
                · intro W hSw
                  (try dsimp only at hSw)
                  go_simp
                  (try with_reducible rfl)
                try simp only [Act.put, List.setIfInBounds_toArray, List.set_cons_zero, List.set_cons_succ]
                refine wpAnyH_take (i := 1) (oi := { dst := _, op := _, type := _, pos := _, after := _, guard := _ }) (v := ?_) rfl (by kernel_rfl) (by kernel_rfl) (by kernel_rfl) (fun _ _ _ h => h) (Or.inl ⟨by rfl, ?_⟩) (by assumption) ?_
                rotate_left
                · intro W hSw
                  (try dsimp only at hSw)
                  go_simp
                  (try with_reducible rfl)
                try simp only [Act.put, List.setIfInBounds_toArray, List.set_cons_zero, List.set_cons_succ]
                refine wpAnyH_take (i := 2) (oi := { dst := _, op := _, type := _, pos := _, after := _, guard := _ }) (v := ?_) rfl (by kernel_rfl) (by kernel_rfl) (by kernel_rfl) (fun _ _ _ h => h) (Or.inl ⟨by rfl, ?_⟩) (by assumption) ?_
                rotate_left
                · intro W hSw
                  (try dsimp only at hSw)
                  go_simp
                  (try with_reducible rfl)
                try simp only [Act.put, List.setIfInBounds_toArray, List.set_cons_zero, List.set_cons_succ]
                refine wpAnyH_take (i := 3) (oi := { dst := _, op := _, type := _, pos := _, after := _, guard := _ }) (v := ?_) rfl (by kernel_rfl) (by kernel_rfl) (by kernel_rfl) (fun _ _ _ h => h) (Or.inl ⟨by rfl, ?_⟩) (by assumption) ?_
                rotate_left
                · intro W hSw
                  (try dsimp only at hSw)
                  go_simp
                  (try with_reducible rfl)
                try simp only [Act.put, List.setIfInBounds_toArray, List.set_cons_zero, List.set_cons_succ]
                refine wpAnyH_take (i := 4) (oi := { dst := _, op := _, type := _, pos := _, after := _, guard := _ }) (v := ?_) rfl (by kernel_rfl) (by kernel_rfl) (by kernel_rfl) (fun _ _ _ h => h) (Or.inl ⟨by rfl, ?_⟩) (by assumption) ?_
                rotate_left
                · intro W hSw
                  (try dsimp only at hSw)
                  go_simp
                  (try with_reducible rfl)
                try simp only [Act.put, List.setIfInBounds_toArray, List.set_cons_zero, List.set_cons_succ]
                refine wpAnyH_take (i := 6) (oi := { dst := _, op := _, type := _, pos := _, after := _, guard := _ }) (v := ?_) rfl (by kernel_rfl) (by kernel_rfl) (by kernel_rfl) (fun _ _ _ h => h) (Or.inl ⟨by rfl, ?_⟩) (by assumption) ?_
                rotate_left
                · intro W hSw
                  (try dsimp only at hSw)
                  have s0 := rcell hSw 0 _ rfl
                  have s1 := rcell hSw 1 _ rfl
                  have s2 := rcell hSw 2 _ rfl
                  have s3 := rcell hSw 3 _ rfl
                  go_simp
                  (try with_reducible rfl)
                try simp only [Act.put, List.setIfInBounds_toArray, List.set_cons_zero, List.set_cons_succ]
                refine wpAnyH_ready (rs := [5, 7]) (by kernel_rfl) (by simp) ?_
                refine AllReadyH.cons (o := { dst := _, op := _, type := _, pos := _, after := _, guard := _ }) rfl (fun K hK => ?_) (AllReadyH.cons (o := { dst := _, op := _, type := _, pos := _, after := _, guard := _ }) rfl (fun K hK => ?_) AllReadyH.nil)
                · go_simp
                  refine hK.out _ _ ?_ (fun hHeld => ?_)
                  · exact HCD.out.bk
                  clear hK K
                  try simp only [Act.put, List.setIfInBounds_toArray, List.set_cons_zero, List.set_cons_succ]
                  refine wpAnyH_ready (rs := [7]) (by kernel_rfl) (by simp) ?_
                  refine AllReadyH.cons (o := { dst := _, op := _, type := _, pos := _, after := _, guard := _ }) rfl (fun K hK => ?_) AllReadyH.nil
                  go_simp
                  refine hK.out _ _ ?_ (fun hHeld => ?_)
                  · exact ((bel_up _ _).block _ (lt_of_heap HCD.out.bk)).trans HCD.out.bk
                  clear hK K
                  try simp only [Act.put, List.setIfInBounds_toArray, List.set_cons_zero, List.set_cons_succ]
                  refine wpAnyH_ready (rs := [8]) (by kernel_rfl) (by simp) ?_
                  refine AllReadyH.cons (o := { dst := _, op := _, type := _, pos := _, after := _, guard := _ }) rfl (fun K hK => ?_) AllReadyH.nil
                  refine step_append_lies _ rfl (.tmp 114) (.tmp 116) 23 rfl B 48 iC _ 4 56 Try.underlying23 hiC hx0 hx1 hx2 rfl (by decide) (.slice ca ln cc) ln (flat cf m5.cs) rfl HROW.out ⟨wD.heap.size, 0, none⟩ 1 1 [.bool U, .string a, .string b5, .string x5] rfl rfl (World.news_of_block (heap_new wD _)) (by simp [Value.oneCell']) (by decide) (by have := HLC.out; unfold maxLen; omega) (by have := HLC.out; omega) (by have := HCD.out.rr.size.1; simp; omega) (wD.heap.size + 1) (by simp) ?_
                  intro g1 q1 w5 ho hg ha _
                  have HO5 : Hid (w5.ownsRow B 48 4 (.slice (some ⟨g1, 0, none⟩) (ln + 1) q1) (ln + 1) (flat cf m5.cs ++ cf ⟨U, a, b5, x5⟩)) := ho
                  have HG5 : Hid ((wD.alloc (.cells #[.bool U, .string a, .string b5, .string x5] 48)).grownBy w5 (Value.ownBlock (.slice ca ln cc))) := hg
                  have HA5 : Hid ((Value.slice ca ln cc).ownBlock = some g1 ∨ g1 = wD.heap.size + 1) := ha
                  have c5 : w5.cell? ⟨r, 3, none⟩ = some (.slice ca ln cc) := cel_of ((World.grownBy_alloc _ _ _).trans HG5.out) HCD.out.rr.blk HCD.out.rr.cs (by decide) rfl
                  have z5 : w5.frozen? ⟨r, 3, none⟩ = false := froz_of ((World.grownBy_alloc _ _ _).trans HG5.out) HCD.out.rr.blk HCD.out.rr.cs (by decide)
                  have p5 : w5.heap[cb]? = some (.cells #[.bool U, .string a, .string b5, .string x5] 48 (0, 0)) := (((World.grownBy_alloc _ _ _).trans HG5.out).block cb (lt_of_heap HCD.out.bk) (fun e => HCD.out.ne e.symm)).trans HCD.out.bk
                  clear ho hg ha
                  refine hK.out _ _ ?_ (fun hHeld => ?_)
                  · exact p5
                  clear hK K
                  try simp only [Act.put, List.setIfInBounds_toArray, List.set_cons_zero, List.set_cons_succ]
                  refine wpAnyH_take (i := 9) (oi := { dst := _, op := _, type := _, pos := _, after := _, guard := _ }) (v := ?_) rfl (by kernel_rfl) (by kernel_rfl) (by kernel_rfl) (fun _ _ _ h => h) (Or.inl ⟨by rfl, ?_⟩) (by assumption) ?_
                  rotate_left
                  · intro W hSw
                    (try dsimp only at hSw)
                    go_simp
                    (try with_reducible rfl)
                  try simp only [Act.put, List.setIfInBounds_toArray, List.set_cons_zero, List.set_cons_succ]
                  refine wpAnyH_take (i := 10) (oi := { dst := _, op := _, type := _, pos := _, after := _, guard := _ }) (v := ?_) rfl (by kernel_rfl) (by kernel_rfl) (by kernel_rfl) (fun _ _ _ h => h) (Or.inl ⟨by rfl, ?_⟩) (by assumption) ?_
                  rotate_left
                  · intro W hSw
                    (try dsimp only at hSw)
                    go_simp
                    (try with_reducible rfl)
                  try simp only [Act.put, List.setIfInBounds_toArray, List.set_cons_zero, List.set_cons_succ]
                  refine wpAnyH_take (i := 11) (oi := { dst := _, op := _, type := _, pos := _, after := _, guard := _ }) (v := ?_) rfl (by kernel_rfl) (by kernel_rfl) (by kernel_rfl) (fun _ _ _ h => h) (Or.inl ⟨by rfl, ?_⟩) (by assumption) ?_
                  rotate_left
                  · intro W hSw
                    (try dsimp only at hSw)
                    go_simp
                    (try with_reducible rfl)
                  try simp only [Act.put, List.setIfInBounds_toArray, List.set_cons_zero, List.set_cons_succ]
                  refine wpAnyH_ready (rs := [12]) (by kernel_rfl) (by simp) ?_
                  refine AllReadyH.cons (o := { dst := _, op := _, type := _, pos := _, after := _, guard := _ }) rfl (fun K hK => ?_) AllReadyH.nil
                  go_simp
                  refine hK.out _ _ ?_ (fun hHeld => ?_)
                  · rw [heap_far HCD.out.far]; exact p5
                  clear hK K
                  try simp only [Act.put, List.setIfInBounds_toArray, List.set_cons_zero, List.set_cons_succ]
                  refine wpAnyH_done (by kernel_rfl) ?_ _
                  refine NoPanic.normal ?_
                  clear hHeld
                  go_wp2_with fail
                  have hap := HCD.out.rr.appC (W5 := w5) (v5 := .slice (some ⟨g1, 0, none⟩) (ln + 1) q1) ⟨U, a, b5, x5⟩ HG5.out (by rw [HC5L.out]; exact HO5.out)
                  have HFR : Hid (Rr B (w5.setCell ⟨r, 3, none⟩ (.slice (some ⟨g1, 0, none⟩) (ln + 1) q1)) r (.slice la nl lc) vn (.slice (some ⟨g1, 0, none⟩) (ln + 1) q1) L R) := by rw [HX5.out]; exact hap.1
                  refine bodyPost_end (results_none rfl _ _ _) rfl ⟨rfl, _, _, _, HFR.out, (HKD.out.mono (fun j e => .inl e)).trans hap.2 (fun j e => .inl e), fun j e => ?_⟩
                  have e2 : g1 = j := by simpa [Value.ownBlock] using e
                  rw [← e2]
                  exact HA5.out.elim .inl (fun e => .inr (by have : w.heap.size ≤ wD.heap.size := HKD.out.size; omega))
                · go_simp
                  refine hK.out _ _ ?_ (fun hHeld => ?_)
                  · exact ((bel_up _ _).block _ (lt_of_heap HCD.out.bk)).trans HCD.out.bk
                  clear hK K
                  try simp only [Act.put, List.setIfInBounds_toArray, List.set_cons_zero, List.set_cons_succ]
                  refine wpAnyH_ready (rs := [5]) (by kernel_rfl) (by simp) ?_
                  refine AllReadyH.cons (o := { dst := _, op := _, type := _, pos := _, after := _, guard := _ }) rfl (fun K hK => ?_) AllReadyH.nil
                  go_simp
                  refine hK.out _ _ ?_ (fun hHeld => ?_)
                  · exact ((bel_up _ _).block _ (lt_of_heap HCD.out.bk)).trans HCD.out.bk
                  clear hK K
                  try simp only [Act.put, List.setIfInBounds_toArray, List.set_cons_zero, List.set_cons_succ]
                  refine wpAnyH_ready (rs := [8]) (by kernel_rfl) (by simp) ?_
                  refine AllReadyH.cons (o := { dst := _, op := _, type := _, pos := _, after := _, guard := _ }) rfl (fun K hK => ?_) AllReadyH.nil
                  refine step_append_lies _ rfl (.tmp 114) (.tmp 116) 23 rfl B 48 iC _ 4 56 Try.underlying23 hiC hx0 hx1 hx2 rfl (by decide) (.slice ca ln cc) ln (flat cf m5.cs) rfl HROW.out ⟨wD.heap.size, 0, none⟩ 1 1 [.bool U, .string a, .string b5, .string x5] rfl rfl (World.news_of_block (heap_new wD _)) (by simp [Value.oneCell']) (by decide) (by have := HLC.out; unfold maxLen; omega) (by have := HLC.out; omega) (by have := HCD.out.rr.size.1; simp; omega) (wD.heap.size + 1) (by simp) ?_
                  intro g1 q1 w5 ho hg ha _
                  have HO5 : Hid (w5.ownsRow B 48 4 (.slice (some ⟨g1, 0, none⟩) (ln + 1) q1) (ln + 1) (flat cf m5.cs ++ cf ⟨U, a, b5, x5⟩)) := ho
                  have HG5 : Hid ((wD.alloc (.cells #[.bool U, .string a, .string b5, .string x5] 48)).grownBy w5 (Value.ownBlock (.slice ca ln cc))) := hg
                  have HA5 : Hid ((Value.slice ca ln cc).ownBlock = some g1 ∨ g1 = wD.heap.size + 1) := ha
                  have c5 : w5.cell? ⟨r, 3, none⟩ = some (.slice ca ln cc) := cel_of ((World.grownBy_alloc _ _ _).trans HG5.out) HCD.out.rr.blk HCD.out.rr.cs (by decide) rfl
                  have z5 : w5.frozen? ⟨r, 3, none⟩ = false := froz_of ((World.grownBy_alloc _ _ _).trans HG5.out) HCD.out.rr.blk HCD.out.rr.cs (by decide)
                  have p5 : w5.heap[cb]? = some (.cells #[.bool U, .string a, .string b5, .string x5] 48 (0, 0)) := (((World.grownBy_alloc _ _ _).trans HG5.out).block cb (lt_of_heap HCD.out.bk) (fun e => HCD.out.ne e.symm)).trans HCD.out.bk
                  clear ho hg ha
                  refine hK.out _ _ ?_ (fun hHeld => ?_)
                  · exact p5
                  clear hK K
                  try simp only [Act.put, List.setIfInBounds_toArray, List.set_cons_zero, List.set_cons_succ]
                  refine wpAnyH_take (i := 9) (oi := { dst := _, op := _, type := _, pos := _, after := _, guard := _ }) (v := ?_) rfl (by kernel_rfl) (by kernel_rfl) (by kernel_rfl) (fun _ _ _ h => h) (Or.inl ⟨by rfl, ?_⟩) (by assumption) ?_
                  rotate_left
                  · intro W hSw
                    (try dsimp only at hSw)
                    go_simp
                    (try with_reducible rfl)
                  try simp only [Act.put, List.setIfInBounds_toArray, List.set_cons_zero, List.set_cons_succ]
                  refine wpAnyH_take (i := 10) (oi := { dst := _, op := _, type := _, pos := _, after := _, guard := _ }) (v := ?_) rfl (by kernel_rfl) (by kernel_rfl) (by kernel_rfl) (fun _ _ _ h => h) (Or.inl ⟨by rfl, ?_⟩) (by assumption) ?_
                  rotate_left
                  · intro W hSw
                    (try dsimp only at hSw)
                    go_simp
                    (try with_reducible rfl)
                  try simp only [Act.put, List.setIfInBounds_toArray, List.set_cons_zero, List.set_cons_succ]
                  refine wpAnyH_take (i := 11) (oi := { dst := _, op := _, type := _, pos := _, after := _, guard := _ }) (v := ?_) rfl (by kernel_rfl) (by kernel_rfl) (by kernel_rfl) (fun _ _ _ h => h) (Or.inl ⟨by rfl, ?_⟩) (by assumption) ?_
                  rotate_left
                  · intro W hSw
                    (try dsimp only at hSw)
                    go_simp
                    (try with_reducible rfl)
                  try simp only [Act.put, List.setIfInBounds_toArray, List.set_cons_zero, List.set_cons_succ]
                  refine wpAnyH_ready (rs := [12]) (by kernel_rfl) (by simp) ?_
                  refine AllReadyH.cons (o := { dst := _, op := _, type := _, pos := _, after := _, guard := _ }) rfl (fun K hK => ?_) AllReadyH.nil
                  go_simp
                  refine hK.out _ _ ?_ (fun hHeld => ?_)
                  · rw [heap_far HCD.out.far]; exact p5
                  clear hK K
                  try simp only [Act.put, List.setIfInBounds_toArray, List.set_cons_zero, List.set_cons_succ]
                  refine wpAnyH_done (by kernel_rfl) ?_ _
                  refine NoPanic.normal ?_
                  clear hHeld
                  go_wp2_with fail
                  have hap := HCD.out.rr.appC (W5 := w5) (v5 := .slice (some ⟨g1, 0, none⟩) (ln + 1) q1) ⟨U, a, b5, x5⟩ HG5.out (by rw [HC5L.out]; exact HO5.out)
                  have HFR : Hid (Rr B (w5.setCell ⟨r, 3, none⟩ (.slice (some ⟨g1, 0, none⟩) (ln + 1) q1)) r (.slice la nl lc) vn (.slice (some ⟨g1, 0, none⟩) (ln + 1) q1) L R) := by rw [HX5.out]; exact hap.1
                  refine bodyPost_end (results_none rfl _ _ _) rfl ⟨rfl, _, _, _, HFR.out, (HKD.out.mono (fun j e => .inl e)).trans hap.2 (fun j e => .inl e), fun j e => ?_⟩
                  have e2 : g1 = j := by simpa [Value.ownBlock] using e
                  rw [← e2]
                  exact HA5.out.elim .inl (fun e => .inr (by have : w.heap.size ≤ wD.heap.size := HKD.out.size; omega))
end Go.Proofs.Ythfijmabagjdkaa.Qy
