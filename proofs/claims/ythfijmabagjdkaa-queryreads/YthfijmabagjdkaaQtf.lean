import Derived.Test.YthfijmabagjdkaaQte
import Derived.Deep.AppendLies
import Derived.Deep.MidRow
namespace Go.Proofs.Ythfijmabagjdkaa.Qy
open Go.RowKit Go.Maps

theorem Rr.app {B : Nat} {W W5 : World} {r : Nat} {vl vn vc v5 : Value} {L : List Wd} {m : Rm} {o : Obj} (p : Pn) (h : Rr B W r vl vn vc L m) (hg : (W.alloc o).grownBy W5 vn.ownBlock) (ho : W5.ownsRow B 46 5 v5 (m.ns.length + 1) (flat pf m.ns ++ pf p)) : Rr B (W5.setCell ⟨r, 2, none⟩ v5) r vl v5 vc L ⟨m.at_, m.ns ++ [p], m.cs, m.e, m.po⟩ ∧ Kr W (W5.setCell ⟨r, 2, none⟩ v5) (fun j => j = r ∨ vn.ownBlock = some j) := by
  have hg' : W.grownBy W5 vn.ownBlock := (World.grownBy_alloc W o vn.ownBlock).trans hg
  have hb : Below B W W5 := (Below.refl B W).grown hg' h.size.1 (fun r hr => (row_tag h.ns r hr).1)
  have hb2 : Below B W (W5.setCell ⟨r, 2, none⟩ v5) := Below.setCell hb h.lt _
  have k1 : W5.heap[r]? = some (.cells #[vl, .int .i64 (m.at_ : Int), vn, vc, .int .i64 m.e, .int .i64 (m.po : Int)] 38 (0, 0)) := (hg'.block r (lt_of_heap h.blk) (fun e => tag_ne_blk h.ns h.blk (by decide) e.symm)).trans h.blk
  have kc : W5.ownsRow B 48 4 vc m.cs.length (flat cf m.cs) := h.cs.kept hg' (tag_ne h.cs h.ns (by decide))
  have kn : W5.ownsRow B 46 5 v5 (m.ns ++ [p]).length (flat pf (m.ns ++ [p])) := by
    rw [List.length_append, flat_app]
    have : flat pf [p] = pf p := by simp [flat]
    rw [this]
    exact ho
  refine ⟨⟨h.lt, by rw [blk_set _ k1]; rfl, h.wl.up hb2, (row_off k1 kn (by decide)).1, (row_off k1 kc (by decide)).1⟩, ?_⟩
  exact ((Kr.of_grown hg').mono (fun j e => .inr e)).trans (Kr.set _ _ _ _) (fun j e => .inl (.inl e))
theorem WL.text {B : Nat} {W : World} {g o n c : Nat} {L : List Wd} (h : WL B W (.slice (some ⟨g, o, none⟩) n c) L) (i : Nat) (hi : i < L.length) : W.cell? ⟨g, o + i * 4 + 1, none⟩ = some (.string ⟨(L.getD i w0).t.toArray⟩) := by
  obtain ⟨ad, cap, e, hc⟩ := h
  obtain ⟨g2, o2, e2, -, -, c1, -⟩ := hc i hi
  obtain ⟨e3, -, -⟩ := Value.slice.inj e
  rw [← e3] at e2
  have e4 := Option.some.inj e2
  injection e4 with e5 e6
  subst e5 e6
  exact c1
/-- A node in a block of its own. -/
def Pb (W : World) (b : Nat) (p : Pn) : Prop := W.heap[b]? = some (.cells #[.string p.nm, .bool p.lit, .string p.fd, .string p.cp, .int .i64 p.kd] 46 (0, 0))
theorem Pb.keep {W W' : World} {b : Nat} {p : Pn} {S : Nat → Prop} (h : Pb W b p) (k : Kr W W' S) (hn : ¬S b) : Pb W' b p := (k.block b (lt_of_heap h) hn).trans h
theorem Pb.cells {W : World} {b : Nat} {p : Pn} (h : Pb W b p) : W.cell? ⟨b, 0, none⟩ = some (.string p.nm) ∧ W.cell? ⟨b, 1, none⟩ = some (.bool p.lit) ∧ W.cell? ⟨b, 2, none⟩ = some (.string p.fd) ∧ W.cell? ⟨b, 3, none⟩ = some (.string p.cp) ∧ W.cell? ⟨b, 4, none⟩ = some (.int .i64 p.kd) := ⟨rcell h 0 _ rfl, rcell h 1 _ rfl, rcell h 2 _ rfl, rcell h 3 _ rfl, rcell h 4 _ rfl⟩
theorem Pb.froz {W : World} {b : Nat} {p : Pn} (h : Pb W b p) (k : Nat) : W.frozen? ⟨b, k, none⟩ = false := Lib.frozen_of_heap h k
theorem Pb.set0 {W : World} {b : Nat} {p : Pn} (h : Pb W b p) (t : ByteArray) : Pb (W.setCell ⟨b, 0, none⟩ (.string t)) b { p with nm := t } := by unfold Pb; rw [blk_set _ h]; rfl
theorem Pb.set1 {W : World} {b : Nat} {p : Pn} (h : Pb W b p) (t : Bool) : Pb (W.setCell ⟨b, 1, none⟩ (.bool t)) b { p with lit := t } := by unfold Pb; rw [blk_set _ h]; rfl
theorem Pb.set2 {W : World} {b : Nat} {p : Pn} (h : Pb W b p) (t : ByteArray) : Pb (W.setCell ⟨b, 2, none⟩ (.string t)) b { p with fd := t } := by unfold Pb; rw [blk_set _ h]; rfl
theorem Pb.set3 {W : World} {b : Nat} {p : Pn} (h : Pb W b p) (t : ByteArray) : Pb (W.setCell ⟨b, 3, none⟩ (.string t)) b { p with cp := t } := by unfold Pb; rw [blk_set _ h]; rfl
theorem Pb.set4 {W : World} {b : Nat} {p : Pn} (h : Pb W b p) (t : Int) : Pb (W.setCell ⟨b, 4, none⟩ (.int .i64 t)) b { p with kd := t } := by unfold Pb; rw [blk_set _ h]; rfl
/-- The reader stays where another block is written. -/
theorem Rr.far {B : Nat} {W : World} {r : Nat} {vl vn vc : Value} {L : List Wd} {m : Rm} {b k : Nat} {v : Value} (h : Rr B W r vl vn vc L m) (hb : B ≤ b) (h1 : b ≠ r) (h2 : vn.ownBlock ≠ some b) (h3 : vc.ownBlock ≠ some b) : Rr B (W.setCell ⟨b, k, none⟩ v) r vl vn vc L m := by
  have hg : W.grownBy (W.setCell ⟨b, k, none⟩ v) (some b) := grown_set
  refine ⟨h.lt, (heap_far (fun e => h1 e.symm)).trans h.blk, h.wl.up (Below.setCell (Below.refl _ _) hb _), ?_, ?_⟩
  · refine h.ns.kept hg ?_
    cases e : vn.ownBlock with
    | none => exact .inl rfl
    | some j => exact .inr (fun e2 => h2 (by rw [e]; exact e2))
  · refine h.cs.kept hg ?_
    cases e : vc.ownBlock with
    | none => exact .inl rfl
    | some j => exact .inr (fun e2 => h3 (by rw [e]; exact e2))
/-- The state behind a node's children. -/
def kR (L : List Wd) (n : Nat) (h : Bool × Rm × Pn) : Rm × Pn := if h.1 = true then (upA (prR L n (some h.2.2) h.2.1).1, (prR L n (some h.2.2) h.2.1).2) else (h.2.1, h.2.2)
theorem prR_pat2 (L : List Wd) (n : Nat) (m : Rm) : (prR L (n + 1) none m).1 = if (fdR L m.at_ || txR L m.at_ || seR L m.at_ 5 [40]) = false then ⟨m.at_, m.ns, m.cs, 200, m.at_⟩ else if 32 ≤ m.ns.length then ⟨m.at_, m.ns, m.cs, 202, m.at_⟩ else
      stR (clR L (kR L n (ndH L (opR L m).1 (opR L m).2)).1 (kR L n (ndH L (opR L m).1 (opR L m).2)).2).1 m.ns.length (clR L (kR L n (ndH L (opR L m).1 (opR L m).2)).1 (kR L n (ndH L (opR L m).1 (opR L m).2)).2).2 := by
  rw [prR_pat]; rfl
/-- A struct is stored, at a step of a region that draws its order. -/
theorem step_store_mid {P : Program} {w : World} {ops : Array Oper} {o : Oper} {a : Act} {K : Act → World → Prop} {Q : Exit → Act → World → Prop} {E : Prop} (hgd : o.guard = none) (ty : TypeId) (x y : Operand) (ho : o.op = .store ty x y)
    (b off : Nat) (cells : Array Value) (hx : a.eval x = .pointer (some ⟨b, off, none⟩)) (hy : a.eval y = .agg cells)
    (ht : w.there b off cells.size) (hi : (P.info? ty).map (·.size) = some cells.size) (h1 : cells.all (·.oneCell') = true)
    (h : K (a.put o.dst undef) (w.setCells b off cells.toList)) : if Region.wanted o (yielded ops a.tmps) = true then Oper.wp P o a w K Q else E := by
  have hw : Region.wanted o (yielded ops a.tmps) = true := by simp [Region.wanted, hgd]
  rw [if_pos hw]
  exact wp_store_mid ty x y ho b off cells hx hy ht hi h1 h
theorem row_there5 {W : World} {B g n cap k l : Nat} {s : List Pn} (h : W.ownsRow B 46 5 (.slice (some ⟨g, 0, none⟩) n cap) l (flat pf s)) (hi : k < s.length) : W.there g (k * 5) 5 := fun j hj => by
  obtain ⟨_, cur, hgh⟩ := row_tag h g rfl
  refine ⟨?_, Lib.frozen_of_heap hgh _⟩
  have h1 : k * 5 + j < (flat pf s).length := by rw [flat_len pf_len]; omega
  rw [row_at h (k * 5 + j) _ (List.getElem?_eq_getElem h1)]
  rfl
theorem szP : (Try.prog.info? 46).map (·.size) = some 5 := by kernel_rfl
/-- A node of the reader's is written over. -/
theorem Rr.setN {B : Nat} {W : World} {r g n cap : Nat} {vl vc : Value} {L : List Wd} {m : Rm} (h : Rr B W r vl (.slice (some ⟨g, 0, none⟩) n cap) vc L m) (hn : m.ns.length = n) (i : Nat) (hi : i < n) (p : Pn) : Rr B (W.setCells g (i * 5) (pf p)) r vl (.slice (some ⟨g, 0, none⟩) n cap) vc L (stR m i p) ∧ Kr W (W.setCells g (i * 5) (pf p)) (fun j => j = g) := by
  have hg : W.grownBy (W.setCells g (i * 5) (pf p)) (some g) := grown_cells g _ _ W W ⟨rfl, rfl, rfl, Nat.le_refl _, fun _ _ _ => rfl⟩
  have hgB : B ≤ g := (row_tag h.ns g rfl).1
  have hgr : g ≠ r := fun e => tag_ne_blk h.ns h.blk (by decide) (by rw [← e]; rfl)
  have hb : Below B W (W.setCells g (i * 5) (pf p)) := (Below.refl B W).grown hg h.size.1 (fun k e => by injection e with e; rw [← e]; exact hgB)
  have hns := h.ns
  rw [hn] at hns
  have h9 := row_ovw (pf p) (i * 5) W _ hns
  rw [flat_ovw pf_len p m.ns i (by rw [hn]; exact hi)] at h9
  refine ⟨⟨h.lt, (hg.block r (lt_of_heap h.blk) (fun e => hgr (by injection e with e; exact e.symm))).trans h.blk, h.wl.up hb, ?_, ?_⟩, ?_⟩
  · show World.ownsRow _ _ _ _ _ (m.ns.set i p).length _
    rw [List.length_set, hn]
    exact h9
  · refine h.cs.kept hg ?_
    exact tag_ne h.cs h.ns (by decide)
  · exact (Kr.of_grown hg).mono (fun j e => by injection e with e; exact e.symm)
/-- What pattern is to do, with fuel n. -/
def PQ (L : List Wd) (n : Nat) : Prop := ∀ (B r : Nat) (vl vn : Value) (ca : Option Addr) (cn cc : Nat) (m : Rm) (w : World), Rr B w r vl vn (.slice ca cn cc) L m → m.e = 0 → m.at_ ≤ L.length → m.ns.length ≤ 32 → 2 * (L.length - m.at_) + 1 ≤ n → Calls Try.prog 10 #[.pointer (some ⟨r, 0, none⟩)] w fun e w' => e = .returned (.tuple #[]) ∧ ∃ vn', Rr B w' r vl vn' (.slice ca cn cc) L (prR L n none m).1 ∧ Kr w w' (fun j => j = r ∨ vn.ownBlock = some j) ∧ ∀ j, vn'.ownBlock = some j → vn.ownBlock = some j ∨ w.heap.size ≤ j
set_option maxRecDepth 100000 in
set_option maxHeartbeats 32000000 in
theorem rpat_step {L : List Wd} (hL : L.length ≤ 1048576) (n : Nat) (hN : n ≤ 4194304) (ih : ∀ k, k < n → PQ L k) : PQ L n := by
  intro B r vl vn ca cn cc m w h he hl hnl hf
  obtain ⟨iP, hiP, hx0, hx1, hx2⟩ := info_parts infoP
  obtain ⟨n, rfl⟩ : ∃ k, n = k + 1 := ⟨n - 1, by omega⟩
  obtain ⟨R, hR⟩ : ∃ R, (prR L (n + 1) none m).1 = R := ⟨_, rfl⟩
  have HNQ : Hid (Nq L (n + 1) 1 m R) := by rw [← hR]; exact (prR_nq L (n + 1)).1 m he hl hnl
  rw [hR]
  rw [prR_pat2] at hR
  have HR : Hid (Rr B w r vl vn (.slice ca cn cc) L m) := h
  have HM : Hid (m.e = 0 ∧ m.at_ ≤ L.length ∧ m.ns.length ≤ 32 ∧ L.length ≤ 1048576 ∧ n ≤ 4194304) := ⟨he, hl, hnl, hL, by omega⟩
  have HF : Hid (2 * (L.length - m.at_) ≤ n) := by show _ ≤ _; omega
  have HIH : Hid (∀ k, k < n + 1 → PQ L k) := ih
  have HNM : Hid _ := rnamed_any m.at_ w h
  have HSC : Hid _ := rsees_any (m.at_ + 1) 5 [58] w h
  have HTX : Hid _ := rtext_any m.at_ w h
  have HSO : Hid _ := rsees_any m.at_ 5 [40] w h
  obtain ⟨F0, hF0⟩ : ∃ F0, nmR L m.at_ = F0 := ⟨_, rfl⟩
  obtain ⟨F1, hF1⟩ : ∃ F1, seR L (m.at_ + 1) 5 [58] = F1 := ⟨_, rfl⟩
  obtain ⟨D0, hD0⟩ : ∃ D0, txR L m.at_ = D0 := ⟨_, rfl⟩
  obtain ⟨D1, hD1⟩ : ∃ D1, seR L m.at_ 5 [40] = D1 := ⟨_, rfl⟩
  have hFF : fdR L m.at_ = (F0 && F1) := by unfold fdR; rw [hF0, hF1]
  have HFD : Hid (fdR L m.at_ = (F0 && F1)) := hFF
  rw [hF0] at HNM
  rw [hF1] at HSC
  rw [hD0] at HTX
  rw [hD1] at HSO
  rw [hFF, hD0, hD1] at hR
  have k1 := h.open.2.1
  have hwa : IntKind.i64.wrap ((m.at_ : Int) + 1) = ((m.at_ + 1 : Nat) : Int) := by rw [IntKind.wrap_i64]; omega
  have HD1E : Hid (D0 = true → m.at_ < L.length) := fun e => (txR_lt (by rw [hD0]; exact e)).1
  have HATL : Hid ((fdR L m.at_ || D0 || D1) = false ∨ m.at_ < L.length) := by
    rcases Bool.eq_false_or_eq_true (fdR L m.at_ || D0 || D1) with z | z
    · refine .inr ?_
      rw [Bool.or_eq_true, Bool.or_eq_true] at z
      rcases z with (z | z) | z
      · have := fdR_lt z; omega
      · exact (txR_lt (hD0.trans z)).1
      · exact (seR_lt (hD1.trans z)).1
    · exact .inl z
  clear h he hl hnl hL ih hf hF0 hF1 hD0 hD1 hFF
  go_enter Try.func10, Try.ntmps10
  go_upto_region 0 with fail
  go_cut [2] from 5 to 19 (fun v2 wd => v2 = .bool (F0 && F1) ∧ Hid (w = wd))
  case first =>
    cases F0 with
    | false =>
      go_wp2_with (go_at_call 16; refine Calls.mono HNM.out ?_; rintro e w1 ⟨rfl, rfl⟩)
      go_meet
      exact ⟨rfl, rfl⟩
    | true =>
      go_wp2_with first | (go_at_call 16; refine Calls.mono HNM.out ?_; rintro e w1 ⟨rfl, rfl⟩) | (go_at_call 17; refine Calls.mono HSC.out ?_; rintro e w1 ⟨rfl, rfl⟩)
      go_meet
      exact ⟨by simp, rfl⟩
  case rest =>
    obtain ⟨rfl, hwd⟩ := hcut
    obtain rfl := hwd.out
    clear hwa HNM HSC
    obtain ⟨F, hF⟩ : ∃ F, (F0 && F1) = F := ⟨_, rfl⟩
    rw [hF] at hR HFD ⊢
    clear hF
    by_cases c1 : (F || D0 || D1) = false
    · rw [if_pos c1] at hR
      subst hR
      rw [Bool.or_eq_false_iff, Bool.or_eq_false_iff] at c1
      obtain ⟨⟨rfl, rfl⟩, rfl⟩ := c1
      go_wp2_with first | (go_at_call 18; refine Calls.mono HTX.out ?_; rintro e w1 ⟨rfl, rfl⟩) | (go_at_call 17; refine Calls.mono HSO.out ?_; rintro e w1 ⟨rfl, rfl⟩) | (go_at_call 19; refine Calls.mono (rstop_any 200 m.at_ _ HR.out HM.out.1) ?_; rintro e w2 ⟨rfl, hr2, hk2⟩; have HR2 : Hid (Rr B w2 r vl vn (.slice ca cn cc) L ⟨m.at_, m.ns, m.cs, 200, m.at_⟩) := hr2; have HK2 : Hid _ := hk2; clear hr2 hk2)
      refine bodyPost_ret (results_none rfl _ _ _) rfl ⟨rfl, vn, HR2.out, HK2.out.mono (fun j e => .inl e), fun j e => .inl e⟩
    · rw [if_neg c1] at hR
      have HRR : Hid _ := hR
      have HC1 : Hid (¬((F || D0 || D1) = false)) := c1
      clear c1 hR
      go_upto_region 1 with fail
      go_cut [39] from 20 to 39 (fun v39 wd => v39 = .bool false ∧ Hid (w = wd))
      case first =>
        cases F with
        | true =>
          go_wp2_with fail
          go_meet
          exact ⟨rfl, rfl⟩
        | false =>
          cases D0 with
          | true =>
            go_wp2_with (go_at_call 18; refine Calls.mono HTX.out ?_; rintro e w1 ⟨rfl, rfl⟩)
            go_meet
            exact ⟨rfl, rfl⟩
          | false =>
            have hD : D1 = true := by have := HC1.out; cases D1 <;> simp at this ⊢
            subst hD
            go_wp2_with first | (go_at_call 18; refine Calls.mono HTX.out ?_; rintro e w1 ⟨rfl, rfl⟩) | (go_at_call 17; refine Calls.mono HSO.out ?_; rintro e w1 ⟨rfl, rfl⟩)
            go_meet
            exact ⟨rfl, rfl⟩
      case rest =>
        obtain ⟨rfl, hwd2⟩ := hcut
        obtain rfl := hwd2.out
        clear HTX HSO k1
        obtain ⟨ln, hln⟩ : ∃ ln, m.ns.length = ln := ⟨_, rfl⟩
        have HLN : Hid (m.ns.length = ln) := hln
        have hR := HRR.out
        clear HRR
        rw [hln] at hR
        obtain ⟨qa, qc, hqv⟩ := row_shape HR.out.ns
        subst hqv
        rw [hln] at HR
        clear hln
        obtain ⟨-, k1, k2, -⟩ := HR.out.open
        by_cases h32 : 32 ≤ ln
        · rw [if_pos h32] at hR
          subst hR
          have d1 : decide ((32 : Int) ≤ (ln : Int)) = true := by rw [decide_eq_true_eq]; omega
          have d2 : decide (32 ≤ ln) = true := by rw [decide_eq_true_eq]; omega
          clear h32
          go_wp2_with (go_at_call 19; refine Calls.mono (rstop_any 202 m.at_ _ HR.out HM.out.1) ?_; rintro e w2 ⟨rfl, hr2, hk2⟩; have HR2 : Hid (Rr B w2 r vl (.slice qa ln qc) (.slice ca cn cc) L ⟨m.at_, m.ns, m.cs, 202, m.at_⟩) := hr2; have HK2 : Hid _ := hk2; clear hr2 hk2)
          refine bodyPost_ret (results_none rfl _ _ _) rfl ⟨rfl, _, HR2.out, HK2.out.mono (fun j e => .inl e), fun j e => .inl (by rw [HLN.out]; exact e)⟩
        · rw [if_neg h32] at hR
          have d1 : decide ((32 : Int) ≤ (ln : Int)) = false := by rw [decide_eq_false_iff_not]; omega
          have d2 : decide (32 ≤ ln) = false := by rw [decide_eq_false_iff_not]; omega
          have HRR : Hid _ := hR
          have HLL : Hid (ln < 32) := by show _ < _; omega
          clear h32 hR
          go_upto_region 7 with fail
          obtain ⟨pb, hpb⟩ : ∃ pb, w.heap.size = pb := ⟨_, rfl⟩
          obtain ⟨wD, hwD⟩ : ∃ wD, wD = (w.alloc (.cells #[.string ⟨#[]⟩, .bool false, .string ⟨#[]⟩, .string ⟨#[]⟩, .int .i64 0] 46)).drew := ⟨_, rfl⟩
          have HBD : Hid (Below w.heap.size w wD) := by rw [hwD]; exact Below.drew (bel_up _ _)
          have HPD : Hid (Pb wD pb pz) := by
            rw [hwD]
            exact ((Below.drew (Below.refl (w.alloc (.cells #[.string ⟨#[]⟩, .bool false, .string ⟨#[]⟩, .string ⟨#[]⟩, .int .i64 0] 46)).heap.size _)).block pb (by rw [World.size_alloc]; omega)).trans (by rw [← hpb]; exact heap_new w _)
          have HRD : Hid (Rr B wD r vl (.slice qa ln qc) (.slice ca cn cc) L m) := by have h9 := HR.out.up HBD.out; exact h9
          have HPN : Hid (pb ≠ r ∧ (Value.slice qa ln qc).ownBlock ≠ some pb ∧ (Value.slice ca cn cc).ownBlock ≠ some pb ∧ B ≤ pb ∧ pb < wD.heap.size ∧ w.heap.size = pb) := by
            have h1 := HR.out.size
            refine ⟨by omega, fun e => ?_, fun e => ?_, by omega, lt_of_heap HPD.out, hpb⟩
            · have h8 := (HR.out.ns.lt pb e).2; omega
            · have h8 := (HR.out.cs.lt pb e).2; omega
          have HKD : Hid (Kr w wD (fun j => j = r ∨ (Value.slice qa ln qc).ownBlock = some j)) := Kr.of_below HBD.out
          have HROW : Hid ((wD.alloc (.cells #[.string ⟨#[]⟩, .bool false, .string ⟨#[]⟩, .string ⟨#[]⟩, .int .i64 0] 46)).ownsRow B 46 5 (.slice qa ln qc) ln (flat pf m.ns)) := by
            have h9 := HRD.out.ns
            rw [HLN.out] at h9
            exact h9.alloc _
          have HSZ : Hid (B ≤ wD.heap.size) := HRD.out.size.1
          have k2D : wD.cell? ⟨r, 2, none⟩ = some (.slice qa ln qc) := HRD.out.open.2.2.1
          rw [hpb]
          clear hpb k1 k2 d1 d2
          have k2E : (wD.alloc (.cells #[.string ⟨#[]⟩, .bool false, .string ⟨#[]⟩, .string ⟨#[]⟩, .int .i64 0] 46)).cell? ⟨r, 2, none⟩ = some (.slice qa ln qc) := cell_up _ k2D
          go_cut [] from 65 to 76 (fun wd => ∃ g1 q1, Hid (Rr B wd r vl (.slice (some ⟨g1, 0, none⟩) (ln + 1) q1) (.slice ca cn cc) L ⟨m.at_, m.ns ++ [pz], m.cs, 0, m.po⟩) ∧ Hid (Pb wd pb pz) ∧ Hid (Kr w wd (fun j => j = r ∨ (Value.slice qa ln qc).ownBlock = some j)) ∧ Hid ((Value.slice qa ln qc).ownBlock = some g1 ∨ pb < g1))
          case first =>
            refine wp_region_noPanic ?_
            refine wp_region_held_drew (S := fun W => Pb W pb pz) (by kernel_rfl) (by rw [← hwD]; exact HPD.out) (fun hHeld => ?_)
            rw [← hwD]
            clear hwD
            refine wpAnyH_take (i := 0) (oi := { dst := _, op := _, type := _, pos := _, after := _, guard := _ }) (v := ?_) rfl (by kernel_rfl) (by kernel_rfl) (by kernel_rfl) (fun _ _ _ h => h) (Or.inl ⟨by rfl, ?_⟩) (by assumption) ?_
            rotate_left
            · intro W hSw
              (try dsimp only at hSw)
              go_simp
              (try with_reducible rfl)
            try simp only [Act.put, List.setIfInBounds_toArray, List.set_cons_zero, List.set_cons_succ]
            refine wpAnyH_take (i := 1) (oi := { dst := _, op := _, type := _, pos := _, after := _, guard := _ }) (v := ?_) rfl (by kernel_rfl) (by kernel_rfl) (by kernel_rfl) (fun _ _ _ h => h) (Or.inl ⟨by rfl, ?_⟩) (by assumption) ?_
            rotate_left
            · intro W hSw
              (try dsimp only at hSw)
              go_simp
              (try with_reducible rfl)
            try simp only [Act.put, List.setIfInBounds_toArray, List.set_cons_zero, List.set_cons_succ]
            refine wpAnyH_take (i := 2) (oi := { dst := _, op := _, type := _, pos := _, after := _, guard := _ }) (v := ?_) rfl (by kernel_rfl) (by kernel_rfl) (by kernel_rfl) (fun _ _ _ h => h) (Or.inl ⟨by rfl, ?_⟩) (by assumption) ?_
            rotate_left
            · intro W hSw
              (try dsimp only at hSw)
              go_simp
              (try with_reducible rfl)
            try simp only [Act.put, List.setIfInBounds_toArray, List.set_cons_zero, List.set_cons_succ]
            refine wpAnyH_take (i := 3) (oi := { dst := _, op := _, type := _, pos := _, after := _, guard := _ }) (v := ?_) rfl (by kernel_rfl) (by kernel_rfl) (by kernel_rfl) (fun _ _ _ h => h) (Or.inl ⟨by rfl, ?_⟩) (by assumption) ?_
            rotate_left
            · intro W hSw
              (try dsimp only at hSw)
              go_simp
              (try with_reducible rfl)
            try simp only [Act.put, List.setIfInBounds_toArray, List.set_cons_zero, List.set_cons_succ]
            refine wpAnyH_take (i := 4) (oi := { dst := _, op := _, type := _, pos := _, after := _, guard := _ }) (v := ?_) rfl (by kernel_rfl) (by kernel_rfl) (by kernel_rfl) (fun _ _ _ h => h) (Or.inl ⟨by rfl, ?_⟩) (by assumption) ?_
            rotate_left
            · intro W hSw
              (try dsimp only at hSw)
              go_simp
              (try with_reducible rfl)
            try simp only [Act.put, List.setIfInBounds_toArray, List.set_cons_zero, List.set_cons_succ]
            refine wpAnyH_take (i := 6) (oi := { dst := _, op := _, type := _, pos := _, after := _, guard := _ }) (v := ?_) rfl (by kernel_rfl) (by kernel_rfl) (by kernel_rfl) (fun _ _ _ h => h) (Or.inl ⟨by rfl, ?_⟩) (by assumption) ?_
            rotate_left
            · intro W hSw
              (try dsimp only at hSw)
              obtain ⟨y0, y1, y2, y3, y4⟩ := Pb.cells hSw
              simp only [pz] at y0 y1 y2 y3 y4
              go_simp
              (try with_reducible rfl)
            try simp only [Act.put, List.setIfInBounds_toArray, List.set_cons_zero, List.set_cons_succ]
            refine wpAnyH_ready (rs := [5, 7]) (by kernel_rfl) (by simp) ?_
            refine AllReadyH.cons (o := { dst := _, op := _, type := _, pos := _, after := _, guard := _ }) rfl (fun K hK => ?_) (AllReadyH.cons (o := { dst := _, op := _, type := _, pos := _, after := _, guard := _ }) rfl (fun K hK => ?_) AllReadyH.nil)
            · go_simp
              refine hK.out _ _ ?_ (fun hHeld => ?_)
              · exact HPD.out
              clear hK K
              try simp only [Act.put, List.setIfInBounds_toArray, List.set_cons_zero, List.set_cons_succ]
              refine wpAnyH_ready (rs := [7]) (by kernel_rfl) (by simp) ?_
              refine AllReadyH.cons (o := { dst := _, op := _, type := _, pos := _, after := _, guard := _ }) rfl (fun K hK => ?_) AllReadyH.nil
              go_simp
              refine hK.out _ _ ?_ (fun hHeld => ?_)
              · exact HPD.out.keep (S := fun _ => False) (Kr.of_below (bel_up _ _)) (fun e => e)
              clear hK K
              try simp only [Act.put, List.setIfInBounds_toArray, List.set_cons_zero, List.set_cons_succ]
              refine wpAnyH_ready (rs := [8]) (by kernel_rfl) (by simp) ?_
              refine AllReadyH.cons (o := { dst := _, op := _, type := _, pos := _, after := _, guard := _ }) rfl (fun K hK => ?_) AllReadyH.nil
              refine step_append_lies _ rfl (.tmp 70) (.tmp 72) 22 rfl B 46 iP (.agg #[.string ⟨#[]⟩, .bool false, .string ⟨#[]⟩, .string ⟨#[]⟩, .int .i64 0]) 5 64 Try.underlying22 hiP hx0 hx1 hx2 rfl (by decide) (.slice qa ln qc) ln (flat pf m.ns) rfl HROW.out ⟨wD.heap.size, 0, none⟩ 1 1 [.string ⟨#[]⟩, .bool false, .string ⟨#[]⟩, .string ⟨#[]⟩, .int .i64 0] rfl rfl (World.news_of_block (heap_new wD _)) (by simp [Value.oneCell']) (by decide) (by have := HLL.out; unfold maxLen; omega) (by have := HLL.out; omega) (by have := HSZ.out; simp; omega) (wD.heap.size + 1) (by simp) ?_
              intro g1 q1 w5 ho hg ha _
              have HO5 : Hid (w5.ownsRow B 46 5 (.slice (some ⟨g1, 0, none⟩) (ln + 1) q1) (ln + 1) (flat pf m.ns ++ pf pz)) := ho
              have HG5 : Hid ((wD.alloc (.cells #[.string ⟨#[]⟩, .bool false, .string ⟨#[]⟩, .string ⟨#[]⟩, .int .i64 0] 46)).grownBy w5 (Value.ownBlock (.slice qa ln qc))) := hg
              have HA5 : Hid ((Value.slice qa ln qc).ownBlock = some g1 ∨ g1 = wD.heap.size + 1) := ha
              have c5 : w5.cell? ⟨r, 2, none⟩ = some (.slice qa ln qc) := cel_of ((World.grownBy_alloc _ _ _).trans HG5.out) HRD.out.blk HRD.out.ns (by decide) rfl
              have z5 : w5.frozen? ⟨r, 2, none⟩ = false := froz_of ((World.grownBy_alloc _ _ _).trans HG5.out) HRD.out.blk HRD.out.ns (by decide)
              have p5 : Pb w5 pb pz := (((World.grownBy_alloc _ _ _).trans HG5.out).block pb HPN.out.2.2.2.2.1 (fun e => HPN.out.2.1 e.symm)).trans HPD.out
              clear ho hg ha
              refine hK.out _ _ ?_ (fun hHeld => ?_)
              · exact p5
              clear hK K
              try simp only [Act.put, List.setIfInBounds_toArray, List.set_cons_zero, List.set_cons_succ]
              refine wpAnyH_take (i := 9) (oi := { dst := _, op := _, type := _, pos := _, after := _, guard := _ }) (v := ?_) rfl (by kernel_rfl) (by kernel_rfl) (by kernel_rfl) (fun _ _ _ h => h) (Or.inl ⟨by rfl, ?_⟩) (by assumption) ?_
              rotate_left
              · intro W hSw
                (try dsimp only at hSw)
                go_simp
                (try with_reducible rfl)
              try simp only [Act.put, List.setIfInBounds_toArray, List.set_cons_zero, List.set_cons_succ]
              refine wpAnyH_take (i := 10) (oi := { dst := _, op := _, type := _, pos := _, after := _, guard := _ }) (v := ?_) rfl (by kernel_rfl) (by kernel_rfl) (by kernel_rfl) (fun _ _ _ h => h) (Or.inl ⟨by rfl, ?_⟩) (by assumption) ?_
              rotate_left
              · intro W hSw
                (try dsimp only at hSw)
                go_simp
                (try with_reducible rfl)
              try simp only [Act.put, List.setIfInBounds_toArray, List.set_cons_zero, List.set_cons_succ]
              refine wpAnyH_take (i := 11) (oi := { dst := _, op := _, type := _, pos := _, after := _, guard := _ }) (v := ?_) rfl (by kernel_rfl) (by kernel_rfl) (by kernel_rfl) (fun _ _ _ h => h) (Or.inl ⟨by rfl, ?_⟩) (by assumption) ?_
              rotate_left
              · intro W hSw
                (try dsimp only at hSw)
                go_simp
                (try with_reducible rfl)
              try simp only [Act.put, List.setIfInBounds_toArray, List.set_cons_zero, List.set_cons_succ]
              refine wpAnyH_ready (rs := [12]) (by kernel_rfl) (by simp) ?_
              refine AllReadyH.cons (o := { dst := _, op := _, type := _, pos := _, after := _, guard := _ }) rfl (fun K hK => ?_) AllReadyH.nil
              go_simp
              refine hK.out _ _ ?_ (fun hHeld => ?_)
              · exact p5.keep (Kr.set _ _ _ _) (fun e => HPN.out.1 e)
              clear hK K
              try simp only [Act.put, List.setIfInBounds_toArray, List.set_cons_zero, List.set_cons_succ]
              refine wpAnyH_done (by kernel_rfl) ?_ _
              refine NoPanic.normal ?_
              clear hHeld
              go_wp2_with fail
              go_meet
              have hap := HRD.out.app (W5 := w5) (v5 := .slice (some ⟨g1, 0, none⟩) (ln + 1) q1) pz HG5.out (by rw [HLN.out]; exact HO5.out)
              have hkd : Kr wD (w5.setCell ⟨r, 2, none⟩ (.slice (some ⟨g1, 0, none⟩) (ln + 1) q1)) (fun j => j = r ∨ (Value.slice qa ln qc).ownBlock = some j) := hap.2
              exact ⟨g1, q1, by have h9 := hap.1; rw [HM.out.1] at h9; exact h9, HPD.out.keep hkd (fun e => e.elim HPN.out.1 HPN.out.2.1), HKD.out.trans hkd (fun j e => .inl e), HA5.out.elim .inl (fun e => .inr (by have := HPN.out.2.2.2.2.1; omega))⟩
            · go_simp
              refine hK.out _ _ ?_ (fun hHeld => ?_)
              · exact HPD.out.keep (S := fun _ => False) (Kr.of_below (bel_up _ _)) (fun e => e)
              clear hK K
              try simp only [Act.put, List.setIfInBounds_toArray, List.set_cons_zero, List.set_cons_succ]
              refine wpAnyH_ready (rs := [5]) (by kernel_rfl) (by simp) ?_
              refine AllReadyH.cons (o := { dst := _, op := _, type := _, pos := _, after := _, guard := _ }) rfl (fun K hK => ?_) AllReadyH.nil
              go_simp
              refine hK.out _ _ ?_ (fun hHeld => ?_)
              · exact HPD.out.keep (S := fun _ => False) (Kr.of_below (bel_up _ _)) (fun e => e)
              clear hK K
              try simp only [Act.put, List.setIfInBounds_toArray, List.set_cons_zero, List.set_cons_succ]
              refine wpAnyH_ready (rs := [8]) (by kernel_rfl) (by simp) ?_
              refine AllReadyH.cons (o := { dst := _, op := _, type := _, pos := _, after := _, guard := _ }) rfl (fun K hK => ?_) AllReadyH.nil
              refine step_append_lies _ rfl (.tmp 70) (.tmp 72) 22 rfl B 46 iP (.agg #[.string ⟨#[]⟩, .bool false, .string ⟨#[]⟩, .string ⟨#[]⟩, .int .i64 0]) 5 64 Try.underlying22 hiP hx0 hx1 hx2 rfl (by decide) (.slice qa ln qc) ln (flat pf m.ns) rfl HROW.out ⟨wD.heap.size, 0, none⟩ 1 1 [.string ⟨#[]⟩, .bool false, .string ⟨#[]⟩, .string ⟨#[]⟩, .int .i64 0] rfl rfl (World.news_of_block (heap_new wD _)) (by simp [Value.oneCell']) (by decide) (by have := HLL.out; unfold maxLen; omega) (by have := HLL.out; omega) (by have := HSZ.out; simp; omega) (wD.heap.size + 1) (by simp) ?_
              intro g1 q1 w5 ho hg ha _
              have HO5 : Hid (w5.ownsRow B 46 5 (.slice (some ⟨g1, 0, none⟩) (ln + 1) q1) (ln + 1) (flat pf m.ns ++ pf pz)) := ho
              have HG5 : Hid ((wD.alloc (.cells #[.string ⟨#[]⟩, .bool false, .string ⟨#[]⟩, .string ⟨#[]⟩, .int .i64 0] 46)).grownBy w5 (Value.ownBlock (.slice qa ln qc))) := hg
              have HA5 : Hid ((Value.slice qa ln qc).ownBlock = some g1 ∨ g1 = wD.heap.size + 1) := ha
              have c5 : w5.cell? ⟨r, 2, none⟩ = some (.slice qa ln qc) := cel_of ((World.grownBy_alloc _ _ _).trans HG5.out) HRD.out.blk HRD.out.ns (by decide) rfl
              have z5 : w5.frozen? ⟨r, 2, none⟩ = false := froz_of ((World.grownBy_alloc _ _ _).trans HG5.out) HRD.out.blk HRD.out.ns (by decide)
              have p5 : Pb w5 pb pz := (((World.grownBy_alloc _ _ _).trans HG5.out).block pb HPN.out.2.2.2.2.1 (fun e => HPN.out.2.1 e.symm)).trans HPD.out
              clear ho hg ha
              refine hK.out _ _ ?_ (fun hHeld => ?_)
              · exact p5
              clear hK K
              try simp only [Act.put, List.setIfInBounds_toArray, List.set_cons_zero, List.set_cons_succ]
              refine wpAnyH_take (i := 9) (oi := { dst := _, op := _, type := _, pos := _, after := _, guard := _ }) (v := ?_) rfl (by kernel_rfl) (by kernel_rfl) (by kernel_rfl) (fun _ _ _ h => h) (Or.inl ⟨by rfl, ?_⟩) (by assumption) ?_
              rotate_left
              · intro W hSw
                (try dsimp only at hSw)
                go_simp
                (try with_reducible rfl)
              try simp only [Act.put, List.setIfInBounds_toArray, List.set_cons_zero, List.set_cons_succ]
              refine wpAnyH_take (i := 10) (oi := { dst := _, op := _, type := _, pos := _, after := _, guard := _ }) (v := ?_) rfl (by kernel_rfl) (by kernel_rfl) (by kernel_rfl) (fun _ _ _ h => h) (Or.inl ⟨by rfl, ?_⟩) (by assumption) ?_
              rotate_left
              · intro W hSw
                (try dsimp only at hSw)
                go_simp
                (try with_reducible rfl)
              try simp only [Act.put, List.setIfInBounds_toArray, List.set_cons_zero, List.set_cons_succ]
              refine wpAnyH_take (i := 11) (oi := { dst := _, op := _, type := _, pos := _, after := _, guard := _ }) (v := ?_) rfl (by kernel_rfl) (by kernel_rfl) (by kernel_rfl) (fun _ _ _ h => h) (Or.inl ⟨by rfl, ?_⟩) (by assumption) ?_
              rotate_left
              · intro W hSw
                (try dsimp only at hSw)
                go_simp
                (try with_reducible rfl)
              try simp only [Act.put, List.setIfInBounds_toArray, List.set_cons_zero, List.set_cons_succ]
              refine wpAnyH_ready (rs := [12]) (by kernel_rfl) (by simp) ?_
              refine AllReadyH.cons (o := { dst := _, op := _, type := _, pos := _, after := _, guard := _ }) rfl (fun K hK => ?_) AllReadyH.nil
              go_simp
              refine hK.out _ _ ?_ (fun hHeld => ?_)
              · exact p5.keep (Kr.set _ _ _ _) (fun e => HPN.out.1 e)
              clear hK K
              try simp only [Act.put, List.setIfInBounds_toArray, List.set_cons_zero, List.set_cons_succ]
              refine wpAnyH_done (by kernel_rfl) ?_ _
              refine NoPanic.normal ?_
              clear hHeld
              go_wp2_with fail
              go_meet
              have hap := HRD.out.app (W5 := w5) (v5 := .slice (some ⟨g1, 0, none⟩) (ln + 1) q1) pz HG5.out (by rw [HLN.out]; exact HO5.out)
              have hkd : Kr wD (w5.setCell ⟨r, 2, none⟩ (.slice (some ⟨g1, 0, none⟩) (ln + 1) q1)) (fun j => j = r ∨ (Value.slice qa ln qc).ownBlock = some j) := hap.2
              exact ⟨g1, q1, by have h9 := hap.1; rw [HM.out.1] at h9; exact h9, HPD.out.keep hkd (fun e => e.elim HPN.out.1 HPN.out.2.1), HKD.out.trans hkd (fun j e => .inl e), HA5.out.elim .inl (fun e => .inr (by have := HPN.out.2.2.2.2.1; omega))⟩
          case rest =>
            obtain ⟨g1, q1, HR7, HP7, HK7, HV7⟩ := hcut
            clear HRD HBD HPD HROW HSZ HKD HR k2D k2E hwD hiP hx0 hx1 hx2
            obtain ⟨la, lc, hvl, hlw⟩ := HR7.out.wl
            subst hvl
            have HLA : Hid (∀ i, i < L.length → ∃ g o, la = some ⟨g, o, none⟩) := fun i hi => by obtain ⟨g, o, e, -⟩ := hlw i hi; exact ⟨g, o, e⟩
            clear hlw
            obtain ⟨nl, hnl⟩ : ∃ nl, L.length = nl := ⟨_, rfl⟩
            have HNL : Hid (L.length = nl) := hnl
            rw [hnl] at HR7
            clear hnl
            go_upto_if 77 with fail
            go_cut [] from 77 to 97 (fun wd => Hid (Rr B wd r (.slice la nl lc) (.slice (some ⟨g1, 0, none⟩) (ln + 1) q1) (.slice ca cn cc) L (opR L m).1) ∧ Hid (Pb wd pb (opR L m).2) ∧ Hid (Kr w wd (fun j => j = r ∨ (Value.slice qa ln qc).ownBlock = some j)))
            case first =>
              cases F with
              | false =>
                have HO : Hid (opR L m = (⟨m.at_, m.ns ++ [pz], m.cs, 0, m.po⟩, pz)) := by show _ = _; unfold opR; rw [if_neg (by rw [HFD.out]; decide)]
                go_wp2_with fail
                go_meet
                exact ⟨by rw [HO.out]; exact HR7.out, by rw [HO.out]; exact HP7.out, HK7.out⟩
              | true =>
                have hlt := fdR_lt HFD.out
                obtain ⟨lg, lo, rfl⟩ := HLA.out m.at_ (by omega)
                obtain ⟨tt, htt⟩ : ∃ tt, (L.getD m.at_ w0).t = tt := ⟨_, rfl⟩
                have HTT : Hid ((L.getD m.at_ w0).t = tt) := htt
                have HTC : Hid (∀ W, Rr B W r (.slice (some ⟨lg, lo, none⟩) nl lc) (.slice (some ⟨g1, 0, none⟩) (ln + 1) q1) (.slice ca cn cc) L ⟨m.at_, m.ns ++ [pz], m.cs, 0, m.po⟩ → W.cell? ⟨lg, lo + m.at_ * 4 + 1, none⟩ = some (.string ⟨tt.toArray⟩)) := fun W hW => by rw [← htt]; exact hW.wl.text m.at_ (by omega)
                have HO : Hid (opR L m = (⟨m.at_ + 2, m.ns ++ [pz], m.cs, 0, m.po⟩, { pz with fd := bs tt })) := by show _ = _; unfold opR; rw [if_pos HFD.out, htt]
                have b0 : (0 : Int) ≤ (m.at_ : Int) := by omega
                have b1 : (m.at_ : Int) < (nl : Int) := by have := HNL.out; omega
                have b2 : m.at_ < nl := by have := HNL.out; omega
                have HNE3 : Hid ((Value.slice (some ⟨g1, 0, none⟩) (ln + 1) q1).ownBlock ≠ some pb) := fun e => by
                  have e2 : g1 = pb := by simpa [Value.ownBlock] using e
                  rcases HV7.out with h9 | h9
                  · exact HPN.out.2.1 (by rw [h9, e2])
                  · omega
                clear hlt htt
                go_upto_region 9 with fail
                obtain ⟨w8, hw8⟩ : ∃ w8, w8 = wc.drew := ⟨_, rfl⟩
                have HR8 : Hid (Rr B w8 r (.slice (some ⟨lg, lo, none⟩) nl lc) (.slice (some ⟨g1, 0, none⟩) (ln + 1) q1) (.slice ca cn cc) L ⟨m.at_, m.ns ++ [pz], m.cs, 0, m.po⟩) := by rw [hw8]; exact HR7.out.drew
                have HP8 : Hid (Pb w8 pb pz) := by rw [hw8]; exact HP7.out.keep (S := fun _ => False) (Kr.of_below (Below.drew (Below.refl _ _))) (fun e => e)
                have HK8 : Hid (Kr w w8 (fun j => j = r ∨ (Value.slice qa ln qc).ownBlock = some j)) := by rw [hw8]; exact HK7.out.trans (S' := fun _ => False) (Kr.of_below (Below.drew (Below.refl _ _))) (fun j e => e.elim)
                obtain ⟨-, -, p2, -, -⟩ := HP8.out.cells
                have z2 := HP8.out.froz 2
                refine wp_region_noPanic ?_
                refine wp_region_held_drew (S := fun W => Rr B W r (.slice (some ⟨lg, lo, none⟩) nl lc) (.slice (some ⟨g1, 0, none⟩) (ln + 1) q1) (.slice ca cn cc) L ⟨m.at_, m.ns ++ [pz], m.cs, 0, m.po⟩) (by kernel_rfl) (by rw [← hw8]; exact HR8.out) (fun hHeld => ?_)
                rw [← hw8]
                clear hw8
                refine wpAnyH_take (i := 0) (oi := { dst := _, op := _, type := _, pos := _, after := _, guard := _ }) (v := ?_) rfl (by kernel_rfl) (by kernel_rfl) (by kernel_rfl) (fun _ _ _ h => h) (Or.inl ⟨by rfl, ?_⟩) (by assumption) ?_
                rotate_left
                · intro W hSw
                  (try dsimp only at hSw)
                  go_simp
                  (try with_reducible rfl)
                try simp only [Act.put, List.setIfInBounds_toArray, List.set_cons_zero, List.set_cons_succ]
                refine wpAnyH_take (i := 1) (oi := { dst := _, op := _, type := _, pos := _, after := _, guard := _ }) (v := ?_) rfl (by kernel_rfl) (by kernel_rfl) (by kernel_rfl) (fun _ _ _ h => h) (Or.inl ⟨by rfl, ?_⟩) (by assumption) ?_
                rotate_left
                · intro W hSw
                  (try dsimp only at hSw)
                  go_simp
                  (try with_reducible rfl)
                try simp only [Act.put, List.setIfInBounds_toArray, List.set_cons_zero, List.set_cons_succ]
                refine wpAnyH_take (i := 2) (oi := { dst := _, op := _, type := _, pos := _, after := _, guard := _ }) (v := ?_) rfl (by kernel_rfl) (by kernel_rfl) (by kernel_rfl) (fun _ _ _ h => h) (Or.inl ⟨by rfl, ?_⟩) (by assumption) ?_
                rotate_left
                · intro W hSw
                  (try dsimp only at hSw)
                  go_simp
                  (try with_reducible rfl)
                try simp only [Act.put, List.setIfInBounds_toArray, List.set_cons_zero, List.set_cons_succ]
                refine wpAnyH_take (i := 3) (oi := { dst := _, op := _, type := _, pos := _, after := _, guard := _ }) (v := ?_) rfl (by kernel_rfl) (by kernel_rfl) (by kernel_rfl) (fun _ _ _ h => h) (Or.inl ⟨by rfl, ?_⟩) (by assumption) ?_
                rotate_left
                · intro W hSw
                  (try dsimp only at hSw)
                  have y0 := hSw.open.1
                  go_simp
                  (try with_reducible rfl)
                try simp only [Act.put, List.setIfInBounds_toArray, List.set_cons_zero, List.set_cons_succ]
                refine wpAnyH_take (i := 4) (oi := { dst := _, op := _, type := _, pos := _, after := _, guard := _ }) (v := ?_) rfl (by kernel_rfl) (by kernel_rfl) (by kernel_rfl) (fun _ _ _ h => h) (Or.inl ⟨by rfl, ?_⟩) (by assumption) ?_
                rotate_left
                · intro W hSw
                  (try dsimp only at hSw)
                  go_simp
                  (try with_reducible rfl)
                try simp only [Act.put, List.setIfInBounds_toArray, List.set_cons_zero, List.set_cons_succ]
                refine wpAnyH_take (i := 5) (oi := { dst := _, op := _, type := _, pos := _, after := _, guard := _ }) (v := ?_) rfl (by kernel_rfl) (by kernel_rfl) (by kernel_rfl) (fun _ _ _ h => h) (Or.inl ⟨by rfl, ?_⟩) (by assumption) ?_
                rotate_left
                · intro W hSw
                  (try dsimp only at hSw)
                  go_simp
                  (try with_reducible rfl)
                try simp only [Act.put, List.setIfInBounds_toArray, List.set_cons_zero, List.set_cons_succ]
                refine wpAnyH_take (i := 6) (oi := { dst := _, op := _, type := _, pos := _, after := _, guard := _ }) (v := ?_) rfl (by kernel_rfl) (by kernel_rfl) (by kernel_rfl) (fun _ _ _ h => h) (Or.inl ⟨by rfl, ?_⟩) (by assumption) ?_
                rotate_left
                · intro W hSw
                  (try dsimp only at hSw)
                  go_simp
                  (try with_reducible rfl)
                try simp only [Act.put, List.setIfInBounds_toArray, List.set_cons_zero, List.set_cons_succ]
                refine wpAnyH_take (i := 7) (oi := { dst := _, op := _, type := _, pos := _, after := _, guard := _ }) (v := ?_) rfl (by kernel_rfl) (by kernel_rfl) (by kernel_rfl) (fun _ _ _ h => h) (Or.inl ⟨by rfl, ?_⟩) (by assumption) ?_
                rotate_left
                · intro W hSw
                  (try dsimp only at hSw)
                  have y1 := hSw.open.2.1
                  go_simp
                  (try with_reducible rfl)
                try simp only [Act.put, List.setIfInBounds_toArray, List.set_cons_zero, List.set_cons_succ]
                refine wpAnyH_take (i := 8) (oi := { dst := _, op := _, type := _, pos := _, after := _, guard := _ }) (v := ?_) rfl (by kernel_rfl) (by kernel_rfl) (by kernel_rfl) (fun _ _ _ h => h) (Or.inl ⟨by rfl, ?_⟩) (by assumption) ?_
                rotate_left
                · intro W hSw
                  (try dsimp only at hSw)
                  go_simp
                  (try with_reducible rfl)
                try simp only [Act.put, List.setIfInBounds_toArray, List.set_cons_zero, List.set_cons_succ]
                refine wpAnyH_take (i := 9) (oi := { dst := _, op := _, type := _, pos := _, after := _, guard := _ }) (v := ?_) rfl (by kernel_rfl) (by kernel_rfl) (by kernel_rfl) (fun _ _ _ h => h) (Or.inl ⟨by rfl, ?_⟩) (by assumption) ?_
                rotate_left
                · intro W hSw
                  (try dsimp only at hSw)
                  go_simp
                  (try with_reducible rfl)
                try simp only [Act.put, List.setIfInBounds_toArray, List.set_cons_zero, List.set_cons_succ]
                refine wpAnyH_take (i := 10) (oi := { dst := _, op := _, type := _, pos := _, after := _, guard := _ }) (v := ?_) rfl (by kernel_rfl) (by kernel_rfl) (by kernel_rfl) (fun _ _ _ h => h) (Or.inl ⟨by rfl, ?_⟩) (by assumption) ?_
                rotate_left
                · intro W hSw
                  (try dsimp only at hSw)
                  have y2 := HTC.out W hSw
                  go_simp
                  (try with_reducible rfl)
                try simp only [Act.put, List.setIfInBounds_toArray, List.set_cons_zero, List.set_cons_succ]
                refine wpAnyH_take (i := 11) (oi := { dst := _, op := _, type := _, pos := _, after := _, guard := _ }) (v := ?_) rfl (by kernel_rfl) (by kernel_rfl) (by kernel_rfl) (fun _ _ _ h => h) (Or.inl ⟨by rfl, ?_⟩) (by assumption) ?_
                rotate_left
                · intro W hSw
                  (try dsimp only at hSw)
                  go_simp
                  (try with_reducible rfl)
                try simp only [Act.put, List.setIfInBounds_toArray, List.set_cons_zero, List.set_cons_succ]
                refine wpAnyH_ready (rs := [12]) (by kernel_rfl) (by simp) ?_
                refine AllReadyH.cons (o := { dst := _, op := _, type := _, pos := _, after := _, guard := _ }) rfl (fun K hK => ?_) AllReadyH.nil
                go_simp
                refine hK.out _ _ ?_ (fun hHeld => ?_)
                · exact HR8.out.far HPN.out.2.2.2.1 HPN.out.1 HNE3.out HPN.out.2.2.1
                clear hK K
                try simp only [Act.put, List.setIfInBounds_toArray, List.set_cons_zero, List.set_cons_succ]
                refine wpAnyH_done (by kernel_rfl) ?_ _
                refine NoPanic.normal ?_
                clear hHeld
                obtain ⟨w9, hw9⟩ : ∃ w9, w9 = w8.setCell ⟨pb, 2, none⟩ (.string ⟨tt.toArray⟩) := ⟨_, rfl⟩
                have HR9 : Hid (Rr B w9 r (.slice (some ⟨lg, lo, none⟩) nl lc) (.slice (some ⟨g1, 0, none⟩) (ln + 1) q1) (.slice ca cn cc) L ⟨m.at_, m.ns ++ [pz], m.cs, 0, m.po⟩) := by rw [hw9]; exact HR8.out.far HPN.out.2.2.2.1 HPN.out.1 HNE3.out HPN.out.2.2.1
                have HP9 : Hid (Pb w9 pb { pz with fd := bs tt }) := by rw [hw9]; exact HP8.out.set2 (bs tt)
                have HK9 : Hid (Kr w w9 (fun j => j = r ∨ (Value.slice qa ln qc).ownBlock = some j)) := by rw [hw9]; exact HK8.out.trans (Kr.set _ _ _ _) (fun j e => .inr (by rw [e, HPN.out.2.2.2.2.2]; exact Nat.le_refl _))
                rw [← hw9]
                clear hw9 p2 z2 HR8 HP8 HK8 HR7 HP7 HK7
                obtain ⟨-, k1, -⟩ := HR9.out.open
                have f1 := HR9.out.froz 1
                have hw2 : IntKind.i64.wrap ((m.at_ : Int) + 2) = (m.at_ : Int) + 2 := by have := HM.out; rw [IntKind.wrap_i64]; omega
                go_wp2_with fail
                go_meet
                refine ⟨?_, ?_, ?_⟩
                · have h9 := HR9.out.set1 (m.at_ + 2)
                  rw [HO.out]
                  push_cast at h9
                  exact h9
                · rw [HO.out]
                  exact HP9.out.keep (Kr.set _ _ _ _) HPN.out.1
                · exact HK9.out.trans (Kr.set _ _ _ _) (fun j e => .inl (.inl e))
            case rest =>
              obtain ⟨HRA, HPA, HKA⟩ := hcut
              obtain ⟨o, ho⟩ : ∃ o, opR L m = o := ⟨_, rfl⟩
              have HOF : Hid (o.1.at_ ≤ L.length ∧ o.1.e = 0 ∧ o.1.ns = m.ns ++ [pz] ∧ m.at_ ≤ o.1.at_ ∧ o.2.kd = 0) := by
                obtain ⟨a1, a2, a3⟩ := opR_nr (L := L) (m := m) HM.out.2.1
                have a4 := opR_up (L := L) (m := m)
                have a5 : (opR L m).2.kd = 0 := by unfold opR; split <;> rfl
                rw [ho] at a1 a2 a3 a4 a5
                exact ⟨a1, a2, a3, a4, a5⟩
              rw [ho] at HRA HPA HRR
              clear ho HR7 HP7 HK7 HLA
              obtain ⟨m1, p1⟩ := o
              have HTX : Hid _ := rtext_any m1.at_ _ HRA.out
              have HVN : Hid (∀ j, (Value.slice (some ⟨g1, 0, none⟩) (ln + 1) q1).ownBlock = some j → (Value.slice qa ln qc).ownBlock = some j ∨ pb < j) := fun j e => by
                have e2 : g1 = j := by simpa [Value.ownBlock] using e
                rw [← e2]; exact HV7.out
              obtain ⟨D2, hD2⟩ : ∃ D2, txR L m1.at_ = D2 := ⟨_, rfl⟩
              have HD2 : Hid (txR L m1.at_ = D2) := hD2
              rw [hD2] at HTX
              obtain ⟨-, k1, -⟩ := HRA.out.open
              clear hD2
              obtain ⟨K, hK⟩ : ∃ K, kR L n (ndH L m1 p1) = K := ⟨_, rfl⟩
              have HKE : Hid (kR L n (ndH L m1 p1) = K) := hK
              have hrr := HRR.out
              dsimp only at hrr
              rw [hK] at hrr
              have HRF : Hid _ := hrr
              clear hrr hK HRR
              go_upto_if 103 with (go_at_call 18; refine Calls.mono HTX.out ?_; rintro e w1 ⟨rfl, rfl⟩)
              go_cut [] from 103 to 180 (fun wd => ∃ vn', Hid (Rr B wd r (.slice la nl lc) vn' (.slice ca cn cc) L K.1) ∧ Hid (Pb wd pb K.2) ∧ Hid (Kr w wd (fun j => j = r ∨ (Value.slice qa ln qc).ownBlock = some j)) ∧ Hid (∀ j, vn'.ownBlock = some j → (Value.slice qa ln qc).ownBlock = some j ∨ pb < j))
              case first =>
                have HNE3 : Hid ((Value.slice (some ⟨g1, 0, none⟩) (ln + 1) q1).ownBlock ≠ some pb) := fun e => (HVN.out pb e).elim HPN.out.2.1 (fun k => by omega)
                have HE1 : Hid (m1.e = 0) := HOF.out.2.1
                cases D2 with
                | true =>
                  have hlt := (txR_lt HD2.out).1
                  obtain ⟨la', lc', hvl, hlw⟩ := HRA.out.wl
                  obtain ⟨rfl, -, rfl⟩ := Value.slice.inj hvl
                  obtain ⟨lg, lo, rfl, -⟩ := hlw m1.at_ hlt
                  obtain ⟨tt, htt⟩ : ∃ tt, (L.getD m1.at_ w0).t = tt := ⟨_, rfl⟩
                  have HTC : Hid (∀ W, Rr B W r (.slice (some ⟨lg, lo, none⟩) nl lc) (.slice (some ⟨g1, 0, none⟩) (ln + 1) q1) (.slice ca cn cc) L m1 → W.cell? ⟨lg, lo + m1.at_ * 4 + 1, none⟩ = some (.string ⟨tt.toArray⟩)) := fun W hW => by rw [← htt]; exact hW.wl.text m1.at_ hlt
                  have HKV : Hid (K = (⟨m1.at_ + 1, m1.ns, m1.cs, 0, m1.po⟩, { p1 with lit := true, nm := bs tt })) := by
                    show _ = _
                    rw [← HKE.out, ← htt]
                    unfold kR ndH
                    rw [if_pos HD2.out, if_neg (show ¬(false = true) by decide)]
                  have b0 : (0 : Int) ≤ (m1.at_ : Int) := by omega
                  have b1 : (m1.at_ : Int) < (nl : Int) := by have := HNL.out; omega
                  have b2 : m1.at_ < nl := by have := HNL.out; omega
                  obtain ⟨-, p1c, -, -, -⟩ := HPA.out.cells
                  have z1 := HPA.out.froz 1
                  clear hlt htt hlw hvl
                  go_upto_region 13 with fail
                  obtain ⟨w7, hw7⟩ : ∃ w7, w7 = wc.setCell ⟨pb, 1, none⟩ (.bool true) := ⟨_, rfl⟩
                  have HR7 : Hid (Rr B w7 r (.slice (some ⟨lg, lo, none⟩) nl lc) (.slice (some ⟨g1, 0, none⟩) (ln + 1) q1) (.slice ca cn cc) L m1) := by rw [hw7]; exact HRA.out.far HPN.out.2.2.2.1 HPN.out.1 HNE3.out HPN.out.2.2.1
                  have HP7 : Hid (Pb w7 pb { p1 with lit := true }) := by rw [hw7]; exact HPA.out.set1 true
                  have HK7 : Hid (Kr w w7 (fun j => j = r ∨ (Value.slice qa ln qc).ownBlock = some j)) := by rw [hw7]; exact HKA.out.trans (Kr.set _ _ _ _) (fun j e => .inr (by rw [e, HPN.out.2.2.2.2.2]; exact Nat.le_refl _))
                  rw [← hw7]
                  clear hw7 p1c z1 k1
                  obtain ⟨w8, hw8⟩ : ∃ w8, w8 = w7.drew := ⟨_, rfl⟩
                  have HR8 : Hid (Rr B w8 r (.slice (some ⟨lg, lo, none⟩) nl lc) (.slice (some ⟨g1, 0, none⟩) (ln + 1) q1) (.slice ca cn cc) L m1) := by rw [hw8]; exact HR7.out.drew
                  have HP8 : Hid (Pb w8 pb { p1 with lit := true }) := by rw [hw8]; exact HP7.out.keep (S := fun _ => False) (Kr.of_below (Below.drew (Below.refl _ _))) (fun e => e)
                  have HK8 : Hid (Kr w w8 (fun j => j = r ∨ (Value.slice qa ln qc).ownBlock = some j)) := by rw [hw8]; exact HK7.out.trans (S' := fun _ => False) (Kr.of_below (Below.drew (Below.refl _ _))) (fun j e => e.elim)
                  obtain ⟨p0, -, -, -, -⟩ := HP8.out.cells
                  have z0 := HP8.out.froz 0
                  refine wp_region_noPanic ?_
                  refine wp_region_held_drew (S := fun W => Rr B W r (.slice (some ⟨lg, lo, none⟩) nl lc) (.slice (some ⟨g1, 0, none⟩) (ln + 1) q1) (.slice ca cn cc) L m1) (by kernel_rfl) (by rw [← hw8]; exact HR8.out) (fun hHeld => ?_)
                  rw [← hw8]
                  clear hw8
                  refine wpAnyH_take (i := 0) (oi := { dst := _, op := _, type := _, pos := _, after := _, guard := _ }) (v := ?_) rfl (by kernel_rfl) (by kernel_rfl) (by kernel_rfl) (fun _ _ _ h => h) (Or.inl ⟨by rfl, ?_⟩) (by assumption) ?_
                  rotate_left
                  · intro W hSw
                    (try dsimp only at hSw)
                    go_simp
                    (try with_reducible rfl)
                  try simp only [Act.put, List.setIfInBounds_toArray, List.set_cons_zero, List.set_cons_succ]
                  refine wpAnyH_take (i := 1) (oi := { dst := _, op := _, type := _, pos := _, after := _, guard := _ }) (v := ?_) rfl (by kernel_rfl) (by kernel_rfl) (by kernel_rfl) (fun _ _ _ h => h) (Or.inl ⟨by rfl, ?_⟩) (by assumption) ?_
                  rotate_left
                  · intro W hSw
                    (try dsimp only at hSw)
                    go_simp
                    (try with_reducible rfl)
                  try simp only [Act.put, List.setIfInBounds_toArray, List.set_cons_zero, List.set_cons_succ]
                  refine wpAnyH_take (i := 2) (oi := { dst := _, op := _, type := _, pos := _, after := _, guard := _ }) (v := ?_) rfl (by kernel_rfl) (by kernel_rfl) (by kernel_rfl) (fun _ _ _ h => h) (Or.inl ⟨by rfl, ?_⟩) (by assumption) ?_
                  rotate_left
                  · intro W hSw
                    (try dsimp only at hSw)
                    go_simp
                    (try with_reducible rfl)
                  try simp only [Act.put, List.setIfInBounds_toArray, List.set_cons_zero, List.set_cons_succ]
                  refine wpAnyH_take (i := 3) (oi := { dst := _, op := _, type := _, pos := _, after := _, guard := _ }) (v := ?_) rfl (by kernel_rfl) (by kernel_rfl) (by kernel_rfl) (fun _ _ _ h => h) (Or.inl ⟨by rfl, ?_⟩) (by assumption) ?_
                  rotate_left
                  · intro W hSw
                    (try dsimp only at hSw)
                    have y0 := hSw.open.1
                    go_simp
                    (try with_reducible rfl)
                  try simp only [Act.put, List.setIfInBounds_toArray, List.set_cons_zero, List.set_cons_succ]
                  refine wpAnyH_take (i := 4) (oi := { dst := _, op := _, type := _, pos := _, after := _, guard := _ }) (v := ?_) rfl (by kernel_rfl) (by kernel_rfl) (by kernel_rfl) (fun _ _ _ h => h) (Or.inl ⟨by rfl, ?_⟩) (by assumption) ?_
                  rotate_left
                  · intro W hSw
                    (try dsimp only at hSw)
                    go_simp
                    (try with_reducible rfl)
                  try simp only [Act.put, List.setIfInBounds_toArray, List.set_cons_zero, List.set_cons_succ]
                  refine wpAnyH_take (i := 5) (oi := { dst := _, op := _, type := _, pos := _, after := _, guard := _ }) (v := ?_) rfl (by kernel_rfl) (by kernel_rfl) (by kernel_rfl) (fun _ _ _ h => h) (Or.inl ⟨by rfl, ?_⟩) (by assumption) ?_
                  rotate_left
                  · intro W hSw
                    (try dsimp only at hSw)
                    go_simp
                    (try with_reducible rfl)
                  try simp only [Act.put, List.setIfInBounds_toArray, List.set_cons_zero, List.set_cons_succ]
                  refine wpAnyH_take (i := 6) (oi := { dst := _, op := _, type := _, pos := _, after := _, guard := _ }) (v := ?_) rfl (by kernel_rfl) (by kernel_rfl) (by kernel_rfl) (fun _ _ _ h => h) (Or.inl ⟨by rfl, ?_⟩) (by assumption) ?_
                  rotate_left
                  · intro W hSw
                    (try dsimp only at hSw)
                    go_simp
                    (try with_reducible rfl)
                  try simp only [Act.put, List.setIfInBounds_toArray, List.set_cons_zero, List.set_cons_succ]
                  refine wpAnyH_take (i := 7) (oi := { dst := _, op := _, type := _, pos := _, after := _, guard := _ }) (v := ?_) rfl (by kernel_rfl) (by kernel_rfl) (by kernel_rfl) (fun _ _ _ h => h) (Or.inl ⟨by rfl, ?_⟩) (by assumption) ?_
                  rotate_left
                  · intro W hSw
                    (try dsimp only at hSw)
                    have y1 := hSw.open.2.1
                    go_simp
                    (try with_reducible rfl)
                  try simp only [Act.put, List.setIfInBounds_toArray, List.set_cons_zero, List.set_cons_succ]
                  refine wpAnyH_take (i := 8) (oi := { dst := _, op := _, type := _, pos := _, after := _, guard := _ }) (v := ?_) rfl (by kernel_rfl) (by kernel_rfl) (by kernel_rfl) (fun _ _ _ h => h) (Or.inl ⟨by rfl, ?_⟩) (by assumption) ?_
                  rotate_left
                  · intro W hSw
                    (try dsimp only at hSw)
                    go_simp
                    (try with_reducible rfl)
                  try simp only [Act.put, List.setIfInBounds_toArray, List.set_cons_zero, List.set_cons_succ]
                  refine wpAnyH_take (i := 9) (oi := { dst := _, op := _, type := _, pos := _, after := _, guard := _ }) (v := ?_) rfl (by kernel_rfl) (by kernel_rfl) (by kernel_rfl) (fun _ _ _ h => h) (Or.inl ⟨by rfl, ?_⟩) (by assumption) ?_
                  rotate_left
                  · intro W hSw
                    (try dsimp only at hSw)
                    go_simp
                    (try with_reducible rfl)
                  try simp only [Act.put, List.setIfInBounds_toArray, List.set_cons_zero, List.set_cons_succ]
                  refine wpAnyH_take (i := 10) (oi := { dst := _, op := _, type := _, pos := _, after := _, guard := _ }) (v := ?_) rfl (by kernel_rfl) (by kernel_rfl) (by kernel_rfl) (fun _ _ _ h => h) (Or.inl ⟨by rfl, ?_⟩) (by assumption) ?_
                  rotate_left
                  · intro W hSw
                    (try dsimp only at hSw)
                    have y2 := HTC.out W hSw
                    go_simp
                    (try with_reducible rfl)
                  try simp only [Act.put, List.setIfInBounds_toArray, List.set_cons_zero, List.set_cons_succ]
                  refine wpAnyH_take (i := 11) (oi := { dst := _, op := _, type := _, pos := _, after := _, guard := _ }) (v := ?_) rfl (by kernel_rfl) (by kernel_rfl) (by kernel_rfl) (fun _ _ _ h => h) (Or.inl ⟨by rfl, ?_⟩) (by assumption) ?_
                  rotate_left
                  · intro W hSw
                    (try dsimp only at hSw)
                    go_simp
                    (try with_reducible rfl)
                  try simp only [Act.put, List.setIfInBounds_toArray, List.set_cons_zero, List.set_cons_succ]
                  refine wpAnyH_ready (rs := [12]) (by kernel_rfl) (by simp) ?_
                  refine AllReadyH.cons (o := { dst := _, op := _, type := _, pos := _, after := _, guard := _ }) rfl (fun K hK => ?_) AllReadyH.nil
                  go_simp
                  refine hK.out _ _ ?_ (fun hHeld => ?_)
                  · exact HR8.out.far HPN.out.2.2.2.1 HPN.out.1 HNE3.out HPN.out.2.2.1
                  clear hK K
                  try simp only [Act.put, List.setIfInBounds_toArray, List.set_cons_zero, List.set_cons_succ]
                  refine wpAnyH_done (by kernel_rfl) ?_ _
                  refine NoPanic.normal ?_
                  clear hHeld
                  obtain ⟨w9, hw9⟩ : ∃ w9, w9 = w8.setCell ⟨pb, 0, none⟩ (.string ⟨tt.toArray⟩) := ⟨_, rfl⟩
                  have HR9 : Hid (Rr B w9 r (.slice (some ⟨lg, lo, none⟩) nl lc) (.slice (some ⟨g1, 0, none⟩) (ln + 1) q1) (.slice ca cn cc) L m1) := by rw [hw9]; exact HR8.out.far HPN.out.2.2.2.1 HPN.out.1 HNE3.out HPN.out.2.2.1
                  have HP9 : Hid (Pb w9 pb { p1 with lit := true, nm := bs tt }) := by rw [hw9]; exact HP8.out.set0 (bs tt)
                  have HK9 : Hid (Kr w w9 (fun j => j = r ∨ (Value.slice qa ln qc).ownBlock = some j)) := by rw [hw9]; exact HK8.out.trans (Kr.set _ _ _ _) (fun j e => .inr (by rw [e, HPN.out.2.2.2.2.2]; exact Nat.le_refl _))
                  rw [← hw9]
                  clear hw9 p0 z0 HR8 HP8 HK8 HR7 HP7 HK7
                  obtain ⟨-, k1, -⟩ := HR9.out.open
                  have f1 := HR9.out.froz 1
                  have hw2 : IntKind.i64.wrap ((m1.at_ : Int) + 1) = (m1.at_ : Int) + 1 := by have := HOF.out.1; have := HM.out; rw [IntKind.wrap_i64]; (try dsimp only at *); omega
                  go_wp2_with fail
                  go_meet
                  refine ⟨_, ?_, ?_, ?_, HVN.out⟩
                  · have h9 := HR9.out.set1 (m1.at_ + 1)
                    rw [HKV.out]
                    rw [HE1.out] at h9
                    push_cast at h9
                    exact h9
                  · rw [HKV.out]
                    exact HP9.out.keep (Kr.set _ _ _ _) HPN.out.1
                  · exact HK9.out.trans (Kr.set _ _ _ _) (fun j e => .inl (.inl e))
                | false =>
                  have HN2 : Hid (2 ≤ n) := by
                    show _ ≤ _
                    rcases HATL.out with z | z
                    · rw [HFD.out] at z
                      exact absurd z HC1.out
                    · have := HF.out; omega
                  have HB1 : Hid (m1.at_ ≤ 1048576 ∧ m1.at_ ≤ L.length ∧ m1.ns.length ≤ 32) := by
                    have h1 := HOF.out.1
                    have h2 := HM.out
                    have h3 := HLL.out
                    have h4 : m1.ns = m.ns ++ [pz] := HOF.out.2.2.1
                    have h5 : m1.at_ ≤ L.length := h1
                    refine ⟨by omega, h5, by rw [h4]; simp; have := HLN.out; omega⟩
                  have HTK : Hid _ := rtake_any 5 [40] wc HRA.out HE1.out (by have := HB1.out; omega)
                  obtain ⟨D3, hD3⟩ : ∃ D3, seR L m1.at_ 5 [40] = D3 := ⟨_, rfl⟩
                  have HD3 : Hid (seR L m1.at_ 5 [40] = D3) := hD3
                  rw [hD3] at HTK
                  clear hD3 k1
                  go_upto_region 16 with (go_at_call 20; refine Calls.mono HTK.out ?_; rintro e w2 ⟨rfl, hr2, hk2⟩; have HR2 : Hid (Rr B w2 r (.slice la nl lc) (.slice (some ⟨g1, 0, none⟩) (ln + 1) q1) (.slice ca cn cc) L (if D3 = true then ⟨m1.at_ + 1, m1.ns, m1.cs, 0, m1.po⟩ else ⟨m1.at_ + 1, m1.ns, m1.cs, 200, m1.at_⟩)) := hr2; have HK2 : Hid (Kr wc w2 (fun j => j = r)) := hk2; clear hr2 hk2)
                  have HP2 : Hid (Pb w2 pb p1) := HPA.out.keep HK2.out HPN.out.1
                  have HK3 : Hid (Kr w w2 (fun j => j = r ∨ (Value.slice qa ln qc).ownBlock = some j)) := HKA.out.trans HK2.out (fun j e => .inl (.inl e))
                  clear HTK HK2 HRA HPA HKA
                  obtain ⟨U, hU⟩ : ∃ U, seR L (m1.at_ + 1) 1 [95] = U := ⟨_, rfl⟩
                  have HU : Hid (seR L (m1.at_ + 1) 1 [95] = U) := hU
                  clear hU
                  go_cut [138] from 126 to 138 (fun v138 wd => v138 = .bool (D3 && U) ∧ Hid (w2 = wd))
                  case first =>
                    cases D3 with
                    | false =>
                      obtain ⟨-, -, -, -, k4, -⟩ := HR2.out.open
                      (try dsimp only at k4)
                      have k4' : w2.cell? ⟨r, 4, none⟩ = some (.int .i64 200) := k4
                      clear k4
                      go_wp2_with fail
                      go_meet
                      exact ⟨rfl, rfl⟩
                    | true =>
                      have HS : Hid _ := rsees_any (m1.at_ + 1) 1 [95] w2 HR2.out
                      rw [HU.out] at HS
                      obtain ⟨-, k1, -, -, k4, -⟩ := HR2.out.open
                      have k1' : w2.cell? ⟨r, 1, none⟩ = some (.int .i64 ((m1.at_ + 1 : Nat) : Int)) := k1
                      have k4' : w2.cell? ⟨r, 4, none⟩ = some (.int .i64 0) := k4
                      clear k1 k4
                      go_wp2_with (go_at_call 17; refine Calls.mono HS.out ?_; rintro e w1 ⟨rfl, rfl⟩)
                      go_meet
                      exact ⟨by simp, rfl⟩
                  case rest =>
                    obtain ⟨rfl, hwd3⟩ := hcut
                    obtain rfl := hwd3.out
                    go_upto_if 138 with fail
                    go_cut [] from 138 to 153 (fun wd => Hid (Rr B wd r (.slice la nl lc) (.slice (some ⟨g1, 0, none⟩) (ln + 1) q1) (.slice ca cn cc) L (ndH L m1 p1).2.1) ∧ Hid (Pb wd pb (ndH L m1 p1).2.2) ∧ Hid (Kr w wd (fun j => j = r ∨ (Value.slice qa ln qc).ownBlock = some j)) ∧ Hid ((ndH L m1 p1).1 = true))
                    case first =>
                      cases D3 with
                      | false =>
                        have HH : Hid (ndH L m1 p1 = (true, ⟨m1.at_ + 1, m1.ns, m1.cs, 200, m1.at_⟩, p1)) := by show _ = _; unfold ndH; rw [if_neg (by rw [HD2.out]; decide), if_neg (by rw [HD3.out]; decide)]
                        have k4' : w2.cell? ⟨r, 4, none⟩ = some (.int .i64 200) := HR2.out.open.2.2.2.2.1
                        rw [Bool.false_and]
                        go_wp2_with fail
                        go_meet
                        exact ⟨by rw [HH.out]; exact HR2.out, by rw [HH.out]; exact HP2.out, HK3.out, by rw [HH.out]; rfl⟩
                      | true =>
                        have HRt : Hid (Rr B w2 r (.slice la nl lc) (.slice (some ⟨g1, 0, none⟩) (ln + 1) q1) (.slice ca cn cc) L ⟨m1.at_ + 1, m1.ns, m1.cs, 0, m1.po⟩) := HR2.out
                        clear HR2
                        cases U with
                        | true =>
                          have HH : Hid (ndH L m1 p1 = (true, ⟨m1.at_ + 2, m1.ns, m1.cs, 0, m1.po⟩, p1)) := by show _ = _; unfold ndH; rw [if_neg (by rw [HD2.out]; decide), if_pos HD3.out, if_pos HU.out]
                          obtain ⟨a1, ha1⟩ : ∃ a1, m1.at_ + 1 = a1 := ⟨_, rfl⟩
                          have HA1 : Hid (m1.at_ + 1 = a1) := ha1
                          rw [ha1] at HRt
                          have k1 : w2.cell? ⟨r, 1, none⟩ = some (.int .i64 (a1 : Int)) := HRt.out.open.2.1
                          have f1 := HRt.out.froz 1
                          have hw2 : IntKind.i64.wrap ((a1 : Int) + 1) = (a1 : Int) + 1 := by have := HB1.out; rw [IntKind.wrap_i64]; omega
                          clear ha1
                          go_wp2_with fail
                          go_meet
                          refine ⟨?_, ?_, ?_, by rw [HH.out]; rfl⟩
                          · have h9 := HRt.out.set1 (a1 + 1)
                            rw [HH.out, show m1.at_ + 2 = a1 + 1 by have := HA1.out; omega]
                            push_cast at h9
                            exact h9
                          · rw [HH.out]
                            exact HP2.out.keep (Kr.set _ _ _ _) HPN.out.1
                          · exact HK3.out.trans (Kr.set _ _ _ _) (fun j e => .inl (.inl e))
                        | false =>
                          have HTN : Hid _ := rtakeName_any w2 HRt.out rfl (by show m1.at_ + 1 ≤ _; have := HB1.out; omega)
                          have k4' : w2.cell? ⟨r, 4, none⟩ = some (.int .i64 0) := HRt.out.open.2.2.2.2.1
                          obtain ⟨N, hN⟩ : ∃ N, nmR L (m1.at_ + 1) = N := ⟨_, rfl⟩
                          have HNN : Hid (nmR L (m1.at_ + 1) = N) := hN
                          obtain ⟨tt, htt⟩ : ∃ tt, bs (L.getD (m1.at_ + 1) w0).t = tt := ⟨_, rfl⟩
                          have HTT : Hid (bs (L.getD (m1.at_ + 1) w0).t = tt) := htt
                          have HTN2 : Hid (Calls Try.prog 21 #[.pointer (some ⟨r, 0, none⟩)] w2 fun e w' => e = .returned (.string (if N = true then tt else ⟨#[]⟩)) ∧ Rr B w' r (.slice la nl lc) (.slice (some ⟨g1, 0, none⟩) (ln + 1) q1) (.slice ca cn cc) L (if N = true then ⟨m1.at_ + 2, m1.ns, m1.cs, 0, m1.po⟩ else ⟨m1.at_ + 1, m1.ns, m1.cs, 200, m1.at_ + 1⟩) ∧ Kr w2 w' (fun j => j = r)) := by
                            have h9 := HTN.out
                            dsimp only at h9
                            rw [hN, htt] at h9
                            exact h9
                          clear HTN hN htt
                          cases N with
                          | true =>
                            have HH : Hid (ndH L m1 p1 = (true, ⟨m1.at_ + 2, m1.ns, m1.cs, 0, m1.po⟩, { p1 with nm := tt })) := by show _ = _; unfold ndH; rw [if_neg (by rw [HD2.out]; decide), if_pos HD3.out, if_neg (by rw [HU.out]; decide), if_pos HNN.out, HTT.out]
                            go_upto_region 19 with fail
                            go_wp2_with (go_at_call 21; refine Calls.mono HTN2.out ?_; rintro e w4 ⟨rfl, hr4, hk4⟩; have HR4 : Hid (Rr B w4 r (.slice la nl lc) (.slice (some ⟨g1, 0, none⟩) (ln + 1) q1) (.slice ca cn cc) L ⟨m1.at_ + 2, m1.ns, m1.cs, 0, m1.po⟩) := hr4; have HP4 : Hid (Pb w4 pb p1) := HP2.out.keep hk4 HPN.out.1; have HK4 : Hid (Kr w w4 (fun j => j = r ∨ (Value.slice qa ln qc).ownBlock = some j)) := HK3.out.trans hk4 (fun j e => .inl (.inl e)); have y0 := HP4.out.cells.1; have z0 := HP4.out.froz 0; clear hr4 hk4)
                            go_meet
                            refine ⟨?_, ?_, ?_, by rw [HH.out]; rfl⟩
                            · rw [HH.out]; exact HR4.out.far HPN.out.2.2.2.1 HPN.out.1 HNE3.out HPN.out.2.2.1
                            · rw [HH.out]; exact HP4.out.set0 tt
                            · exact HK4.out.trans (Kr.set _ _ _ _) (fun j e => .inr (by rw [e, HPN.out.2.2.2.2.2]; exact Nat.le_refl _))
                          | false =>
                            have HH : Hid (ndH L m1 p1 = (true, ⟨m1.at_ + 1, m1.ns, m1.cs, 200, m1.at_ + 1⟩, { p1 with nm := ⟨#[]⟩ })) := by show _ = _; unfold ndH; rw [if_neg (by rw [HD2.out]; decide), if_pos HD3.out, if_neg (by rw [HU.out]; decide), if_neg (by rw [HNN.out]; decide)]
                            go_upto_region 19 with fail
                            go_wp2_with (go_at_call 21; refine Calls.mono HTN2.out ?_; rintro e w4 ⟨rfl, hr4, hk4⟩; have HR4 : Hid (Rr B w4 r (.slice la nl lc) (.slice (some ⟨g1, 0, none⟩) (ln + 1) q1) (.slice ca cn cc) L ⟨m1.at_ + 1, m1.ns, m1.cs, 200, m1.at_ + 1⟩) := hr4; have HP4 : Hid (Pb w4 pb p1) := HP2.out.keep hk4 HPN.out.1; have HK4 : Hid (Kr w w4 (fun j => j = r ∨ (Value.slice qa ln qc).ownBlock = some j)) := HK3.out.trans hk4 (fun j e => .inl (.inl e)); have y0 := HP4.out.cells.1; have z0 := HP4.out.froz 0; clear hr4 hk4)
                            go_meet
                            refine ⟨?_, ?_, ?_, by rw [HH.out]; rfl⟩
                            · rw [HH.out]; exact HR4.out.far HPN.out.2.2.2.1 HPN.out.1 HNE3.out HPN.out.2.2.1
                            · rw [HH.out]; exact HP4.out.set0 ⟨#[]⟩
                            · exact HK4.out.trans (Kr.set _ _ _ _) (fun j e => .inr (by rw [e, HPN.out.2.2.2.2.2]; exact Nat.le_refl _))
                    case rest =>
                      obtain ⟨HRH, HPH, HKH, HH1⟩ := hcut
                      obtain ⟨hq, hhq⟩ : ∃ hq, ndH L m1 p1 = hq := ⟨_, rfl⟩
                      have HND : Hid ((hq.2.1.e = 0 → hq.2.1.at_ ≤ L.length ∧ m1.at_ + 2 ≤ hq.2.1.at_) ∧ hq.2.1.at_ ≤ L.length + 1 ∧ hq.2.1.ns = m1.ns ∧ hq.2.2.kd = 0) := by
                        obtain ⟨a1, a2, a3, a4, -⟩ := ndH_nr (L := L) (m := m1) (p := p1) HOF.out.1
                        have a6 := ndH_up (L := L) (m := m1) (p := p1) HOF.out.1
                        have hh := HH1.out
                        rw [hhq] at a1 a2 a3 a4 a6 hh
                        exact ⟨fun e => ⟨a1 e, (a6 e).2 hh⟩, a2, a3, a4.trans HOF.out.2.2.2.2⟩
                      obtain ⟨Q, hQ⟩ : ∃ Q, prR L n (some hq.2.2) hq.2.1 = Q := ⟨_, rfl⟩
                      have HKQ : Hid (K = (upA Q.1, Q.2)) := by
                        show _ = _
                        rw [← HKE.out, hhq]
                        unfold kR
                        have hh := HH1.out
                        rw [hhq] at hh
                        rw [if_pos hh, hQ]
                      have HQQ : Hid (prR L n (some hq.2.2) hq.2.1 = Q) := hQ
                      rw [hhq] at HRH HPH
                      clear hhq hQ HH1 HR2 HP2 HK3
                      have HQB : Hid (Q.1.at_ ≤ L.length + 3 + n) := by
                        have h1 := ((prR_nq L n).2 hq.2.2 hq.2.1 n (Nat.le_refl _) (fun e => (HND.out.1 e).1) (by have := HND.out.2.1; omega) (by rw [HND.out.2.2.1]; exact HB1.out.2.2)).1.le
                        rw [HQQ.out] at h1
                        exact h1
                      go_upto_region 20 with fail
                      go_loopg [] n (fun gm wr => ∃ (k : Nat) (p' : Pn) (m' : Rm) (vn' : Value), Hid (gm = k) ∧ Hid (prR L k (some p') m' = Q) ∧ Hid (k ≤ n ∧ 1 ≤ k ∧ (m'.e = 0 → 2 * (L.length - m'.at_) + 2 ≤ k ∧ m'.at_ ≤ L.length) ∧ m'.ns.length ≤ 32 ∧ 0 ≤ p'.kd ∧ p'.kd + (k : Int) ≤ (n : Int)) ∧ Hid (Rr B wr r (.slice la nl lc) vn' (.slice ca cn cc) L m') ∧ Hid (Pb wr pb p') ∧ Hid (Kr w wr (fun j => j = r ∨ (Value.slice qa ln qc).ownBlock = some j)) ∧ Hid (∀ j, vn'.ownBlock = some j → (Value.slice qa ln qc).ownBlock = some j ∨ pb < j))
                      case atStart =>
                        refine ⟨n, hq.2.2, hq.2.1, _, rfl, HQQ.out, ⟨Nat.le_refl _, by have := HN2.out; omega, fun e => ⟨?_, (HND.out.1 e).1⟩, by rw [HND.out.2.2.1]; exact HB1.out.2.2, by rw [HND.out.2.2.2]; exact Int.le_refl _, by rw [HND.out.2.2.2]; omega⟩, HRH.out, HPH.out, HKH.out, HVN.out⟩
                        have h1 := (HND.out.1 e).2
                        have h2 := HF.out
                        have h3 : m.at_ ≤ m1.at_ := HOF.out.2.2.2.1
                        rcases HATL.out with z | z
                        · rw [HFD.out] at z
                          exact absurd z HC1.out
                        · omega
                      case round =>
                        obtain ⟨k, p', m', vn', HG, HQR, HKB, HRL, HPL, HKL, HVL⟩ := hrel
                        obtain ⟨w5, hw5⟩ : ∃ w5, w5 = wr := ⟨_, rfl⟩
                        rw [← hw5] at HRL HPL HKL ⊢
                        clear hw5 HRH HPH HKH
                        have HNE5 : Hid (vn'.ownBlock ≠ some pb) := fun e => (HVL.out pb e).elim HPN.out.2.1 (fun z => by omega)
                        obtain ⟨k, rfl⟩ : ∃ k', k = k' + 1 := ⟨k - 1, by have := HKB.out.2.1; omega⟩
                        have hqr := HQR.out
                        rw [prR] at hqr
                        have hfin : ¬(m'.e = 0 ∧ seR L m'.at_ 5 [41] = false) → Q = (m', p') := fun z => by rw [if_neg z] at hqr; exact hqr.symm
                        have hgo : (m'.e = 0 ∧ seR L m'.at_ 5 [41] = false) → prR L k (some { p' with kd := p'.kd + 1 }) (prR L k none m').1 = Q := fun z => by rw [if_pos z] at hqr; exact hqr
                        have HFI : Hid _ := hfin
                        have HGO : Hid _ := hgo
                        clear hqr hfin hgo HQR
                        -- behind the loop
                        obtain ⟨-, k1, -, -, k4, -⟩ := HRL.out.open
                        have HEX : Hid (Q = (m', p') → m'.at_ ≤ 8388608 ∧ Rr B (w5.setCell ⟨r, 1, none⟩ (.int .i64 ((m'.at_ : Int) + 1))) r (.slice la nl lc) vn' (.slice ca cn cc) L K.1 ∧ Pb (w5.setCell ⟨r, 1, none⟩ (.int .i64 ((m'.at_ : Int) + 1))) pb K.2 ∧ Kr w (w5.setCell ⟨r, 1, none⟩ (.int .i64 ((m'.at_ : Int) + 1))) (fun j => j = r ∨ (Value.slice qa ln qc).ownBlock = some j)) := fun z => by
                          have h8 := HQB.out
                          rw [z] at h8
                          have h9 := HRL.out.set1 (m'.at_ + 1)
                          push_cast at h9
                          refine ⟨by have := HM.out; dsimp only at h8; omega, ?_, ?_, ?_⟩
                          · rw [HKQ.out, z]; exact h9
                          · rw [HKQ.out, z]; exact HPL.out.keep (Kr.set _ _ _ _) HPN.out.1
                          · exact HKL.out.trans (Kr.set _ _ _ _) (fun j e => .inl (.inl e))
                        have f1 := HRL.out.froz 1
                        by_cases he : m'.e = 0
                        · rw [he] at k4
                          have HSE : Hid _ := rsees_any m'.at_ 5 [41] w5 HRL.out
                          cases hs : seR L m'.at_ 5 [41] with
                          | true =>
                            rw [hs] at HSE
                            have hq2 := HFI.out (fun z => by rw [hs] at z; cases z.2)
                            have hx := HEX.out hq2
                            have hw2 : IntKind.i64.wrap ((m'.at_ : Int) + 1) = (m'.at_ : Int) + 1 := by have := hx.1; rw [IntKind.wrap_i64]; omega
                            have HX : Hid _ := hx
                            clear hx hq2 he hs
                            go_wp2_with (go_at_call 17; refine Calls.mono HSE.out ?_; rintro e w1 ⟨rfl, rfl⟩)
                            go_meet
                            exact ⟨vn', HX.out.2.1, HX.out.2.2.1, HX.out.2.2.2, HVL.out⟩
                          | false =>
                            rw [hs] at HSE
                            have HGN : Hid _ := HGO.out ⟨he, hs⟩
                            have hkb := HKB.out
                            have hkb3 := hkb.2.2.1 he
                            have HCALL : Hid _ := HIH.out k (by omega) B r (.slice la nl lc) vn' ca cn cc m' w5 HRL.out he hkb3.2 hkb.2.2.2.1 (by omega)
                            have HNX : Hid (Nq L k 1 m' (prR L k none m').1) := (prR_nq L k).1 m' he hkb3.2 hkb.2.2.2.1
                            have HK5 : Hid (m'.e = 0 ∧ 2 * (L.length - m'.at_) + 2 ≤ k + 1) := ⟨he, hkb3.1⟩
                            clear hkb hkb3 he hs f1
                            go_upto_region 22 with first | (go_at_call 17; refine Calls.mono HSE.out ?_; rintro e w1 ⟨rfl, rfl⟩) | (go_at_call 10; refine Calls.mono HCALL.out ?_; rintro e w6 ⟨rfl, vn6, hr6, hk6, hv6⟩; have HR6 : Hid (Rr B w6 r (.slice la nl lc) vn6 (.slice ca cn cc) L (prR L k none m').1) := hr6; have HK6 : Hid (Kr w5 w6 (fun j => j = r ∨ vn'.ownBlock = some j)) := hk6; have HV6 : Hid (∀ j, vn6.ownBlock = some j → vn'.ownBlock = some j ∨ w5.heap.size ≤ j) := hv6; clear hr6 hk6 hv6)
                            clear k1 k4
                            have HP6 : Hid (Pb w6 pb p') := HPL.out.keep HK6.out (fun e => e.elim HPN.out.1 HNE5.out)
                            have HK7 : Hid (Kr w w6 (fun j => j = r ∨ (Value.slice qa ln qc).ownBlock = some j)) := HKL.out.trans HK6.out (fun j e => e.elim (fun z => .inl (.inl z)) (fun z => (HVL.out j z).elim (fun y => .inl (.inr y)) (fun y => .inr (by have := HPN.out.2.2.2.2.2; omega))))
                            have hp5 := lt_of_heap HPL.out
                            have HV7 : Hid (∀ j, vn6.ownBlock = some j → (Value.slice qa ln qc).ownBlock = some j ∨ pb < j) := fun j e => (HV6.out j e).elim (HVL.out j) (fun z => .inr (by omega))
                            have y4 := HP6.out.cells.2.2.2.2
                            have z4 := HP6.out.froz 4
                            have hw4 : IntKind.i64.wrap (p'.kd + 1) = p'.kd + 1 := by have := HKB.out; have := HM.out; rw [IntKind.wrap_i64]; omega
                            clear hp5
                            go_wp2_with fail
                            go_roundg k
                            case measure => have := HG.out; omega
                            case rel =>
                              refine ⟨k, { p' with kd := p'.kd + 1 }, (prR L k none m').1, vn6, rfl, HGN.out, ⟨by have := HKB.out; omega, by have := HK5.out; omega, fun e => ⟨?_, (HNX.out.ok e).2⟩, HNX.out.nl, by show 0 ≤ p'.kd + 1; have := HKB.out; omega, by show p'.kd + 1 + (k : Int) ≤ _; have := HKB.out; push_cast at this; omega⟩, ?_, HP6.out.set4 _, ?_, HV7.out⟩
                              · have h1 := (HNX.out.ok e).1
                                have h3 := (HNX.out.ok e).2
                                have h2 := HK5.out.2
                                omega
                              · exact HR6.out.far HPN.out.2.2.2.1 HPN.out.1 (fun e => (HV7.out pb e).elim HPN.out.2.1 (fun z => by omega)) HPN.out.2.2.1
                              · exact HK7.out.trans (Kr.set _ _ _ _) (fun j e => .inr (by rw [e, HPN.out.2.2.2.2.2]; exact Nat.le_refl _))
                        · have d0 : (m'.e == 0) = false := by simpa using he
                          have hq2 := HFI.out (fun z => he z.1)
                          have hx := HEX.out hq2
                          have hw2 : IntKind.i64.wrap ((m'.at_ : Int) + 1) = (m'.at_ : Int) + 1 := by have := hx.1; rw [IntKind.wrap_i64]; omega
                          have HX : Hid _ := hx
                          clear hx hq2 he
                          go_wp2_with fail
                          go_meet
                          exact ⟨vn', HX.out.2.1, HX.out.2.2.1, HX.out.2.2.2, HVL.out⟩
              case rest =>
                obtain ⟨vk, HRK, HPK, HKK, HVK⟩ := hcut
                have HNE5 : Hid (vk.ownBlock ≠ some pb) := fun e => (HVK.out pb e).elim HPN.out.2.1 (fun z => by omega)
                obtain ⟨m2, p2⟩ := K
                have HRS : Hid (stR (clR L m2 p2).1 ln (clR L m2 p2).2 = R) := HRF.out
                have HRK2 : Hid (Rr B wc r (.slice la nl lc) vk (.slice ca cn cc) L m2) := HRK.out
                have HPK2 : Hid (Pb wc pb p2) := HPK.out
                have HKB : Hid (m2.at_ ≤ 8388608 ∧ (m2.e = 0 → m2.at_ ≤ L.length) ∧ m2.ns.length ≤ 32 ∧ ln < m2.ns.length) := by
                  have h1 := ndH_nr (L := L) (m := m1) (p := p1) HOF.out.1
                  have h2 := ndH_up (L := L) (m := m1) (p := p1) HOF.out.1
                  have hlen : m1.ns.length = ln + 1 := by have h4 : m1.ns = m.ns ++ [pz] := HOF.out.2.2.1; rw [h4]; simp; exact HLN.out
                  have hke := HKE.out
                  unfold kR at hke
                  by_cases hb : (ndH L m1 p1).1 = true
                  · rw [if_pos hb] at hke
                    obtain ⟨q, hq⟩ := (prR_nq L n).2 (ndH L m1 p1).2.2 (ndH L m1 p1).2.1 n (Nat.le_refl _) h1.1 (by have := h1.2.1; omega) (by rw [h1.2.2.1, hlen]; have := HLL.out; omega)
                    have e1 : m2 = upA (prR L n (some (ndH L m1 p1).2.2) (ndH L m1 p1).2.1).1 := (congrArg Prod.fst hke).symm
                    rw [e1]
                    refine ⟨?_, fun e => ?_, q.nl, ?_⟩
                    · have := q.le; have := HM.out
                      show (prR L n _ _).1.at_ + 1 ≤ _
                      omega
                    · have := (seR_lt (hq e)).1
                      show (prR L n _ _).1.at_ + 1 ≤ _
                      omega
                    · have := q.ng
                      rw [h1.2.2.1, hlen] at this
                      show ln < (prR L n _ _).1.ns.length
                      omega
                  · rw [if_neg hb] at hke
                    have e1 : m2 = (ndH L m1 p1).2.1 := (congrArg Prod.fst hke).symm
                    rw [e1, h1.2.2.1, hlen]
                    exact ⟨by have := h1.2.1; have := HM.out; omega, h1.1, by have := HLL.out; omega, by omega⟩
                clear HRF HRK HPK HKE HTX HVN HRA HPA HKA HD2 HOF
                obtain ⟨ka, kc, hkv⟩ := row_shape HRK2.out.ns
                subst hkv
                obtain ⟨kn, hkn⟩ : ∃ kn, m2.ns.length = kn := ⟨_, rfl⟩
                have HKN : Hid (m2.ns.length = kn) := hkn
                rw [hkn] at HRK2 HVK HNE5
                clear hkn
                obtain ⟨-, k1, -, -, k4, -⟩ := HRK2.out.open
                obtain ⟨S, hS⟩ : ∃ S, seR L m2.at_ 5 [64] = S := ⟨_, rfl⟩
                have HS : Hid (seR L m2.at_ 5 [64] = S) := hS
                have HSC2 : Hid _ := rsees_any m2.at_ 5 [64] _ HRK2.out
                rw [hS] at HSC2
                obtain ⟨E0, hE0⟩ : ∃ E0, (m2.e == 0) = E0 := ⟨_, rfl⟩
                have HE0 : Hid ((m2.e == 0) = E0) := hE0
                clear hS
                go_upto_region 24 with fail
                go_cut [193] from 181 to 193 (fun v193 wd => v193 = .bool (E0 && S) ∧ Hid (wc = wd))
                case first =>
                  cases E0 with
                  | false =>
                    have d0 : (m2.e == 0) = false := hE0
                    go_wp2_with fail
                    go_meet
                    exact ⟨rfl, rfl⟩
                  | true =>
                    have d0 : m2.e = 0 := by simpa using hE0
                    rw [d0] at k4
                    clear d0 hE0
                    go_wp2_with (go_at_call 17; refine Calls.mono HSC2.out ?_; rintro e w1 ⟨rfl, rfl⟩)
                    go_meet
                    exact ⟨by simp, rfl⟩
                case rest =>
                  obtain ⟨rfl, hwd4⟩ := hcut
                  obtain rfl := hwd4.out
                  clear hE0 k1 k4 HSC2
                  obtain ⟨T0, hT0⟩ : ∃ T0, (E0 && S) = T0 := ⟨_, rfl⟩
                  have HT0 : Hid ((E0 && S) = T0) := hT0
                  rw [hT0]
                  clear hT0
                  go_upto_if 193 with fail
                  go_cut [] from 193 to 218 (fun wd => Hid (Rr B wd r (.slice la nl lc) (.slice ka kn kc) (.slice ca cn cc) L (clR L m2 p2).1) ∧ Hid (Pb wd pb (clR L m2 p2).2) ∧ Hid (Kr w wd (fun j => j = r ∨ (Value.slice qa ln qc).ownBlock = some j)) ∧ Hid ((clR L m2 p2).1.ns = m2.ns))
                  case first =>
                    cases T0 with
                    | false =>
                      have HC : Hid (clR L m2 p2 = (m2, p2)) := by
                        show _ = _
                        unfold clR
                        rw [if_neg (fun z => by
                          have h1 := HT0.out
                          rw [← HE0.out, ← HS.out, z.1, z.2] at h1
                          cases h1)]
                      go_wp2_with fail
                      go_meet
                      exact ⟨by rw [HC.out]; exact HRK2.out, by rw [HC.out]; exact HPK2.out, HKK.out, by rw [HC.out]; rfl⟩
                    | true =>
                      have HE2 : Hid (m2.e = 0 ∧ seR L m2.at_ 5 [64] = true) := by
                        have h1 := HT0.out
                        rw [Bool.and_eq_true] at h1
                        have h2 := HE0.out
                        rw [h1.1] at h2
                        exact ⟨by simpa using h2, HS.out.trans h1.2⟩
                      obtain ⟨a1, ha1⟩ : ∃ a1, m2.at_ + 1 = a1 := ⟨_, rfl⟩
                      have HA1 : Hid (m2.at_ + 1 = a1) := ha1
                      have k1 := HRK2.out.open.2.1
                      have f1 := HRK2.out.froz 1
                      have hw2 : IntKind.i64.wrap ((m2.at_ : Int) + 1) = (m2.at_ : Int) + 1 := by have := HKB.out; rw [IntKind.wrap_i64]; omega
                      go_upto_region 26 with fail
                      obtain ⟨w3, hw3⟩ : ∃ w3, w3 = wc.setCell ⟨r, 1, none⟩ (.int .i64 ((m2.at_ : Int) + 1)) := ⟨_, rfl⟩
                      have HR3 : Hid (Rr B w3 r (.slice la nl lc) (.slice ka kn kc) (.slice ca cn cc) L ⟨a1, m2.ns, m2.cs, 0, m2.po⟩) := by
                        have h9 := HRK2.out.set1 (m2.at_ + 1)
                        rw [HE2.out.1] at h9
                        rw [hw3, ← ha1]
                        push_cast at h9
                        exact h9
                      have HP3 : Hid (Pb w3 pb p2) := by rw [hw3]; exact HPK2.out.keep (Kr.set _ _ _ _) HPN.out.1
                      have HK3 : Hid (Kr w w3 (fun j => j = r ∨ (Value.slice qa ln qc).ownBlock = some j)) := by rw [hw3]; exact HKK.out.trans (Kr.set _ _ _ _) (fun j e => .inl (.inl e))
                      rw [← hw3]
                      clear hw3 k1 f1 hw2 HRK2 HPK2 HKK
                      obtain ⟨N, hN⟩ : ∃ N, nmR L a1 = N := ⟨_, rfl⟩
                      have HNN : Hid (nmR L a1 = N) := hN
                      obtain ⟨tt, htt⟩ : ∃ tt, bs (L.getD a1 w0).t = tt := ⟨_, rfl⟩
                      have HTT : Hid (bs (L.getD a1 w0).t = tt) := htt
                      obtain ⟨tn, htn⟩ : ∃ tn, (if N = true then tt else ⟨#[]⟩ : ByteArray) = tn := ⟨_, rfl⟩
                      obtain ⟨m4, hm4⟩ : ∃ m4 : Rm, (if N = true then ⟨a1 + 1, m2.ns, m2.cs, 0, m2.po⟩ else ⟨a1, m2.ns, m2.cs, 200, a1⟩ : Rm) = m4 := ⟨_, rfl⟩
                      have HM4 : Hid ((if N = true then tt else ⟨#[]⟩ : ByteArray) = tn ∧ (if N = true then ⟨a1 + 1, m2.ns, m2.cs, 0, m2.po⟩ else ⟨a1, m2.ns, m2.cs, 200, a1⟩ : Rm) = m4 ∧ m4.ns = m2.ns) := ⟨htn, hm4, by rw [← hm4]; split <;> rfl⟩
                      have HTN2 : Hid (Calls Try.prog 21 #[.pointer (some ⟨r, 0, none⟩)] w3 fun e w' => e = .returned (.string tn) ∧ Rr B w' r (.slice la nl lc) (.slice ka kn kc) (.slice ca cn cc) L m4 ∧ Kr w3 w' (fun j => j = r)) := by
                        have h9 := rtakeName_any w3 HR3.out rfl (by show a1 ≤ _; have := HKB.out; omega)
                        dsimp only at h9
                        rw [hN, htt, htn, hm4] at h9
                        exact h9
                      clear hN htt htn hm4 ha1
                      go_upto_region 27 with (go_at_call 21; refine Calls.mono HTN2.out ?_; rintro e w4 ⟨rfl, hr4, hk4⟩; have HR4 : Hid (Rr B w4 r (.slice la nl lc) (.slice ka kn kc) (.slice ca cn cc) L m4) := hr4; have HP4 : Hid (Pb w4 pb p2) := HP3.out.keep hk4 HPN.out.1; have HK4 : Hid (Kr w w4 (fun j => j = r ∨ (Value.slice qa ln qc).ownBlock = some j)) := HK3.out.trans hk4 (fun j e => .inl (.inl e)); have y3 := HP4.out.cells.2.2.2.1; have z3 := HP4.out.froz 3; clear hr4 hk4)
                      clear y3 z3
                      obtain ⟨w5, hw5⟩ : ∃ w5, w5 = (w4.setCell ⟨pb, 3, none⟩ (.string tn)).drew := ⟨_, rfl⟩
                      have HR5 : Hid (Rr B w5 r (.slice la nl lc) (.slice ka kn kc) (.slice ca cn cc) L m4) := by rw [hw5]; exact (HR4.out.far HPN.out.2.2.2.1 HPN.out.1 HNE5.out HPN.out.2.2.1).drew
                      have HP5 : Hid (Pb w5 pb { p2 with cp := tn }) := by rw [hw5]; exact (HP4.out.set3 tn).keep (S := fun _ => False) (Kr.of_below (Below.drew (Below.refl _ _))) (fun e => e)
                      have HK5 : Hid (Kr w w5 (fun j => j = r ∨ (Value.slice qa ln qc).ownBlock = some j)) := by
                        rw [hw5]
                        exact (HK4.out.trans (Kr.set _ pb 3 (.string tn)) (fun j e => .inr (by rw [e, HPN.out.2.2.2.2.2]; exact Nat.le_refl _))).trans (S' := fun _ => False) (Kr.of_below (Below.drew (Below.refl _ _))) (fun j e => e.elim)
                      have HND : Hid (∀ W, Below w5.heap.size w5 W → Calls Try.prog 22 #[.agg #[.slice ka kn kc, .slice ca cn cc], .string tn] W fun e w' => e = .returned (.int .i64 (cap m2.ns tn)) ∧ Below W.heap.size W w') := fun W hW => by
                        have h9 := (HR5.out.up hW).ns
                        rw [HM4.out.2.2] at h9
                        exact rnode_any tn W (row_rw h9) (by have := HKB.out; omega)
                      obtain ⟨Cc, hCc⟩ : ∃ Cc, cap m2.ns tn = Cc := ⟨_, rfl⟩
                      have HCC : Hid (cap m2.ns tn = Cc) := hCc
                      rw [hCc] at HND
                      have HQ2 : Hid (∀ W, Below w5.heap.size w5 W → W.cell? ⟨r, 2, none⟩ = some (.slice ka kn kc) ∧ W.cell? ⟨r, 3, none⟩ = some (.slice ca cn cc)) := fun W hW => ⟨(HR5.out.up hW).open.2.2.1, (HR5.out.up hW).open.2.2.2.1⟩
                      have HQ3 : Hid (∀ W, Below w5.heap.size w5 W → W.cell? ⟨pb, 3, none⟩ = some (.string tn)) := fun W hW => below_cell hW HP5.out.cells.2.2.2.1
                      clear hCc
                      refine wp_region_noPanic ?_
                      refine wp_region_held_drew (S := fun W => Below w5.heap.size w5 W) (by kernel_rfl) (by rw [← hw5]; exact Below.refl _ _) (fun hHeld => ?_)
                      rw [← hw5] at hHeld ⊢
                      clear hw5 HR4 HP4 HK4 HR3 HP3 HK3
                      refine wpAnyH_take (i := 0) (oi := { dst := _, op := _, type := _, pos := _, after := _, guard := _ }) (v := ?_) rfl (by kernel_rfl) (by kernel_rfl) (by kernel_rfl) (fun _ _ _ h => h) (Or.inl ⟨by rfl, ?_⟩) (by assumption) ?_
                      rotate_left
                      · intro W hSw
                        (try dsimp only at hSw)
                        go_simp
                        (try with_reducible rfl)
                      try simp only [Act.put, List.setIfInBounds_toArray, List.set_cons_zero, List.set_cons_succ]
                      refine wpAnyH_take (i := 1) (oi := { dst := _, op := _, type := _, pos := _, after := _, guard := _ }) (v := ?_) rfl (by kernel_rfl) (by kernel_rfl) (by kernel_rfl) (fun _ _ _ h => h) (Or.inl ⟨by rfl, ?_⟩) (by assumption) ?_
                      rotate_left
                      · intro W hSw
                        (try dsimp only at hSw)
                        go_simp
                        (try with_reducible rfl)
                      try simp only [Act.put, List.setIfInBounds_toArray, List.set_cons_zero, List.set_cons_succ]
                      refine wpAnyH_take (i := 2) (oi := { dst := _, op := _, type := _, pos := _, after := _, guard := _ }) (v := ?_) rfl (by kernel_rfl) (by kernel_rfl) (by kernel_rfl) (fun _ _ _ h => h) (Or.inl ⟨by rfl, ?_⟩) (by assumption) ?_
                      rotate_left
                      · intro W hSw
                        (try dsimp only at hSw)
                        go_simp
                        (try with_reducible rfl)
                      try simp only [Act.put, List.setIfInBounds_toArray, List.set_cons_zero, List.set_cons_succ]
                      refine wpAnyH_take (i := 3) (oi := { dst := _, op := _, type := _, pos := _, after := _, guard := _ }) (v := ?_) rfl (by kernel_rfl) (by kernel_rfl) (by kernel_rfl) (fun _ _ _ h => h) (Or.inl ⟨by rfl, ?_⟩) (by assumption) ?_
                      rotate_left
                      · intro W hSw
                        (try dsimp only at hSw)
                        obtain ⟨y2, y3⟩ := HQ2.out W hSw
                        go_simp
                        (try with_reducible rfl)
                      try simp only [Act.put, List.setIfInBounds_toArray, List.set_cons_zero, List.set_cons_succ]
                      refine wpAnyH_take (i := 4) (oi := { dst := _, op := _, type := _, pos := _, after := _, guard := _ }) (v := ?_) rfl (by kernel_rfl) (by kernel_rfl) (by kernel_rfl) (fun _ _ _ h => h) (Or.inl ⟨by rfl, ?_⟩) (by assumption) ?_
                      rotate_left
                      · intro W hSw
                        (try dsimp only at hSw)
                        go_simp
                        (try with_reducible rfl)
                      try simp only [Act.put, List.setIfInBounds_toArray, List.set_cons_zero, List.set_cons_succ]
                      refine wpAnyH_take (i := 5) (oi := { dst := _, op := _, type := _, pos := _, after := _, guard := _ }) (v := ?_) rfl (by kernel_rfl) (by kernel_rfl) (by kernel_rfl) (fun _ _ _ h => h) (Or.inl ⟨by rfl, ?_⟩) (by assumption) ?_
                      rotate_left
                      · intro W hSw
                        (try dsimp only at hSw)
                        have y5 := HQ3.out W hSw
                        go_simp
                        (try with_reducible rfl)
                      try simp only [Act.put, List.setIfInBounds_toArray, List.set_cons_zero, List.set_cons_succ]
                      refine wpAnyH_ready (rs := [6]) (by kernel_rfl) (by simp) ?_
                      refine AllReadyH.cons (o := { dst := _, op := _, type := _, pos := _, after := _, guard := _ }) rfl (fun K hK => ?_) AllReadyH.nil
                      go_simp
                      refine Calls.mono (HND.out _ (Below.refl _ _)) ?_
                      rintro e w6 ⟨rfl, hb6⟩
                      have HB6 : Hid (Below w5.heap.size w5 w6) := hb6
                      clear hb6
                      go_wp2_with fail
                      refine hK.out _ _ ?_ (fun hHeld => ?_)
                      · exact HB6.out
                      clear hK K
                      try simp only [Act.put, List.setIfInBounds_toArray, List.set_cons_zero, List.set_cons_succ]
                      refine wpAnyH_take (i := 7) (oi := { dst := _, op := _, type := _, pos := _, after := _, guard := _ }) (v := ?_) rfl (by kernel_rfl) (by kernel_rfl) (by kernel_rfl) (fun _ _ _ h => h) (Or.inl ⟨by rfl, ?_⟩) (by assumption) ?_
                      rotate_left
                      · intro W hSw
                        (try dsimp only at hSw)
                        go_simp
                        (try with_reducible rfl)
                      try simp only [Act.put, List.setIfInBounds_toArray, List.set_cons_zero, List.set_cons_succ]
                      refine wpAnyH_done (by kernel_rfl) ?_ _
                      refine NoPanic.normal ?_
                      clear hHeld
                      have HR6 : Hid (Rr B w6 r (.slice la nl lc) (.slice ka kn kc) (.slice ca cn cc) L m4) := HR5.out.up HB6.out
                      have HP6 : Hid (Pb w6 pb { p2 with cp := tn }) := HP5.out.keep (S := fun _ => False) (Kr.of_below HB6.out) (fun e => e)
                      have HK6 : Hid (Kr w w6 (fun j => j = r ∨ (Value.slice qa ln qc).ownBlock = some j)) := HK5.out.trans (S' := fun _ => False) (Kr.of_below HB6.out) (fun j e => e.elim)
                      have HCV : Hid (clR L m2 p2 = if N = true then (if 0 ≤ cap m2.ns tt then ⟨a1 + 1, m2.ns, m2.cs, 201, a1⟩ else ⟨a1 + 1, m2.ns, m2.cs, 0, m2.po⟩, { p2 with cp := tt }) else (⟨a1, m2.ns, m2.cs, 200, a1⟩, { p2 with cp := ⟨#[]⟩ })) := by
                        show _ = _
                        unfold clR
                        rw [if_pos HE2.out, show m2.at_ + 2 = a1 + 1 by have := HA1.out; omega, HA1.out, HNN.out, HTT.out]
                      by_cases hc : 0 ≤ Cc
                      · have d1 : decide (0 ≤ Cc) = true := decide_eq_true hc
                        have hNt : N = true := by
                          cases N with
                          | true => rfl
                          | false =>
                            exfalso
                            have h1 := HCC.out
                            rw [← HM4.out.1, if_neg (by decide)] at h1
                            unfold cap at h1
                            rw [if_pos rfl] at h1
                            omega
                        subst hNt
                        have h4 := HM4.out.2.1
                        rw [if_pos rfl] at h4
                        have htn : tt = tn := by have h5 := HM4.out.1; rw [if_pos rfl] at h5; exact h5
                        have HCW : Hid (clR L m2 p2 = (⟨a1 + 1, m2.ns, m2.cs, 201, a1⟩, { p2 with cp := tn })) := by show _ = _; rw [HCV.out, if_pos rfl, htn, HCC.out, if_pos hc]
                        obtain ⟨a2, ha2⟩ : ∃ a2, a1 + 1 = a2 := ⟨_, rfl⟩
                        have HR7 : Hid (Rr B w6 r (.slice la nl lc) (.slice ka kn kc) (.slice ca cn cc) L ⟨a2, m2.ns, m2.cs, 0, m2.po⟩) := by rw [← ha2, h4]; exact HR6.out
                        have k1 : w6.cell? ⟨r, 1, none⟩ = some (.int .i64 (a2 : Int)) := HR7.out.open.2.1
                        have hw2 : IntKind.i64.wrap ((a2 : Int) - 1) = (a1 : Int) := by have := HKB.out; have := HA1.out; rw [IntKind.wrap_i64]; omega
                        have HST : Hid _ := rstop_any 201 a1 w6 HR7.out rfl
                        rw [ha2] at HCW
                        clear h4 htn ha2 HM4 HCV
                        try simp only [d1]
                        go_wp2_with (go_at_call 19; refine Calls.mono HST.out ?_; rintro e w7 ⟨rfl, hr7, hk7⟩; have HR8 : Hid (Rr B w7 r (.slice la nl lc) (.slice ka kn kc) (.slice ca cn cc) L ⟨a2, m2.ns, m2.cs, 201, a1⟩) := hr7; have HK8 : Hid (Kr w6 w7 (fun j => j = r)) := hk7; clear hr7 hk7)
                        go_meet
                        exact ⟨by rw [HCW.out]; exact HR8.out, by rw [HCW.out]; exact HP6.out.keep HK8.out HPN.out.1, HK6.out.trans HK8.out (fun j e => .inl (.inl e)), by rw [HCW.out]; rfl⟩
                      · have d1 : decide (0 ≤ Cc) = false := decide_eq_false hc
                        have HCW : Hid (clR L m2 p2 = (m4, { p2 with cp := tn })) := by
                          show _ = _
                          rw [HCV.out, ← HM4.out.2.1, ← HM4.out.1]
                          cases N with
                          | true =>
                            have h1 := HCC.out
                            rw [← HM4.out.1, if_pos rfl] at h1
                            rw [if_pos rfl, if_pos rfl, if_pos rfl, h1, if_neg hc]
                          | false => rfl
                        clear HCV
                        try simp only [d1]
                        go_wp2_with fail
                        go_meet
                        exact ⟨by rw [HCW.out]; exact HR6.out, by rw [HCW.out]; exact HP6.out, HK6.out, by rw [HCW.out]; exact HM4.out.2.2⟩
                  case rest =>
                    obtain ⟨HRC, HPC, HKC, HNC⟩ := hcut
                    obtain ⟨cm, hcm⟩ : ∃ cm, clR L m2 p2 = cm := ⟨_, rfl⟩
                    rw [hcm] at HRC HPC HNC HRS
                    clear hcm HRK2 HPK2 HKK
                    have HCL : Hid (cm.1.ns.length = kn ∧ ln < kn) := ⟨by rw [HNC.out]; exact HKN.out, by have := HKB.out.2.2.2; have := HKN.out; omega⟩
                    obtain ⟨g, qcap, e0, hgB, -, -⟩ := row_form HRC.out.ns (by have := HCL.out; omega)
                    obtain ⟨rfl, -, -⟩ := Value.slice.inj e0
                    clear e0
                    have HGP : Hid (g ≠ pb ∧ g ≠ r) := ⟨fun e => HNE5.out (by rw [e]; rfl), fun e => tag_ne_blk HRC.out.ns HRC.out.blk (by decide) (by rw [← e]; rfl)⟩
                    obtain ⟨w8, hw8⟩ : ∃ w8, w8 = wc.drew := ⟨_, rfl⟩
                    have HR8 : Hid (Rr B w8 r (.slice la nl lc) (.slice (some ⟨g, 0, none⟩) kn kc) (.slice ca cn cc) L cm.1) := by rw [hw8]; exact HRC.out.drew
                    have HP8 : Hid (Pb w8 pb cm.2) := by rw [hw8]; exact HPC.out.keep (S := fun _ => False) (Kr.of_below (Below.drew (Below.refl _ _))) (fun e => e)
                    have HK8 : Hid (Kr w w8 (fun j => j = r ∨ (Value.slice qa ln qc).ownBlock = some j)) := by rw [hw8]; exact HKC.out.trans (S' := fun _ => False) (Kr.of_below (Below.drew (Below.refl _ _))) (fun j e => e.elim)
                    have hsn := HR8.out.setN HCL.out.1 ln HCL.out.2 cm.2
                    have HSN : Hid _ := hsn
                    have HTH : Hid (w8.there g (ln * 5) 5) := by
                      have h9 := HR8.out.ns
                      rw [HCL.out.1] at h9
                      exact row_there5 h9 (by rw [HCL.out.1]; exact HCL.out.2)
                    have b0 : (0 : Int) ≤ (ln : Int) := by omega
                    have b1 : (ln : Int) < (kn : Int) := by have := HCL.out; omega
                    have b2 : ln < kn := HCL.out.2
                    clear hsn hgB
                    go_upto_region 29 with fail
                    refine wp_region_noPanic ?_
                    refine wp_region_held_drew (S := fun W => W.cell? ⟨r, 2, none⟩ = some (.slice (some ⟨g, 0, none⟩) kn kc) ∧ Pb W pb cm.2) (by kernel_rfl) (by rw [← hw8]; exact ⟨HR8.out.open.2.2.1, HP8.out⟩) (fun hHeld => ?_)
                    rw [← hw8] at hHeld ⊢
                    clear hw8
                    refine wpAnyH_take (i := 0) (oi := { dst := _, op := _, type := _, pos := _, after := _, guard := _ }) (v := ?_) rfl (by kernel_rfl) (by kernel_rfl) (by kernel_rfl) (fun _ _ _ h => h) (Or.inl ⟨by rfl, ?_⟩) (by assumption) ?_
                    rotate_left
                    · intro W hSw
                      (try dsimp only at hSw)
                      go_simp
                      (try with_reducible rfl)
                    try simp only [Act.put, List.setIfInBounds_toArray, List.set_cons_zero, List.set_cons_succ]
                    refine wpAnyH_take (i := 1) (oi := { dst := _, op := _, type := _, pos := _, after := _, guard := _ }) (v := ?_) rfl (by kernel_rfl) (by kernel_rfl) (by kernel_rfl) (fun _ _ _ h => h) (Or.inl ⟨by rfl, ?_⟩) (by assumption) ?_
                    rotate_left
                    · intro W hSw
                      (try dsimp only at hSw)
                      go_simp
                      (try with_reducible rfl)
                    try simp only [Act.put, List.setIfInBounds_toArray, List.set_cons_zero, List.set_cons_succ]
                    refine wpAnyH_take (i := 2) (oi := { dst := _, op := _, type := _, pos := _, after := _, guard := _ }) (v := ?_) rfl (by kernel_rfl) (by kernel_rfl) (by kernel_rfl) (fun _ _ _ h => h) (Or.inl ⟨by rfl, ?_⟩) (by assumption) ?_
                    rotate_left
                    · intro W hSw
                      (try dsimp only at hSw)
                      go_simp
                      (try with_reducible rfl)
                    try simp only [Act.put, List.setIfInBounds_toArray, List.set_cons_zero, List.set_cons_succ]
                    refine wpAnyH_take (i := 3) (oi := { dst := _, op := _, type := _, pos := _, after := _, guard := _ }) (v := ?_) rfl (by kernel_rfl) (by kernel_rfl) (by kernel_rfl) (fun _ _ _ h => h) (Or.inl ⟨by rfl, ?_⟩) (by assumption) ?_
                    rotate_left
                    · intro W hSw
                      (try dsimp only at hSw)
                      go_simp
                      (try with_reducible rfl)
                    try simp only [Act.put, List.setIfInBounds_toArray, List.set_cons_zero, List.set_cons_succ]
                    refine wpAnyH_take (i := 4) (oi := { dst := _, op := _, type := _, pos := _, after := _, guard := _ }) (v := ?_) rfl (by kernel_rfl) (by kernel_rfl) (by kernel_rfl) (fun _ _ _ h => h) (Or.inl ⟨by rfl, ?_⟩) (by assumption) ?_
                    rotate_left
                    · intro W hSw
                      (try dsimp only at hSw)
                      have y2 := hSw.1
                      go_simp
                      (try with_reducible rfl)
                    try simp only [Act.put, List.setIfInBounds_toArray, List.set_cons_zero, List.set_cons_succ]
                    refine wpAnyH_take (i := 5) (oi := { dst := _, op := _, type := _, pos := _, after := _, guard := _ }) (v := ?_) rfl (by kernel_rfl) (by kernel_rfl) (by kernel_rfl) (fun _ _ _ h => h) (Or.inl ⟨by rfl, ?_⟩) (by assumption) ?_
                    rotate_left
                    · intro W hSw
                      (try dsimp only at hSw)
                      go_simp
                      (try with_reducible rfl)
                    try simp only [Act.put, List.setIfInBounds_toArray, List.set_cons_zero, List.set_cons_succ]
                    refine wpAnyH_take (i := 6) (oi := { dst := _, op := _, type := _, pos := _, after := _, guard := _ }) (v := ?_) rfl (by kernel_rfl) (by kernel_rfl) (by kernel_rfl) (fun _ _ _ h => h) (Or.inl ⟨by rfl, ?_⟩) (by assumption) ?_
                    rotate_left
                    · intro W hSw
                      (try dsimp only at hSw)
                      obtain ⟨y0, y1, y2, y3, y4⟩ := hSw.2.cells
                      go_simp
                      (try with_reducible rfl)
                    try simp only [Act.put, List.setIfInBounds_toArray, List.set_cons_zero, List.set_cons_succ]
                    refine wpAnyH_take (i := 7) (oi := { dst := _, op := _, type := _, pos := _, after := _, guard := _ }) (v := ?_) rfl (by kernel_rfl) (by kernel_rfl) (by kernel_rfl) (fun _ _ _ h => h) (Or.inl ⟨by rfl, ?_⟩) (by assumption) ?_
                    rotate_left
                    · intro W hSw
                      (try dsimp only at hSw)
                      go_simp
                      (try with_reducible rfl)
                    try simp only [Act.put, List.setIfInBounds_toArray, List.set_cons_zero, List.set_cons_succ]
                    refine wpAnyH_ready (rs := [8]) (by kernel_rfl) (by simp) ?_
                    refine AllReadyH.cons (o := { dst := _, op := _, type := _, pos := _, after := _, guard := _ }) rfl (fun K hK => ?_) AllReadyH.nil
                    refine step_store_mid rfl 46 _ _ rfl g (ln * 5) #[.string cm.2.nm, .bool cm.2.lit, .string cm.2.fd, .string cm.2.cp, .int .i64 cm.2.kd] rfl rfl HTH.out szP (all_oneCell_toArray (pf_one cm.2)) ?_
                    obtain ⟨w9, hw9⟩ : ∃ w9, w8.setCells g (ln * 5) (pf cm.2) = w9 := ⟨_, rfl⟩
                    have HW9 : Hid (w9 = w8.setCells g (ln * 5) (pf cm.2)) := hw9.symm
                    have hs9 : w9.cell? ⟨r, 2, none⟩ = some (.slice (some ⟨g, 0, none⟩) kn kc) ∧ Pb w9 pb cm.2 := by rw [HW9.out]; exact ⟨HSN.out.1.open.2.2.1, HP8.out.keep HSN.out.2 (fun e => HGP.out.1 e.symm)⟩
                    have HS9 : Hid _ := hs9
                    show K _ (w8.setCells g (ln * 5) (pf cm.2))
                    rw [hw9]
                    clear hs9 hw9
                    refine hK.out _ _ ?_ (fun hHeld => ?_)
                    · exact HS9.out
                    clear hK K
                    try simp only [Act.put]
                    refine wpAnyH_done (by kernel_rfl) ?_ _
                    refine NoPanic.normal ?_
                    clear hHeld
                    have HFIN : Hid (Rr B w9 r (.slice la nl lc) (.slice (some ⟨g, 0, none⟩) kn kc) (.slice ca cn cc) L R ∧ Kr w8 w9 (fun j => j = g)) := by
                      rw [HW9.out, ← HRS.out]
                      exact HSN.out
                    have HFR : Hid (Rr B w9 r (.slice la L.length lc) (.slice (some ⟨g, 0, none⟩) kn kc) (.slice ca cn cc) L R) := by show Rr _ _ _ _ _ _ _ _; rw [HNL.out]; exact HFIN.out.1
                    refine bodyPost_end (results_none rfl _ _ _) rfl ⟨rfl, _, HFR.out, ?_, ?_⟩
                    · have h9 := HK8.out.trans HFIN.out.2 (fun j e => (HVK.out j (by rw [e]; rfl)).elim (fun z => .inl (.inr z)) (fun z => .inr (by have := HPN.out.2.2.2.2.2; omega)))
                      refine h9.mono (fun j e => e.elim .inl (fun z => .inr (by rw [HLN.out]; exact z)))
                    · intro j e
                      rw [HLN.out]
                      exact (HVK.out j e).elim .inl (fun z => .inr (by have := HPN.out.2.2.2.2.2; omega))
/-- The reference's pattern, at any fuel. -/
theorem rpat_any {L : List Wd} (hL : L.length ≤ 1048576) (n : Nat) (hN : n ≤ 4194304) : PQ L n := by
  induction n using Nat.strongRecOn with
  | ind n ih => exact rpat_step hL n hN (fun k hk => ih k hk (by omega))
end Go.Proofs.Ythfijmabagjdkaa.Qy
