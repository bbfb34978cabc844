import Derived.Test.YtkjljnneghnpiaaZctr
import Derived.Recover
import Derived.OneCell
namespace Go.Proofs.Ytkjljnneghnpiaa.Rg
open Go.RowKit
set_option maxRecDepth 100000 in
set_option maxHeartbeats 8000000 in
theorem regex_any (B b : Nat) (s : ByteArray) (hs : s.size < 1000000000000000) (i : Nat) (o : List Nd) (st : List Grp) (w : World) (h : IsM B b s i st.length o w) (hi : i ≤ s.size) (h41 : pk s i = 41 → st = []) (hst : st.length ≤ 128) (hR : RgOk B b s (i + 1)) :
    Calls Try.prog 54 #[.pointer (some ⟨b, 0, none⟩)] w fun e w' => RRes B b s i ⟨i, o, frG, st⟩ st w e w' := by
  have A := cat_any B b s hs i o (-1) st w h hi (fun k => .inl (h41 k)) hst hR
  have HS : Hid _ := hs
  have HR : Hid (RgOk B b s (i + 1)) := hR
  have HST : Hid _ := hst
  clear h hi hs hR h41 hst
  go_enter Try.func54, Try.ntmps54
  go_wp2_with fail
  refine A.mono ?_
  clear A
  intro e w1 hr
  rcases hr with ⟨j0, o1, om0, gm0, r0, rfl, hr⟩ | ⟨c, p, rfl, hv, hf⟩
  · have HRR : Hid _ := hr
    obtain ⟨y, hy⟩ : ∃ y, cp r0 = y := ⟨_, rfl⟩
    rw [hy]
    have HY : Hid _ := hy
    clear hr hy
    go_wp2_with fail
    go_loopg [3] (s.size - j0) (fun gh a wr => ∃ (j : Nat) (o2 om : List Nd) (gm : Grp) (r : Nat), a = .int .i64 (cp r) ∧ gh = s.size - j ∧ (r < o2.length ∧ o.length ≤ o2.length) ∧ i < j ∧ j ≤ s.size ∧ V s ⟨i, o, frG, st⟩ = V s ⟨j, om, gm, st⟩ ∧ 0 ≤ gm.part ∧ brn om gm = (o2, ⟨(r : Int), -1, -1⟩) ∧ (j = s.size ∨ pk s j = 124 ∨ pk s j = 41) ∧ IsM B b s j st.length o2 wr ∧ FP B b w wr)
    case atStart =>
      obtain ⟨r1, r2, r3, r4, r5, r6, r7, r8, r9⟩ := HRR.out
      exact ⟨j0, o1, om0, gm0, r0, by rw [HY.out], rfl, r1, r2, r3, r4, r5, brn_of _ _ _ _ r6, r7, r8, r9⟩
    case round =>
      clear HRR HY
      obtain ⟨j, o2, om, gm, r, rfl, hgm, hr1, hj0, hj2, hv, hg, hst2, hsg, hp, hf⟩ := hrel
      have HGM : Hid _ := hgm
      have HR1 : Hid _ := hr1
      have HJ0 : Hid _ := hj0
      have HJ2 : Hid _ := hj2
      have HV : Hid _ := hv
      have HG : Hid _ := hg
      have HST2 : Hid _ := hst2
      have HSG : Hid _ := hsg
      have T := take_any B b s j st.length _ _ 124 wr hp.p hj2 HS.out
      have HF : Hid _ := hf
      obtain ⟨y, hy⟩ : ∃ y, cp r = y := ⟨_, rfl⟩
      rw [hy]
      have HY : Hid _ := hy
      clear hgm hr1 hj0 hj2 hv hp hf hy hg hst2 hsg
      go_wp2_with fail
      refine T.mono ?_
      clear T
      rintro e w2 ⟨rfl, p2, f2⟩
      have F2 : Hid _ := HF.out.trans f2
      by_cases h124 : pk s j = 124
      · rw [if_pos h124] at p2
        rw [show (pk s j == 124) = true by simpa using h124]
        have HV2 : Hid (V s ⟨i, o, frG, st⟩ = V s ⟨j + 1, o2, ⟨(r : Int), -1, -1⟩, st⟩) := HV.out.trans (V_bar h124 HG.out HST2.out)
        have HJ1 : Hid (j + 1 ≤ s.size) := pk_in (s := s) (i := j) (by rw [h124]; decide)
        have C := cat_any B b s HS.out (j + 1) o2 (r : Int) st w2 p2 HJ1.out (fun _ => .inr (by omega)) HST.out (HR.out.mono (by have := HJ0.out; omega))
        clear p2 f2 h124 HF
        go_wp2_with fail
        refine C.mono ?_
        clear C
        intro e w4 hr
        rcases hr with ⟨j4, o4, om4, gm4, r4, rfl, h1, h2, h3, h4, h5, h6, h7, h8, h9⟩ | ⟨c, p, rfl, hv, hf⟩
        · have HV4 : Hid _ := HV2.out.trans h4
          have HO4 : Hid (r4 < o4.length ∧ o2.length ≤ o4.length) := h1
          have HJ4 : Hid _ := h2
          have HJ5 : Hid _ := h3
          have HG4 : Hid _ := h5
          have HB4 : Hid _ := brn_more _ _ _ _ _ h6
          have HE4 : Hid _ := h7
          have P4 : Hid (IsM B b s j4 st.length o4 w4) := h8
          have F4 : Hid _ := F2.out.trans h9
          have A := addM_any B b s j4 st.length o4 4 (fun _ => false) (cp r) (cp r4) (zn 4 (r : Int) (r4 : Int)) _ P4.out (fun hl => by
            rw [cp_in (by have := HR1.out.1; have := HO4.out.2; omega), cp_in (by have := HO4.out.1; omega)]; rfl)
          rw [show ndV 4 (fun _ => false) (cp r) (cp r4) = .agg #[.int .i64 4, .int .u64 0, .int .u64 0, .int .u64 0, .int .u64 0, .int .i64 (cp r), .int .i64 (cp r4)] by simp only [ndV, wd_none]; rfl, HY.out] at A
          obtain ⟨z, hz⟩ : ∃ z, cp r4 = z := ⟨_, rfl⟩
          rw [hz] at A ⊢
          clear h1 h2 h3 h4 h5 h6 h7 h8 h9 hz
          go_wp2_with fail
          refine A.mono ?_
          clear A
          rintro e w5 ⟨rfl, p5, f5⟩
          have P5 : Hid _ := p5
          have F5 : Hid _ := F4.out.trans f5
          obtain ⟨u, hu⟩ : ∃ u, cp o4.length = u := ⟨_, rfl⟩
          rw [hu]
          have HU : Hid _ := hu
          clear p5 f5 hu
          go_wp2_with fail
          go_roundg (s.size - j4)
          case measure => have := HGM.out; have := HJ4.out; have := HJ5.out; omega
          case rel => exact ⟨j4, _, om4, gm4, o4.length, by rw [HU.out], rfl, ⟨by simp, by have := HR1.out.2; have := HO4.out.2; simp; omega⟩, by have := HJ0.out; have := HJ4.out; omega, HJ5.out, HV4.out, HG4.out, HB4.out, HE4.out, P5.out, F5.out⟩
        · have HV4 : Hid _ := HV2.out.trans hv
          have F4 : Hid _ := F2.out.trans hf
          clear hv hf
          go_wp2_with fail
          exact ⟨rfl, .inr ⟨c, p, rfl, HV4.out, F4.out⟩⟩
      · rw [if_neg h124] at p2
        rw [show (pk s j == 124) = false by simpa using h124]
        have HE : Hid (j = s.size ∨ pk s j = 41) := HSG.out.imp id (fun h => h.resolve_left h124)
        have P2 : Hid (IsM B b s j st.length o2 w2) := p2
        clear p2 f2 h124 HF
        go_wp2_with fail
        go_ret
        exact .inl ⟨j, o2, om, gm, r, by first | (rw [HY.out]; rfl) | rw [HY.out], HR1.out, HJ0.out, HJ2.out, HV.out, HG.out, HST2.out, HE.out, P2.out, F2.out⟩
  · have HV : Hid _ := hv
    have F2 : Hid _ := hf
    clear hv hf
    go_wp2_with fail
    exact ⟨rfl, .inr ⟨c, p, rfl, HV.out, F2.out⟩⟩
theorem rg_ok (B b : Nat) (s : ByteArray) (hs : s.size < 1000000000000000) : ∀ n k, s.size + 1 - k ≤ n → RgOk B b s k := by
  intro n
  induction n with
  | zero => intro k hk i o st w h1 h2; omega
  | succ n ih =>
    intro k hk i o st w h1 h2 h3 h4 h5
    exact regex_any B b s hs i o st w h3 h2 h4 h5 (ih (i + 1) (by omega))
/-- What whole answers. -/
def WRes (B b : Nat) (s : ByteArray) (w : World) (e : Ending) (w' : World) : Prop :=
  match V s ⟨0, [], frG, []⟩ with
  | .ok o => (∃ v, e = .returned v ∧ w'.ownsRow B 58 7 v o.length (ncs o)) ∧ o.length ≤ 128 ∧ FP B b w w'
  | .error (c, p) => e = flt c (p : Int) ∧ FP B b w w'
set_option maxRecDepth 100000 in
set_option maxHeartbeats 4000000 in
theorem whole_any (B b : Nat) (s : ByteArray) (hs : s.size < 1000000000000000) (w : World) (h : IsP B b s 0 0 [] false w) :
    Calls Try.prog 45 #[.pointer (some ⟨b, 0, none⟩)] w fun e w' => WRes B b s w e w' := by
  have R := rg_ok B b s hs _ 0 (Nat.le_refl _) 0 [] [] w (Nat.le_refl _) (Nat.zero_le _) h (fun _ => rfl) (by decide)
  clear h hs
  go_enter Try.func45, Try.ntmps45
  go_wp2_with fail
  refine R.mono ?_
  clear R
  intro e w1 hr
  rcases hr with ⟨j, o, om, gm, r, rfl, h1, h2, h3, h4, h5, h6, h7, h8, h9⟩ | ⟨c, p, rfl, hv, hf⟩
  · have hj := h3
    obtain ⟨d0, d1, d2, d4, df⟩ := h8.p.cells
    obtain ⟨y, hy⟩ : ∃ y, cp r = y := ⟨_, rfl⟩
    rw [hy]
    have F1 : Hid (FP B b w w1) := h9
    have P1 : Hid (IsM B b s j 0 o w1) := h8
    by_cases hlt : j < s.size
    · have hv : V s ⟨0, [], frG, []⟩ = .error (40, j) := h4.trans (V_stray (h7.resolve_left (by omega)))
      have HV : Hid _ := hv
      have t1 : decide (j < s.size) = true := by rw [decide_eq_true_eq]; exact hlt
      have t1' : decide ((j : Int) < (s.size : Int)) = true := by rw [decide_eq_true_eq]; omega
      clear h1 h2 h3 h4 h5 h6 h7 h8 h9 hv hlt hy hj
      go_wp2_with fail
      go_region
      go_wp2_with fail
      refine (giveUp_any 40 (j : Int) _).mono ?_
      rintro e w2 ⟨rfl, rfl⟩
      go_wp2_with fail
      refine ⟨rfl, ?_⟩
      unfold WRes
      rw [HV.out]
      exact ⟨rfl, F1.out.trans FP.dr⟩
    · have je : j = s.size := by omega
      have hv : V s ⟨0, [], frG, []⟩ = (if 128 < o.length then .error (42, 0) else .ok o) := by
        rw [h4, V_end hlt]
        unfold vfin
        dsimp only
        rw [if_neg (by simp; omega), h6]
      have HV : Hid _ := hv
      have t1 : decide (j < s.size) = false := by rw [decide_eq_false_iff_not]; exact hlt
      have t1' : decide ((j : Int) < (s.size : Int)) = false := by rw [decide_eq_false_iff_not]; omega
      clear h1 h2 h3 h4 h5 h6 h7 h8 h9 hv hlt hy hj
      by_cases hl : 128 < o.length
      · rw [show decide (128 < o.length) = true by rw [decide_eq_true_eq]; exact hl] at d4
        rw [if_pos hl] at HV
        clear je hl
        go_wp2_with fail
        go_region
        go_wp2_with fail
        refine (giveUp_any 42 0 _).mono ?_
        rintro e w2 ⟨rfl, rfl⟩
        go_wp2_with fail
        refine ⟨rfl, ?_⟩
        unfold WRes
        rw [HV.out]
        exact ⟨rfl, F1.out.trans FP.dr⟩
      · rw [show decide (128 < o.length) = false by rw [decide_eq_false_iff_not]; exact hl] at d4
        rw [if_neg hl] at HV
        have HL : Hid _ := hl
        obtain ⟨v, hv, ho⟩ := P1.out.p.h
        have d3 : w1.cell? ⟨b, 3, none⟩ = some v := by rw [Lib.cell_of_heap hv]; rfl
        have HO : Hid (w1.ownsRow B 58 7 v o.length (ncs o)) := by
          have e1 : o.take 128 = o := List.take_of_length_le (by omega)
          rw [e1] at ho
          exact ho
        clear je hl hv ho
        go_wp2_with fail
        go_region
        go_wp2_with fail
        go_ret
        unfold WRes
        rw [HV.out]
        exact ⟨⟨v, rfl, HO.out⟩, Nat.le_of_not_lt HL.out, F1.out.trans FP.dr⟩
  · have HV : Hid _ := hv
    have F2 : Hid _ := hf
    clear hv hf
    go_wp2_with fail
    refine ⟨rfl, ?_⟩
    unfold WRes
    rw [HV.out]
    exact ⟨rfl, F2.out⟩
end Go.Proofs.Ytkjljnneghnpiaa.Rg
namespace Go.Proofs.Ytkjljnneghnpiaa.Rg
open Go.RowKit
theorem ta56 (v : Value) (W : World) : (Instr.typeAssert (.iface 77 v) 20 77 true).run Try.prog W = .ok (.tuple #[v, .bool true]) W := by kernel_rfl
theorem eqn56 (v : Value) (W : World) : (binOp BinOp.eql 20 (.iface 77 v) .nilIface).run Try.prog W = .ok (.bool false) W := by kernel_rfl
set_option maxRecDepth 100000 in
set_option maxHeartbeats 2000000 in
theorem catch_fault (p q r : Nat) (code at' : Int) (vp vq vr : Value) (w : World) (hp : w.heap[p]? = some (.cells #[vp] 35 (0, 0))) (hq : w.heap[q]? = some (.cells #[vq] 53 (0, 0))) (hr : w.heap[r]? = some (.cells #[vr] 3 (0, 0))) (n4 : ¬ p = q) (n5 : ¬ p = r) (n6 : ¬ q = r) :
    CallsD Try.prog 44 #[.pointer (some ⟨p, 0, none⟩), .pointer (some ⟨q, 0, none⟩), .pointer (some ⟨r, 0, none⟩)] (.panicking [{ v := .iface 77 (.agg #[.int .i64 code, .int .i64 at']), recovered := false }]) w fun e u' w' =>
      e = .returned (.tuple #[]) ∧ u' = .panicking [{ v := .iface 77 (.agg #[.int .i64 code, .int .i64 at']), recovered := true }] ∧ w' = ((((w.alloc (.cells #[.int .i64 code, .int .i64 at'] 77)).drew.setCell ⟨p, 0, none⟩ (.slice none 0 0)).setCell ⟨q, 0, none⟩ (.int .i64 code)).setCell ⟨r, 0, none⟩ (.int .i64 at')) := by
  obtain ⟨wf, hwf⟩ : ∃ wf, ((((w.alloc (.cells #[.int .i64 code, .int .i64 at'] 77)).drew.setCell ⟨p, 0, none⟩ (.slice none 0 0)).setCell ⟨q, 0, none⟩ (.int .i64 code)).setCell ⟨r, 0, none⟩ (.int .i64 at')) = wf := ⟨_, rfl⟩
  rw [hwf]
  have HWF : Hid _ := hwf
  clear hwf
  have n1 : ¬ p = w.heap.size := by have := lt_of_heap hp; omega
  have n2 : ¬ q = w.heap.size := by have := lt_of_heap hq; omega
  have n3 : ¬ r = w.heap.size := by have := lt_of_heap hr; omega
  have up : ∀ (k : Nat) (vs : Array Value) (t : TypeId), w.heap[k]? = some (.cells vs t (0, 0)) → (w.alloc (.cells #[.int .i64 code, .int .i64 at'] 77)).heap[k]? = some (.cells vs t (0, 0)) := fun k vs t h => below_heap (bel_up _ _) h (lt_of_heap h)
  have hp0 := up _ _ _ hp
  have hq0 := up _ _ _ hq
  have hr0 := up _ _ _ hr
  have hp1 : (w.alloc (.cells #[.int .i64 code, .int .i64 at'] 77)).cell? ⟨p, 0, none⟩ = some vp := by rw [Lib.cell_of_heap hp0]; rfl
  have hq1 : (w.alloc (.cells #[.int .i64 code, .int .i64 at'] 77)).cell? ⟨q, 0, none⟩ = some vq := by rw [Lib.cell_of_heap hq0]; rfl
  have hr1 : (w.alloc (.cells #[.int .i64 code, .int .i64 at'] 77)).cell? ⟨r, 0, none⟩ = some vr := by rw [Lib.cell_of_heap hr0]; rfl
  have fp1 := Lib.frozen_of_heap hp0 0
  have fq1 := Lib.frozen_of_heap hq0 0
  have fr1 := Lib.frozen_of_heap hr0 0
  clear up hp hq hr hp0 hq0 hr0
  refine callsD_of_wpS Try.func44 rfl fun c₀ cs hu => ?_
  apply wpS_seq
  apply wpS_region
  simp [wpOpsS, go_sem, recoverD, hu, Try.ntmps44, Exit.thenS]
  rw [show (#[Value.pointer (some ⟨p, 0, none⟩), .pointer (some ⟨q, 0, none⟩), .pointer (some ⟨r, 0, none⟩)] ++ (Array.replicate 13 undef).setIfInBounds 3 (Value.iface 77 (Value.agg #[Value.int IntKind.i64 code, Value.int IntKind.i64 at']))) = #[Value.pointer (some ⟨p, 0, none⟩), .pointer (some ⟨q, 0, none⟩), .pointer (some ⟨r, 0, none⟩), undef, undef, undef, Value.iface 77 (Value.agg #[Value.int IntKind.i64 code, Value.int IntKind.i64 at']), undef, undef, undef, undef, undef, undef, undef, undef, undef] from rfl]
  have HU : Hid _ := hu
  clear hu
  have h1 := ta56 (Value.agg #[Value.int IntKind.i64 code, Value.int IntKind.i64 at'])
  have h2 := eqn56 (Value.agg #[Value.int IntKind.i64 code, Value.int IntKind.i64 at'])
  refine wpS_of_wp ?_
  go_wp2_with fail
  go_region
  go_wp2_with fail
  refine ⟨rfl, _, rfl, .tuple #[], by simp [results, Try.results44, go_sem], rfl, rfl, ?_⟩
  rw [← HWF.out]
  rfl
theorem catch_idle (p q r : Nat) (w : World) :
    CallsD Try.prog 44 #[.pointer (some ⟨p, 0, none⟩), .pointer (some ⟨q, 0, none⟩), .pointer (some ⟨r, 0, none⟩)] .returning w fun e u' w' =>
      e = .returned (.tuple #[]) ∧ u' = .returning ∧ w' = w := by
  refine callsD_of_wpS Try.func44 rfl fun c₀ cs hu => ?_
  apply wpS_seq
  apply wpS_region
  simp [wpOpsS, go_sem, recoverD, hu, Try.ntmps44, Exit.thenS]
  rw [show (#[Value.pointer (some ⟨p, 0, none⟩), .pointer (some ⟨q, 0, none⟩), .pointer (some ⟨r, 0, none⟩)] ++ (Array.replicate 13 undef).setIfInBounds 3 Value.nilIface) = #[Value.pointer (some ⟨p, 0, none⟩), .pointer (some ⟨q, 0, none⟩), .pointer (some ⟨r, 0, none⟩), undef, undef, undef, Value.nilIface, undef, undef, undef, undef, undef, undef, undef, undef, undef] from rfl]
  have HU : Hid _ := hu
  clear hu
  refine wpS_of_wp ?_
  go_wp2_with fail
  refine ⟨rfl, .returning, ?_, .tuple #[], by simp [results, Try.results44, go_sem], rfl, rfl, rfl⟩
  cases c₀
  have := HU.out
  simp_all
theorem al_new (w : World) (o : Obj) : (w.alloc o).heap[w.heap.size]? = some o := by unfold World.alloc; simp
theorem al_old (w : World) (o : Obj) (k : Nat) (x : Obj) (h : w.heap[k]? = some x) : (w.alloc o).heap[k]? = some x := by
  rw [Lib.alloc_old w o k (lt_of_heap h)]
  exact h
theorem ad_neb {a b : Nat} (h : a ≠ b) : (⟨a, 0, none⟩ : Addr) ≠ ⟨b, 0, none⟩ := fun e => h (by injection e)
theorem three_sets {W : World} {p q r : Nat} {vp vq vr u v t : Value} (hp : W.cell? ⟨p, 0, none⟩ = some vp) (hq : W.cell? ⟨q, 0, none⟩ = some vq) (hr : W.cell? ⟨r, 0, none⟩ = some vr) (n4 : p ≠ q) (n5 : p ≠ r) (n6 : q ≠ r) :
    (((W.setCell ⟨p, 0, none⟩ u).setCell ⟨q, 0, none⟩ v).setCell ⟨r, 0, none⟩ t).cell? ⟨p, 0, none⟩ = some u ∧ (((W.setCell ⟨p, 0, none⟩ u).setCell ⟨q, 0, none⟩ v).setCell ⟨r, 0, none⟩ t).cell? ⟨q, 0, none⟩ = some v ∧ (((W.setCell ⟨p, 0, none⟩ u).setCell ⟨q, 0, none⟩ v).setCell ⟨r, 0, none⟩ t).cell? ⟨r, 0, none⟩ = some t := by
  refine ⟨?_, ?_, ?_⟩
  · rw [World.cell?_setCell_other _ _ _ _ (ad_neb n5.symm), World.cell?_setCell_other _ _ _ _ (ad_neb n4.symm)]
    exact World.cell?_setCell_same _ _ _ hp
  · rw [World.cell?_setCell_other _ _ _ _ (ad_neb n6.symm)]
    exact World.cell?_setCell_same _ _ _ (by rw [World.cell?_setCell_other _ _ _ _ (ad_neb n4)]; exact hq)
  · exact World.cell?_setCell_same _ _ _ (by rw [World.cell?_setCell_other _ _ _ _ (ad_neb n6), World.cell?_setCell_other _ _ _ _ (ad_neb n5)]; exact hr)
/-- What Parse answers. -/
def ParRes (s : ByteArray) (w : World) (e : Ending) (w' : World) : Prop :=
  (match V s ⟨0, [], frG, []⟩ with
  | .ok o => (∃ v, e = .returned (.tuple #[v, .int .i64 0, .int .i64 0]) ∧ w'.ownsRow w.heap.size 58 7 v o.length (ncs o)) ∧ o.length ≤ 128
  | .error (c, p) => e = .returned (.tuple #[.slice none 0 0, .int .i64 c, .int .i64 (p : Int)])) ∧ Below w.heap.size w w'
set_option maxRecDepth 100000 in
set_option maxHeartbeats 4000000 in
theorem parse_any (s : ByteArray) (hs : s.size < 1000000000000000) (w : World) : Calls Try.prog 28 #[.string s] w fun e w' => ParRes s w e w' := by
  have hmf : ∀ (fn : Fn) (first cap : Array Value) (w : World), (Instr.makeFunc fn first cap).run Try.prog w = .ok (.func fn first cap) w := fun _ _ _ _ => rfl
  obtain ⟨W0, hW0⟩ : ∃ W0, ((((w.alloc (Obj.cells #[Value.slice none 0 0] 35)).alloc (Obj.cells #[Value.int IntKind.i64 0] 53)).alloc (Obj.cells #[Value.int IntKind.i64 0] 3)).alloc (Obj.cells #[Value.string s, Value.int IntKind.i64 0, Value.int IntKind.i64 0, Value.slice none 0 0, Value.bool false] 79)) = W0 := ⟨_, rfl⟩
  have S1 : (w.alloc (Obj.cells #[Value.slice none 0 0] 35)).heap.size = w.heap.size + 1 := by simp
  have S2 : ((w.alloc (Obj.cells #[Value.slice none 0 0] 35)).alloc (Obj.cells #[Value.int IntKind.i64 0] 53)).heap.size = w.heap.size + 1 + 1 := by simp
  have S3 : (((w.alloc (Obj.cells #[Value.slice none 0 0] 35)).alloc (Obj.cells #[Value.int IntKind.i64 0] 53)).alloc (Obj.cells #[Value.int IntKind.i64 0] 3)).heap.size = w.heap.size + 1 + 1 + 1 := by simp
  have k0 : W0.heap[w.heap.size]? = some (.cells #[Value.slice none 0 0] 35 (0, 0)) := by
    rw [← hW0]
    exact al_old _ _ _ _ (al_old _ _ _ _ (al_old _ _ _ _ (al_new _ _)))
  have k1 : W0.heap[w.heap.size + 1]? = some (.cells #[Value.int IntKind.i64 0] 53 (0, 0)) := by
    rw [← hW0, ← S1]
    exact al_old _ _ _ _ (al_old _ _ _ _ (al_new _ _))
  have k2 : W0.heap[w.heap.size + 1 + 1]? = some (.cells #[Value.int IntKind.i64 0] 3 (0, 0)) := by
    rw [← hW0, ← S2]
    exact al_old _ _ _ _ (al_new _ _)
  have k3 : W0.heap[w.heap.size + 1 + 1 + 1]? = some (.cells #[Value.string s, Value.int IntKind.i64 0, Value.int IntKind.i64 0, Value.slice none 0 0, Value.bool false] 79 (0, 0)) := by
    rw [← hW0, ← S3]
    exact al_new _ _
  have B0 : Hid (Below w.heap.size w W0) := by
    rw [← hW0]
    exact below_trans (below_trans (below_trans (bel_up _ _) (bel_up _ _)) (bel_up _ _)) (bel_up _ _)
  have P0 : Hid (IsP w.heap.size (w.heap.size + 1 + 1 + 1) s 0 0 [] false W0) := ⟨by omega, B0.out.size, _, k3, World.ownsRow_nil _ _ _ _⟩
  have HW0 : Hid _ := hW0
  have K : Hid _ := And.intro k0 (And.intro k1 k2)
  have HS : Hid _ := hs
  clear S1 S2 S3 k0 k1 k2 k3 hW0 hs
  go_enter_defers Try.func28, Try.ntmps28
  go_wp2_with fail
  rw [HW0.out]
  refine (whole_any w.heap.size (w.heap.size + 1 + 1 + 1) s HS.out W0 P0.out).mono ?_
  intro e w1 hr
  unfold WRes at hr
  cases hv : V s ⟨0, [], frG, []⟩ with
  | ok o =>
    rw [hv] at hr
    obtain ⟨⟨v, rfl, ho⟩, hl, hf⟩ := hr
    have k0 := hf.kept _ _ _ _ K.out.1 (by omega) (by decide)
    have k1 := hf.kept _ _ _ _ K.out.2.1 (by omega) (by decide)
    have k2 := hf.kept _ _ _ _ K.out.2.2 (by omega) (by decide)
    have HO : Hid (w1.ownsRow w.heap.size 58 7 v o.length (ncs o)) := ho
    have HL : Hid _ := hl
    have HB : Hid (Below w.heap.size w w1) := B0.out.trans hf.bel
    have HV : Hid _ := hv
    have K0 : Hid _ := k0
    have K1 : Hid _ := k1
    have K2 : Hid _ := k2
    have c0 : w1.cell? ⟨w.heap.size, 0, none⟩ = some (.slice none 0 0) := by rw [Lib.cell_of_heap k0]; rfl
    have c1 : w1.cell? ⟨w.heap.size + 1, 0, none⟩ = some (.int .i64 0) := by rw [Lib.cell_of_heap k1]; rfl
    have c2 : w1.cell? ⟨w.heap.size + 1 + 1, 0, none⟩ = some (.int .i64 0) := by rw [Lib.cell_of_heap k2]; rfl
    have f0 := Lib.frozen_of_heap k0 0
    have f1 := Lib.frozen_of_heap k1 0
    have f2 := Lib.frozen_of_heap k2 0
    obtain ⟨av, cv, hvs⟩ := own_slice ho
    subst hvs
    clear ho hl hf hv k0 k1 k2
    go_wp2_with fail
    refine leaves_cons (f := 44) (args := #[.pointer (some ⟨w.heap.size, 0, none⟩), .pointer (some ⟨w.heap.size + 1, 0, none⟩), .pointer (some ⟨w.heap.size + 1 + 1, 0, none⟩)]) (by simp) (by simp [go_sem]) ?_
    refine (catch_idle _ _ _ _).mono ?_
    rintro e u' w'' ⟨rfl, rfl, rfl⟩
    have HX : Hid _ := three_sets (u := Value.slice av o.length cv) (v := .int .i64 0) (t := .int .i64 0) c0 c1 c2 (by omega) (by omega) (by omega)
    have HB2 : Hid (Below w.heap.size w (((w1.setCell { block := w.heap.size, off := 0 } (Value.slice av o.length cv)).setCell { block := w.heap.size + 1, off := 0 } (Value.int IntKind.i64 0)).setCell { block := w.heap.size + 1 + 1, off := 0 } (Value.int IntKind.i64 0))) := ((HB.out.setCell (p := ⟨w.heap.size, 0, none⟩) (Nat.le_refl _) _).setCell (p := ⟨w.heap.size + 1, 0, none⟩) (by show w.heap.size ≤ w.heap.size + 1; omega) _).setCell (p := ⟨w.heap.size + 1 + 1, 0, none⟩) (by show w.heap.size ≤ w.heap.size + 1 + 1; omega) _
    have HO2 : Hid ((((w1.setCell { block := w.heap.size, off := 0 } (Value.slice av o.length cv)).setCell { block := w.heap.size + 1, off := 0 } (Value.int IntKind.i64 0)).setCell { block := w.heap.size + 1 + 1, off := 0 } (Value.int IntKind.i64 0)).ownsRow w.heap.size 58 7 (Value.slice av o.length cv) o.length (ncs o)) := by
      have q1 := own_ne HO.out K0.out (by decide)
      have q2 := own_ne HO.out K1.out (by decide)
      have q3 := own_ne HO.out K2.out (by decide)
      exact ownsRow_setCell_other (ownsRow_setCell_other (ownsRow_setCell_other HO.out q1 _) q2 _) q3 _
    obtain ⟨W2, hW2⟩ : ∃ W2, ((w1.setCell { block := w.heap.size, off := 0 } (Value.slice av o.length cv)).setCell { block := w.heap.size + 1, off := 0 } (Value.int IntKind.i64 0)).setCell { block := w.heap.size + 1 + 1, off := 0 } (Value.int IntKind.i64 0) = W2 := ⟨_, rfl⟩
    rw [hW2] at HX HB2 HO2 ⊢
    clear hW2 c0 c1 c2 f0 f1 f2
    obtain ⟨x0, x1, x2⟩ := HX.out
    simp [Leaves, settle, results, Try.results28, go_sem, x0, x1, x2]
    unfold ParRes
    rw [HV.out]
    exact ⟨⟨⟨_, rfl, HO2.out⟩, HL.out⟩, HB2.out⟩
  | error ce =>
    obtain ⟨c, p⟩ := ce
    rw [hv] at hr
    obtain ⟨rfl, hf⟩ := hr
    have k0 := hf.kept _ _ _ _ K.out.1 (by omega) (by decide)
    have k1 := hf.kept _ _ _ _ K.out.2.1 (by omega) (by decide)
    have k2 := hf.kept _ _ _ _ K.out.2.2 (by omega) (by decide)
    have HB : Hid (Below w.heap.size w w1) := B0.out.trans hf.bel
    have HV : Hid _ := hv
    have K0 : Hid _ := k0
    have K1 : Hid _ := k1
    have K2 : Hid _ := k2
    clear hf hv k0 k1 k2
    go_wp2_with fail
    refine leaves_cons (f := 44) (args := #[.pointer (some ⟨w.heap.size, 0, none⟩), .pointer (some ⟨w.heap.size + 1, 0, none⟩), .pointer (some ⟨w.heap.size + 1 + 1, 0, none⟩)]) (by simp) (by simp [go_sem]) ?_
    refine (catch_fault _ _ _ _ _ _ _ _ _ K0.out K1.out K2.out (by omega) (by omega) (by omega)).mono ?_
    rintro e u' w'' ⟨rfl, rfl, rfl⟩
    have c0 : (w1.alloc (.cells #[.int .i64 c, .int .i64 (p : Int)] 77)).drew.cell? ⟨w.heap.size, 0, none⟩ = some (.slice none 0 0) := cell_up _ (by rw [Lib.cell_of_heap K0.out]; rfl)
    have c1 : (w1.alloc (.cells #[.int .i64 c, .int .i64 (p : Int)] 77)).drew.cell? ⟨w.heap.size + 1, 0, none⟩ = some (.int .i64 0) := cell_up _ (by rw [Lib.cell_of_heap K1.out]; rfl)
    have c2 : (w1.alloc (.cells #[.int .i64 c, .int .i64 (p : Int)] 77)).drew.cell? ⟨w.heap.size + 1 + 1, 0, none⟩ = some (.int .i64 0) := cell_up _ (by rw [Lib.cell_of_heap K2.out]; rfl)
    have HX : Hid _ := three_sets (u := Value.slice none 0 0) (v := .int .i64 c) (t := .int .i64 (p : Int)) c0 c1 c2 (by omega) (by omega) (by omega)
    have HB1 : Below w.heap.size w (w1.alloc (.cells #[.int .i64 c, .int .i64 (p : Int)] 77)).drew := Below.drew (HB.out.alloc HB.out.size _)
    have HB2 : Hid (Below w.heap.size w ((((w1.alloc (.cells #[.int .i64 c, .int .i64 (p : Int)] 77)).drew.setCell { block := w.heap.size, off := 0 } (Value.slice none 0 0)).setCell { block := w.heap.size + 1, off := 0 } (Value.int IntKind.i64 c)).setCell { block := w.heap.size + 1 + 1, off := 0 } (Value.int IntKind.i64 (p : Int)))) := ((HB1.setCell (p := ⟨w.heap.size, 0, none⟩) (Nat.le_refl _) _).setCell (p := ⟨w.heap.size + 1, 0, none⟩) (by show w.heap.size ≤ w.heap.size + 1; omega) _).setCell (p := ⟨w.heap.size + 1 + 1, 0, none⟩) (by show w.heap.size ≤ w.heap.size + 1 + 1; omega) _
    obtain ⟨W2, hW2⟩ : ∃ W2, (((w1.alloc (.cells #[.int .i64 c, .int .i64 (p : Int)] 77)).drew.setCell { block := w.heap.size, off := 0 } (Value.slice none 0 0)).setCell { block := w.heap.size + 1, off := 0 } (Value.int IntKind.i64 c)).setCell { block := w.heap.size + 1 + 1, off := 0 } (Value.int IntKind.i64 (p : Int)) = W2 := ⟨_, rfl⟩
    rw [hW2] at HX HB2 ⊢
    clear hW2 c0 c1 c2 HB1
    obtain ⟨x0, x1, x2⟩ := HX.out
    simp [Leaves, settle, results, Try.results28, go_sem, x0, x1, x2]
    unfold ParRes
    rw [HV.out]
    exact ⟨rfl, HB2.out⟩
end Go.Proofs.Ytkjljnneghnpiaa.Rg
