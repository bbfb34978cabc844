import Derived.Recover
import Derived.OneCell
import Derived.Test.YtkjcnnecdclgfaaDoorRgx
namespace Go.Proofs.YtkjcnnecdclgfaaDoor
open Go.RowKit
theorem ta56 (v : Value) (W : World) : (Instr.typeAssert (.iface 52 v) 20 52 true).run Tryd.prog W = .ok (.tuple #[v, .bool true]) W := by kernel_rfl
theorem eqn56 (v : Value) (W : World) : (binOp BinOp.eql 20 (.iface 52 v) .nilIface).run Tryd.prog W = .ok (.bool false) W := by kernel_rfl
set_option maxRecDepth 100000 in
set_option maxHeartbeats 2000000 in
theorem catch_fault (p q r : Nat) (code at' : Int) (vp vq vr : Value) (w : World) (hp : w.heap[p]? = some (.cells #[vp] 22 (0, 0))) (hq : w.heap[q]? = some (.cells #[vq] 38 (0, 0))) (hr : w.heap[r]? = some (.cells #[vr] 3 (0, 0))) (n4 : ¬ p = q) (n5 : ¬ p = r) (n6 : ¬ q = r) :
    CallsD Tryd.prog 24 #[.pointer (some ⟨p, 0, none⟩), .pointer (some ⟨q, 0, none⟩), .pointer (some ⟨r, 0, none⟩)] (.panicking [{ v := .iface 52 (.agg #[.int .i64 code, .int .i64 at']), recovered := false }]) w fun e u' w' =>
      e = .returned (.tuple #[]) ∧ u' = .panicking [{ v := .iface 52 (.agg #[.int .i64 code, .int .i64 at']), recovered := true }] ∧ w' = ((((w.alloc (.cells #[.int .i64 code, .int .i64 at'] 52)).drew.setCell ⟨p, 0, none⟩ (.slice none 0 0)).setCell ⟨q, 0, none⟩ (.int .i64 code)).setCell ⟨r, 0, none⟩ (.int .i64 at')) := by
  obtain ⟨wf, hwf⟩ : ∃ wf, ((((w.alloc (.cells #[.int .i64 code, .int .i64 at'] 52)).drew.setCell ⟨p, 0, none⟩ (.slice none 0 0)).setCell ⟨q, 0, none⟩ (.int .i64 code)).setCell ⟨r, 0, none⟩ (.int .i64 at')) = wf := ⟨_, rfl⟩
  rw [hwf]
  have HWF : Hid _ := hwf
  clear hwf
  have n1 : ¬ p = w.heap.size := by have := lt_of_heap hp; omega
  have n2 : ¬ q = w.heap.size := by have := lt_of_heap hq; omega
  have n3 : ¬ r = w.heap.size := by have := lt_of_heap hr; omega
  have up : ∀ (k : Nat) (vs : Array Value) (t : TypeId), w.heap[k]? = some (.cells vs t (0, 0)) → (w.alloc (.cells #[.int .i64 code, .int .i64 at'] 52)).heap[k]? = some (.cells vs t (0, 0)) := fun k vs t h => below_heap (bel_up _ _) h (lt_of_heap h)
  have hp0 := up _ _ _ hp
  have hq0 := up _ _ _ hq
  have hr0 := up _ _ _ hr
  have hp1 : (w.alloc (.cells #[.int .i64 code, .int .i64 at'] 52)).cell? ⟨p, 0, none⟩ = some vp := by rw [Lib.cell_of_heap hp0]; rfl
  have hq1 : (w.alloc (.cells #[.int .i64 code, .int .i64 at'] 52)).cell? ⟨q, 0, none⟩ = some vq := by rw [Lib.cell_of_heap hq0]; rfl
  have hr1 : (w.alloc (.cells #[.int .i64 code, .int .i64 at'] 52)).cell? ⟨r, 0, none⟩ = some vr := by rw [Lib.cell_of_heap hr0]; rfl
  have fp1 := Lib.frozen_of_heap hp0 0
  have fq1 := Lib.frozen_of_heap hq0 0
  have fr1 := Lib.frozen_of_heap hr0 0
  clear up hp hq hr hp0 hq0 hr0
  refine callsD_of_wpS Tryd.func24 rfl fun c₀ cs hu => ?_
  apply wpS_seq
  apply wpS_region
  simp [wpOpsS, go_sem, recoverD, hu, Tryd.ntmps24, Exit.thenS]
  rw [show (#[Value.pointer (some ⟨p, 0, none⟩), .pointer (some ⟨q, 0, none⟩), .pointer (some ⟨r, 0, none⟩)] ++ (Array.replicate 13 undef).setIfInBounds 3 (Value.iface 52 (Value.agg #[Value.int IntKind.i64 code, Value.int IntKind.i64 at']))) = #[Value.pointer (some ⟨p, 0, none⟩), .pointer (some ⟨q, 0, none⟩), .pointer (some ⟨r, 0, none⟩), undef, undef, undef, Value.iface 52 (Value.agg #[Value.int IntKind.i64 code, Value.int IntKind.i64 at']), undef, undef, undef, undef, undef, undef, undef, undef, undef] from rfl]
  have HU : Hid _ := hu
  clear hu
  have h1 := ta56 (Value.agg #[Value.int IntKind.i64 code, Value.int IntKind.i64 at'])
  have h2 := eqn56 (Value.agg #[Value.int IntKind.i64 code, Value.int IntKind.i64 at'])
  refine wpS_of_wp ?_
  go_wp2_with fail
  go_region
  go_wp2_with fail
  refine ⟨rfl, _, rfl, .tuple #[], by simp [results, Tryd.results24, go_sem], rfl, rfl, ?_⟩
  rw [← HWF.out]
  rfl
theorem catch_idle (p q r : Nat) (w : World) :
    CallsD Tryd.prog 24 #[.pointer (some ⟨p, 0, none⟩), .pointer (some ⟨q, 0, none⟩), .pointer (some ⟨r, 0, none⟩)] .returning w fun e u' w' =>
      e = .returned (.tuple #[]) ∧ u' = .returning ∧ w' = w := by
  refine callsD_of_wpS Tryd.func24 rfl fun c₀ cs hu => ?_
  apply wpS_seq
  apply wpS_region
  simp [wpOpsS, go_sem, recoverD, hu, Tryd.ntmps24, Exit.thenS]
  rw [show (#[Value.pointer (some ⟨p, 0, none⟩), .pointer (some ⟨q, 0, none⟩), .pointer (some ⟨r, 0, none⟩)] ++ (Array.replicate 13 undef).setIfInBounds 3 Value.nilIface) = #[Value.pointer (some ⟨p, 0, none⟩), .pointer (some ⟨q, 0, none⟩), .pointer (some ⟨r, 0, none⟩), undef, undef, undef, Value.nilIface, undef, undef, undef, undef, undef, undef, undef, undef, undef] from rfl]
  have HU : Hid _ := hu
  clear hu
  refine wpS_of_wp ?_
  go_wp2_with fail
  refine ⟨rfl, .returning, ?_, .tuple #[], by simp [results, Tryd.results24, go_sem], rfl, rfl, rfl⟩
  cases c₀
  have := HU.out
  simp_all
theorem al_new (w : World) (o : Obj) : (w.alloc o).heap[w.heap.size]? = some o := by unfold World.alloc; simp
theorem al_old (w : World) (o : Obj) (k : Nat) (x : Obj) (h : w.heap[k]? = some x) : (w.alloc o).heap[k]? = some x := by
  rw [Lib.alloc_old w o k (lt_of_heap h)]
  exact h
theorem ad_neb {a b : Nat} (h : a ≠ b) : (⟨a, 0, none⟩ : Addr) ≠ ⟨b, 0, none⟩ := fun e => h (by injection e)
theorem three_sets {W : World} {p q r : Nat} {vp vq vr u v t : Value} (hp : W.cell? ⟨p, 0, none⟩ = some vp) (hq : W.cell? ⟨q, 0, none⟩ = some vq) (hr : W.cell? ⟨r, 0, none⟩ = some vr) (n4 : p ≠ q) (n5 : p ≠ r) (n6 : q ≠ r) :
    (((W.setCell ⟨p, 0, none⟩ u).setCell ⟨q, 0, none⟩ v).setCell ⟨r, 0, none⟩ t).cell? ⟨p, 0, none⟩ = some u ∧ (((W.setCell ⟨p, 0, none⟩ u).setCell ⟨q, 0, none⟩ v).setCell ⟨r, 0, none⟩ t).cell? ⟨q, 0, none⟩ = some v ∧ (((W.setCell ⟨p, 0, none⟩ u).setCell ⟨q, 0, none⟩ v).setCell ⟨r, 0, none⟩ t).cell? ⟨r, 0, none⟩ = some t := by
  refine ⟨?_, ?_, ?_⟩
  · rw [World.cell?_setCell_other _ _ _ _ (ad_neb n5.symm), World.cell?_setCell_other _ _ _ _ (ad_neb n4.symm)]
    exact World.cell?_setCell_same _ _ _ hp
  · rw [World.cell?_setCell_other _ _ _ _ (ad_neb n6.symm)]
    exact World.cell?_setCell_same _ _ _ (by rw [World.cell?_setCell_other _ _ _ _ (ad_neb n4)]; exact hq)
  · exact World.cell?_setCell_same _ _ _ (by rw [World.cell?_setCell_other _ _ _ _ (ad_neb n6), World.cell?_setCell_other _ _ _ _ (ad_neb n5)]; exact hr)
/-- What Parse answers. -/
def ParRes (s : ByteArray) (w : World) (e : Ending) (w' : World) : Prop :=
  (match V s ⟨0, [], frG, []⟩ with
  | .ok o => (∃ v, e = .returned (.tuple #[v, .int .i64 0, .int .i64 0]) ∧ w'.ownsRow w.heap.size 34 7 v o.length (ncs o)) ∧ o.length ≤ 128
  | .error (c, p) => e = .returned (.tuple #[.slice none 0 0, .int .i64 c, .int .i64 (p : Int)])) ∧ Below w.heap.size w w'
set_option maxRecDepth 100000 in
set_option maxHeartbeats 4000000 in
theorem parse_any (s : ByteArray) (hs : s.size < 1000000000000000) (w : World) : Calls Tryd.prog 17 #[.string s] w fun e w' => ParRes s w e w' := by
  have hmf : ∀ (fn : Fn) (first cap : Array Value) (w : World), (Instr.makeFunc fn first cap).run Tryd.prog w = .ok (.func fn first cap) w := fun _ _ _ _ => rfl
  obtain ⟨W0, hW0⟩ : ∃ W0, ((((w.alloc (Obj.cells #[Value.slice none 0 0] 22)).alloc (Obj.cells #[Value.int IntKind.i64 0] 38)).alloc (Obj.cells #[Value.int IntKind.i64 0] 3)).alloc (Obj.cells #[Value.string s, Value.int IntKind.i64 0, Value.int IntKind.i64 0, Value.slice none 0 0, Value.bool false] 54)) = W0 := ⟨_, rfl⟩
  have S1 : (w.alloc (Obj.cells #[Value.slice none 0 0] 22)).heap.size = w.heap.size + 1 := by simp
  have S2 : ((w.alloc (Obj.cells #[Value.slice none 0 0] 22)).alloc (Obj.cells #[Value.int IntKind.i64 0] 38)).heap.size = w.heap.size + 1 + 1 := by simp
  have S3 : (((w.alloc (Obj.cells #[Value.slice none 0 0] 22)).alloc (Obj.cells #[Value.int IntKind.i64 0] 38)).alloc (Obj.cells #[Value.int IntKind.i64 0] 3)).heap.size = w.heap.size + 1 + 1 + 1 := by simp
  have k0 : W0.heap[w.heap.size]? = some (.cells #[Value.slice none 0 0] 22 (0, 0)) := by
    rw [← hW0]
    exact al_old _ _ _ _ (al_old _ _ _ _ (al_old _ _ _ _ (al_new _ _)))
  have k1 : W0.heap[w.heap.size + 1]? = some (.cells #[Value.int IntKind.i64 0] 38 (0, 0)) := by
    rw [← hW0, ← S1]
    exact al_old _ _ _ _ (al_old _ _ _ _ (al_new _ _))
  have k2 : W0.heap[w.heap.size + 1 + 1]? = some (.cells #[Value.int IntKind.i64 0] 3 (0, 0)) := by
    rw [← hW0, ← S2]
    exact al_old _ _ _ _ (al_new _ _)
  have k3 : W0.heap[w.heap.size + 1 + 1 + 1]? = some (.cells #[Value.string s, Value.int IntKind.i64 0, Value.int IntKind.i64 0, Value.slice none 0 0, Value.bool false] 54 (0, 0)) := by
    rw [← hW0, ← S3]
    exact al_new _ _
  have B0 : Hid (Below w.heap.size w W0) := by
    rw [← hW0]
    exact below_trans (below_trans (below_trans (bel_up _ _) (bel_up _ _)) (bel_up _ _)) (bel_up _ _)
  have P0 : Hid (IsP w.heap.size (w.heap.size + 1 + 1 + 1) s 0 0 [] false W0) := ⟨by omega, B0.out.size, _, k3, World.ownsRow_nil _ _ _ _⟩
  have HW0 : Hid _ := hW0
  have K : Hid _ := And.intro k0 (And.intro k1 k2)
  have HS : Hid _ := hs
  clear S1 S2 S3 k0 k1 k2 k3 hW0 hs
  go_enter_defers Tryd.func17, Tryd.ntmps17
  go_wp2_with fail
  rw [HW0.out]
  refine (whole_any w.heap.size (w.heap.size + 1 + 1 + 1) s HS.out W0 P0.out).mono ?_
  intro e w1 hr
  unfold WRes at hr
  cases hv : V s ⟨0, [], frG, []⟩ with
  | ok o =>
    rw [hv] at hr
    obtain ⟨⟨v, rfl, ho⟩, hl, hf⟩ := hr
    have k0 := hf.kept _ _ _ _ K.out.1 (by omega) (by decide)
    have k1 := hf.kept _ _ _ _ K.out.2.1 (by omega) (by decide)
    have k2 := hf.kept _ _ _ _ K.out.2.2 (by omega) (by decide)
    have HO : Hid (w1.ownsRow w.heap.size 34 7 v o.length (ncs o)) := ho
    have HL : Hid _ := hl
    have HB : Hid (Below w.heap.size w w1) := B0.out.trans hf.bel
    have HV : Hid _ := hv
    have K0 : Hid _ := k0
    have K1 : Hid _ := k1
    have K2 : Hid _ := k2
    have c0 : w1.cell? ⟨w.heap.size, 0, none⟩ = some (.slice none 0 0) := by rw [Lib.cell_of_heap k0]; rfl
    have c1 : w1.cell? ⟨w.heap.size + 1, 0, none⟩ = some (.int .i64 0) := by rw [Lib.cell_of_heap k1]; rfl
    have c2 : w1.cell? ⟨w.heap.size + 1 + 1, 0, none⟩ = some (.int .i64 0) := by rw [Lib.cell_of_heap k2]; rfl
    have f0 := Lib.frozen_of_heap k0 0
    have f1 := Lib.frozen_of_heap k1 0
    have f2 := Lib.frozen_of_heap k2 0
    obtain ⟨av, cv, hvs⟩ := own_slice ho
    subst hvs
    clear ho hl hf hv k0 k1 k2
    go_wp2_with fail
    refine leaves_cons (f := 24) (args := #[.pointer (some ⟨w.heap.size, 0, none⟩), .pointer (some ⟨w.heap.size + 1, 0, none⟩), .pointer (some ⟨w.heap.size + 1 + 1, 0, none⟩)]) (by simp) (by simp [go_sem]) ?_
    refine (catch_idle _ _ _ _).mono ?_
    rintro e u' w'' ⟨rfl, rfl, rfl⟩
    have HX : Hid _ := three_sets (u := Value.slice av o.length cv) (v := .int .i64 0) (t := .int .i64 0) c0 c1 c2 (by omega) (by omega) (by omega)
    have HB2 : Hid (Below w.heap.size w (((w1.setCell { block := w.heap.size, off := 0 } (Value.slice av o.length cv)).setCell { block := w.heap.size + 1, off := 0 } (Value.int IntKind.i64 0)).setCell { block := w.heap.size + 1 + 1, off := 0 } (Value.int IntKind.i64 0))) := ((HB.out.setCell (p := ⟨w.heap.size, 0, none⟩) (Nat.le_refl _) _).setCell (p := ⟨w.heap.size + 1, 0, none⟩) (by show w.heap.size ≤ w.heap.size + 1; omega) _).setCell (p := ⟨w.heap.size + 1 + 1, 0, none⟩) (by show w.heap.size ≤ w.heap.size + 1 + 1; omega) _
    have HO2 : Hid ((((w1.setCell { block := w.heap.size, off := 0 } (Value.slice av o.length cv)).setCell { block := w.heap.size + 1, off := 0 } (Value.int IntKind.i64 0)).setCell { block := w.heap.size + 1 + 1, off := 0 } (Value.int IntKind.i64 0)).ownsRow w.heap.size 34 7 (Value.slice av o.length cv) o.length (ncs o)) := by
      have q1 := own_ne HO.out K0.out (by decide)
      have q2 := own_ne HO.out K1.out (by decide)
      have q3 := own_ne HO.out K2.out (by decide)
      exact ownsRow_setCell_other (ownsRow_setCell_other (ownsRow_setCell_other HO.out q1 _) q2 _) q3 _
    obtain ⟨W2, hW2⟩ : ∃ W2, ((w1.setCell { block := w.heap.size, off := 0 } (Value.slice av o.length cv)).setCell { block := w.heap.size + 1, off := 0 } (Value.int IntKind.i64 0)).setCell { block := w.heap.size + 1 + 1, off := 0 } (Value.int IntKind.i64 0) = W2 := ⟨_, rfl⟩
    rw [hW2] at HX HB2 HO2 ⊢
    clear hW2 c0 c1 c2 f0 f1 f2
    obtain ⟨x0, x1, x2⟩ := HX.out
    simp [Leaves, settle, results, Tryd.results17, go_sem, x0, x1, x2]
    unfold ParRes
    rw [HV.out]
    exact ⟨⟨⟨_, rfl, HO2.out⟩, HL.out⟩, HB2.out⟩
  | error ce =>
    obtain ⟨c, p⟩ := ce
    rw [hv] at hr
    obtain ⟨rfl, hf⟩ := hr
    have k0 := hf.kept _ _ _ _ K.out.1 (by omega) (by decide)
    have k1 := hf.kept _ _ _ _ K.out.2.1 (by omega) (by decide)
    have k2 := hf.kept _ _ _ _ K.out.2.2 (by omega) (by decide)
    have HB : Hid (Below w.heap.size w w1) := B0.out.trans hf.bel
    have HV : Hid _ := hv
    have K0 : Hid _ := k0
    have K1 : Hid _ := k1
    have K2 : Hid _ := k2
    clear hf hv k0 k1 k2
    go_wp2_with fail
    refine leaves_cons (f := 24) (args := #[.pointer (some ⟨w.heap.size, 0, none⟩), .pointer (some ⟨w.heap.size + 1, 0, none⟩), .pointer (some ⟨w.heap.size + 1 + 1, 0, none⟩)]) (by simp) (by simp [go_sem]) ?_
    refine (catch_fault _ _ _ _ _ _ _ _ _ K0.out K1.out K2.out (by omega) (by omega) (by omega)).mono ?_
    rintro e u' w'' ⟨rfl, rfl, rfl⟩
    have c0 : (w1.alloc (.cells #[.int .i64 c, .int .i64 (p : Int)] 52)).drew.cell? ⟨w.heap.size, 0, none⟩ = some (.slice none 0 0) := cell_up _ (by rw [Lib.cell_of_heap K0.out]; rfl)
    have c1 : (w1.alloc (.cells #[.int .i64 c, .int .i64 (p : Int)] 52)).drew.cell? ⟨w.heap.size + 1, 0, none⟩ = some (.int .i64 0) := cell_up _ (by rw [Lib.cell_of_heap K1.out]; rfl)
    have c2 : (w1.alloc (.cells #[.int .i64 c, .int .i64 (p : Int)] 52)).drew.cell? ⟨w.heap.size + 1 + 1, 0, none⟩ = some (.int .i64 0) := cell_up _ (by rw [Lib.cell_of_heap K2.out]; rfl)
    have HX : Hid _ := three_sets (u := Value.slice none 0 0) (v := .int .i64 c) (t := .int .i64 (p : Int)) c0 c1 c2 (by omega) (by omega) (by omega)
    have HB1 : Below w.heap.size w (w1.alloc (.cells #[.int .i64 c, .int .i64 (p : Int)] 52)).drew := Below.drew (HB.out.alloc HB.out.size _)
    have HB2 : Hid (Below w.heap.size w ((((w1.alloc (.cells #[.int .i64 c, .int .i64 (p : Int)] 52)).drew.setCell { block := w.heap.size, off := 0 } (Value.slice none 0 0)).setCell { block := w.heap.size + 1, off := 0 } (Value.int IntKind.i64 c)).setCell { block := w.heap.size + 1 + 1, off := 0 } (Value.int IntKind.i64 (p : Int)))) := ((HB1.setCell (p := ⟨w.heap.size, 0, none⟩) (Nat.le_refl _) _).setCell (p := ⟨w.heap.size + 1, 0, none⟩) (by show w.heap.size ≤ w.heap.size + 1; omega) _).setCell (p := ⟨w.heap.size + 1 + 1, 0, none⟩) (by show w.heap.size ≤ w.heap.size + 1 + 1; omega) _
    obtain ⟨W2, hW2⟩ : ∃ W2, (((w1.alloc (.cells #[.int .i64 c, .int .i64 (p : Int)] 52)).drew.setCell { block := w.heap.size, off := 0 } (Value.slice none 0 0)).setCell { block := w.heap.size + 1, off := 0 } (Value.int IntKind.i64 c)).setCell { block := w.heap.size + 1 + 1, off := 0 } (Value.int IntKind.i64 (p : Int)) = W2 := ⟨_, rfl⟩
    rw [hW2] at HX HB2 ⊢
    clear hW2 c0 c1 c2 HB1
    obtain ⟨x0, x1, x2⟩ := HX.out
    simp [Leaves, settle, results, Tryd.results17, go_sem, x0, x1, x2]
    unfold ParRes
    rw [HV.out]
    exact ⟨rfl, HB2.out⟩
end Go.Proofs.YtkjcnnecdclgfaaDoor
