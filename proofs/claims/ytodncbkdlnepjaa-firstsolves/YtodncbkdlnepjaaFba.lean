import Derived.Test.YtodncbkdlnepjaaFal
namespace Go.Proofs.Ytodncbkdlnepjaa
open Go.RowKit Go.Maps

theorem ret65 {fn : Func} {p : Tmp} (hf : fn.results = #[.cell p 65]) {W : World} {b : Nat} {S : Ss} (h : Sb W b S) (tmps : Array Value) (ht : tmps.getD p undef = .pointer (some ⟨b, 0, none⟩)) :
    (results fn tmps).run Try.prog W = .ok (.agg (sC S).toArray) W := by
  rw [results_cell1 hf, ht]
  have hr := run_loadVar_row (P := Try.prog) W b 65 65 (sC S).toArray (0, 0) _ h under65 rfl (size65 S)
  simp [asAddr, Result.andThen, hr]
theorem setRow_ne (W : World) (b k : Nat) (c : Array Value) (h : k ≠ b) : (W.setRow b c).heap[k]? = W.heap[k]? := by
  show (W.heap.modify b _)[k]? = _
  rw [Array.getElem?_modify, if_neg (fun e => h e.symm)]
theorem bel_setRow {B b : Nat} {W W' : World} (h : Below B W W') (hb : B ≤ b) (c : Array Value) : Below B W (W'.setRow b c) :=
  h.trans ⟨rfl, rfl, rfl, by simp [World.setRow], fun k hk => setRow_ne _ _ _ _ (by omega)⟩
/-- The first sets, up to a token. -/
def bars (i : Nat) : Ss := fun j => if j < i then (2 ^ j, false) else (0, false)
theorem bars_step (i : Nat) : up1 (bars i) i (2 ^ i) = bars (i + 1) := funext fun j => by
  unfold up1 bars
  by_cases h : j = i
  · subst h; rw [if_pos rfl, if_neg (by omega), if_pos (by omega)]
  · rw [if_neg h]
    by_cases h2 : j < i
    · rw [if_pos h2, if_pos (by omega)]
    · rw [if_neg h2, if_neg (by omega)]
theorem bars_zero : bars 0 = fun _ => (0, false) := funext fun j => by unfold bars; rw [if_neg (by omega)]

set_option maxRecDepth 100000 in
set_option maxHeartbeats 4000000 in
theorem bare_any {v0 v1 v2 : Value} {nT nS : Nat} {P : List Pd} (w : World) (h : Gm w v0 v1 v2 nT nS P) (hT : nT ≤ 64) :
    Calls Try.prog 42 #[.agg #[v0, v1, v2]] w fun e w' => e = .returned (.agg (sC (bar nT)).toArray) ∧ Below w.heap.size w w' := by
  have HG : Hid (Gm w v0 v1 v2 nT nS P) := h
  have HT : Hid _ := hT
  obtain ⟨a0, c0, a1, c1, a2, c2, rfl, rfl, rfl⟩ := h.form
  clear h hT
  obtain ⟨n, hn⟩ : ∃ n, P.length = n := ⟨_, rfl⟩
  rw [hn] at HG ⊢
  clear hn
  obtain ⟨W1, hW1⟩ : ∃ W1, W1 = w.alloc (.cells #[.slice a0 nT c0, .slice a1 nS c1, .slice a2 n c2] 26) := ⟨_, rfl⟩
  have HX : Hid (W1.heap[w.heap.size]? = some (.cells #[.slice a0 nT c0, .slice a1 nS c1, .slice a2 n c2] 26 (0, 0))) := by rw [hW1]; exact heap_new w _
  obtain ⟨W2, hW2⟩ : ∃ W2, W2 = W1.alloc (.cells (sC fun _ => (0, false)).toArray 65) := ⟨_, rfl⟩
  obtain ⟨W3, hW3⟩ : ∃ W3, W3 = W2.alloc (.cells (sC fun _ => (0, false)).toArray 65) := ⟨_, rfl⟩
  have B12 : Hid (Below W1.heap.size W1 W2) := by rw [hW2]; exact bel_up _ _
  have B23 : Hid (Below W2.heap.size W2 W3) := by rw [hW3]; exact bel_up _ _
  have B01 : Hid (Below w.heap.size w W1) := by rw [hW1]; exact bel_up _ _
  have HR : Hid (Sb W3 W1.heap.size (fun _ => (0, false))) := Sb.up (by show Sb W2 _ _; unfold Sb; rw [hW2]; exact heap_new _ _) B23.out
  have HO : Hid (Sb W3 W2.heap.size (bars 0)) := by rw [bars_zero]; show Sb _ _ _; unfold Sb; rw [hW3]; exact heap_new _ _
  have HXX : Hid (W3.heap[w.heap.size]? = some (.cells #[.slice a0 nT c0, .slice a1 nS c1, .slice a2 n c2] 26 (0, 0))) := by
    show W3.heap[_]? = _
    rw [(below_trans B12.out B23.out).block _ (lt_of_heap HX.out)]; exact HX.out
  have HSZ : Hid (w.heap.size < W1.heap.size ∧ W1.heap.size < W2.heap.size) := by
    show _ ∧ _
    rw [hW2, hW1]; simp
  go_enter Try.func42, Try.ntmps42
  go_upto_region 2 with (refine wpList_alloc_row rfl 65 rfl _ zero65 ?_; (try simp only [Act.put, List.setIfInBounds_toArray, List.set_cons_zero, List.set_cons_succ]))
  rw [← hW1, ← hW2, ← hW3]
  clear hW1 hW2 hW3
  obtain ⟨g0, hg0⟩ : ∃ g, w.heap.size = g := ⟨_, rfl⟩
  obtain ⟨r0, hr0⟩ : ∃ g, W1.heap.size = g := ⟨_, rfl⟩
  obtain ⟨o0, ho0⟩ : ∃ g, W2.heap.size = g := ⟨_, rfl⟩
  have HW3 : Hid (Below w.heap.size w W3) := below_trans B01.out (below_trans B12.out B23.out)
  have HGS : Hid (w.heap.size = g0) := hg0
  rw [hg0, hr0, ho0] at HSZ
  rw [hg0] at HXX ⊢
  rw [hr0] at HR ⊢
  rw [ho0] at HO ⊢
  clear hg0 hr0 ho0 B01 B12 B23 HX
  have p0 := rcell HXX.out 0 (.slice a0 nT c0) rfl
  go_upto_region 3 with fail
  clear p0
  go_loopg [8] nT (fun gm v8 wr => ∃ i : Nat, v8 = .int .i64 (i : Int) ∧ Hid (Below w.heap.size w wr) ∧ Hid (i ≤ nT ∧ gm = nT - i) ∧ Hid (Sb wr r0 (fun _ => (0, false))) ∧ Hid (Sb wr o0 (bars i)))
  case atStart => exact ⟨0, rfl, HW3, ⟨Nat.zero_le _, rfl⟩, HR, HO⟩
  case round =>
    clear HW3 HR HO
    obtain ⟨i, rfl, HBW, HI, HR, HO⟩ := hrel
    by_cases hi : i < nT
    · have e1 : decide ((i : Int) < (nT : Int)) = true := by rw [decide_eq_true_eq]; omega
      have e2 : decide (i < nT) = true := by rw [decide_eq_true_eq]; omega
      have e5 : (i : Int) < (nT : Int) := by omega
      have e6 : i < nT := hi
      have e7 : (i : Int) < 192 := by have := HT.out; omega
      have e8 : i < 192 := by have := HT.out; omega
      have HIL : Hid (i < nT) := hi
      have hwr := w64n i (by have := HT.out; omega)
      have k1 := (HO.out.get i e8).1
      have f1 := HO.out.fr (i * 2)
      have hsh : IntKind.u64.wrap (2 ^ i) = ((2 ^ i : Nat) : Int) := by
        rw [u64_wrap _ (by have : (0 : Int) < 2 ^ i := Int.pow_pos (by decide); omega) (by
          have h2 : (2 : Nat) ^ i < 2 ^ 64 := Nat.pow_lt_pow_right (by decide) (by have := HT.out; omega)
          have h3 : ((2 ^ i : Nat) : Int) < ((2 ^ 64 : Nat) : Int) := by exact_mod_cast h2
          simpa using h3)]
        simp
      have hmin : min i 64 = i := Nat.min_eq_left (by have := HT.out; omega)
      have HSH : Hid (IntKind.u64.wrap (2 ^ min i 64) = ((2 ^ i : Nat) : Int)) := by rw [hmin]; exact hsh
      clear hsh hmin
      go_wp2_with fail
      rw [HSH.out]
      have hSB := HO.out.set1 i (2 ^ i) e8
      rw [bars_step] at hSB
      have HS2 : Hid _ := hSB
      go_roundg (nT - (i + 1))
      case measure => have := HI.out; have := HIL.out; omega
      case rel => exact ⟨i + 1, by first | rfl | (rw [show (i : Int) + 1 = ((i + 1 : Nat) : Int) by omega]), HBW.out.setCell (p := ⟨o0, i * 2, none⟩) (by have := HSZ.out; have := HGS.out; show w.heap.size ≤ o0; omega) _, ⟨HIL.out, rfl⟩, (Below.heap_setCell wr ⟨o0, i * 2, none⟩ _ r0 (by have := HSZ.out; show r0 ≠ o0; omega)).trans HR.out, HS2⟩
    · have e1 : decide ((i : Int) < (nT : Int)) = false := by rw [decide_eq_false_iff_not]; omega
      have e2 : decide (i < nT) = false := by rw [decide_eq_false_iff_not]; omega
      have HIN : Hid (i = nT) := by have := HI.out; show i = nT; omega
      rw [show i = nT from HIN.out] at HO
      clear hi
      go_wp2_with (first | (refine wpList_load_row rfl 65 _ rfl o0 _ _ _ HO.out under65 rfl (size65 _) rfl ?_; (try simp only [Act.put, List.setIfInBounds_toArray, List.set_cons_zero, List.set_cons_succ])) | (refine wpList_store_row rfl 65 _ _ rfl r0 _ _ HR.out (size65 _) (by rw [List.size_toArray, List.size_toArray, sC_len, sC_len]) (one65 _) rfl rfl ?_; (try simp only [Act.put])))
      (try simp only [Exit.inBlock, Exit.then])
      have HRR : Hid (Sb (wr.setRow r0 (sC (bars nT)).toArray) r0 (bars nT)) := setRow_get HR.out
      refine bodyPost_ret (v := .agg (sC (bars nT)).toArray) (ret65 rfl HRR.out _ rfl) rfl ⟨rfl, bel_setRow HBW.out (by have := HSZ.out; have := HGS.out; omega) _⟩
end Go.Proofs.Ytodncbkdlnepjaa
