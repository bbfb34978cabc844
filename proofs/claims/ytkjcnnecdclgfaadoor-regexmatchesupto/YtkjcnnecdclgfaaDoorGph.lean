import Derived.Test.YtkjcnnecdclgfaaDoorGpg
import Derived.Test.YtkjcnnecdclgfaaDoorGzv
import Derived.Test.YtkjcnnecdclgfaaDoorGpr
import Derived.Laws.MakeOwn
import Derived.Deep.AppendLies
namespace Go.Proofs.YtkjcnnecdclgfaaDoor
open Go.RowKit Go.Shelf
attribute [local go_sem] Oper.semAt_some

/-- The marks that loops over functions leave. -/
def Marks (lo : Nat) (W : World) : Nat → List Deferred → Prop
  | _, [] => True
  | hi, d :: ds => ∃ D, d = { target := .collected D, args := #[] } ∧ lo ≤ D ∧ D < hi ∧ W.heap[D]? = some (.deferred (some [])) ∧ Marks lo W D ds
theorem Marks.same {lo : Nat} {W W' : World} : ∀ {hi hi' : Nat} {ds : List Deferred}, hi ≤ hi' → (∀ D, lo ≤ D → D < hi → W.heap[D]? = some (.deferred (some [])) → W'.heap[D]? = some (.deferred (some []))) → Marks lo W hi ds → Marks lo W' hi' ds
  | _, _, [], _, _, _ => trivial
  | hi, hi', d :: ds, hh, h, ⟨D, e, h1, h2, h3, h4⟩ => ⟨D, e, h1, by omega, h D h1 h2 h3, Marks.same (Nat.le_refl _) (fun D' k1 k2 => h D' k1 (by omega)) h4⟩
theorem Marks.grown {lo hi hi' : Nat} {W W' : World} {ds : List Deferred} {row : Option Nat} (h : Marks lo W hi ds) (hh : hi ≤ hi') (hg : W.grownBy W' row) (hr : ∀ r, row = some r → r < lo ∨ hi ≤ r ∨ ∃ o, W.heap[r]? = some o ∧ o.isCells = true) : Marks lo W' hi' ds :=
  h.same hh (fun D h1 h2 h3 => (hg.block D (lt_of_heap h3) (fun e => by
    rcases hr D e.symm with k | k | ⟨o, k1, k2⟩
    · omega
    · omega
    · rw [h3] at k1; cases k1; cases k2)).trans h3)
/-- What stays when the marks are taken away. -/
structure KeptM (lo : Nat) (W W' : World) : Prop where
  bel : Below lo W W'
  cells : ∀ (k : Nat) (o : Obj), W.heap[k]? = some o → o.isCells = true → W'.heap[k]? = some o
theorem KeptM.refl (lo : Nat) (W : World) : KeptM lo W W := ⟨Below.refl _ _, fun _ _ h _ => h⟩
theorem marks_leave {n : Nat} {fn : Func} {tmps : Array Value} {R : Ending → World → Prop} {lo : Nat} : ∀ (ds : List Deferred) (hi : Nat) (W : World), Marks lo W hi ds →
    (∀ W', KeptM lo W W' → LeavesInM Fence.wide n Tryd.prog fn tmps R [] .returning W') → LeavesInM Fence.wide n Tryd.prog fn tmps R ds .returning W
  | [], _, W, _, h => h W (KeptM.refl _ _)
  | d :: ds, hi, W, ⟨D, e, h1, h2, h3, h4⟩, h => by
    subst e
    refine ⟨by simp, .inl ⟨D, _, rfl, run_takeDeferred h3, ?_⟩⟩
    have hg := grownBy_putObj' W D (.deferred none)
    refine marks_leave ds D _ (h4.same (Nat.le_refl _) fun D' k1 k2 k3 => (hg.block D' (lt_of_heap k3) (fun e => by cases e; omega)).trans k3) (fun W' hk => h W' ?_)
    exact ⟨((Below.refl lo W).grown hg (by have := lt_of_heap h3; omega) (fun k e => by cases e; exact h1)).trans hk.bel, fun k o h5 h6 => hk.cells k o ((hg.block k (lt_of_heap h5) (fun e => by cases e; rw [h3] at h5; cases h5; cases h6)).trans h5) h6⟩

/-- What read keeps in memory all along. -/
structure Env (w : World) (re : List Nd) (s : ByteArray) (g o cap bw hp hr : Nat) (W : World) : Prop where
  c2 : W.cell? ⟨w.heap.size, 0, none⟩ = some (.slice (some ⟨g, o, none⟩) re.length cap)
  c3 : W.cell? ⟨w.heap.size + 1, 0, none⟩ = some (.string s)
  c6 : W.cell? ⟨hp, 0, none⟩ = some (.pointer (some ⟨bw, 0, none⟩))
  ways : Wm W bw (SV re)
  root : Bq W hr ((SV re).pt (re.length - 1))
  nds : NdsAt W g o re
  dbt : Dbt W
  bel : Below w.heap.size w W
theorem NdsAt.same {W W' : World} {g o : Nat} {re : List Nd} (h : NdsAt W g o re) (e : W'.heap[g]? = W.heap[g]?) : NdsAt W' g o re := by
  refine ⟨fun p n s e' => ?_⟩
  obtain ⟨c0, c1, c2, c3, c4, c5, c6⟩ := h.nd p n s e'
  have k : ∀ j v, W.cell? ⟨g, j, none⟩ = some v → W'.cell? ⟨g, j, none⟩ = some v := fun j v hv => by rw [World.cell?_of_block (a := ⟨g, j, none⟩) e]; exact hv
  exact ⟨k _ _ c0, k _ _ c1, k _ _ c2, k _ _ c3, k _ _ c4, k _ _ c5, k _ _ c6⟩
theorem Env.grown {w W W' : World} {re : List Nd} {s : ByteArray} {g o cap bw hp hr : Nat} {row : Option Nat} (h : Env w re s g o cap bw hp hr W) (hgw : g < w.heap.size) (hb : W.grownBy W' row)
    (hrow : ∀ r, row = some r → w.heap.size + 1 < r ∧ r ≠ bw ∧ r ≠ hp ∧ r ≠ hr) : Env w re s g o cap bw hp hr W' := by
  have hs := h.bel.size
  have st : ∀ k, k < W.heap.size → (∀ r, row = some r → r ≠ k) → W'.heap[k]? = W.heap[k]? := fun k hk hn => hb.block k hk (fun e => hn k e.symm rfl)
  have l1 := cell_lt h.c3
  have e2 := st w.heap.size (by dsimp only at l1; omega) (fun r e => by have := hrow r e; omega)
  have e3 := st (w.heap.size + 1) l1 (fun r e => by have := hrow r e; omega)
  have e6 := st hp (cell_lt h.c6) (fun r e => by have := hrow r e; omega)
  exact ⟨by rw [World.cell?_of_block (a := ⟨w.heap.size, 0, none⟩) e2]; exact h.c2, by rw [World.cell?_of_block (a := ⟨w.heap.size + 1, 0, none⟩) e3]; exact h.c3, by rw [World.cell?_of_block (a := ⟨hp, 0, none⟩) e6]; exact h.c6,
    h.ways.same (st bw h.ways.lt (fun r e => by have := hrow r e; omega)), h.root.same (st hr h.root.lt (fun r e => by have := hrow r e; omega)),
    h.nds.same (st g (by omega) (fun r e => by have := hrow r e; omega)), h.dbt.same (st 0 h.dbt.pos (fun r e => by have := hrow r e; omega)),
    h.bel.grown hb hs (fun k e => by have := hrow k e; omega)⟩
theorem Bw.grown {W W' : World} {b q : Nat} {m : Nat → Bool} {row : Option Nat} (h : Bw W b q m) (hb : W.grownBy W' row) (hrow : ∀ r, row = some r → r ≠ b) : Bw W' b q m := by
  have e := hb.block b h.p.lt (fun e => hrow b e.symm rfl)
  exact ⟨h.p.same e, fun i => by rw [World.frozen?_of_block (a := ⟨b, i, none⟩) e]; exact h.f i⟩

theorem cells_of_cell {W : World} {a : Addr} {v : Value} (h : W.cell? a = some v) : ∃ o, W.heap[a.block]? = some o ∧ o.isCells = true := by
  unfold World.cell? at h
  cases hb : W.heap[a.block]? with
  | none => rw [hb] at h; simp at h
  | some o =>
    refine ⟨o, rfl, ?_⟩
    rw [hb] at h
    cases o <;> first | rfl | (simp at h)
theorem Bw.keptM {W W' : World} {lo b q : Nat} {m : Nat → Bool} (h : Bw W b q m) (hk : KeptM lo W W') : Bw W' b q m := by
  obtain ⟨o, h1, h2⟩ := cells_of_cell h.p.c0
  have e : W'.heap[b]? = W.heap[b]? := (hk.cells b o h1 h2).trans h1.symm
  exact ⟨h.p.same e, fun i => by rw [World.frozen?_of_block (a := ⟨b, i, none⟩) e]; exact h.f i⟩
theorem Bw.both {W : World} {b : Nat} {n m : Nat → Bool} {x y : Int} (h : Bw W b 0 n) (e0 : x = ((wd m 0 : Nat) : Int)) (e1 : y = ((wd m 1 : Nat) : Int)) : Bw ((W.setCell ⟨b, 0, none⟩ (.int .u64 x)).setCell ⟨b, 1, none⟩ (.int .u64 y)) b 0 m := by
  refine ⟨⟨?_, ?_⟩, fun i => by rw [World.frozen?_setCell, World.frozen?_setCell]; exact h.f i⟩
  · rw [World.cell?_setCell_other _ _ _ _ (ad_ne b (by omega)), e0]; exact World.cell?_setCell_same' _ _ _ (by rw [h.p.c0]; rfl)
  · rw [e1]
    exact World.cell?_setCell_same' _ _ _ (by rw [World.cell?_setCell_other _ _ _ _ (ad_ne b (by omega))]; have := h.p.c1; simp only [Nat.zero_add] at this; rw [this]; rfl)
theorem Bw.zero2 {W : World} {b : Nat} {n : Nat → Bool} (h : Bw W b 0 n) : Bw ((W.setCell ⟨b, 0, none⟩ (.int .u64 0)).setCell ⟨b, 1, none⟩ (.int .u64 0)) b 0 (fun _ => false) :=
  h.both (by rw [wd_none]; rfl) (by rw [wd_none]; rfl)

theorem grown_of_bel {w W : World} (h : Below w.heap.size w W) : w.grownBy W none := ⟨h.os, h.tape, h.output, h.size, fun k hk _ => h.block k hk⟩
theorem Bw.eq {W : World} {b q : Nat} {m m' : Nat → Bool} (h : Bw W b q m) (e : m' = m) : Bw W b q m' := e ▸ h
theorem Bw.at {W : World} {b : Nat} {m : Nat → Bool} (h : Bw W b 0 m) (x : Nat) (hx : x < 128) : W.cell? ⟨b, x / 64, none⟩ = some (.int .u64 (wd m (x / 64) : Nat)) := by
  rcases (by omega : x / 64 = 0 ∨ x / 64 = 1) with e | e
  · rw [e]; exact h.p.c0
  · rw [e]; have := h.p.c1; rw [Nat.zero_add] at this; exact this
theorem Bw.or {W : World} {b : Nat} {m : Nat → Bool} (h : Bw W b 0 m) (x : Nat) (hx : x < 128) : Bw (W.setCell ⟨b, x / 64, none⟩ (.int .u64 (bits .or .u64 (wd m (x / 64) : Nat) (IntKind.u64.wrap (2 ^ (x % 64)))))) b 0 (fun k => m k || k == x) := by
  rw [u64_orw]
  refine ⟨?_, fun i => by rw [World.frozen?_setCell]; exact h.f i⟩
  rcases (by omega : x / 64 = 0 ∨ x / 64 = 1) with e | e
  · rw [e]
    exact Bp.put0 h.p rfl (by rw [← wd_or_other m x 1 (by omega)])
  · rw [e]
    have := Bp.put1 (x := ((wd (fun k => m k || k == x) 1 : Nat) : Int)) h.p rfl (by rw [← wd_or_other m x 0 (by omega)])
    rw [Nat.zero_add] at this
    exact this
theorem shl1 (r : Nat) (hr : r < 64) (W : World) : Sem.run Tryd.prog (Op.shift BinOp.shl IntKind.u64 1 IntKind.i64 (r : Int)) W = Result.ok (Value.int .u64 (IntKind.u64.wrap (2 ^ r))) W := by
  have h0 : ¬ ((r : Int) < 0) := by omega
  have h1 : ((r : Int)).toNat = r := by omega
  unfold Op.shift
  simp [go_sem, h0, h1, IntKind.bits]
  rw [Nat.min_eq_left (by omega)]
theorem range2 : List.range 2 = [0, 1] := by decide
theorem eq2u (d : Nat) (x0 x1 y0 y1 : Nat) (W : World) : (Op.equalIn (d + 2) 45 (.agg #[.int .u64 (x0 : Int), .int .u64 (x1 : Int)]) (.agg #[.int .u64 (y0 : Int), .int .u64 (y1 : Int)])).run Tryd.prog W = .ok (decide (x0 = y0 ∧ x1 = y1)) W := by
  obtain ⟨i0, hi, hz0, hz1, hz2⟩ := info_parts info30
  have p : ∀ (a b : Value) (j : Nat) (v : Value), #[a, b][j]? = some v → ∀ W : World, (part 30 #[a, b] (j * 1)).run Tryd.prog W = .ok v W := by
    intro a b j v hj W
    simp only [part, Sem.run_bind, Tryd.isAgg30, Result.andThen_ok, Nat.mul_one, hj]
    rfl
  rw [run_equalIn_array W (d + 1) _ _ Tryd.underlying45 hi, cells30, range2]
  have q0 := fun W => p (.int .u64 (x0 : Int)) (.int .u64 (x1 : Int)) 0 (.int .u64 (x0 : Int)) rfl W
  have q1 := fun W => p (.int .u64 (x0 : Int)) (.int .u64 (x1 : Int)) 1 (.int .u64 (x1 : Int)) rfl W
  have r0 := fun W => p (.int .u64 (y0 : Int)) (.int .u64 (y1 : Int)) 0 (.int .u64 (y0 : Int)) rfl W
  have r1 := fun W => p (.int .u64 (y0 : Int)) (.int .u64 (y1 : Int)) 1 (.int .u64 (y1 : Int)) rfl W
  have e0 : ∀ (a b : Nat) (W : World), (Op.equalIn (d + 1) 30 (.int .u64 (a : Int)) (.int .u64 (b : Int))).run Tryd.prog W = .ok (decide (a = b)) W := by
    intro a b W
    rw [run_equalIn_int W d 30 .u64 .u64 _ _ Tryd.underlying30]
    have h : ((a : Int) == (b : Int)) = decide (a = b) := by
      by_cases h : a = b
      · subst h; simp
      · have h1 : ((a : Int) == (b : Int)) = false := by rw [beq_eq_false_iff_ne]; omega
        rw [h1]; simp [h]
    rw [h]
  have g : decide (x0 = y0 ∧ x1 = y1) = (decide (x0 = y0) && decide (x1 = y1)) := by simp only [Bool.decide_and]
  rw [g]
  simp only [Op.eqItems, Sem.run_bind, q0, r0, e0, Result.andThen_ok]
  generalize decide (x0 = y0) = b0
  cases b0
  · simp
  simp only [Sem.run_bind, q1, r1, e0, Result.andThen_ok, Bool.not_true, Bool.false_eq_true, if_false]
  generalize decide (x1 = y1) = b1
  cases b1
  · simp
  · simp
/-- Is the set without a place? -/
def pbl (m : Nat → Bool) : Bool := decide (wd m 0 = 0 ∧ wd m 1 = 0)
theorem pbl_iff (m : Nat → Bool) : pbl m = true ↔ ∀ p, p < 128 → m p = false := by
  unfold pbl
  rw [decide_eq_true_eq]
  constructor
  · rintro ⟨h0, h1⟩ p hp
    have h0 : wd m 0 = wd (fun _ => false) 0 := h0.trans (wd_none 0).symm
    have h1 : wd m 1 = wd (fun _ => false) 1 := h1.trans (wd_none 1).symm
    rcases Nat.lt_or_ge p 64 with h | h
    · have := wd_inj m (fun _ => false) 0 p h h0
      simpa using this
    · have := wd_inj m (fun _ => false) 1 (p - 64) (by omega) h1
      rw [show 64 * 1 + (p - 64) = p by omega] at this
      exact this
  · intro h
    refine ⟨?_, ?_⟩
    · exact (wd_congr m (fun _ => false) 0 (fun j hj => h _ (by omega))).trans (wd_none 0)
    · exact (wd_congr m (fun _ => false) 1 (fun j hj => h _ (by omega))).trans (wd_none 1)
theorem pbl_any (m : Nat → Bool) : (!pbl m) = (List.range 128).any m := by
  cases h : pbl m
  · symm
    rw [Bool.not_false, List.any_eq_true]
    apply Classical.byContradiction
    intro hn
    have : pbl m = true := (pbl_iff m).2 (fun p hp => by
      cases h' : m p
      · rfl
      · exact absurd ⟨p, List.mem_range.2 hp, h'⟩ hn)
    rw [h] at this
    cases this
  · symm
    rw [Bool.not_true, List.any_eq_false]
    intro p hp
    rw [(pbl_iff m).1 h p (List.mem_range.1 hp)]
    simp
theorem pv_eql (m : Nat → Bool) (W : World) : (binOp .eql 45 (.agg #[.int .u64 (wd m 0 : Nat), .int .u64 (wd m 1 : Nat)]) (.agg #[.int .u64 0, .int .u64 0])).run Tryd.prog W = .ok (.bool (pbl m)) W := by
  have := eq2u 9998 (wd m 0) (wd m 1) 0 0 W
  rw [run_eql_struct]
  rw [show (.agg #[.int .u64 0, .int .u64 0] : Value) = .agg #[.int .u64 ((0 : Nat) : Int), .int .u64 ((0 : Nat) : Int)] by rfl, this]
  rfl
theorem pv_neq (m : Nat → Bool) (W : World) : (binOp .neq 45 (.agg #[.int .u64 (wd m 0 : Nat), .int .u64 (wd m 1 : Nat)]) (.agg #[.int .u64 0, .int .u64 0])).run Tryd.prog W = .ok (.bool (!pbl m)) W := by
  have := eq2u 9998 (wd m 0) (wd m 1) 0 0 W
  rw [run_neq_struct]
  rw [show (.agg #[.int .u64 0, .int .u64 0] : Value) = .agg #[.int .u64 ((0 : Nat) : Int), .int .u64 ((0 : Nat) : Int)] by rfl, this]
  rfl
theorem drop_at (s : ByteArray) (q : Nat) (h : q < s.size) : s.data.toList.drop q = s.get! q :: s.data.toList.drop (q + 1) := by
  have h' : q < s.data.toList.length := by simpa using h
  rw [List.drop_eq_getElem_cons h', get_bang s q h]
  rfl
theorem Q5.up {W : World} {b i : Nat} {X : Pt} (h : Q5 W b i X) (x : Obj) : Q5 (W.alloc x) b i X :=
  ⟨cell_up _ h.1, cell_up _ h.2.1, cell_up _ h.2.2.1, cell_up _ h.2.2.2.1, cell_up _ h.2.2.2.2⟩

/-- The frame of read in its loop. -/
def FrR (h hp hr : Nat) (wh : Bool) (z q : Nat) (ds : List Deferred) (a : Act) : Prop := ∃ u : Nat → Value, a = { tmps := #[u 0, u 1, .pointer (some ⟨h, 0, none⟩), .pointer (some ⟨h + 1, 0, none⟩), .bool wh, .pointer (some ⟨h + 1 + 1, 0, none⟩), .pointer (some ⟨hp, 0, none⟩), .pointer (some ⟨hr, 0, none⟩), u 8, u 9, u 10, u 11, u 12, u 13, u 14, u 15, u 16, u 17, u 18, u 19, u 20, u 21, u 22, u 23, u 24, u 25, u 26, u 27, u 28, u 29, u 30, .int .i64 (z : Int), .int .i64 (q : Int), u 33, u 34, u 35, u 36, u 37, u 38, u 39, u 40, u 41, u 42, u 43, u 44, u 45, u 46, u 47, u 48, u 49, u 50, u 51, u 52, u 53, u 54, u 55, u 56, u 57, u 58, u 59, u 60, u 61, u 62, u 63, u 64, u 65, u 66, u 67, u 68, u 69, u 70, u 71, u 72, u 73, u 74, u 75], defers := ds }
theorem FrR.mk (h hp hr : Nat) (wh : Bool) (z q : Nat) (ds : List Deferred) (v0 v1 v8 v9 v10 v11 v12 v13 v14 v15 v16 v17 v18 v19 v20 v21 v22 v23 v24 v25 v26 v27 v28 v29 v30 v33 v34 v35 v36 v37 v38 v39 v40 v41 v42 v43 v44 v45 v46 v47 v48 v49 v50 v51 v52 v53 v54 v55 v56 v57 v58 v59 v60 v61 v62 v63 v64 v65 v66 v67 v68 v69 v70 v71 v72 v73 v74 v75 : Value) : FrR h hp hr wh z q ds { tmps := #[v0, v1, .pointer (some ⟨h, 0, none⟩), .pointer (some ⟨h + 1, 0, none⟩), .bool wh, .pointer (some ⟨h + 1 + 1, 0, none⟩), .pointer (some ⟨hp, 0, none⟩), .pointer (some ⟨hr, 0, none⟩), v8, v9, v10, v11, v12, v13, v14, v15, v16, v17, v18, v19, v20, v21, v22, v23, v24, v25, v26, v27, v28, v29, v30, .int .i64 (z : Int), .int .i64 (q : Int), v33, v34, v35, v36, v37, v38, v39, v40, v41, v42, v43, v44, v45, v46, v47, v48, v49, v50, v51, v52, v53, v54, v55, v56, v57, v58, v59, v60, v61, v62, v63, v64, v65, v66, v67, v68, v69, v70, v71, v72, v73, v74, v75], defers := ds } :=
  ⟨fun | 0 => v0 | 1 => v1 | 8 => v8 | 9 => v9 | 10 => v10 | 11 => v11 | 12 => v12 | 13 => v13 | 14 => v14 | 15 => v15 | 16 => v16 | 17 => v17 | 18 => v18 | 19 => v19 | 20 => v20 | 21 => v21 | 22 => v22 | 23 => v23 | 24 => v24 | 25 => v25 | 26 => v26 | 27 => v27 | 28 => v28 | 29 => v29 | 30 => v30 | 33 => v33 | 34 => v34 | 35 => v35 | 36 => v36 | 37 => v37 | 38 => v38 | 39 => v39 | 40 => v40 | 41 => v41 | 42 => v42 | 43 => v43 | 44 => v44 | 45 => v45 | 46 => v46 | 47 => v47 | 48 => v48 | 49 => v49 | 50 => v50 | 51 => v51 | 52 => v52 | 53 => v53 | 54 => v54 | 55 => v55 | 56 => v56 | 57 => v57 | 58 => v58 | 59 => v59 | 60 => v60 | 61 => v61 | 62 => v62 | 63 => v63 | 64 => v64 | 65 => v65 | 66 => v66 | 67 => v67 | 68 => v68 | 69 => v69 | 70 => v70 | 71 => v71 | 72 => v72 | 73 => v73 | 74 => v74 | 75 => v75 | _ => undef, rfl⟩
/-- Ahead of a round of read. -/
structure RdR (w : World) (re : List Nd) (s : ByteArray) (g o cap bw hp hr n : Nat) (L : Nat → Bool) (q : Nat) (wh : Bool) (nx : Nat → Bool) (ds : List Deferred) (W : World) : Prop where
  env : Env w re s g o cap bw hp hr W
  bx : Bw W (w.heap.size + 1 + 1) 0 nx
  un : Un n nx
  st : RD re s.data.toList = rds re (SV re) L (s.data.toList.drop q) (wh, nx)
  ma : Marks (hr + 1) W W.heap.size ds
/-- In the round at byte q: what has been taken, what may stand behind. -/
structure RdX (w : World) (re : List Nd) (s : ByteArray) (g o cap bw hp hr N q : Nat) (nx : Nat → Bool) (ds : List Deferred) (T Fu : Nat → Bool) (W : World) : Prop where
  env : Env w re s g o cap bw hp hr W
  bx : Bw W (w.heap.size + 1 + 1) 0 nx
  c8 : W.cell? ⟨N, 0, none⟩ = some (.int .i64 (q : Int))
  tk : Bw W (N + 1) 0 T
  fu : Bw W (N + 1 + 1) 0 Fu
  ma : Marks (hr + 1) W N ds
section
variable {w : World} {re : List Nd} {s : ByteArray} {g o cap bw hp hr N q B : Nat} {nx T Fu T' : Nat → Bool} {ds : List Deferred} {W W' : World}
theorem cell_keep {a : Addr} {v : Value} {row : Option Nat} (h : W.cell? a = some v) (hg : W.grownBy W' row) (hr : ∀ r, row = some r → r ≠ a.block) : W'.cell? a = some v := by
  rw [World.cell?_of_block (a := a) (hg.block a.block (cell_lt h) (fun e => hr _ e.symm rfl))]; exact h
theorem RdX.far {row : Option Nat} (h : RdX w re s g o cap bw hp hr N q nx ds T Fu W) (hg : g < w.heap.size) (hs : w.heap.size + 3 ≤ bw ∧ bw < hp ∧ hp < hr ∧ hr < N) (hgr : W.grownBy W' row) (hr' : ∀ r, row = some r → N + 3 ≤ r) : RdX w re s g o cap bw hp hr N q nx ds T Fu W' :=
  ⟨h.env.grown hg hgr (fun r e => by have := hr' r e; omega), h.bx.grown hgr (fun r e => by have := hr' r e; omega), cell_keep h.c8 hgr (fun r e => by have := hr' r e; dsimp only; omega), h.tk.grown hgr (fun r e => by have := hr' r e; omega), h.fu.grown hgr (fun r e => by have := hr' r e; omega), h.ma.grown (Nat.le_refl _) hgr (fun r e => .inr (.inl (by have := hr' r e; omega)))⟩
theorem RdX.setT (h : RdX w re s g o cap bw hp hr N q nx ds T Fu W) (hg : g < w.heap.size) (hs : w.heap.size + 3 ≤ bw ∧ bw < hp ∧ hp < hr ∧ hr < N) (hgr : W.grownBy W' (some (N + 1))) (ht : Bw W' (N + 1) 0 T') : RdX w re s g o cap bw hp hr N q nx ds T' Fu W' :=
  ⟨h.env.grown hg hgr (fun r e => by cases e; omega), h.bx.grown hgr (fun r e => by cases e; omega), cell_keep h.c8 hgr (fun r e => by cases e; dsimp only; omega), ht, h.fu.grown hgr (fun r e => by cases e; omega), h.ma.grown (Nat.le_refl _) hgr (fun r e => .inr (.inl (by cases e; omega)))⟩
theorem RdX.setF (h : RdX w re s g o cap bw hp hr N q nx ds T Fu W) (hg : g < w.heap.size) (hs : w.heap.size + 3 ≤ bw ∧ bw < hp ∧ hp < hr ∧ hr < N) (hgr : W.grownBy W' (some (N + 1 + 1))) (ht : Bw W' (N + 1 + 1) 0 T') : RdX w re s g o cap bw hp hr N q nx ds T T' W' :=
  ⟨h.env.grown hg hgr (fun r e => by cases e; omega), h.bx.grown hgr (fun r e => by cases e; omega), cell_keep h.c8 hgr (fun r e => by cases e; dsimp only; omega), h.tk.grown hgr (fun r e => by cases e; omega), ht, h.ma.grown (Nat.le_refl _) hgr (fun r e => .inr (.inl (by cases e; omega)))⟩
def Tp {nx : Nat → Bool} (M : Nat → Bool) (pre : List {p : Nat // p ∈ els nx}) : Nat → Bool := fun p => decide (p ∈ pre.map Subtype.val) && M p
def Fp {nx : Nat → Bool} (bh : Nat → Nat → Bool) (M : Nat → Bool) (pre : List {p : Nat // p ∈ els nx}) : Nat → Bool := fun r => (pre.map Subtype.val).any fun p => M p && bh p r
theorem Tp_snoc (M : Nat → Bool) (pre : List {p : Nat // p ∈ els nx}) (x : {p : Nat // p ∈ els nx}) : Tp M (pre ++ [x]) = fun p => Tp M pre p || (decide (p = x.val) && M p) := by
  funext p
  unfold Tp
  rw [List.map_append, List.map_cons, List.map_nil]
  by_cases h1 : p ∈ pre.map Subtype.val
  · have h2 : p ∈ pre.map Subtype.val ++ [x.val] := List.mem_append.2 (.inl h1)
    rw [decide_eq_true h1, decide_eq_true h2]
    cases M p <;> simp
  · by_cases h3 : p = x.val
    · have h2 : p ∈ pre.map Subtype.val ++ [x.val] := List.mem_append.2 (.inr (by simp [h3]))
      rw [decide_eq_false h1, decide_eq_true h2, decide_eq_true h3]
      simp
    · have h2 : ¬ p ∈ pre.map Subtype.val ++ [x.val] := fun h => (List.mem_append.1 h).elim h1 (fun e => h3 (by simpa using e))
      rw [decide_eq_false h1, decide_eq_false h2, decide_eq_false h3]
      simp
theorem Fp_snoc (bh : Nat → Nat → Bool) (M : Nat → Bool) (pre : List {p : Nat // p ∈ els nx}) (x : {p : Nat // p ∈ els nx}) : Fp bh M (pre ++ [x]) = fun r => Fp bh M pre r || (M x.val && bh x.val r) := by
  funext r
  unfold Fp
  rw [List.map_append, List.any_append]
  simp
end

set_option maxRecDepth 100000 in
set_option maxHeartbeats 4000000 in
theorem read_any (re : List Nd) (s : ByteArray) (ao : Option Addr) (g o cap : Nat) (w : World) (hao : re ≠ [] → ao = some ⟨g, o, none⟩) (hn : NdsAt w g o re) (hg : re ≠ [] → g < w.heap.size) (hl : re.length < 1000000000000) (hD : Dbt w) (hsz : s.size < 1000000000000000) :
    Calls Tryd.prog 22 #[.slice ao re.length cap, .string s] w fun e w' => (∃ m : Nat → Bool, e = .returned (.tuple #[.bool (RD re s.data.toList).1, PV m]) ∧ ∀ p, p < 128 → m p = (RD re s.data.toList).2 p) ∧ Below w.heap.size w w' := by
  refine (callsIn_wide (n := 5)).1 ?_
  refine callsIn_of_wp_marks Tryd.func22 rfl trivial ?_ rfl
  refine wpIn_wide.2 ?_
  simp only [Tryd.ntmps22, List.size_toArray, List.length_cons, List.length_nil, Nat.reduceAdd, Nat.reduceSub, Array.replicate_succ, Array.replicate_zero, List.push_toArray, List.append_toArray, List.nil_append, List.cons_append]
  obtain ⟨n, hnn⟩ : ∃ n, re.length = n := ⟨_, rfl⟩
  have HAO : Hid (re ≠ [] → ao = some ⟨g, o, none⟩) := hao
  have HN : Hid (NdsAt w g o re) := hn
  have HG : Hid (re ≠ [] → g < w.heap.size) := hg
  have HL : Hid (re.length < 1000000000000) := hl
  have HD : Hid (Dbt w) := hD
  have HSZ : Hid (s.size < 1000000000000000) := hsz
  rw [hnn]
  have HNN : Hid (re.length = n) := hnn
  clear hao hn hg hl hD hsz hnn
  go_wp2_with fail
  obtain ⟨W1, hW1⟩ : ∃ W1, W1 = ((w.alloc (.cells #[.slice ao n cap] 22)).alloc (.cells #[.string s] 9)).alloc (.cells #[.int .u64 0, .int .u64 0] 45) := ⟨_, rfl⟩
  rw [← hW1]
  have HB1 : Hid (Below w.heap.size w W1) := by rw [hW1]; exact below_trans (below_trans (bel_up _ _) (bel_up _ _)) (bel_up _ _)
  have HC2 : Hid (W1.cell? ⟨w.heap.size, 0, none⟩ = some (.slice ao n cap)) := by rw [hW1]; exact cell_up _ (cell_up _ (by rw [World.cell?_alloc_at _ _ _ _ (by simp)]; rfl))
  have HC3 : Hid (W1.cell? ⟨w.heap.size + 1, 0, none⟩ = some (.string s)) := by
    rw [hW1]
    have h : ((w.alloc (.cells #[.slice ao n cap] 22)).alloc (.cells #[.string s] 9)).cell? ⟨(w.alloc (.cells #[.slice ao n cap] 22)).heap.size, 0, none⟩ = some (.string s) := by rw [World.cell?_alloc_at _ _ _ _ (by simp)]; rfl
    rw [World.size_alloc] at h
    exact cell_up _ h
  have HX1 : Hid (Bw W1 (w.heap.size + 1 + 1) 0 (fun _ => false)) := by
    rw [hW1]
    have h := Bw.new ((w.alloc (.cells #[.slice ao n cap] 22)).alloc (.cells #[.string s] 9)) (fun _ => false) 45
    simp only [wd_none] at h
    rw [World.size_alloc, World.size_alloc] at h
    exact h
  have HS1 : Hid (W1.heap.size = w.heap.size + 3) := by rw [hW1]; show _ = _; simp
  have HT1 : Hid (Dbt W1) := HD.out.up HB1.out
  clear hW1
  have hsh := shaped_any re ao g o cap W1 HAO.out ⟨fun p nd s' e => by
    have hne : re ≠ [] := by rw [e]; simp
    exact (HN.out.below HB1.out (HG.out hne)).nd p nd s' e⟩ (fun h => by have := HG.out h; have := HS1.out; omega) HL.out
  rw [HNN.out] at hsh
  refine hsh.mono ?_
  rintro e W2 ⟨rfl, hb2⟩
  have HX2 : Hid (Bw W2 (w.heap.size + 1 + 1) 0 (fun _ => false)) := HX1.out.mono hb2
  have HB2 : Hid (Below w.heap.size w W2) := below_trans HB1.out hb2
  have hc2 : W2.cell? ⟨w.heap.size, 0, none⟩ = some (.slice ao n cap) := below_cell hb2 HC2.out
  have HC3' : Hid (W2.cell? ⟨w.heap.size + 1, 0, none⟩ = some (.string s)) := below_cell hb2 HC3.out
  have HT2 : Hid (Dbt W2) := HT1.out.up hb2
  have HS2 : Hid (w.heap.size + 3 ≤ W2.heap.size) := by have := HS1.out; have := hb2.size; show _ ≤ _; omega
  clear hsh hb2
  cases hS : Sh re
  · obtain ⟨⟨x0, x1⟩, xf⟩ := HX2.out
    simp only [Nat.zero_add] at x1
    have xf0 := xf 0
    have xf1 := xf 1
    clear xf
    have hRD : RD re s.data.toList = (false, fun _ => false) := by unfold RD; rw [hS]; rfl
    have HRD : Hid (RD re s.data.toList = (false, fun _ => false)) := hRD
    clear hRD hS
    go_wp2_with fail
    have HX3 : Hid (Bw ((W2.setCell ⟨w.heap.size + 1 + 1, 0, none⟩ (.int .u64 0)).setCell ⟨w.heap.size + 1 + 1, 1, none⟩ (.int .u64 0)) (w.heap.size + 1 + 1) 0 (fun _ => false)) := HX2.out.zero2
    have HB3 : Hid (Below w.heap.size w ((W2.setCell ⟨w.heap.size + 1 + 1, 0, none⟩ (.int .u64 0)).setCell ⟨w.heap.size + 1 + 1, 1, none⟩ (.int .u64 0))) := (HB2.out.setCell (by dsimp only; omega) _).setCell (by dsimp only; omega) _
    refine marks_leave (lo := w.heap.size) [] 0 _ trivial (fun W' hk => ?_)
    have hx := HX3.out.keptM hk
    obtain ⟨⟨y0, y1⟩, -⟩ := hx
    simp only [Nat.zero_add] at y1
    refine ⟨.tuple #[.bool false, PV fun _ => false], ?_, ⟨fun _ => false, by rw [HRD.out], fun p _ => by rw [HRD.out]⟩, HB3.out.trans hk.bel⟩
    simp [results, Tryd.f22, go_sem, y0, y1]
  · obtain ⟨z, hz, hn0, hn128, -⟩ := Sh_parts hS
    rw [HNN.out] at hn0 hn128
    have hne : re ≠ [] := by intro e; have := HNN.out; rw [e] at this; simp at this; omega
    obtain rfl := HAO.out hne
    have HGW : Hid (g < w.heap.size) := HG.out hne
    have HRD : Hid (RD re s.data.toList = rds re (SV re) ((SV re).pt (n - 1)).ls s.data.toList (((SV re).pt (n - 1)).nl, ((SV re).pt (n - 1)).fs)) := by show _ = _; unfold RD; rw [if_pos hS, HNN.out]
    have HND2 : Hid (NdsAt W2 g o re) := HN.out.below HB2.out HGW.out
    have hsv := survey_any re z g o cap W2 hz HND2.out (by have := HGW.out; have := HS2.out; omega) (by rw [HNN.out]; exact hn128) HT2.out
    rw [HNN.out] at hsv
    have HSV : Hid _ := hsv
    have HC2' : Hid (W2.cell? ⟨w.heap.size, 0, none⟩ = some (.slice (some ⟨g, o, none⟩) n cap)) := hc2
    have HN128 : Hid (n ≤ 128) := hn128
    have HN0 : Hid (n ≠ 0) := hn0
    clear hsv hS hz hne hn0 hn128
    go_wp2_with fail
    refine Calls.mono HSV.out ?_
    rintro e W3 ⟨rfl, hw3, hb3⟩
    obtain ⟨bw, hbw⟩ : ∃ bw, W2.heap.size = bw := ⟨_, rfl⟩
    rw [hbw] at hw3 ⊢
    have HBW : Hid (W2.heap.size = bw) := hbw
    have HW3 : Hid (Wm W3 bw (SV re)) := hw3
    have HB3 : Hid (Below W2.heap.size W2 W3) := hb3
    clear hw3 hb3 hbw hc2
    go_upto_region 4 with fail
    obtain ⟨W4, hW4⟩ : ∃ W4, W4 = W3.alloc (.cells #[.pointer (some ⟨bw, 0, none⟩)] 67) := ⟨_, rfl⟩
    rw [← hW4]
    have HB4 : Hid (Below w.heap.size w W4) := by rw [hW4]; exact HB2.out.trans ((below_trans HB3.out (bel_up _ _)).mono HB2.out.size)
    have HC6 : Hid (W4.cell? ⟨W3.heap.size, 0, none⟩ = some (.pointer (some ⟨bw, 0, none⟩))) := by rw [hW4, World.cell?_alloc_at _ _ _ _ (by simp)]; rfl
    have HW4 : Hid (Wm W4 bw (SV re)) := by rw [hW4]; exact HW3.out.same ((bel_up _ _).block _ HW3.out.lt)
    have HB24 : Hid (Below W2.heap.size W2 W4) := by rw [hW4]; exact below_trans HB3.out (bel_up _ _)
    have HC2'' : Hid (W4.cell? ⟨w.heap.size, 0, none⟩ = some (.slice (some ⟨g, o, none⟩) n cap)) := below_cell HB24.out HC2'.out
    have HC3'' : Hid (W4.cell? ⟨w.heap.size + 1, 0, none⟩ = some (.string s)) := below_cell HB24.out HC3'.out
    have HX4 : Hid (Bw W4 (w.heap.size + 1 + 1) 0 (fun _ => false)) := HX2.out.mono HB24.out
    have HS4 : Hid (w.heap.size + 3 ≤ bw ∧ bw < W3.heap.size ∧ W3.heap.size < W4.heap.size) := ⟨by have h1 := HS2.out; have h2 := HBW.out; omega, HW3.out.lt, by rw [hW4, World.size_alloc]; omega⟩
    obtain ⟨hp, hhp⟩ : ∃ hp, W3.heap.size = hp := ⟨_, rfl⟩
    rw [hhp] at HC6 HS4 ⊢
    clear hW4 hhp HB24 HB3 HW3
    obtain ⟨c, hc⟩ : ∃ c : Nat, c + 1 = n := ⟨n - 1, by have := HN0.out; omega⟩
    have HC : Hid (c + 1 = n) := hc
    have hcI : (c : Int) < 128 := by have := HN128.out; omega
    have hsub : wrap64 ((n : Int) - 1) = (c : Int) := by unfold wrap64; have := HN128.out; omega
    have hsub2 : IntKind.i64.wrap ((n : Int) - 1) = (c : Int) := by rw [IntKind.wrap_i64]; have := HN128.out; omega
    have hc128 : c < 128 := by omega
    have HC128 : Hid (c < 128) := hc128
    obtain ⟨R, hR⟩ : ∃ R, (SV re).pt c = R := ⟨_, rfl⟩
    have HR : Hid ((SV re).pt c = R) := hR
    have HQ : Hid (Q5 W4 bw c R) := by rw [← hR]; exact HW4.out.cells5 c hc128
    clear hc hR
    refine wp_region_noPanic ?_
    refine wp_region_held_drew (S := fun W => W.cell? ⟨hp, 0, none⟩ = some (.pointer (some ⟨bw, 0, none⟩)) ∧ W.cell? ⟨w.heap.size, 0, none⟩ = some (.slice (some ⟨g, o, none⟩) n cap) ∧ Q5 W bw c R) (by kernel_rfl) ⟨HC6.out, HC2''.out, HQ.out⟩ (fun hHeld => ?_)
    have hh := hHeld
    obtain ⟨s1, s2, s3⟩ := hh
    refine wpAnyH_take (i := 0) (oi := { dst := _, op := _, type := _, pos := _, after := _, guard := _ }) (v := ?_) rfl (by kernel_rfl) (by kernel_rfl) (by kernel_rfl) (fun _ _ _ h => h) (Or.inl ⟨by rfl, ?_⟩) (by assumption) ?_
    rotate_left
    · intro W hSw
      (try dsimp only at hSw)
      obtain ⟨s1, s2, x0, x1, x2, x3, x4⟩ := hSw
      go_simp
      (try with_reducible rfl)
    try simp only [Act.put, List.setIfInBounds_toArray, List.set_cons_zero, List.set_cons_succ]
    refine wpAnyH_take (i := 1) (oi := { dst := _, op := _, type := _, pos := _, after := _, guard := _ }) (v := ?_) rfl (by kernel_rfl) (by kernel_rfl) (by kernel_rfl) (fun _ _ _ h => h) (Or.inl ⟨by rfl, ?_⟩) (by assumption) ?_
    rotate_left
    · intro W hSw
      (try dsimp only at hSw)
      obtain ⟨s1, s2, x0, x1, x2, x3, x4⟩ := hSw
      go_simp
      (try with_reducible rfl)
    try simp only [Act.put, List.setIfInBounds_toArray, List.set_cons_zero, List.set_cons_succ]
    refine wpAnyH_take (i := 2) (oi := { dst := _, op := _, type := _, pos := _, after := _, guard := _ }) (v := ?_) rfl (by kernel_rfl) (by kernel_rfl) (by kernel_rfl) (fun _ _ _ h => h) (Or.inl ⟨by rfl, ?_⟩) (by assumption) ?_
    rotate_left
    · intro W hSw
      (try dsimp only at hSw)
      obtain ⟨s1, s2, x0, x1, x2, x3, x4⟩ := hSw
      go_simp
      (try with_reducible rfl)
    try simp only [Act.put, List.setIfInBounds_toArray, List.set_cons_zero, List.set_cons_succ]
    refine wpAnyH_take (i := 3) (oi := { dst := _, op := _, type := _, pos := _, after := _, guard := _ }) (v := ?_) rfl (by kernel_rfl) (by kernel_rfl) (by kernel_rfl) (fun _ _ _ h => h) (Or.inl ⟨by rfl, ?_⟩) (by assumption) ?_
    rotate_left
    · intro W hSw
      (try dsimp only at hSw)
      obtain ⟨s1, s2, x0, x1, x2, x3, x4⟩ := hSw
      go_simp
      (try with_reducible rfl)
    try simp only [Act.put, List.setIfInBounds_toArray, List.set_cons_zero, List.set_cons_succ]
    refine wpAnyH_take (i := 4) (oi := { dst := _, op := _, type := _, pos := _, after := _, guard := _ }) (v := ?_) rfl (by kernel_rfl) (by kernel_rfl) (by kernel_rfl) (fun _ _ _ h => h) (Or.inl ⟨by rfl, ?_⟩) (by assumption) ?_
    rotate_left
    · intro W hSw
      (try dsimp only at hSw)
      obtain ⟨s1, s2, x0, x1, x2, x3, x4⟩ := hSw
      go_simp
      (try with_reducible rfl)
    try simp only [Act.put, List.setIfInBounds_toArray, List.set_cons_zero, List.set_cons_succ]
    refine wpAnyH_take (i := 5) (oi := { dst := _, op := _, type := _, pos := _, after := _, guard := _ }) (v := ?_) rfl (by kernel_rfl) (by kernel_rfl) (by kernel_rfl) (fun _ _ _ h => h) (Or.inl ⟨by rfl, ?_⟩) (by assumption) ?_
    rotate_left
    · intro W hSw
      (try dsimp only at hSw)
      obtain ⟨s1, s2, x0, x1, x2, x3, x4⟩ := hSw
      go_simp
      (try with_reducible rfl)
    try simp only [Act.put, List.setIfInBounds_toArray, List.set_cons_zero, List.set_cons_succ]
    refine wpAnyH_take (i := 6) (oi := { dst := _, op := _, type := _, pos := _, after := _, guard := _ }) (v := ?_) rfl (by kernel_rfl) (by kernel_rfl) (by kernel_rfl) (fun _ _ _ h => h) (Or.inl ⟨by rfl, ?_⟩) (by assumption) ?_
    rotate_left
    · intro W hSw
      (try dsimp only at hSw)
      obtain ⟨s1, s2, x0, x1, x2, x3, x4⟩ := hSw
      go_simp
      (try with_reducible rfl)
    try simp only [Act.put, List.setIfInBounds_toArray, List.set_cons_zero, List.set_cons_succ]
    refine wpAnyH_take (i := 7) (oi := { dst := _, op := _, type := _, pos := _, after := _, guard := _ }) (v := ?_) rfl (by kernel_rfl) (by kernel_rfl) (by kernel_rfl) (fun _ _ _ h => h) (Or.inl ⟨by rfl, ?_⟩) (by assumption) ?_
    rotate_left
    · intro W hSw
      (try dsimp only at hSw)
      obtain ⟨s1, s2, x0, x1, x2, x3, x4⟩ := hSw
      go_simp
      (try with_reducible rfl)
    try simp only [Act.put, List.setIfInBounds_toArray, List.set_cons_zero, List.set_cons_succ]
    refine wpAnyH_ready (rs := [8]) (by kernel_rfl) (by simp) ?_
    refine AllReadyH.cons (o := { dst := _, op := _, type := _, pos := _, after := _, guard := _ }) rfl (fun K hK => ?_) AllReadyH.nil
    go_simp
    refine hK.out _ _ ?_ (fun hHeld => ?_)
    · first | exact trivial | (exact ⟨cell_up _ hHeld.1, cell_up _ hHeld.2.1, Q5.up hHeld.2.2 _⟩)
    clear hK K
    try simp only [Act.put, List.setIfInBounds_toArray, List.set_cons_zero, List.set_cons_succ]
    refine wpAnyH_ready (rs := [9]) (by kernel_rfl) (by simp) ?_
    refine AllReadyH.cons (o := { dst := _, op := _, type := _, pos := _, after := _, guard := _ }) rfl (fun K hK => ?_) AllReadyH.nil
    go_simp
    refine hK.out _ _ ?_ (fun hHeld => ?_)
    · first | exact trivial | (exact ⟨cell_up _ s1, cell_up _ s2, Q5.up s3 _⟩)
    clear hK K
    try simp only [Act.put, List.setIfInBounds_toArray, List.set_cons_zero, List.set_cons_succ]
    refine wpAnyH_done (by kernel_rfl) ?_ _
    refine NoPanic.normal ?_
    clear s1 s2 s3 hHeld
    go_upto_region 5 with fail
    obtain ⟨W5, hW5⟩ : ∃ W5, W5 = (W4.alloc (.cells #[.bool R.nl, .int .u64 (wd R.fs 0 : Nat), .int .u64 (wd R.fs 1 : Nat), .int .u64 (wd R.ls 0 : Nat), .int .u64 (wd R.ls 1 : Nat)] 70)).drew := ⟨_, rfl⟩
    rw [← hW5]
    have hB45 : Below W4.heap.size W4 W5 := by rw [hW5]; exact Below.drew (bel_up _ _)
    obtain ⟨hr, hhr⟩ : ∃ hr, W4.heap.size = hr := ⟨_, rfl⟩
    have HR5 : Hid (Bq W5 hr R) := by rw [hW5, ← hhr]; exact (Bq.new W4 R 70).same rfl
    have HX5 : Hid (Bw W5 (w.heap.size + 1 + 1) 0 (fun _ => false)) := HX4.out.mono hB45
    have HE5 : Hid (Env w re s g o cap bw hp hr W5) := ⟨by rw [HNN.out]; exact below_cell hB45 HC2''.out, below_cell hB45 HC3''.out, below_cell hB45 HC6.out, HW4.out.same (hB45.block _ HW4.out.lt), by rw [HNN.out, show n - 1 = c by have := HC.out; omega, HR.out]; exact HR5.out, HN.out.below (HB4.out.trans (hB45.mono HB4.out.size)) HGW.out, HD.out.up (HB4.out.trans (hB45.mono HB4.out.size)), HB4.out.trans (hB45.mono HB4.out.size)⟩
    have HS5 : Hid (w.heap.size + 3 ≤ bw ∧ bw < hp ∧ hp < hr ∧ hr < W5.heap.size) := ⟨HS4.out.1, HS4.out.2.1, by rw [← hhr]; exact HS4.out.2.2, HR5.out.lt⟩
    rw [hhr]
    clear hW5 hB45 hhr HX4 HC6 HW4 HC2'' HC3'' HB4 HS4 HQ HC2' HC3' HB2 HX2 HS2 HBW HND2 HSV
    obtain ⟨r0, r1, r2, -, -, -⟩ := HR5.out.cells
    obtain ⟨⟨x0, x1⟩, xf⟩ := HX5.out
    simp only [Nat.zero_add] at x1
    have xf0 := xf 0
    have xf1 := xf 1
    clear xf
    go_region
    go_upto_region 6 with fail
    obtain ⟨W6, hW6⟩ : ∃ W6, W6 = ((W5.setCell ⟨w.heap.size + 1 + 1, 0, none⟩ (.int .u64 (wd R.fs 0 : Nat))).setCell ⟨w.heap.size + 1 + 1, 1, none⟩ (.int .u64 (wd R.fs 1 : Nat))).drew := ⟨_, rfl⟩
    rw [← hW6]
    have hg6 : W5.grownBy W6 (some (w.heap.size + 1 + 1)) := by rw [hW6]; exact grown_trans (grown_trans (grown_set _ _ _ _) (grown_set _ _ _ _)) (grown_drew _ _)
    have HE6 : Hid (Env w re s g o cap bw hp hr W6) := HE5.out.grown HGW.out hg6 (fun r e => by cases e; have := HS5.out; omega)
    have HX6 : Hid (Bw W6 (w.heap.size + 1 + 1) 0 R.fs) := by rw [hW6]; exact ⟨(HX5.out.both rfl rfl).p.same rfl, (HX5.out.both rfl rfl).f⟩
    have HS6 : Hid (w.heap.size + 3 ≤ bw ∧ bw < hp ∧ hp < hr ∧ hr < W6.heap.size) := ⟨HS5.out.1, HS5.out.2.1, HS5.out.2.2.1, by have := HS5.out; have := hg6.size; omega⟩
    clear hW6 hg6 HX5 HE5 HS5 r0 r1 r2 x0 x1 xf0 xf1
    have hc3 := HE6.out.c3
    rw [show n - 1 = c by have := HC.out; omega, HR.out] at HRD
    go_wp2_with fail
    clear hc3
    refine wp_loop (fun a' wr => ∃ (q : Nat) (ds : List Deferred) (wh : Bool) (nx : Nat → Bool), FrR w.heap.size hp hr wh s.size q ds a' ∧ q ≤ s.size ∧ Hid (RdR w re s g o cap bw hp hr n R.ls q wh nx ds wr)) (fun a' _ => s.size - (intOf (a'.tmps.getD 32 undef)).toNat) ?start ?round
    case start =>
      refine ⟨0, [], R.nl, R.fs, FrR.mk .., Nat.zero_le _, HE6.out, HX6.out, ?_, ?_, trivial⟩
      · rw [← HR.out]; exact HNN.out ▸ (wok_SV re).fs c
      · rw [HRD.out]; rfl
    case round =>
      rintro a' wr ⟨q, ds, wh, nx, ⟨u, rfl⟩, hq, HRR⟩
      rcases Nat.lt_or_ge q s.size with hlt | hge
      · have hqI : decide ((q : Int) < (s.size : Int)) = true := by rw [decide_eq_true_eq]; omega
        have hx := HRR.out.bx.p
        obtain ⟨x0, x1⟩ := hx
        simp only [Nat.zero_add] at x1
        go_upto_region 10 with fail
        have hgr : wr.grownBy ((((wr.alloc (.cells #[.int .i64 (q : Int)] 3)).alloc (.cells #[.int .u64 0, .int .u64 0] 45)).alloc (.cells #[.int .u64 0, .int .u64 0] 45))) none := grown_of_bel (below_trans (below_trans (bel_up _ _) (bel_up _ _)) (bel_up _ _))
        have h8 : ((((wr.alloc (.cells #[.int .i64 (q : Int)] 3)).alloc (.cells #[.int .u64 0, .int .u64 0] 45)).alloc (.cells #[.int .u64 0, .int .u64 0] 45))).cell? ⟨wr.heap.size, 0, none⟩ = some (.int .i64 (q : Int)) := cell_up _ (cell_up _ (by rw [World.cell?_alloc_at _ _ _ _ (by simp)]; rfl))
        have h9 : Bw ((((wr.alloc (.cells #[.int .i64 (q : Int)] 3)).alloc (.cells #[.int .u64 0, .int .u64 0] 45)).alloc (.cells #[.int .u64 0, .int .u64 0] 45))) (wr.heap.size + 1) 0 (fun _ => false) := by
          have h := Bw.new (wr.alloc (.cells #[.int .i64 (q : Int)] 3)) (fun _ => false) 45
          simp only [wd_none] at h
          rw [World.size_alloc] at h
          exact h.up _
        have h10 : Bw ((((wr.alloc (.cells #[.int .i64 (q : Int)] 3)).alloc (.cells #[.int .u64 0, .int .u64 0] 45)).alloc (.cells #[.int .u64 0, .int .u64 0] 45))) (wr.heap.size + 1 + 1) 0 (fun _ => false) := by
          have h := Bw.new ((wr.alloc (.cells #[.int .i64 (q : Int)] 3)).alloc (.cells #[.int .u64 0, .int .u64 0] 45)) (fun _ => false) 45
          simp only [wd_none] at h
          rw [World.size_alloc, World.size_alloc] at h
          exact h
        obtain ⟨WA, hWA⟩ : ∃ WA, WA = (((wr.alloc (.cells #[.int .i64 (q : Int)] 3)).alloc (.cells #[.int .u64 0, .int .u64 0] 45)).alloc (.cells #[.int .u64 0, .int .u64 0] 45)) := ⟨_, rfl⟩
        have hsA : WA.heap.size = wr.heap.size + 3 := by rw [hWA]; simp
        rw [← hWA] at hgr h8 h9 h10 ⊢
        clear hWA
        have HSZr : Hid (hr < wr.heap.size) := HRR.out.env.root.lt
        obtain ⟨M, hM⟩ : ∃ M : Nat → Bool, M = fun p => (re.getD p nd0).m (s.get! q).toNat := ⟨_, rfl⟩
        have HM : Hid (M = fun p => (re.getD p nd0).m (s.get! q).toNat) := hM
        have HIA : Hid (RdX w re s g o cap bw hp hr wr.heap.size q nx ds (Tp M ([] : List {p : Nat // p ∈ els nx})) (Fp (SV re).bh M ([] : List {p : Nat // p ∈ els nx})) WA) := ⟨HRR.out.env.grown HGW.out hgr (fun r e => by cases e), HRR.out.bx.grown hgr (fun r e => by cases e), h8, Bw.eq h9 (by funext p; simp [Tp]), Bw.eq h10 (by funext p; simp [Fp]), HRR.out.ma.grown (Nat.le_refl _) hgr (fun r e => by cases e)⟩
        clear hgr h8 h9 h10 hM x0 x1
        obtain ⟨x0, x1⟩ := HIA.out.bx.p
        simp only [Nat.zero_add] at x1
        have HSA : Hid (WA.heap.size = wr.heap.size + 3) := hsA
        clear hsA
        go_wp2_with fail
        refine (all_any nx _).mono ?_
        rintro e w1 ⟨rfl, rfl⟩
        go_wp2_with fail
        clear x0 x1
        have h6 := (Bw.new WA nx 45).p
        obtain ⟨W0, hW0⟩ : ∃ W0, W0 = WA.alloc (.cells #[.int .u64 (wd nx 0 : Nat), .int .u64 (wd nx 1 : Nat)] 45) := ⟨_, rfl⟩
        rw [← hW0] at h6 ⊢
        have HSS : Hid (w.heap.size + 3 ≤ bw ∧ bw < hp ∧ hp < hr ∧ hr < wr.heap.size) := ⟨HS6.out.1, HS6.out.2.1, HS6.out.2.2.1, HSZr.out⟩
        have hI0 : RdX w re s g o cap bw hp hr wr.heap.size q nx ds (Tp M ([] : List {p : Nat // p ∈ els nx})) (Fp (SV re).bh M ([] : List {p : Nat // p ∈ els nx})) W0 := by rw [hW0]; exact HIA.out.far HGW.out HSS.out (World.grownBy_alloc _ _ none) (fun r e => by cases e)
        have hs0 : W0.heap.size = wr.heap.size + 4 := by rw [hW0, World.size_alloc, HSA.out]
        rw [HSA.out] at h6 ⊢
        clear hW0
        refine (wpIn_wide (n := 5)).1 ?_
        refine wpIn_rangeFunc_ownG rfl (by decide) (gf := 47) (lb := #[.pointer (some ⟨wr.heap.size + 3, 0, none⟩)]) rfl trivial (enters_of Tryd.func47 (by kernel_rfl) rfl)
          (all_stops (n := 5 - 1) nx W0 h6 hI0.env.dbt) Kp0.trans (kp0_b (w := W0) (by omega)) (Below.refl _ _) (fun _ => rfl)
          (fun pre => RdX w re s g o cap bw hp hr wr.heap.size q nx ds (Tp M pre) (Fp (SV re).bh M pre))
          (fun _ _ _ => False)
          (fun pre W W' row h hgr hr' => h.far HGW.out HSS.out hgr (fun r e => by have := (hr' r e).1; omega))
          (fun _ _ _ _ _ h _ _ => h)
          hI0
          (fun x => { tmps := #[u 0, u 1, .pointer (some ⟨w.heap.size, 0, none⟩), .pointer (some ⟨w.heap.size + 1, 0, none⟩), .bool wh, .pointer (some ⟨w.heap.size + 1 + 1, 0, none⟩), .pointer (some ⟨hp, 0, none⟩), .pointer (some ⟨hr, 0, none⟩), .pointer (some ⟨wr.heap.size, 0, none⟩), .pointer (some ⟨wr.heap.size + 1, 0, none⟩), .pointer (some ⟨wr.heap.size + 1 + 1, 0, none⟩), .int .i64 (x.val : Int), u 12, u 13, u 14, u 15, u 16, u 17, u 18, u 19, u 20, u 21, u 22, u 23, u 24, u 25, u 26, u 27, u 28, u 29, u 30, .int .i64 (s.size : Int), .int .i64 (q : Int), .bool true, .int .i64 (q : Int), .agg #[.int .u64 (wd nx 0 : Nat), .int .u64 (wd nx 1 : Nat)], .func (.func 47) #[] #[.pointer (some ⟨wr.heap.size + 3, 0, none⟩)], .int .i64 (x.val : Int), u 38, u 39, u 40, u 41, u 42, u 43, u 44, u 45, u 46, u 47, u 48, u 49, u 50, u 51, u 52, u 53, u 54, u 55, u 56, u 57, u 58, u 59, u 60, u 61, u 62, u 63, u 64, u 65, u 66, u 67, u 68, u 69, u 70, u 71, u 72, u 73, u 74, u 75], defers := [] }) ?assign ?body ?done ?stop
        case assign =>
          intro l x W K hK
          gi_wp2
          exact hK
        case body =>
          rintro lp pre x W hI _
          have hx := (els_mem nx x.val).1 x.property
          have hxn : x.val < n := HRR.out.un _ hx.2
          obtain ⟨x, hx'⟩ := x
          dsimp only at hx hxn ⊢
          have HI : Hid (RdX w re s g o cap bw hp hr wr.heap.size q nx ds (Tp M pre) (Fp (SV re).bh M pre) W) := hI
          clear hI hI0 h6
          obtain ⟨pp, nd, ss, hre, hpl, hndx⟩ := split_at re x (by rw [HNN.out]; exact hxn)
          have hnd := HI.out.env.nds.nd pp nd ss hre
          rw [hpl] at hnd
          have hMx : M x = nd.m (s.get! q).toNat := by
            rw [HM.out]
            show (re.getD x nd0).m _ = _
            rw [List.getD_eq_getElem?_getD, List.getElem?_eq_getElem (by rw [HNN.out]; exact hxn), ← hndx]
            rfl
          have HMX : Hid (M x = nd.m (s.get! q).toNat) := hMx
          obtain ⟨op, m, ia, ib⟩ := nd
          obtain ⟨-, n1, n2, n3, n4, -, -⟩ := hnd
          dsimp only at n1 n2 n3 n4
          have hc2 := HI.out.env.c2
          rw [HNN.out] at hc2
          have hc3 := HI.out.env.c3
          have hc8 := HI.out.c8
          have hix := idx_fact s q hlt
          have hxI : (x : Int) < (n : Int) := by omega
          have hx128 : x < 128 := hx.1
          have hxI2 : (x : Int) < 128 := by omega
          clear hre hpl hndx hMx
          gi_wp2
          refine region_round (S := fun W' => W'.cell? ⟨w.heap.size, 0, none⟩ = some (.slice (some ⟨g, o, none⟩) n cap) ∧ W'.cell? ⟨w.heap.size + 1, 0, none⟩ = some (.string s) ∧ W'.cell? ⟨wr.heap.size, 0, none⟩ = some (.int .i64 (q : Int)) ∧ W'.cell? ⟨g, o + x * 7 + 1, none⟩ = some (.int .u64 (wd m 0 : Nat)) ∧ W'.cell? ⟨g, o + x * 7 + 2, none⟩ = some (.int .u64 (wd m 1 : Nat)) ∧ W'.cell? ⟨g, o + x * 7 + 3, none⟩ = some (.int .u64 (wd m 2 : Nat)) ∧ W'.cell? ⟨g, o + x * 7 + 4, none⟩ = some (.int .u64 (wd m 3 : Nat))) (by kernel_rfl) ?hd (by rintro ⟨_, _, h⟩; exact h) ⟨hc2, hc3, hc8, n1, n2, n3, n4⟩ (fun hHeld => ?_)
          case hd =>
            intro i o c h e
            rcases i with _ | _ | _ | _ | _ | _ | _ | _ | _ | i
            all_goals (first | (cases h; cases e) | (simp at h))
          refine wpAnyH_take (i := 0) (oi := { dst := _, op := _, type := _, pos := _, after := _, guard := _ }) (v := ?_) rfl (by kernel_rfl) (by kernel_rfl) (by kernel_rfl) (fun _ _ _ h => h) (Or.inl ⟨by rfl, ?_⟩) (by assumption) ?_
          rotate_left
          · intro W hSw
            (try dsimp only at hSw)
            obtain ⟨z1, z2, z3, z4, z5, z6, z7⟩ := hSw
            go_simp
            (try with_reducible rfl)
          try simp only [Act.put, List.setIfInBounds_toArray, List.set_cons_zero, List.set_cons_succ]
          refine wpAnyH_take (i := 1) (oi := { dst := _, op := _, type := _, pos := _, after := _, guard := _ }) (v := ?_) rfl (by kernel_rfl) (by kernel_rfl) (by kernel_rfl) (fun _ _ _ h => h) (Or.inl ⟨by rfl, ?_⟩) (by assumption) ?_
          rotate_left
          · intro W hSw
            (try dsimp only at hSw)
            obtain ⟨z1, z2, z3, z4, z5, z6, z7⟩ := hSw
            go_simp
            (try with_reducible rfl)
          try simp only [Act.put, List.setIfInBounds_toArray, List.set_cons_zero, List.set_cons_succ]
          refine wpAnyH_take (i := 2) (oi := { dst := _, op := _, type := _, pos := _, after := _, guard := _ }) (v := ?_) rfl (by kernel_rfl) (by kernel_rfl) (by kernel_rfl) (fun _ _ _ h => h) (Or.inl ⟨by rfl, ?_⟩) (by assumption) ?_
          rotate_left
          · intro W hSw
            (try dsimp only at hSw)
            obtain ⟨z1, z2, z3, z4, z5, z6, z7⟩ := hSw
            go_simp
            (try with_reducible rfl)
          try simp only [Act.put, List.setIfInBounds_toArray, List.set_cons_zero, List.set_cons_succ]
          refine wpAnyH_take (i := 3) (oi := { dst := _, op := _, type := _, pos := _, after := _, guard := _ }) (v := ?_) rfl (by kernel_rfl) (by kernel_rfl) (by kernel_rfl) (fun _ _ _ h => h) (Or.inl ⟨by rfl, ?_⟩) (by assumption) ?_
          rotate_left
          · intro W hSw
            (try dsimp only at hSw)
            obtain ⟨z1, z2, z3, z4, z5, z6, z7⟩ := hSw
            go_simp
            (try with_reducible rfl)
          try simp only [Act.put, List.setIfInBounds_toArray, List.set_cons_zero, List.set_cons_succ]
          refine wpAnyH_take (i := 4) (oi := { dst := _, op := _, type := _, pos := _, after := _, guard := _ }) (v := ?_) rfl (by kernel_rfl) (by kernel_rfl) (by kernel_rfl) (fun _ _ _ h => h) (Or.inl ⟨by rfl, ?_⟩) (by assumption) ?_
          rotate_left
          · intro W hSw
            (try dsimp only at hSw)
            obtain ⟨z1, z2, z3, z4, z5, z6, z7⟩ := hSw
            go_simp
            (try with_reducible rfl)
          try simp only [Act.put, List.setIfInBounds_toArray, List.set_cons_zero, List.set_cons_succ]
          refine wpAnyH_take (i := 5) (oi := { dst := _, op := _, type := _, pos := _, after := _, guard := _ }) (v := ?_) rfl (by kernel_rfl) (by kernel_rfl) (by kernel_rfl) (fun _ _ _ h => h) (Or.inl ⟨by rfl, ?_⟩) (by assumption) ?_
          rotate_left
          · intro W hSw
            (try dsimp only at hSw)
            obtain ⟨z1, z2, z3, z4, z5, z6, z7⟩ := hSw
            go_simp
            (try with_reducible rfl)
          try simp only [Act.put, List.setIfInBounds_toArray, List.set_cons_zero, List.set_cons_succ]
          refine wpAnyH_take (i := 6) (oi := { dst := _, op := _, type := _, pos := _, after := _, guard := _ }) (v := ?_) rfl (by kernel_rfl) (by kernel_rfl) (by kernel_rfl) (fun _ _ _ h => h) (Or.inl ⟨by rfl, ?_⟩) (by assumption) ?_
          rotate_left
          · intro W hSw
            (try dsimp only at hSw)
            obtain ⟨z1, z2, z3, z4, z5, z6, z7⟩ := hSw
            go_simp
            (try with_reducible rfl)
          try simp only [Act.put, List.setIfInBounds_toArray, List.set_cons_zero, List.set_cons_succ]
          refine wpAnyH_take (i := 7) (oi := { dst := _, op := _, type := _, pos := _, after := _, guard := _ }) (v := ?_) rfl (by kernel_rfl) (by kernel_rfl) (by kernel_rfl) (fun _ _ _ h => h) (Or.inl ⟨by rfl, ?_⟩) (by assumption) ?_
          rotate_left
          · intro W hSw
            (try dsimp only at hSw)
            obtain ⟨z1, z2, z3, z4, z5, z6, z7⟩ := hSw
            go_simp
            (try with_reducible rfl)
          try simp only [Act.put, List.setIfInBounds_toArray, List.set_cons_zero, List.set_cons_succ]
          refine wpAnyH_ready (rs := [8]) (by kernel_rfl) (by simp) ?_
          refine AllReadyH.cons (o := { dst := _, op := _, type := _, pos := _, after := _, guard := _ }) rfl (fun K hK => ?_) AllReadyH.nil
          go_simp
          refine (has_any m (s.get! q).toNat (UInt8.toNat_lt _) _).mono ?_
          rintro e WH ⟨rfl, hbH⟩
          refine hK.out _ _ ?_ (fun hHeld => ?_)
          · first | exact trivial | (exact ⟨below_cell hbH hHeld.1, below_cell hbH hHeld.2.1, below_cell hbH hHeld.2.2.1, below_cell hbH hHeld.2.2.2.1, below_cell hbH hHeld.2.2.2.2.1, below_cell hbH hHeld.2.2.2.2.2.1, below_cell hbH hHeld.2.2.2.2.2.2⟩)
          clear hK K
          try simp only [Act.put, List.setIfInBounds_toArray, List.set_cons_zero, List.set_cons_succ]
          refine wpAnyH_done (by kernel_rfl) ?_ _
          clear n1 n2 n3 n4 hc2 hc3 hc8 hix hHeld
          have hgH : W.grownBy WH none := grown_trans (grown_drew W none) (grown_of_bel hbH)
          have HIH : Hid (RdX w re s g o cap bw hp hr wr.heap.size q nx ds (Tp M pre) (Fp (SV re).bh M pre) WH) := HI.out.far HGW.out HSS.out hgH (fun r e => by cases e)
          have HGH : Hid (W.grownBy WH none) := hgH
          clear hbH hgH
          rw [← HMX.out]
          cases hMb : M x
          · gi_wp2
            refine ⟨KeepsFrom.of_grownBy HGH.out (fun j e => by cases e), HGH.out.block 0 HI.out.env.dbt.pos (by simp), ?_⟩
            have e1 : Tp M (pre ++ [⟨x, hx'⟩]) = Tp M pre := by
              rw [Tp_snoc]
              funext p
              by_cases hp' : p = x
              · subst hp'; simp [hMb]
              · simp [hp']
            have e2 : Fp (SV re).bh M (pre ++ [⟨x, hx'⟩]) = Fp (SV re).bh M pre := by
              rw [Fp_snoc]
              funext r
              simp [hMb]
            show RdX w re s g o cap bw hp hr wr.heap.size q nx ds (Tp M (pre ++ [⟨x, hx'⟩])) (Fp (SV re).bh M (pre ++ [⟨x, hx'⟩])) WH
            rw [e1, e2]
            exact HIH.out
          · obtain ⟨d, hd⟩ : ∃ d, x / 64 = d := ⟨_, rfl⟩
            obtain ⟨r, hr0⟩ : ∃ r, x % 64 = r := ⟨_, rfl⟩
            have HDD : Hid (x / 64 = d) := hd
            have HRR0 : Hid (x % 64 = r) := hr0
            have hcx : WH.cell? ⟨wr.heap.size + 1, d, none⟩ = some (.int .u64 (wd (Tp M pre) d : Nat)) := by rw [← hd]; exact HIH.out.tk.at x hx128
            have hfx : WH.frozen? ⟨wr.heap.size + 1, d, none⟩ = false := HIH.out.tk.f _
            have htd : (x : Int).tdiv 64 = (d : Int) := by rw [← hd, Int.tdiv_eq_ediv_of_nonneg (by omega)]; omega
            have htm : (x : Int).tmod 64 = (r : Int) := by rw [← hr0, Int.tmod_eq_emod_of_nonneg (by omega)]; omega
            have hdI : (d : Int) < 2 := by omega
            have hwd2 : IntKind.i64.wrap (d : Int) = (d : Int) := by rw [IntKind.wrap_i64]; omega
            have hwr2 : IntKind.i64.wrap (r : Int) = (r : Int) := by rw [IntKind.wrap_i64]; omega
            have hmin : min r 64 = r := Nat.min_eq_left (by omega)
            have hshl : ∀ W : World, Sem.run Tryd.prog (Op.shift BinOp.shl IntKind.u64 1 IntKind.i64 (r : Int)) W = Result.ok (Value.int .u64 (IntKind.u64.wrap (2 ^ r))) W := shl1 r (by omega)
            clear hd hr0
            gi_wp2
            refine region_round (S := fun _ => True) (by kernel_rfl) ?hd (by rintro ⟨_, _, h⟩; exact h) trivial (fun hHeld => ?_)
            case hd =>
              intro i o c h e
              rcases i with _ | _ | _ | _ | _ | _ | _ | _ | _ | _ | i
              all_goals (first | (cases h; cases e) | (simp at h))
            refine wpAnyH_take (i := 0) (oi := { dst := _, op := _, type := _, pos := _, after := _, guard := _ }) (v := ?_) rfl (by kernel_rfl) (by kernel_rfl) (by kernel_rfl) (fun _ _ _ h => h) (Or.inl ⟨by rfl, ?_⟩) (by assumption) ?_
            rotate_left
            · intro W hSw
              (try dsimp only at hSw)
              go_simp
              (try with_reducible rfl)
            try simp only [Act.put, List.setIfInBounds_toArray, List.set_cons_zero, List.set_cons_succ]
            refine wpAnyH_take (i := 1) (oi := { dst := _, op := _, type := _, pos := _, after := _, guard := _ }) (v := ?_) rfl (by kernel_rfl) (by kernel_rfl) (by kernel_rfl) (fun _ _ _ h => h) (Or.inl ⟨by rfl, ?_⟩) (by assumption) ?_
            rotate_left
            · intro W hSw
              (try dsimp only at hSw)
              go_simp
              (try with_reducible rfl)
            try simp only [Act.put, List.setIfInBounds_toArray, List.set_cons_zero, List.set_cons_succ]
            refine wpAnyH_take (i := 2) (oi := { dst := _, op := _, type := _, pos := _, after := _, guard := _ }) (v := ?_) rfl (by kernel_rfl) (by kernel_rfl) (by kernel_rfl) (fun _ _ _ h => h) (Or.inl ⟨by rfl, ?_⟩) (by assumption) ?_
            rotate_left
            · intro W hSw
              (try dsimp only at hSw)
              go_simp
              (try with_reducible rfl)
            try simp only [Act.put, List.setIfInBounds_toArray, List.set_cons_zero, List.set_cons_succ]
            refine wpAnyH_take (i := 4) (oi := { dst := _, op := _, type := _, pos := _, after := _, guard := _ }) (v := ?_) rfl (by kernel_rfl) (by kernel_rfl) (by kernel_rfl) (fun _ _ _ h => h) (Or.inl ⟨by rfl, ?_⟩) (by assumption) ?_
            rotate_left
            · intro W hSw
              (try dsimp only at hSw)
              go_simp
              (try with_reducible rfl)
            try simp only [Act.put, List.setIfInBounds_toArray, List.set_cons_zero, List.set_cons_succ]
            refine wpAnyH_take (i := 5) (oi := { dst := _, op := _, type := _, pos := _, after := _, guard := _ }) (v := ?_) rfl (by kernel_rfl) (by kernel_rfl) (by kernel_rfl) (fun _ _ _ h => h) (Or.inl ⟨by rfl, ?_⟩) (by assumption) ?_
            rotate_left
            · intro W hSw
              (try dsimp only at hSw)
              go_simp
              (try with_reducible rfl)
            try simp only [Act.put, List.setIfInBounds_toArray, List.set_cons_zero, List.set_cons_succ]
            refine wpAnyH_take (i := 6) (oi := { dst := _, op := _, type := _, pos := _, after := _, guard := _ }) (v := ?_) rfl (by kernel_rfl) (by kernel_rfl) (by kernel_rfl) (fun _ _ _ h => h) (Or.inl ⟨by rfl, ?_⟩) (by assumption) ?_
            rotate_left
            · intro W hSw
              (try dsimp only at hSw)
              go_simp
              (try with_reducible rfl)
            try simp only [Act.put, List.setIfInBounds_toArray, List.set_cons_zero, List.set_cons_succ]
            refine wpAnyH_ready (rs := [3]) (by kernel_rfl) (by simp) ?_
            refine AllReadyH.cons (o := { dst := _, op := _, type := _, pos := _, after := _, guard := _ }) rfl (fun K hK => ?_) AllReadyH.nil
            go_simp
            refine hK.out _ _ ?_ (fun hHeld => ?_)
            · first | exact trivial | (trivial)
            clear hK K
            try simp only [Act.put, List.setIfInBounds_toArray, List.set_cons_zero, List.set_cons_succ]
            refine wpAnyH_take (i := 7) (oi := { dst := _, op := _, type := _, pos := _, after := _, guard := _ }) (v := ?_) rfl (by kernel_rfl) (by kernel_rfl) (by kernel_rfl) (fun _ _ _ h => h) (Or.inl ⟨by rfl, ?_⟩) (by assumption) ?_
            rotate_left
            · intro W hSw
              (try dsimp only at hSw)
              go_simp
              (try with_reducible rfl)
            try simp only [Act.put, List.setIfInBounds_toArray, List.set_cons_zero, List.set_cons_succ]
            refine wpAnyH_take (i := 8) (oi := { dst := _, op := _, type := _, pos := _, after := _, guard := _ }) (v := ?_) rfl (by kernel_rfl) (by kernel_rfl) (by kernel_rfl) (fun _ _ _ h => h) (Or.inl ⟨by rfl, ?_⟩) (by assumption) ?_
            rotate_left
            · intro W hSw
              (try dsimp only at hSw)
              go_simp
              (try with_reducible rfl)
            try simp only [Act.put, List.setIfInBounds_toArray, List.set_cons_zero, List.set_cons_succ]
            refine wpAnyH_ready (rs := [9]) (by kernel_rfl) (by simp) ?_
            refine AllReadyH.cons (o := { dst := _, op := _, type := _, pos := _, after := _, guard := _ }) rfl (fun K hK => ?_) AllReadyH.nil
            go_simp
            refine hK.out _ _ ?_ (fun hHeld => ?_)
            · first | exact trivial | (trivial)
            clear hK K
            try simp only [Act.put, List.setIfInBounds_toArray, List.set_cons_zero, List.set_cons_succ]
            refine wpAnyH_done (by kernel_rfl) ?_ _
            have HT : Hid (RdX w re s g o cap bw hp hr wr.heap.size q nx ds (fun k => Tp M pre k || k == x) (Fp (SV re).bh M pre) ((WH.setCell ⟨wr.heap.size + 1, d, none⟩ (.int .u64 (bits .or .u64 (wd (Tp M pre) d : Nat) (IntKind.u64.wrap (2 ^ r))))).drew)) := by
              have h := HIH.out.tk.or x hx128
              rw [HDD.out, HRR0.out] at h
              exact HIH.out.setT HGW.out HSS.out (grown_trans (grown_set _ _ _ _) (grown_drew _ _)) ⟨h.p.same rfl, h.f⟩
            have HGT : Hid (WH.grownBy ((WH.setCell ⟨wr.heap.size + 1, d, none⟩ (.int .u64 (bits .or .u64 (wd (Tp M pre) d : Nat) (IntKind.u64.wrap (2 ^ r))))).drew) (some (wr.heap.size + 1))) := grown_trans (grown_set _ _ _ _) (grown_drew _ _)
            obtain ⟨WT, hWT⟩ : ∃ WT, WT = (WH.setCell ⟨wr.heap.size + 1, d, none⟩ (.int .u64 (bits .or .u64 (wd (Tp M pre) d : Nat) (IntKind.u64.wrap (2 ^ r))))).drew := ⟨_, rfl⟩
            rw [← hWT] at HT HGT ⊢
            clear hWT hcx hfx htd htm hdI hwd2 hwr2 hmin hshl HDD HRR0 hHeld
            have hc6 := HT.out.env.c6
            gi_wp2
            refine ⟨trivial, (callsIn_wide.2 (padd_any (wr.heap.size + 1 + 1) 0 bw (640 + x * 2) (Fp (SV re).bh M pre) ((SV re).bh x) WT HT.out.fu.p (HT.out.env.ways.bh x hx128) HT.out.fu.f (by have := HSS.out; omega))).mono ?_⟩
            rintro e WF ⟨⟨v, rfl⟩, hbF, huF⟩
            have hIF := HT.out.setF HGW.out HSS.out huF.gr ⟨hbF, fun i => (huF.f i).trans (HT.out.fu.f i)⟩
            gi_wp2
            have hk1 : KeepsFrom W0.heap.size W WH := KeepsFrom.of_grownBy HGH.out (fun j e => by cases e)
            have hk2 : KeepsFrom W0.heap.size WH WT := KeepsFrom.of_grownBy HGT.out (fun j e => by cases e; omega)
            have hk3 : KeepsFrom W0.heap.size WT WF := KeepsFrom.of_grownBy huF.gr (fun j e => by cases e; omega)
            have hp1 : Kp0 W WH := HGH.out.block 0 HI.out.env.dbt.pos (by simp)
            have hp2 : Kp0 WH WT := HGT.out.block 0 HIH.out.env.dbt.pos (by simp)
            have hp3 : Kp0 WT WF := huF.gr.block 0 HT.out.env.dbt.pos (by simp)
            refine ⟨(hk1.trans hk2).trans hk3, (hp1.trans hp2).trans hp3, ?_⟩
            have e1 : Tp M (pre ++ [⟨x, hx'⟩]) = fun k => Tp M pre k || k == x := by
              rw [Tp_snoc]
              funext p
              by_cases hp' : p = x
              · subst hp'; simp [hMb]
              · simp [hp']
            have e2 : Fp (SV re).bh M (pre ++ [⟨x, hx'⟩]) = fun k => Fp (SV re).bh M pre k || (SV re).bh x k := by
              rw [Fp_snoc]
              funext r
              simp [hMb]
            show RdX w re s g o cap bw hp hr wr.heap.size q nx ds (Tp M (pre ++ [⟨x, hx'⟩])) (Fp (SV re).bh M (pre ++ [⟨x, hx'⟩])) WF
            rw [e1, e2]
            exact hIF
        case done =>
          rintro D ys W hD0 hys hI hK
          have HI : Hid (RdX w re s g o cap bw hp hr wr.heap.size q nx ds (Tp M ys) (Fp (SV re).bh M ys) W) := hI
          have HYS : Hid (ys.map Subtype.val = els nx) := hys
          have HKD : Hid (W.heap[D]? = some (.deferred (some []))) := hK
          have HDN : Hid (wr.heap.size + 4 ≤ D) := by show _ ≤ _; omega
          clear hI hys hK hI0 h6 hD0
          obtain ⟨T, hT⟩ : ∃ T, Tp M ys = T := ⟨_, rfl⟩
          obtain ⟨FF, hFF⟩ : ∃ FF, Fp (SV re).bh M ys = FF := ⟨_, rfl⟩
          rw [hT, hFF] at HI
          have hTk : ∀ p, p < 128 → T p = tk re nx (s.get! q).toNat p := by
            intro p hp'
            rw [← hT]
            unfold Tp tk
            rw [HYS.out, HM.out]
            have h1 := els_mem nx p
            by_cases h2 : p ∈ els nx
            · rw [(h1.1 h2).2]; simp [h2]
            · have : nx p = false := by
                cases h3 : nx p
                · rfl
                · exact absurd (h1.2 ⟨hp', h3⟩) h2
              rw [this]; simp [h2]
          have hFu : FF = fu (SV re).bh (tk re nx (s.get! q).toNat) := by
            rw [← hFF]
            funext r
            unfold Fp fu
            rw [HYS.out]
            rw [Bool.eq_iff_iff, List.any_eq_true, List.any_eq_true]
            constructor
            · rintro ⟨p, h1, h2⟩
              have h3 := (els_mem nx p).1 h1
              refine ⟨p, List.mem_range.2 h3.1, ?_⟩
              rw [HM.out] at h2
              unfold tk
              rw [h3.2]
              simpa using h2
            · rintro ⟨p, h1, h2⟩
              simp only [tk, Bool.and_eq_true] at h2
              refine ⟨p, (els_mem nx p).2 ⟨List.mem_range.1 h1, h2.1.1⟩, ?_⟩
              rw [HM.out]
              simp only [h2.1.2, h2.2, Bool.and_self]
          have HTK : Hid (∀ p, p < 128 → T p = tk re nx (s.get! q).toNat p) := hTk
          have HFU : Hid (FF = fu (SV re).bh (tk re nx (s.get! q).toNat)) := hFu
          have HMA : Hid (Marks (hr + 1) W W.heap.size ({ target := .collected D, args := #[] } :: ds)) := ⟨D, rfl, by have := HSS.out; have := HDN.out; omega, lt_of_heap HKD.out, HKD.out, HI.out.ma.same (by have := HDN.out; omega) (fun _ _ _ h => h)⟩
          clear hTk hFu hT hFF
          obtain ⟨⟨t0, t1⟩, -⟩ := HI.out.tk
          simp only [Nat.zero_add] at t1
          have hst : RD re s.data.toList = rds re (SV re) R.ls (s.data.toList.drop (q + 1)) (mt (tk re nx (s.get! q).toNat) R.ls, fu (SV re).bh (tk re nx (s.get! q).toNat)) := by
            rw [HRR.out.st, drop_at s q hlt]; rfl
          have HST : Hid (RD re s.data.toList = rds re (SV re) R.ls (s.data.toList.drop (q + 1)) (mt (tk re nx (s.get! q).toNat) R.ls, fu (SV re).bh (tk re nx (s.get! q).toNat))) := hst
          clear hst
          have hpe := pv_eql T
          cases hpb : pbl T
          · rw [hpb] at hpe
            go_wp2_with fail
            clear hpe
            have hpn := pv_neq (fun k => T k && R.ls k)
            obtain ⟨b, hb⟩ : ∃ b, (!pbl (fun k => T k && R.ls k)) = b := ⟨_, rfl⟩
            rw [hb] at hpn
            have HBE : Hid ((!pbl (fun k => T k && R.ls k)) = b) := hb
            have hroot := HI.out.env.root
            rw [HNN.out, show n - 1 = c by have := HC.out; omega, HR.out] at hroot
            obtain ⟨-, -, -, r3, r4, -⟩ := hroot.cells
            obtain ⟨⟨f0, f1⟩, -⟩ := HI.out.fu
            simp only [Nat.zero_add] at f1
            have hst : ∀ WB : World, WB.grownBy ((WB.setCell ⟨w.heap.size + 1 + 1, 0, none⟩ (.int .u64 (wd FF 0 : Nat))).setCell ⟨w.heap.size + 1 + 1, 1, none⟩ (.int .u64 (wd FF 1 : Nat))) (some (w.heap.size + 1 + 1)) := fun WB => grown_trans (grown_set _ _ _ _) (grown_set _ _ _ _)
            have HLTr : Hid (w.heap.size + 1 + 1 < wr.heap.size) := by have := HSS.out; show _ < _; omega
            have hltr : w.heap.size + 1 + 1 < wr.heap.size := HLTr.out
            clear hb hroot hpb
            refine wp_region_noPanic ?_
            refine wp_region_held_drew (S := fun W' => W'.cell? ⟨wr.heap.size + 1, 0, none⟩ = some (.int .u64 (wd T 0 : Nat)) ∧ W'.cell? ⟨wr.heap.size + 1, 1, none⟩ = some (.int .u64 (wd T 1 : Nat)) ∧ W'.cell? ⟨hr, 3, none⟩ = some (.int .u64 (wd R.ls 0 : Nat)) ∧ W'.cell? ⟨hr, 4, none⟩ = some (.int .u64 (wd R.ls 1 : Nat)) ∧ W'.cell? ⟨wr.heap.size + 1 + 1, 0, none⟩ = some (.int .u64 (wd FF 0 : Nat)) ∧ W'.cell? ⟨wr.heap.size + 1 + 1, 1, none⟩ = some (.int .u64 (wd FF 1 : Nat))) (by kernel_rfl) ⟨t0, t1, r3, r4, f0, f1⟩ (fun hHeld => ?_)
            refine wpAnyH_take (i := 0) (oi := { dst := _, op := _, type := _, pos := _, after := _, guard := _ }) (v := ?_) rfl (by kernel_rfl) (by kernel_rfl) (by kernel_rfl) (fun _ _ _ h => h) (Or.inl ⟨by rfl, ?_⟩) (by assumption) ?_
            rotate_left
            · intro W hSw
              (try dsimp only at hSw)
              obtain ⟨z1, z2, z3, z4, z5, z6⟩ := hSw
              go_simp
              (try with_reducible rfl)
            try simp only [Act.put, List.setIfInBounds_toArray, List.set_cons_zero, List.set_cons_succ]
            refine wpAnyH_take (i := 1) (oi := { dst := _, op := _, type := _, pos := _, after := _, guard := _ }) (v := ?_) rfl (by kernel_rfl) (by kernel_rfl) (by kernel_rfl) (fun _ _ _ h => h) (Or.inl ⟨by rfl, ?_⟩) (by assumption) ?_
            rotate_left
            · intro W hSw
              (try dsimp only at hSw)
              obtain ⟨z1, z2, z3, z4, z5, z6⟩ := hSw
              go_simp
              (try with_reducible rfl)
            try simp only [Act.put, List.setIfInBounds_toArray, List.set_cons_zero, List.set_cons_succ]
            refine wpAnyH_take (i := 2) (oi := { dst := _, op := _, type := _, pos := _, after := _, guard := _ }) (v := ?_) rfl (by kernel_rfl) (by kernel_rfl) (by kernel_rfl) (fun _ _ _ h => h) (Or.inl ⟨by rfl, ?_⟩) (by assumption) ?_
            rotate_left
            · intro W hSw
              (try dsimp only at hSw)
              obtain ⟨z1, z2, z3, z4, z5, z6⟩ := hSw
              go_simp
              (try with_reducible rfl)
            try simp only [Act.put, List.setIfInBounds_toArray, List.set_cons_zero, List.set_cons_succ]
            refine wpAnyH_take (i := 4) (oi := { dst := _, op := _, type := _, pos := _, after := _, guard := _ }) (v := ?_) rfl (by kernel_rfl) (by kernel_rfl) (by kernel_rfl) (fun _ _ _ h => h) (Or.inl ⟨by rfl, ?_⟩) (by assumption) ?_
            rotate_left
            · intro W hSw
              (try dsimp only at hSw)
              obtain ⟨z1, z2, z3, z4, z5, z6⟩ := hSw
              go_simp
              (try with_reducible rfl)
            try simp only [Act.put, List.setIfInBounds_toArray, List.set_cons_zero, List.set_cons_succ]
            refine wpAnyH_take (i := 6) (oi := { dst := _, op := _, type := _, pos := _, after := _, guard := _ }) (v := ?_) rfl (by kernel_rfl) (by kernel_rfl) (by kernel_rfl) (fun _ _ _ h => h) (Or.inl ⟨by rfl, ?_⟩) (by assumption) ?_
            rotate_left
            · intro W hSw
              (try dsimp only at hSw)
              obtain ⟨z1, z2, z3, z4, z5, z6⟩ := hSw
              go_simp
              (try with_reducible rfl)
            try simp only [Act.put, List.setIfInBounds_toArray, List.set_cons_zero, List.set_cons_succ]
            refine wpAnyH_ready (rs := [3]) (by kernel_rfl) (by simp) ?_
            refine AllReadyH.cons (o := { dst := _, op := _, type := _, pos := _, after := _, guard := _ }) rfl (fun K hK => ?_) AllReadyH.nil
            go_simp
            refine (pboth_any T R.ls _).mono ?_
            rintro e WB ⟨rfl, hbB⟩
            refine hK.out _ _ ?_ (fun hHeld => ?_)
            · first | exact trivial | (exact ⟨below_cell hbB hHeld.1, below_cell hbB hHeld.2.1, below_cell hbB hHeld.2.2.1, below_cell hbB hHeld.2.2.2.1, below_cell hbB hHeld.2.2.2.2.1, below_cell hbB hHeld.2.2.2.2.2⟩)
            clear hK K
            try simp only [Act.put, List.setIfInBounds_toArray, List.set_cons_zero, List.set_cons_succ]
            have HBB : Hid (Below W.heap.size W WB) := (Below.drew (Below.refl _ W)).trans hbB
            obtain ⟨⟨b0, b1⟩, bf⟩ := HI.out.bx.mono HBB.out
            simp only [Nat.zero_add] at b1
            have bf0 := bf 0
            have bf1 := bf 1
            clear bf
            refine wpAnyH_take (i := 5) (oi := { dst := _, op := _, type := _, pos := _, after := _, guard := _ }) (v := ?_) rfl (by kernel_rfl) (by kernel_rfl) (by kernel_rfl) (fun _ _ _ h => h) (Or.inl ⟨by rfl, ?_⟩) (by assumption) ?_
            rotate_left
            · intro W hSw
              (try dsimp only at hSw)
              obtain ⟨z1, z2, z3, z4, z5, z6⟩ := hSw
              go_simp
              (try with_reducible rfl)
            try simp only [Act.put, List.setIfInBounds_toArray, List.set_cons_zero, List.set_cons_succ]
            refine wpAnyH_take (i := 7) (oi := { dst := _, op := _, type := _, pos := _, after := _, guard := _ }) (v := ?_) rfl (by kernel_rfl) (by kernel_rfl) (by kernel_rfl) (fun _ _ _ h => h) (Or.inl ⟨by rfl, ?_⟩) (by assumption) ?_
            rotate_left
            · intro W hSw
              (try dsimp only at hSw)
              obtain ⟨z1, z2, z3, z4, z5, z6⟩ := hSw
              go_simp
              (try with_reducible rfl)
            try simp only [Act.put, List.setIfInBounds_toArray, List.set_cons_zero, List.set_cons_succ]
            refine wpAnyH_ready (rs := [8]) (by kernel_rfl) (by simp) ?_
            refine AllReadyH.cons (o := { dst := _, op := _, type := _, pos := _, after := _, guard := _ }) rfl (fun K hK => ?_) AllReadyH.nil
            go_simp
            refine hK.out _ _ ?_ (fun hHeld => ?_)
            · first | exact trivial | (exact ⟨cell_keep hHeld.1 (hst WB) (by intro r e; cases e; dsimp only; omega), cell_keep hHeld.2.1 (hst WB) (by intro r e; cases e; dsimp only; omega), cell_keep hHeld.2.2.1 (hst WB) (by intro r e; cases e; dsimp only; have := HSS.out; omega), cell_keep hHeld.2.2.2.1 (hst WB) (by intro r e; cases e; dsimp only; have := HSS.out; omega), cell_keep hHeld.2.2.2.2.1 (hst WB) (by intro r e; cases e; dsimp only; have := HSS.out; omega), cell_keep hHeld.2.2.2.2.2 (hst WB) (by intro r e; cases e; dsimp only; have := HSS.out; omega)⟩)
            clear hK K
            try simp only [Act.put, List.setIfInBounds_toArray, List.set_cons_zero, List.set_cons_succ]
            refine wpAnyH_done (by kernel_rfl) ?_ _
            refine NoPanic.normal ?_
            have HXB : Hid (RdX w re s g o cap bw hp hr wr.heap.size q nx ds T FF WB) := HI.out.far HGW.out HSS.out (grown_of_bel HBB.out) (fun r e => by cases e)
            have hMB := HMA.out.grown (hi' := WB.heap.size) HBB.out.size (grown_of_bel HBB.out) (fun r e => by cases e)
            have HMB : Hid (Marks (hr + 1) ((WB.setCell ⟨w.heap.size + 1 + 1, 0, none⟩ (.int .u64 (wd FF 0 : Nat))).setCell ⟨w.heap.size + 1 + 1, 1, none⟩ (.int .u64 (wd FF 1 : Nat))) ((WB.setCell ⟨w.heap.size + 1 + 1, 0, none⟩ (.int .u64 (wd FF 0 : Nat))).setCell ⟨w.heap.size + 1 + 1, 1, none⟩ (.int .u64 (wd FF 1 : Nat))).heap.size ({ target := .collected D, args := #[] } :: ds)) := hMB.grown (hst WB).size (hst WB) (fun r e => .inl (by cases e; have := HSS.out; omega))
            have HR3 : Hid (RdR w re s g o cap bw hp hr n R.ls (q + 1) b FF ({ target := .collected D, args := #[] } :: ds) ((WB.setCell ⟨w.heap.size + 1 + 1, 0, none⟩ (.int .u64 (wd FF 0 : Nat))).setCell ⟨w.heap.size + 1 + 1, 1, none⟩ (.int .u64 (wd FF 1 : Nat)))) := by
              refine ⟨HXB.out.env.grown HGW.out (hst WB) (fun r e => by cases e; have := HSS.out; omega), HXB.out.bx.both rfl rfl, ?_, ?_, HMB.out⟩
              · rw [HFU.out, ← HNN.out]; exact un_fu (wok_SV re) _
              · have e : b = mt (tk re nx (s.get! q).toNat) R.ls := by
                  rw [← HBE.out, pbl_any]
                  unfold mt
                  rw [Bool.eq_iff_iff, List.any_eq_true, List.any_eq_true]
                  constructor
                  · rintro ⟨p, h1, h2⟩
                    exact ⟨p, h1, by rw [← HTK.out p (List.mem_range.1 h1)]; exact h2⟩
                  · rintro ⟨p, h1, h2⟩
                    exact ⟨p, h1, by show (T p && R.ls p) = true; rw [HTK.out p (List.mem_range.1 h1)]; exact h2⟩
                rw [e, HFU.out]; exact HST.out
            have HW1 : Hid (wrap64 ((q : Int) + 1) = ((q + 1 : Nat) : Int)) := w64 q (by have := HSZ.out; omega)
            clear hMB hst b0 b1 bf0 bf1 r3 r4 f0 f1 t0 t1 hpn hHeld
            go_wp2_with fail
            rw [HW1.out]
            exact ⟨⟨q + 1, { target := .collected D, args := #[] } :: ds, b, FF, FrR.mk .., hlt, HR3⟩, by show s.size - (intOf (.int .i64 ((q + 1 : Nat) : Int))).toNat < s.size - (intOf (.int .i64 (q : Int))).toNat; simp only [intOf, Int.toNat_natCast]; omega⟩
          · rw [hpb] at hpe
            obtain ⟨⟨b0, b1⟩, bf⟩ := HI.out.bx
            simp only [Nat.zero_add] at b1
            have bf0 := bf 0
            have bf1 := bf 1
            clear bf
            have hdead := dead_step (SV re) R.ls (tk re nx (s.get! q).toNat) (fun p hp' => by rw [← HTK.out p hp']; exact (pbl_iff T).1 hpb p hp')
            have HRD2 : Hid (RD re s.data.toList = (false, fun _ => false)) := by show _ = _; rw [HST.out, hdead.1, hdead.2]; exact rds_dead _ _ _ _
            clear hdead hpb
            go_wp2_with fail
            have hst : W.grownBy ((W.setCell ⟨w.heap.size + 1 + 1, 0, none⟩ (.int .u64 0)).setCell ⟨w.heap.size + 1 + 1, 1, none⟩ (.int .u64 0)) (some (w.heap.size + 1 + 1)) := grown_trans (grown_set _ _ _ _) (grown_set _ _ _ _)
            have hx2 := HI.out.bx.zero2
            have hbe := (HI.out.env.grown HGW.out hst (fun r e => by cases e; have := HSS.out; omega)).bel
            refine marks_leave (lo := hr + 1) _ _ _ (HMA.out.grown hst.size hst (fun r e => .inl (by cases e; have := HSS.out; omega))) (fun W' hk => ?_)
            have hx := hx2.keptM hk
            obtain ⟨⟨y0, y1⟩, -⟩ := hx
            simp only [Nat.zero_add] at y1
            refine ⟨.tuple #[.bool false, PV fun _ => false], ?_, ⟨fun _ => false, by rw [HRD2.out], fun p _ => by rw [HRD2.out]⟩, hbe.trans (hk.bel.mono (by have := HSS.out; omega))⟩
            simp [results, Tryd.f22, go_sem, y0, y1]
        case stop =>
          rintro D c pre W _ _ h _
          exact h.elim
      · obtain rfl : q = s.size := by omega
        have hqI : decide ((s.size : Int) < (s.size : Int)) = false := by rw [decide_eq_false_iff_not]; omega
        obtain ⟨⟨b0, b1⟩, bf⟩ := HRR.out.bx
        simp only [Nat.zero_add] at b1
        have bf0 := bf 0
        have bf1 := bf 1
        clear bf
        go_wp2_with fail
        go_region
        go_wp2_with fail
        have hst : wr.grownBy ((wr.setCell ⟨w.heap.size + 1 + 1, 0, none⟩ (.int .u64 (wd nx 0 : Nat))).setCell ⟨w.heap.size + 1 + 1, 1, none⟩ (.int .u64 (wd nx 1 : Nat))).drew (some (w.heap.size + 1 + 1)) := grown_trans (grown_trans (grown_set _ _ _ _) (grown_set _ _ _ _)) (grown_drew _ _)
        have hx1 := HRR.out.bx.both (m := nx) rfl rfl
        have hx2 : Bw ((wr.setCell ⟨w.heap.size + 1 + 1, 0, none⟩ (.int .u64 (wd nx 0 : Nat))).setCell ⟨w.heap.size + 1 + 1, 1, none⟩ (.int .u64 (wd nx 1 : Nat))).drew (w.heap.size + 1 + 1) 0 nx := ⟨hx1.p.same rfl, hx1.f⟩
        have hS6 := HS6.out
        have hbe := (HRR.out.env.grown HGW.out hst (fun r e => by cases e; omega)).bel
        refine marks_leave (lo := hr + 1) _ _ _ (HRR.out.ma.grown hst.size hst (fun r e => .inl (by cases e; omega))) (fun W' hk => ?_)
        have hx := hx2.keptM hk
        obtain ⟨⟨y0, y1⟩, -⟩ := hx
        simp only [Nat.zero_add] at y1
        have hRD : RD re s.data.toList = (wh, nx) := by rw [HRR.out.st, List.drop_eq_nil_of_le (by simp)]; rfl
        refine ⟨.tuple #[.bool wh, PV nx], ?_, ⟨nx, by rw [hRD], fun p _ => by rw [hRD]⟩, hbe.trans (hk.bel.mono (by omega))⟩
        simp [results, Tryd.f22, go_sem, y0, y1]
end Go.Proofs.YtkjcnnecdclgfaaDoor
