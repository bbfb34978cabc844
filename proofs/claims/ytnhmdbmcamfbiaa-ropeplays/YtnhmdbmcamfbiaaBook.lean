import Derived.Test.YtnhmdbmcamfbiaaAskb
import Derived.Test.YtnhmdbmcamfbiaaKeep
namespace Go.Proofs.Ytnhmdbmcamfbiaa
open Go.RowKit

/-- no branch lies there -/
def NoBranch (w : World) (c : Nat) : Prop := ∀ u0 u1, w.cell? ⟨c, 0, none⟩ = some u0 → w.cell? ⟨c, 1, none⟩ = some u1 → (∃ t x, u0 = Value.iface t x) → (∃ t x, u1 = Value.iface t x) → False
/-- whatever lies there has this tag -/
def Tags (w : World) (c : Nat) (e : TypeId) : Prop := ∀ x t q, w.heap[c]? = some (.cells x t q) → t = e

theorem Tags.ne {w : World} {c b : Nat} {e t : TypeId} {x : Array Value} {q : Nat × Nat} (h : Tags w c e) (hb : w.heap[b]? = some (.cells x t q)) (hne : t ≠ e) : b ≠ c := by
  rintro rfl
  exact hne (h _ _ _ hb)
theorem tags_of {w : World} {c : Nat} {e : TypeId} {x : Array Value} {q : Nat × Nat} (h : w.heap[c]? = some (.cells x e q)) : Tags w c e := by
  intro x' t q' h'
  rw [h] at h'
  simp at h'
  exact h'.2.1.symm

theorem IsTree.turned {w w' : World} {c r : Nat} (T : Turned c r w w') (nc : NoBranch w c) (nr : NoBranch w r) {v : Value} {t : Rp.T} (h : IsTree w v t) : IsTree w' v t := by
  induction h with
  | leaf s => exact .leaf s
  | branch b vl vr l r' h0 h1 h2 h3 hl hr il ir =>
    have e1 : b ≠ c := by rintro rfl; exact nc _ _ h0 h1 hl.val hr.val
    have e2 : b ≠ r := by rintro rfl; exact nr _ _ h0 h1 hl.val hr.val
    have hbl := T.block b (cell_lt h0) e1 e2
    exact .branch b vl vr l r' (by rw [World.cell?_of_block (w := w) hbl]; exact h0) (by rw [World.cell?_of_block (w := w) hbl]; exact h1) (by rw [World.cell?_of_block (w := w) hbl]; exact h2) (by rw [World.cell?_of_block (w := w) hbl]; exact h3) il ir
theorem lt_of_heap {w : World} {b : Nat} {o : Obj} (h : w.heap[b]? = some o) : b < w.heap.size := (Array.getElem?_eq_some_iff.1 h).1
theorem RopeAt.turned {w w' : World} {c r b : Nat} {txt : List UInt8} (h : RopeAt w b txt) (T : Turned c r w w') (nc : NoBranch w c) (nr : NoBranch w r) (h1 : b ≠ c) (h2 : b ≠ r) : RopeAt w' b txt := by
  obtain ⟨⟨v, t, h0, k1, k2, k3⟩, h4⟩ := h
  exact ⟨⟨v, t, by rw [T.block b (lt_of_heap h0) h1 h2]; exact h0, k1.turned T nc nr, k2, k3⟩, h4⟩
theorem ModelAt.turned {w w' : World} {c r m : Nat} {s : ByteArray} (h : ModelAt w m s) (T : Turned c r w w') (h1 : m ≠ c) (h2 : m ≠ r) : ModelAt w' m s :=
  ⟨by rw [T.block m (lt_of_heap h.heap) h1 h2]; exact h.heap, h.len⟩
theorem ReaderAt.turned {w w' : World} {c r m p f : Nat} {s : ByteArray} (h : ReaderAt w m s p f) (T : Turned c r w w') (h1 : m ≠ c) (h2 : m ≠ r) : ReaderAt w' m s p f :=
  ⟨by rw [T.block m (lt_of_heap h.heap) h1 h2]; exact h.heap, h.at_, h.far, h.len⟩
theorem IsCur.turned {w w' : World} {c r b a f : Nat} {txt : List UInt8} (h : IsCur w b txt a f) (T : Turned c r w w') (nc : NoBranch w c) (nr : NoBranch w r) (h1 : b ≠ c) (h2 : b ≠ r) : IsCur w' b txt a f := by
  obtain ⟨⟨v, s, st, hr, ⟨t, k1, k2, k3⟩, hcut⟩, h4, h5, h6⟩ := h
  exact ⟨⟨v, s, st, by rw [T.block b (lt_of_heap hr) h1 h2]; exact hr, ⟨t, k1.turned T nc nr, k2, k3⟩, hcut⟩, h4, h5, h6⟩
theorem RopeAt.tag {w : World} {b : Nat} {txt : List UInt8} (h : RopeAt w b txt) : ∃ x, w.heap[b]? = some (.cells x 72 (0, 0)) := by
  obtain ⟨⟨v, t, h0, _⟩, _⟩ := h
  exact ⟨_, h0⟩
theorem IsCur.tag {w : World} {b a f : Nat} {txt : List UInt8} (h : IsCur w b txt a f) : ∃ x, w.heap[b]? = some (.cells x 84 (0, 0)) := by
  obtain ⟨v, s, st, hr, _⟩ := h.row
  exact ⟨_, hr⟩
theorem IsCur.noBranch {w : World} {b a f : Nat} {txt : List UInt8} (h : IsCur w b txt a f) : NoBranch w b := by
  obtain ⟨v, s, st, hr, _⟩ := h.row
  obtain ⟨_, c1, _⟩ := row_cells hr
  rintro u0 u1 _ h1 _ ⟨t, x, rfl⟩
  rw [c1] at h1
  simp at h1
theorem ReaderAt.noBranch {w : World} {r p f : Nat} {s : ByteArray} (h : ReaderAt w r s p f) : NoBranch w r := by
  have c0 := h.cells.1
  rintro u0 u1 h0 _ ⟨t, x, rfl⟩ _
  rw [c0] at h0
  simp at h0

theorem own_turned {w w' : World} {base c r : Nat} {e ec er : TypeId} {v : Value} {n : Nat} {xs : List Value} (h : w.ownsRow base e 1 v n xs) (T : Turned c r w w') (tc : Tags w c ec) (tr : Tags w r er) (h1 : e ≠ ec) (h2 : e ≠ er) : w'.ownsRow base e 1 v n xs := by
  obtain ⟨hl, h⟩ := h
  refine ⟨hl, ?_⟩
  rcases h with h | ⟨g, cap, cur, hv, hg, hh, hrest⟩
  · exact Or.inl h
  · exact Or.inr ⟨g, cap, cur, hv, hg, by rw [T.block g (lt_of_heap hh) (tc.ne hh h1) (tr.ne hh h2)]; exact hh, hrest⟩
theorem own_mono {w w' : World} {base : Nat} {e : TypeId} {v : Value} {n : Nat} {xs : List Value} (h : w.ownsRow base e 1 v n xs) (hb : Below w.heap.size w w') : w'.ownsRow base e 1 v n xs :=
  h.kept (grown_none hb) (by cases hv : v.ownBlock <;> simp)

/-- a row's own block: what an append turns -/
theorem own_grows {w w' : World} {base : Nat} {e : TypeId} {v : Value} {n : Nat} {xs : List Value} (h : w.ownsRow base e 1 v n xs) (hp : ∀ u ∈ xs, ∀ t x, u ≠ Value.iface t x) (hz : n = 0 → v = .slice none 0 0)
    (hg : w.grownBy w' v.ownBlock) (hbase : base ≤ w.heap.size) : ∃ g, Turned g g w w' ∧ Tags w g e ∧ NoBranch w g ∧ base ≤ g := by
  by_cases hn : n = 0
  · have := hz hn
    subst this
    refine ⟨w.heap.size, ⟨hg.os, hg.tape, hg.output, hg.size, fun k hk _ _ => hg.block k hk (by simp [Value.ownBlock])⟩, ?_, ?_, hbase⟩
    · intro x t q h'
      have := lt_of_heap h'
      omega
    · intro u0 u1 h0
      have := cell_lt h0
      simp at this
  · obtain ⟨g, u, e1, q1, e2, e3⟩ := own_first h (by omega)
    have hh : ∃ cur, w.heap[g]? = some (.cells cur e (0, 0)) := by
      obtain ⟨_, h⟩ := h
      rcases h with ⟨_, h⟩ | ⟨g', cap, cur, hv, _, hh, _⟩
      · omega
      · rw [hv] at e1
        simp [Value.ownBlock] at e1
        rw [← e1]
        exact ⟨cur, hh⟩
    obtain ⟨cur, hh⟩ := hh
    rw [e1] at hg
    refine ⟨g, ⟨hg.os, hg.tape, hg.output, hg.size, fun k hk h1 _ => hg.block k hk (by simpa using h1)⟩, tags_of hh, ?_, q1⟩
    rintro u0 u1 h0 _ ⟨t, x, rfl⟩ _
    rw [e3] at h0
    simp at h0
    exact hp u (List.mem_of_getElem? e2) t x h0

/-- what ropes, models, cursors and readers there are -/
structure Con (w0 w : World) (R M : List (Nat × ByteArray)) (C K : List (Nat × ByteArray × Nat × Nat)) : Prop where
  r : ∀ x ∈ R, RopeAt w x.1 x.2.data.toList
  m : ∀ x ∈ M, ModelAt w x.1 x.2
  c : ∀ x ∈ C, IsCur w x.1 x.2.1.data.toList x.2.2.1 x.2.2.2
  k : ∀ x ∈ K, ReaderAt w x.1 x.2.1 x.2.2.1 x.2.2.2
  oc : ∀ x ∈ C, w0.heap.size ≤ x.1
  ok : ∀ x ∈ K, w0.heap.size ≤ x.1
  nc : (C.map (·.1)).Nodup
  nk : (K.map (·.1)).Nodup
  below : Below w0.heap.size w0 w
theorem Con.mono {w0 w w' : World} {R M : List (Nat × ByteArray)} {C K : List (Nat × ByteArray × Nat × Nat)} (h : Con w0 w R M C K) (hb : Below w.heap.size w w') : Con w0 w' R M C K :=
  ⟨fun x hx => (h.r x hx).mono hb, fun x hx => (h.m x hx).mono hb, fun x hx => (h.c x hx).mono hb, fun x hx => (h.k x hx).mono hb, h.oc, h.ok, h.nc, h.nk, below_trans h.below hb⟩
theorem below_turned {w0 w w' : World} {c r : Nat} (h : Below w0.heap.size w0 w) (T : Turned c r w w') (h1 : w0.heap.size ≤ c) (h2 : w0.heap.size ≤ r) : Below w0.heap.size w0 w' :=
  ⟨T.os.trans h.os, T.tape.trans h.tape, T.output.trans h.output, Nat.le_trans h.size T.size, fun k hk => (T.block k (Nat.lt_of_lt_of_le hk h.size) (by omega) (by omega)).trans (h.block k hk)⟩
theorem Con.turned {w0 w w' : World} {R M : List (Nat × ByteArray)} {C K : List (Nat × ByteArray × Nat × Nat)} {g : Nat} {e : TypeId} (h : Con w0 w R M C K) (T : Turned g g w w') (tg : Tags w g e) (ng : NoBranch w g) (hg : w0.heap.size ≤ g)
    (h1 : (72 : TypeId) ≠ e) (h2 : (88 : TypeId) ≠ e) (h3 : (84 : TypeId) ≠ e) (h4 : (109 : TypeId) ≠ e) : Con w0 w' R M C K := by
  refine ⟨fun x hx => ?_, fun x hx => ?_, fun x hx => ?_, fun x hx => ?_, h.oc, h.ok, h.nc, h.nk, below_turned h.below T hg hg⟩
  · obtain ⟨y, hy⟩ := (h.r x hx).tag
    exact (h.r x hx).turned T ng ng (tg.ne hy h1) (tg.ne hy h1)
  · exact (h.m x hx).turned T (tg.ne (h.m x hx).heap h2) (tg.ne (h.m x hx).heap h2)
  · obtain ⟨y, hy⟩ := (h.c x hx).tag
    exact (h.c x hx).turned T ng ng (tg.ne hy h3) (tg.ne hy h3)
  · exact (h.k x hx).turned T (tg.ne (h.k x hx).heap h4) (tg.ne (h.k x hx).heap h4)

def ptrs (L : List Nat) : List Value := L.map fun b => Value.pointer (some ⟨b, 0, none⟩)
theorem ptrs_plain (L : List Nat) : ∀ u ∈ ptrs L, ∀ t x, u ≠ Value.iface t x := by
  intro u hu t x
  unfold ptrs at hu
  simp at hu
  obtain ⟨b, _, rfl⟩ := hu
  simp
theorem ptrs_app (L : List Nat) (b : Nat) : ptrs (L ++ [b]) = ptrs L ++ [.pointer (some ⟨b, 0, none⟩)] := by simp [ptrs]
theorem ptrs_at {α : Type} (L : List α) (f : α → Nat) (p : Nat) (x : α) (h : L[p]? = some x) : (ptrs (L.map f))[p]? = some (.pointer (some ⟨f x, 0, none⟩)) := by
  unfold ptrs
  rw [List.map_map, List.getElem?_map, h]
  rfl

/-- the book -/
structure Bk (w0 w : World) (k : Nat) (rv mv cv kv : Value) (R M : List (Nat × ByteArray)) (C K : List (Nat × ByteArray × Nat × Nat)) : Prop where
  book : w.heap[k]? = some (.cells #[rv, mv, cv, kv] 63 (0, 0))
  old : w0.heap.size ≤ k
  or_ : w.ownsRow w0.heap.size 24 1 rv R.length (ptrs (R.map (·.1)))
  om : w.ownsRow w0.heap.size 56 1 mv M.length (ptrs (M.map (·.1)))
  oc : w.ownsRow w0.heap.size 42 1 cv C.length (ptrs (C.map (·.1)))
  ok : w.ownsRow w0.heap.size 91 1 kv K.length (ptrs (K.map (·.1)))
  pr : 0 < R.length
  pm : 0 < M.length
  zc : C.length = 0 → cv = .slice none 0 0
  zk : K.length = 0 → kv = .slice none 0 0
  con : Con w0 w R M C K
theorem Bk.mono {w0 w w' : World} {k : Nat} {rv mv cv kv : Value} {R M : List (Nat × ByteArray)} {C K : List (Nat × ByteArray × Nat × Nat)} (h : Bk w0 w k rv mv cv kv R M C K) (hb : Below w.heap.size w w') : Bk w0 w' k rv mv cv kv R M C K :=
  ⟨by rw [hb.block k (lt_of_heap h.book)]; exact h.book, h.old, own_mono h.or_ hb, own_mono h.om hb, own_mono h.oc hb, own_mono h.ok hb, h.pr, h.pm, h.zc, h.zk, h.con.mono hb⟩
theorem book_cells {w : World} {k : Nat} {x0 x1 x2 x3 : Value} (h : w.heap[k]? = some (.cells #[x0, x1, x2, x3] 63 (0, 0))) :
    w.cell? ⟨k, 0, none⟩ = some x0 ∧ w.cell? ⟨k, 1, none⟩ = some x1 ∧ w.cell? ⟨k, 2, none⟩ = some x2 ∧ w.cell? ⟨k, 3, none⟩ = some x3 ∧ (∀ o, w.frozen? ⟨k, o, none⟩ = false) := by
  refine ⟨?_, ?_, ?_, ?_, fun o => Lib.frozen_of_heap h o⟩ <;> (rw [Lib.cell_of_heap h]; rfl)
theorem own_plain {w : World} {base : Nat} {e : TypeId} {v : Value} {n : Nat} {xs : List Value} (h : w.ownsRow base e 1 v n xs) : ∀ t x, v ≠ Value.iface t x := by
  obtain ⟨_, h⟩ := h
  rcases h with ⟨rfl, _⟩ | ⟨g, cap, cur, rfl, _⟩ <;> simp
theorem Bk.noBranch {w0 w : World} {k : Nat} {rv mv cv kv : Value} {R M : List (Nat × ByteArray)} {C K : List (Nat × ByteArray × Nat × Nat)} (h : Bk w0 w k rv mv cv kv R M C K) : NoBranch w k := by
  have c0 := (book_cells h.book).1
  rintro u0 u1 h0 _ ⟨t, x, rfl⟩ _
  rw [c0] at h0
  simp at h0
  exact own_plain h.or_ t x h0
theorem turned_set (k o : Nat) (w : World) (u : Value) : Turned k k w (w.setCell ⟨k, o, none⟩ u) := Turned.of_left (Moved.set k o w u)

/-- what an append to one of the rows leaves as it is, ahead of the store -/
structure Mid (w0 w w2 : World) (k : Nat) (rv mv cv kv : Value) (R M : List (Nat × ByteArray)) (C K : List (Nat × ByteArray × Nat × Nat)) : Prop where
  turn : ∃ g e, Turned g g w w2 ∧ Tags w g e ∧ NoBranch w g ∧ w0.heap.size ≤ g ∧ (e = 24 ∨ e = 56 ∨ e = 42 ∨ e = 91)
  book : w2.heap[k]? = some (.cells #[rv, mv, cv, kv] 63 (0, 0))
  con : Con w0 w2 R M C K
theorem mid_of {w0 w w2 : World} {k : Nat} {rv mv cv kv : Value} {R M : List (Nat × ByteArray)} {C K : List (Nat × ByteArray × Nat × Nat)} {g : Nat} {e : TypeId} (h : Bk w0 w k rv mv cv kv R M C K)
    (T : Turned g g w w2) (tg : Tags w g e) (ng : NoBranch w g) (hg : w0.heap.size ≤ g) (he : e = 24 ∨ e = 56 ∨ e = 42 ∨ e = 91) : Mid w0 w w2 k rv mv cv kv R M C K := by
  have h63 : (63 : TypeId) ≠ e := by rcases he with rfl | rfl | rfl | rfl <;> decide
  have h1 : (72 : TypeId) ≠ e := by rcases he with rfl | rfl | rfl | rfl <;> decide
  have h2 : (88 : TypeId) ≠ e := by rcases he with rfl | rfl | rfl | rfl <;> decide
  have h3 : (84 : TypeId) ≠ e := by rcases he with rfl | rfl | rfl | rfl <;> decide
  have h4 : (109 : TypeId) ≠ e := by rcases he with rfl | rfl | rfl | rfl <;> decide
  exact ⟨⟨g, e, T, tg, ng, hg, he⟩, by rw [T.block k (lt_of_heap h.book) (tg.ne h.book h63) (tg.ne h.book h63)]; exact h.book, h.con.turned T tg ng hg h1 h2 h3 h4⟩

theorem Bk.app0 {w0 w w2 : World} {k : Nat} {rv mv cv kv rv' : Value} {R M : List (Nat × ByteArray)} {C K : List (Nat × ByteArray × Nat × Nat)} {x : Nat × ByteArray} (h : Bk w0 w k rv mv cv kv R M C K)
    (hx : RopeAt w x.1 x.2.data.toList) (hown : w2.ownsRow w0.heap.size 24 1 rv' (R.length + 1) (ptrs (R.map (·.1)) ++ [.pointer (some ⟨x.1, 0, none⟩)])) (hg : w.grownBy w2 rv.ownBlock) :
    w2.heap[k]? = some (.cells #[rv, mv, cv, kv] 63 (0, 0)) ∧ Bk w0 (w2.setCell ⟨k, 0, none⟩ rv') k rv' mv cv kv (R ++ [x]) M C K ∧ (∀ m s, ModelAt w m s → ModelAt (w2.setCell ⟨k, 0, none⟩ rv') m s) := by
  obtain ⟨g, T, tg, ng, og⟩ := own_grows h.or_ (ptrs_plain _) (fun hz => by have := h.pr; omega) hg h.con.below.size
  have md := mid_of h T tg ng og (Or.inl rfl)
  have T2 := turned_set k 0 w2 rv'
  have t2 := tags_of md.book
  have c0 := (book_cells md.book).1
  have n2 : NoBranch w2 k := by
    rintro u0 u1 h0 _ ⟨t, x, rfl⟩ _
    rw [c0] at h0
    simp at h0
    exact own_plain h.or_ t x h0
  obtain ⟨y, hy⟩ := hx.tag
  have x2 := (hx.turned T ng ng (tg.ne hy (by decide)) (tg.ne hy (by decide)))
  obtain ⟨y2, hy2⟩ := x2.tag
  have x3 := x2.turned T2 n2 n2 (t2.ne hy2 (by decide)) (t2.ne hy2 (by decide))
  have con3 := md.con.turned T2 t2 n2 h.old (by decide) (by decide) (by decide) (by decide)
  refine ⟨md.book, ⟨by simp [World.setCell, Array.getElem?_modify, md.book], h.old, ?_, own_turned (own_turned h.om T tg tg (by decide) (by decide)) T2 t2 t2 (by decide) (by decide), own_turned (own_turned h.oc T tg tg (by decide) (by decide)) T2 t2 t2 (by decide) (by decide), own_turned (own_turned h.ok T tg tg (by decide) (by decide)) T2 t2 t2 (by decide) (by decide), by simp, h.pm, h.zc, h.zk, ⟨?_, con3.m, con3.c, con3.k, con3.oc, con3.ok, con3.nc, con3.nk, con3.below⟩⟩, ?_⟩
  · have := own_turned hown T2 t2 t2 (by decide) (by decide)
    rw [List.length_append, List.map_append]
    simp only [List.map_cons, List.map_nil]
    rw [ptrs_app]
    exact this
  · intro z hz
    rcases List.mem_append.1 hz with hz | hz
    · exact con3.r z hz
    · simp at hz
      subst hz
      exact x3
  · intro m s hm
    have m2 := hm.turned T (tg.ne hm.heap (by decide)) (tg.ne hm.heap (by decide))
    exact m2.turned T2 (t2.ne m2.heap (by decide)) (t2.ne m2.heap (by decide))

theorem Bk.app1 {w0 w w2 : World} {k : Nat} {rv mv cv kv mv' : Value} {R M : List (Nat × ByteArray)} {C K : List (Nat × ByteArray × Nat × Nat)} {x : Nat × ByteArray} (h : Bk w0 w k rv mv cv kv R M C K)
    (hx : ModelAt w x.1 x.2) (hown : w2.ownsRow w0.heap.size 56 1 mv' (M.length + 1) (ptrs (M.map (·.1)) ++ [.pointer (some ⟨x.1, 0, none⟩)])) (hg : w.grownBy w2 mv.ownBlock) :
    w2.heap[k]? = some (.cells #[rv, mv, cv, kv] 63 (0, 0)) ∧ Bk w0 (w2.setCell ⟨k, 1, none⟩ mv') k rv mv' cv kv R (M ++ [x]) C K := by
  obtain ⟨g, T, tg, ng, og⟩ := own_grows h.om (ptrs_plain _) (fun hz => by have := h.pm; omega) hg h.con.below.size
  have md := mid_of h T tg ng og (by simp)
  have T2 := turned_set k 1 w2 mv'
  have t2 := tags_of md.book
  have c0 := (book_cells md.book).1
  have n2 : NoBranch w2 k := by
    rintro u0 u1 h0 _ ⟨t, x, rfl⟩ _
    rw [c0] at h0
    simp at h0
    exact own_plain h.or_ t x h0
  have x2 := hx.turned T (tg.ne hx.heap (by decide)) (tg.ne hx.heap (by decide))
  have x3 := x2.turned T2 (t2.ne x2.heap (by decide)) (t2.ne x2.heap (by decide))
  have con3 := md.con.turned T2 t2 n2 h.old (by decide) (by decide) (by decide) (by decide)
  refine ⟨md.book, ⟨by simp [World.setCell, Array.getElem?_modify, md.book], h.old, own_turned (own_turned h.or_ T tg tg (by decide) (by decide)) T2 t2 t2 (by decide) (by decide), ?_, own_turned (own_turned h.oc T tg tg (by decide) (by decide)) T2 t2 t2 (by decide) (by decide), own_turned (own_turned h.ok T tg tg (by decide) (by decide)) T2 t2 t2 (by decide) (by decide), h.pr, by simp, h.zc, h.zk, ⟨con3.r, ?_, con3.c, con3.k, con3.oc, con3.ok, con3.nc, con3.nk, con3.below⟩⟩⟩
  · have := own_turned hown T2 t2 t2 (by decide) (by decide)
    rw [List.length_append, List.map_append]
    simp only [List.map_cons, List.map_nil]
    rw [ptrs_app]
    exact this
  · intro z hz
    rcases List.mem_append.1 hz with hz | hz
    · exact con3.m z hz
    · simp at hz
      subst hz
      exact x3

theorem Bk.app2 {w0 w w2 : World} {k : Nat} {rv mv cv kv cv' : Value} {R M : List (Nat × ByteArray)} {C K : List (Nat × ByteArray × Nat × Nat)} {x : Nat × ByteArray × Nat × Nat} (h : Bk w0 w k rv mv cv kv R M C K)
    (hx : IsCur w x.1 x.2.1.data.toList x.2.2.1 x.2.2.2) (hn : x.1 ∉ C.map (·.1)) (ho : w0.heap.size ≤ x.1) (hown : w2.ownsRow w0.heap.size 42 1 cv' (C.length + 1) (ptrs (C.map (·.1)) ++ [.pointer (some ⟨x.1, 0, none⟩)])) (hg : w.grownBy w2 cv.ownBlock) :
    w2.heap[k]? = some (.cells #[rv, mv, cv, kv] 63 (0, 0)) ∧ Bk w0 (w2.setCell ⟨k, 2, none⟩ cv') k rv mv cv' kv R M (C ++ [x]) K := by
  obtain ⟨g, T, tg, ng, og⟩ := own_grows h.oc (ptrs_plain _) h.zc hg h.con.below.size
  have md := mid_of h T tg ng og (by simp)
  have T2 := turned_set k 2 w2 cv'
  have t2 := tags_of md.book
  have c0 := (book_cells md.book).1
  have n2 : NoBranch w2 k := by
    rintro u0 u1 h0 _ ⟨t, x, rfl⟩ _
    rw [c0] at h0
    simp at h0
    exact own_plain h.or_ t x h0
  obtain ⟨y, hy⟩ := hx.tag
  have x2 := (hx.turned T ng ng (tg.ne hy (by decide)) (tg.ne hy (by decide)))
  obtain ⟨y2, hy2⟩ := x2.tag
  have x3 := x2.turned T2 n2 n2 (t2.ne hy2 (by decide)) (t2.ne hy2 (by decide))
  have con3 := md.con.turned T2 t2 n2 h.old (by decide) (by decide) (by decide) (by decide)
  refine ⟨md.book, ⟨by simp [World.setCell, Array.getElem?_modify, md.book], h.old, own_turned (own_turned h.or_ T tg tg (by decide) (by decide)) T2 t2 t2 (by decide) (by decide), own_turned (own_turned h.om T tg tg (by decide) (by decide)) T2 t2 t2 (by decide) (by decide), ?_, own_turned (own_turned h.ok T tg tg (by decide) (by decide)) T2 t2 t2 (by decide) (by decide), h.pr, h.pm, by simp, h.zk, ⟨con3.r, con3.m, ?_, con3.k, ?_, con3.ok, ?_, con3.nk, con3.below⟩⟩⟩
  · have := own_turned hown T2 t2 t2 (by decide) (by decide)
    rw [List.length_append, List.map_append]
    simp only [List.map_cons, List.map_nil]
    rw [ptrs_app]
    exact this
  · intro z hz
    rcases List.mem_append.1 hz with hz | hz
    · exact con3.c z hz
    · simp at hz
      subst hz
      exact x3
  · intro z hz
    rcases List.mem_append.1 hz with hz | hz
    · exact con3.oc z hz
    · simp at hz
      subst hz
      exact ho
  · rw [List.map_append]
    refine List.nodup_append.2 ⟨con3.nc, by simp, ?_⟩
    intro a ha b hb e
    simp at hb
    subst hb e
    exact hn ha

theorem Bk.app3 {w0 w w2 : World} {k : Nat} {rv mv cv kv kv' : Value} {R M : List (Nat × ByteArray)} {C K : List (Nat × ByteArray × Nat × Nat)} {x : Nat × ByteArray × Nat × Nat} (h : Bk w0 w k rv mv cv kv R M C K)
    (hx : ReaderAt w x.1 x.2.1 x.2.2.1 x.2.2.2) (hn : x.1 ∉ K.map (·.1)) (ho : w0.heap.size ≤ x.1) (hown : w2.ownsRow w0.heap.size 91 1 kv' (K.length + 1) (ptrs (K.map (·.1)) ++ [.pointer (some ⟨x.1, 0, none⟩)])) (hg : w.grownBy w2 kv.ownBlock) :
    w2.heap[k]? = some (.cells #[rv, mv, cv, kv] 63 (0, 0)) ∧ Bk w0 (w2.setCell ⟨k, 3, none⟩ kv') k rv mv cv kv' R M C (K ++ [x]) := by
  obtain ⟨g, T, tg, ng, og⟩ := own_grows h.ok (ptrs_plain _) h.zk hg h.con.below.size
  have md := mid_of h T tg ng og (by simp)
  have T2 := turned_set k 3 w2 kv'
  have t2 := tags_of md.book
  have c0 := (book_cells md.book).1
  have n2 : NoBranch w2 k := by
    rintro u0 u1 h0 _ ⟨t, x, rfl⟩ _
    rw [c0] at h0
    simp at h0
    exact own_plain h.or_ t x h0
  have x2 := hx.turned T (tg.ne hx.heap (by decide)) (tg.ne hx.heap (by decide))
  have x3 := x2.turned T2 (t2.ne x2.heap (by decide)) (t2.ne x2.heap (by decide))
  have con3 := md.con.turned T2 t2 n2 h.old (by decide) (by decide) (by decide) (by decide)
  refine ⟨md.book, ⟨by simp [World.setCell, Array.getElem?_modify, md.book], h.old, own_turned (own_turned h.or_ T tg tg (by decide) (by decide)) T2 t2 t2 (by decide) (by decide), own_turned (own_turned h.om T tg tg (by decide) (by decide)) T2 t2 t2 (by decide) (by decide), own_turned (own_turned h.oc T tg tg (by decide) (by decide)) T2 t2 t2 (by decide) (by decide), ?_, h.pr, h.pm, h.zc, by simp, ⟨con3.r, con3.m, con3.c, ?_, con3.oc, ?_, con3.nc, ?_, con3.below⟩⟩⟩
  · have := own_turned hown T2 t2 t2 (by decide) (by decide)
    rw [List.length_append, List.map_append]
    simp only [List.map_cons, List.map_nil]
    rw [ptrs_app]
    exact this
  · intro z hz
    rcases List.mem_append.1 hz with hz | hz
    · exact con3.k z hz
    · simp at hz
      subst hz
      exact x3
  · intro z hz
    rcases List.mem_append.1 hz with hz | hz
    · exact con3.ok z hz
    · simp at hz
      subst hz
      exact ho
  · rw [List.map_append]
    refine List.nodup_append.2 ⟨con3.nk, by simp, ?_⟩
    intro a ha b hb e
    simp at hb
    subst hb e
    exact hn ha

end Go.Proofs.Ytnhmdbmcamfbiaa
