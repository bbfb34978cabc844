import Derived.Test.YthlbajkbpceglaaTbr
import Derived.Test.YthlbajkbpceglaaTbe
namespace Go.Proofs.Ythlbajkbpceglaa
open Go.RowKit Go.Maps

/-- Rows of rows of the call's own, whatever stands in them. -/
structure Cn {α : Type} (f : α → List Value) (e : TypeId) (s : Nat) (eo : TypeId) (B : Nat) (W : World) (g cap : Nat) (L : List (Value × List α)) : Prop where
  t : W.ownsRow B eo 1 (.slice (some ⟨g, 0, none⟩) L.length cap) L.length (L.map Prod.fst)
  r : ∀ x ∈ L, ∃ gr cr, x.1 = .slice (some ⟨gr, 0, none⟩) x.2.length cr ∧ W.ownsRow B e s (.slice (some ⟨gr, 0, none⟩) x.2.length cr) x.2.length (flat f x.2)
section
variable {α : Type} {f : α → List Value} {e : TypeId} {s : Nat} {mk : α} {eo : TypeId} {B : Nat} {W W' : World} {g cap b : Nat} {L : List (Value × List α)}
theorem Nk.cn (h : Nk f e s mk eo B W g cap b L) (hf : ∀ x, (f x).length = s) : Cn f e s eo B W g cap L := by
  refine ⟨?_, fun x hx => ?_⟩
  · have := row_low h.t (n := L.length) (by omega)
    rw [Nat.mul_one, List.take_left' (by rw [List.length_map])] at this
    exact this
  · obtain ⟨gr, cr, e1, ho⟩ := h.r x hx
    refine ⟨gr, cr, e1, ?_⟩
    have := row_low ho (n := x.2.length) (by omega)
    rw [flat_take hf] at this
    exact this
theorem Cn.up (h : Cn f e s eo B W g cap L) (hb : Below W.heap.size W W') : Cn f e s eo B W' g cap L := ⟨row_up h.t hb, fun x hx => by
  obtain ⟨gr, cr, e1, ho⟩ := h.r x hx
  exact ⟨gr, cr, e1, row_up ho hb⟩⟩
theorem Cn.nr (h : Cn f e s eo B W g cap L) (hs : 0 < s) : Nr f W (.slice (some ⟨g, 0, none⟩) L.length cap) L :=
  ⟨row_rw h.t (by decide), fun x hx => by
    obtain ⟨gr, cr, e1, ho⟩ := h.r x hx
    rw [e1]
    exact row_rw ho hs⟩
/-- A store into some block of the rows' kind: every row is a row of the same length still. -/
theorem Cn.put (h : Cn f e s eo B W g cap L) (hk : ∀ (v : Value) (n : Nat) (l : List α), W.ownsRow B e s v n (flat f l) → ∃ l' : List α, l'.length = l.length ∧ W'.ownsRow B e s v n (flat f l'))
    (ho : W.ownsRow B eo 1 (.slice (some ⟨g, 0, none⟩) L.length cap) L.length (L.map Prod.fst) → W'.ownsRow B eo 1 (.slice (some ⟨g, 0, none⟩) L.length cap) L.length (L.map Prod.fst)) :
    ∃ L' : List (Value × List α), Cn f e s eo B W' g cap L' ∧ L'.map (fun x => (x.1, x.2.length)) = L.map (fun x => (x.1, x.2.length)) := by
  have hex : ∀ y : Value × List α, ∃ l' : List α, y ∈ L → l'.length = y.2.length ∧ ∃ gr cr, y.1 = .slice (some ⟨gr, 0, none⟩) y.2.length cr ∧ W'.ownsRow B e s (.slice (some ⟨gr, 0, none⟩) y.2.length cr) y.2.length (flat f l') := fun y => by
    by_cases hy : y ∈ L
    · obtain ⟨gr, cr, e1, h1⟩ := h.r y hy
      obtain ⟨l', h2, h3⟩ := hk _ _ _ h1
      exact ⟨l', fun _ => ⟨h2, gr, cr, e1, h3⟩⟩
    · exact ⟨[], fun h => absurd h hy⟩
  obtain ⟨F, hF⟩ := Classical.axiomOfChoice hex
  have hlen : (L.map fun y => ((y.1, F y) : Value × List α)).length = L.length := List.length_map _
  have hfst : (L.map fun y => ((y.1, F y) : Value × List α)).map Prod.fst = L.map Prod.fst := by rw [List.map_map]; rfl
  refine ⟨L.map fun y => (y.1, F y), ⟨by rw [hlen, hfst]; exact ho h.t, fun z hz => ?_⟩, ?_⟩
  · obtain ⟨y, hy, rfl⟩ := List.mem_map.1 hz
    obtain ⟨h1, gr, cr, e1, h2⟩ := hF y hy
    refine ⟨gr, cr, ?_, ?_⟩
    · show y.1 = .slice _ (F y).length _
      rw [h1]; exact e1
    · show W'.ownsRow B e s (.slice _ (F y).length _) (F y).length (flat f (F y))
      rw [h1]; exact h2
  · rw [List.map_map]
    refine List.map_congr_left fun y hy => ?_
    show (y.1, (F y).length) = _
    rw [(hF y hy).1]
end
theorem af_set (x : Ak) : ∀ (L : List Ak) (i : Nat), i < L.length → ((flat af L).set (i * 2) (.int .i64 x.1)).set (i * 2 + 1) (.int .i64 x.2) = flat af (L.set i x)
  | [], i, h => by cases h
  | y :: L, 0, _ => rfl
  | y :: L, i + 1, h => by
    have ih := af_set x L i (by simpa using h)
    show ((Value.int .i64 y.1 :: Value.int .i64 y.2 :: flat af L).set ((i + 1) * 2) _).set ((i + 1) * 2 + 1) _ = Value.int .i64 y.1 :: Value.int .i64 y.2 :: flat af (L.set i x)
    rw [show (i + 1) * 2 = i * 2 + 1 + 1 by omega]
    simp only [List.set_cons_succ]
    rw [ih]
theorem gf_flat : ∀ l : List Int, flat gf l = iC l
  | [] => rfl
  | x :: l => by show Value.int .i64 x :: flat gf l = Value.int .i64 x :: iC l; rw [gf_flat l]
theorem gf_set (x : Int) (L : List Int) (i : Nat) : (flat gf L).set i (.int .i64 x) = flat gf (L.set i x) := by
  rw [gf_flat, gf_flat, iC, iC, List.map_set]
/-- An action is stored. -/
def put2 (W : World) (g j : Nat) (x : Ak) : World := (W.setCell ⟨g, j * 2, none⟩ (.int .i64 x.1)).setCell ⟨g, j * 2 + 1, none⟩ (.int .i64 x.2)
theorem row_put {W : World} {B n g j : Nat} {v : Value} {l : List Ak} (x : Ak) (h : W.ownsRow B 38 2 v n (flat af l)) : ∃ l' : List Ak, l'.length = l.length ∧ (put2 W g j x).ownsRow B 38 2 v n (flat af l') := by
  by_cases e : v.ownBlock = some g
  · rcases h.2 with ⟨rfl, -⟩ | ⟨g', cap, cur, rfl, -⟩
    · cases e
    · cases e
      have h1 := row_set (row_set h (j * 2) (.int .i64 x.1)) (j * 2 + 1) (.int .i64 x.2)
      by_cases hj : j < l.length
      · rw [af_set x l j hj] at h1
        exact ⟨_, List.length_set, h1⟩
      · have hl : (flat af l).length ≤ j * 2 := by rw [flat_len af_len]; omega
        rw [List.set_eq_of_length_le (by rw [List.length_set]; omega), List.set_eq_of_length_le hl] at h1
        exact ⟨l, rfl, h1⟩
  · exact ⟨l, rfl, (h.kept grown_set (Or.inr e)).kept grown_set (Or.inr e)⟩
theorem row_put1 {W : World} {B n g j : Nat} {v : Value} {l : List Int} (x : Int) (h : W.ownsRow B 3 1 v n (flat gf l)) : ∃ l' : List Int, l'.length = l.length ∧ (W.setCell ⟨g, j, none⟩ (.int .i64 x)).ownsRow B 3 1 v n (flat gf l') := by
  by_cases e : v.ownBlock = some g
  · rcases h.2 with ⟨rfl, -⟩ | ⟨g', cap, cur, rfl, -⟩
    · cases e
    · cases e
      have h1 := row_set h j (.int .i64 x)
      rw [gf_set] at h1
      exact ⟨_, List.length_set, h1⟩
  · exact ⟨l, rfl, h.kept grown_set (Or.inr e)⟩
theorem put_off {W : World} {B n g j s : Nat} {e : TypeId} {v : Value} {xs : List Value} {cur : Array Value} (x : Ak) (h : W.ownsRow B e s v n xs) (hg : W.heap[g]? = some (.cells cur 38 (0, 0))) (he : e ≠ 38) : (put2 W g j x).ownsRow B e s v n xs :=
  (row_off (blk_set _ hg) (row_off hg h he).1 he).1
theorem put_blk {W : World} {g j b : Nat} {t : TypeId} {cs cur : Array Value} (x : Ak) (h : W.heap[b]? = some (.cells cs t (0, 0))) (hg : W.heap[g]? = some (.cells cur 38 (0, 0))) (ht : t ≠ 38) : (put2 W g j x).heap[b]? = some (.cells cs t (0, 0)) := by
  have hne : b ≠ g := fun e => by rw [e, hg] at h; simp at h; exact ht h.2.symm
  unfold put2
  rw [Below.heap_setCell _ _ _ b hne, Below.heap_setCell _ _ _ b hne]
  exact h
theorem put_blk1 {W : World} {g j b : Nat} {t : TypeId} {v : Value} {cs cur : Array Value} (h : W.heap[b]? = some (.cells cs t (0, 0))) (hg : W.heap[g]? = some (.cells cur 3 (0, 0))) (ht : t ≠ 3) : (W.setCell ⟨g, j, none⟩ v).heap[b]? = some (.cells cs t (0, 0)) := by
  have hne : b ≠ g := fun e => by rw [e, hg] at h; simp at h; exact ht h.2.symm
  rw [Below.heap_setCell _ _ _ b hne]
  exact h
theorem put_below {w0 W : World} {B g j : Nat} (x : Ak) (h : Below B w0 W) (hg : B ≤ g) : Below B w0 (put2 W g j x) :=
  (h.setCell (p := ⟨g, j * 2, none⟩) hg _).setCell (p := ⟨g, j * 2 + 1, none⟩) hg _
/-- Rows that are not touched by a store of an action. -/
theorem Cn.off2 {B : Nat} {W : World} {g cap gr j : Nat} {cur : Array Value} {L : List (Value × List Int)} (x : Ak) (h : Cn gf 3 1 39 B W g cap L) (hg : W.heap[gr]? = some (.cells cur 38 (0, 0))) : Cn gf 3 1 39 B (put2 W gr j x) g cap L :=
  ⟨put_off x h.t hg (by decide), fun y hy => by
    obtain ⟨g', c', e1, ho⟩ := h.r y hy
    exact ⟨g', c', e1, put_off x ho hg (by decide)⟩⟩
theorem Cn.off1 {B : Nat} {W : World} {g cap gr j : Nat} {v : Value} {cur : Array Value} {L : List (Value × List Ak)} (h : Cn af 38 2 35 B W g cap L) (hg : W.heap[gr]? = some (.cells cur 3 (0, 0))) : Cn af 38 2 35 B (W.setCell ⟨gr, j, none⟩ v) g cap L :=
  ⟨(row_off hg h.t (by decide)).1, fun y hy => by
    obtain ⟨g', c', e1, ho⟩ := h.r y hy
    exact ⟨g', c', e1, (row_off hg ho (by decide)).1⟩⟩
/-- What a row of rows looks like from outside. -/
def shp {α : Type} (L : List (Value × List α)) : List (Value × Nat) := L.map fun x => (x.1, x.2.length)
theorem shp_len {α : Type} {L L' : List (Value × List α)} (h : shp L' = shp L) : L'.length = L.length := by have := congrArg List.length h; simpa [shp] using this
theorem shp_get {α : Type} {L L' : List (Value × List α)} (h : shp L' = shp L) (i : Nat) : (L'.getD i nrd).1 = (L.getD i nrd).1 ∧ (L'.getD i nrd).2.length = (L.getD i nrd).2.length := by
  have e : ∀ M : List (Value × List α), (shp M).getD i (.slice none 0 0, 0) = ((M.getD i nrd).1, (M.getD i nrd).2.length) := fun M => by
    rw [shp, List.getD_eq_getElem?_getD, List.getElem?_map, List.getD_eq_getElem?_getD]
    cases M[i]? <;> rfl
  have h1 := e L'
  rw [h, e L] at h1
  exact ⟨(congrArg Prod.fst h1).symm, (congrArg Prod.snd h1).symm⟩
theorem shp_all {α : Type} {L L' : List (Value × List α)} {p : Nat → Prop} (h : shp L' = shp L) (hp : ∀ x ∈ L, p x.2.length) : ∀ x ∈ L', p x.2.length := fun x hx => by
  have h1 : (x.1, x.2.length) ∈ shp L' := List.mem_map.2 ⟨x, hx, rfl⟩
  rw [h] at h1
  obtain ⟨y, hy, e⟩ := List.mem_map.1 h1
  have e2 : y.2.length = x.2.length := congrArg Prod.snd e
  rw [← e2]
  exact hp y hy
end Go.Proofs.Ythlbajkbpceglaa
