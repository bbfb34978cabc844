import Derived.Test.YtbkhhegmmkcbbaaDoorPsm
import Derived.Test.YtbkhhegmmkcbbaaDoorShl
namespace Go.Proofs.YtbkhhegmmkcbbaaDoor
open Go.RowKit Go.Maps

/-- A paint line: a name and a class. -/
structure Pa where
  nm : ByteArray
  cl : ByteArray
def paz : Pa := ⟨⟨#[]⟩, ⟨#[]⟩⟩
def paf (x : Pa) : List Value := [.string x.nm, .string x.cl]
theorem paf_len (x : Pa) : (paf x).length = 2 := rfl
theorem paf_one (x : Pa) : ∀ u ∈ paf x, u.oneCell' = true := fun u hu => by
  simp only [paf, List.mem_cons, List.not_mem_nil, or_false] at hu
  rcases hu with rfl | rfl <;> rfl
/-- Paint lines in memory. -/
def Pl (W : World) (v : Value) (l : List Pa) : Prop := Rw W v l.length (flat paf l)
theorem Pl.up {W W' : World} {v : Value} {l : List Pa} (h : Pl W v l) (hb : Below W.heap.size W W') : Pl W' v l := Rw.up h hb
theorem Pl.form {W : World} {v : Value} {l : List Pa} (h : Pl W v l) : ∃ a cap, v = .slice a l.length cap := Rw.form h
theorem Pl.two {W : World} {a : Option Addr} {n cap : Nat} {l : List Pa} (h : Pl W (.slice a n cap) l) (i : Nat) (hi : i < l.length) : ∃ g o, a = some ⟨g, o, none⟩ ∧ ∀ W', Below W.heap.size W W' → W'.cell? ⟨g, o + i * 2, none⟩ = some (.string (l.getD i paz).nm) ∧ W'.cell? ⟨g, o + i * 2 + 1, none⟩ = some (.string (l.getD i paz).cl) := by
  obtain ⟨g, o, cap', e, hc⟩ := Rw.place h (by omega)
  obtain ⟨rfl, -, -⟩ := Value.slice.inj e
  refine ⟨g, o, rfl, fun W' hW => ?_⟩
  have k : ∀ j u, (paf (l.getD i paz))[j]? = some u → W'.cell? ⟨g, o + i * 2 + j, none⟩ = some u := fun j u hu => by
    rw [Nat.add_assoc]
    refine below_cell hW (hc _ _ ?_)
    rw [flat_get paf_len paz l i j hi (by have := (List.getElem?_eq_some_iff.1 hu).1; rwa [paf_len] at this)]
    exact hu
  exact ⟨k 0 _ rfl, k 1 _ rfl⟩
theorem infoNd : (Tryd.prog.info? 53).map (fun i => (i.zero, i.size, i.bytes)) = some (some (.agg #[.string ⟨#[]⟩, .bool false, .string ⟨#[]⟩, .int .i64 0, .int .i64 0, .int .i64 0, .int .i64 0]), 7, 72) := by kernel_rfl
theorem infoPa : (Tryd.prog.info? 27).map (fun i => (i.zero, i.size, i.bytes)) = some (some (.agg #[.string ⟨#[]⟩, .string ⟨#[]⟩]), 2, 32) := by kernel_rfl
/-- A row that came in is appended to an empty list that was made for it. -/
theorem wpList_twin {P : Program} (w0 : World) {ops : Array Oper} {rest : List Oper} {o : Oper} {a : Act} {Q : Exit → Act → World → Prop} (hgd : o.guard = none) (s x : Operand) (t : TypeId)
    (ho : o.op = .call { callee := .builtin .append, args := #[s, x], argTypes := #[t, t] })
    (e : TypeId) (i : TypeInfo) (z : Value) (size bytes : Nat) (ht : P.underlying t = some (.slice e)) (hi : P.info? e = some i) (hz : i.zero = some z)
    (hsize : i.size = size) (hby : i.bytes = bytes) (hzs : z.cells.size = size) (hsz : 0 < size)
    (v : Value) (m : Nat) (cs : List Value) (hs : a.eval s = .slice (some ⟨w0.heap.size, 0, none⟩) 0 0) (hx : a.eval x = v) (hr : Rw w0 v m cs) (hl : cs.length = m * size) (h1 : ∀ u ∈ cs, u.oneCell' = true)
    (h63 : m ≤ maxLen) (hbytes : m * bytes ≤ 140737488355328)
    (h : ∀ v' w', w'.ownsRow w0.heap.size e size v' m cs → Below w0.heap.size w0 w' → wpList P ops Q rest (a.put o.dst v') w') : wpList P ops Q (o :: rest) a (w0.alloc (.cells #[] e)) := by
  have hn : (w0.alloc (.cells #[] e)).ownsRow w0.heap.size e size (.slice (some ⟨w0.heap.size, 0, none⟩) 0 0) 0 [] := ⟨by simp, .inr ⟨w0.heap.size, 0, #[], rfl, Nat.le_refl _, heap_new w0 _, Nat.le_refl _, by unfold maxLen; omega, by simp, by simp⟩⟩
  have hB : w0.heap.size ≤ (w0.alloc (.cells #[] e)).heap.size := (bel_up _ _).size
  obtain ⟨ao, g, of, cap, rfl, hcap, ha0, ha1, hc⟩ := hr.up (bel_up w0 (.cells #[] e))
  cases ao with
  | none =>
    obtain ⟨rfl, rfl⟩ := ha0 rfl
    have : cs = [] := List.length_eq_zero_iff.1 (by omega)
    subst this
    exact wpList_append_own_none hgd s x t ho w0.heap.size e i size ht hi _ 0 [] hs hn hx (h _ _ hn (bel_up _ _))
  | some ad =>
    refine wpList_append_own _ hgd s x t ho w0.heap.size e i z size bytes ht hi hz hsize hby hzs hsz _ 0 [] hs hn ad m cap cs hx hl (fun j u hu => ?_) h1 (by omega) (by rw [Nat.zero_add]; exact hbytes) hB (fun v' w' h2 h3 _ => h v' w' (by rw [Nat.zero_add, List.nil_append] at h2; exact h2) ((bel_up w0 (.cells #[] e)).grown h3 hB (fun r e' => (row_tag hn r e').1)))
    have hj : j < cs.length := (List.getElem?_eq_some_iff.1 hu).1
    have hm : 0 < m := by
      rcases Nat.eq_zero_or_pos m with h | h
      · subst h; omega
      · exact h
    obtain rfl := Option.some.inj (ha1 hm)
    rw [addPl]
    exact hc j u hu
theorem flat_one {α : Type} {f : α → List Value} (hf : ∀ x, ∀ u ∈ f x, u.oneCell' = true) (l : List α) : ∀ u ∈ flat f l, u.oneCell' = true := by
  induction l with
  | nil => intro u hu; cases hu
  | cons x l ih =>
    intro u hu
    rcases List.mem_append.1 hu with h | h
    · exact hf x u h
    · exact ih u h
theorem results_cell1 {fn : Func} {p : Tmp} {ty : TypeId} (h : fn.results = #[.cell p ty]) (tmps : Array Value) (P : Program) (w : World) :
    (results fn tmps).run P w = ((asAddr (tmps.getD p undef)).run P w).andThen fun a w₁ => (loadVar ty a).run P w₁ := by
  simp only [results, h]
  simp [Sem.run_bind, Result.andThen]
end Go.Proofs.YtbkhhegmmkcbbaaDoor
