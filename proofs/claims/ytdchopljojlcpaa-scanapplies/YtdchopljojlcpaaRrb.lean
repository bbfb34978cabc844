import Derived.Test.YtdchopljojlcpaaRla
import Derived.Test.YtdchopljojlcpaaTrm
namespace Go.Proofs.Ytdchopljojlcpaa
open Go.RowKit Go.Maps

theorem iC_len (l : List Int) : (iC l).length = l.length * 1 := by simp [iC]
theorem qC_len (l : List ByteArray) : (qC l).length = l.length * 1 := by simp [qC]
theorem fC_len (l : List (Int × ByteArray)) : (fC l).length = l.length * 2 := by
  induction l with
  | nil => rfl
  | cons m l ih => simp only [fC, List.length_append, ih, List.length_cons, List.length_nil]; omega
theorem iC_app (l k : List Int) : iC (l ++ k) = iC l ++ iC k := by simp [iC]
theorem qC_app (l k : List ByteArray) : qC (l ++ k) = qC l ++ qC k := by simp [qC]
theorem fC_app (l k : List (Int × ByteArray)) : fC (l ++ k) = fC l ++ fC k := by
  induction l with
  | nil => rfl
  | cons m l ih => simp only [List.cons_append, fC, ih, List.append_assoc]
theorem info9 : (Try.prog.info? 9).map (fun i => (i.zero, i.size, i.bytes)) = some (some (.string ⟨#[]⟩), 1, 16) := by kernel_rfl
theorem info58 : (Try.prog.info? 58).map (fun i => (i.zero, i.size, i.bytes)) = some (some (.agg #[.int .i64 0, .string ⟨#[]⟩]), 2, 24) := by kernel_rfl
theorem row_shape {W : World} {B : Nat} {e : TypeId} {size n : Nat} {v : Value} {xs : List Value} (h : W.ownsRow B e size v n xs) : ∃ a cap, v = .slice a n cap := by
  rcases h.2 with ⟨rfl, rfl⟩ | ⟨g, cap, cur, rfl, _⟩
  · exact ⟨_, _, rfl⟩
  · exact ⟨_, _, rfl⟩
theorem row_form {W : World} {B : Nat} {e : TypeId} {size n : Nat} {v : Value} {xs : List Value} (h : W.ownsRow B e size v n xs) (hn : 0 < n) : ∃ g cap, v = .slice (some ⟨g, 0, none⟩) n cap ∧ B ≤ g ∧ n ≤ cap ∧ cap ≤ maxLen := by
  rcases h.2 with ⟨rfl, rfl⟩ | ⟨g, cap, cur, rfl, h1, h2, h3, h4, _⟩
  · omega
  · exact ⟨g, cap, rfl, h1, h3, h4⟩
theorem tag_ne {W : World} {B B' : Nat} {e e' : TypeId} {s s' n n' : Nat} {v v' : Value} {xs xs' : List Value} (h : W.ownsRow B e s v n xs) (h' : W.ownsRow B' e' s' v' n' xs') (hne : e ≠ e') : v.ownBlock = none ∨ v.ownBlock ≠ v'.ownBlock := by
  cases hv : v.ownBlock with
  | none => exact .inl rfl
  | some r =>
    refine .inr fun h2 => ?_
    obtain ⟨_, c1, e1⟩ := row_tag h r hv
    obtain ⟨_, c2, e2⟩ := row_tag h' r h2.symm
    rw [e1] at e2; cases e2; exact hne rfl
theorem below_of_grown {W W' : World} (h : W.grownBy W' none) : Below W.heap.size W W' := ⟨h.os, h.tape, h.output, h.size, fun k hk => h.block k hk (by simp)⟩
/-- The zero state's cells. -/
def zrC : Array Value := #[.slice none 0 0, .int .i64 0, .slice none 0 0, .slice none 0 0, .int .u16 0]
theorem results_cell1 {fn : Func} {p : Tmp} {ty : TypeId} (h : fn.results = #[.cell p ty]) (tmps : Array Value) (P : Program) (w : World) :
    (results fn tmps).run P w = ((asAddr (tmps.getD p undef)).run P w).andThen fun a w₁ => (loadVar ty a).run P w₁ := by
  simp only [results, h]
  simp [Sem.run_bind, Result.andThen]
/-- The five cells of a state written. -/
@[reducible] def five (W : World) (b : Nat) (v0 v1 v2 v3 v4 : Value) : World := ((((W.setCell ⟨b, 0, none⟩ v0).setCell ⟨b, 1, none⟩ v1).setCell ⟨b, 2, none⟩ v2).setCell ⟨b, 3, none⟩ v3).setCell ⟨b, 4, none⟩ v4
theorem row_five {W : World} {B b : Nat} {e t : TypeId} {size n : Nat} {v v0 v1 v2 v3 v4 : Value} {xs : List Value} {cs : Array Value} (hb : W.heap[b]? = some (.cells cs t (0, 0))) (h : W.ownsRow B e size v n xs) (he : e ≠ t) : (five W b v0 v1 v2 v3 v4).ownsRow B e size v n xs := by
  obtain ⟨h1, b1⟩ := row_off (k := 0) (u := v0) hb h he
  obtain ⟨h2, b2⟩ := row_off (k := 1) (u := v1) b1 h1 he
  obtain ⟨h3, b3⟩ := row_off (k := 2) (u := v2) b2 h2 he
  obtain ⟨h4, b4⟩ := row_off (k := 3) (u := v3) b3 h3 he
  exact (row_off (k := 4) (u := v4) b4 h4 he).1
theorem bel_five {w W : World} {b : Nat} {v0 v1 v2 v3 v4 : Value} (h : Below w.heap.size w W) (hb : w.heap.size ≤ b) : Below w.heap.size w (five W b v0 v1 v2 v3 v4) :=
  ((((h.setCell (p := ⟨b, 0, none⟩) hb _).setCell (p := ⟨b, 1, none⟩) hb _).setCell (p := ⟨b, 2, none⟩) hb _).setCell (p := ⟨b, 3, none⟩) hb _).setCell (p := ⟨b, 4, none⟩) hb _
/-- The boxes of a state that is copied by the reference. -/
structure Tp (w W : World) (vi vq vf x y z : Value) (s : Stt) : Prop where
  b0 : W.heap[w.heap.size]? = some (.cells #[vi, .int .i64 s.pen, vq, vf, .int .u16 (s.flg : Int)] 33 (0, 0))
  b2 : W.heap[w.heap.size + 1]? = some (.cells zrC 33 (0, 0))
  b1 : W.heap[w.heap.size + 2]? = some (.cells #[x, .int .i64 s.pen, y, z, .int .u16 (s.flg : Int)] 33 (0, 0))
  bel : Below w.heap.size w W
section
variable {w W W' : World} {vi vq vf x y z : Value} {s : Stt}
theorem Tp.up (h : Tp w W vi vq vf x y z s) (hb : Below W.heap.size W W') : Tp w W' vi vq vf x y z s :=
  ⟨by rw [hb.block _ (lt_of_heap h.b0)]; exact h.b0, by rw [hb.block _ (lt_of_heap h.b2)]; exact h.b2, by rw [hb.block _ (lt_of_heap h.b1)]; exact h.b1, below_trans h.bel hb⟩
theorem Tp.set {x' y' z' : Value} (h : Tp w W vi vq vf x y z s) (k : Nat) (v : Value) (he : (#[x, .int .i64 s.pen, y, z, .int .u16 (s.flg : Int)] : Array Value).setIfInBounds k v = #[x', .int .i64 s.pen, y', z', .int .u16 (s.flg : Int)]) : Tp w (W.setCell ⟨w.heap.size + 2, k, none⟩ v) vi vq vf x' y' z' s :=
  ⟨by rw [Below.heap_setCell _ _ _ _ (by simp)]; exact h.b0, by rw [Below.heap_setCell _ _ _ _ (by simp)]; exact h.b2, by rw [blk_set v h.b1, he], h.bel.setCell (p := ⟨w.heap.size + 2, k, none⟩) (by simp) v⟩
theorem Tp.cell (h : Tp w W vi vq vf x y z s) (k : Nat) (v : Value) (hk : (#[x, .int .i64 s.pen, y, z, .int .u16 (s.flg : Int)] : Array Value)[k]? = some v) : W.cell? ⟨w.heap.size + 2, k, none⟩ = some v := by rw [Lib.cell_of_heap h.b1]; exact hk
theorem Tp.pcell (h : Tp w W vi vq vf x y z s) (k : Nat) (v : Value) (hk : (#[vi, .int .i64 s.pen, vq, vf, .int .u16 (s.flg : Int)] : Array Value)[k]? = some v) : W.cell? ⟨w.heap.size, k, none⟩ = some v := by rw [Lib.cell_of_heap h.b0]; exact hk
theorem Tp.zcell (h : Tp w W vi vq vf x y z s) (k : Nat) (v : Value) (hk : zrC[k]? = some v) : W.cell? ⟨w.heap.size + 1, k, none⟩ = some v := by rw [Lib.cell_of_heap h.b2]; exact hk
theorem Tp.fr (h : Tp w W vi vq vf x y z s) (k : Nat) : W.frozen? ⟨w.heap.size + 2, k, none⟩ = false := Lib.frozen_of_heap h.b1 k
theorem Tp.zfr (h : Tp w W vi vq vf x y z s) (k : Nat) : W.frozen? ⟨w.heap.size + 1, k, none⟩ = false := Lib.frozen_of_heap h.b2 k
theorem Tp.row {B : Nat} {e : TypeId} {size n : Nat} {v : Value} {xs : List Value} (h : Tp w W vi vq vf x y z s) (hr : W.ownsRow B e size v n xs) (he : e ≠ 33) (k : Nat) (u : Value) : (W.setCell ⟨w.heap.size + 2, k, none⟩ u).ownsRow B e size v n xs :=
  hr.kept grown_set (.inr (tag_ne_blk hr h.b1 he))
end
theorem info50 : (Try.prog.info? 50).map (fun i => (i.zero, i.size, i.bytes)) = some (some (.agg #[.int .i64 0, .int .u64 0, .int .u64 0, .int .u64 0, .int .u64 0, .int .i64 0, .int .i64 0]), 7, 56) := by kernel_rfl
theorem info53 : (Try.prog.info? 53).map (fun i => (i.zero, i.size, i.bytes)) = some (some (.agg #[.int .i64 0, .int .i64 0]), 2, 16) := by kernel_rfl
theorem info56 : (Try.prog.info? 56).map (fun i => (i.zero, i.size, i.bytes)) = some (some (.agg #[.int .i64 0, .int .i64 0, .int .i64 0]), 3, 24) := by kernel_rfl
theorem info28 : (Try.prog.info? 28).map (fun i => (i.zero, i.size, i.bytes)) = some (some (.agg #[.int .i64 0, .int .i64 0, .slice none 0 0, .string ⟨#[]⟩, .slice none 0 0, .slice none 0 0, .slice none 0 0]), 7, 128) := by kernel_rfl
/-- A row that came in is appended to an empty list that was made for it. -/
theorem wpList_twin {P : Program} (w0 : World) {ops : Array Oper} {rest : List Oper} {o : Oper} {a : Act} {Q : Exit → Act → World → Prop} (hgd : o.guard = none) (s x : Operand) (t : TypeId)
    (ho : o.op = .call { callee := .builtin .append, args := #[s, x], argTypes := #[t, t] })
    (e : TypeId) (i : TypeInfo) (z : Value) (size bytes : Nat) (ht : P.underlying t = some (.slice e)) (hi : P.info? e = some i) (hz : i.zero = some z)
    (hsize : i.size = size) (hby : i.bytes = bytes) (hzs : z.cells.size = size) (hsz : 0 < size)
    (v : Value) (m : Nat) (cs : List Value) (hs : a.eval s = .slice (some ⟨w0.heap.size, 0, none⟩) 0 0) (hx : a.eval x = v) (hr : Rw w0 v m cs) (hl : cs.length = m * size) (h1 : ∀ u ∈ cs, u.oneCell' = true)
    (h63 : m ≤ maxLen) (hbytes : m * bytes ≤ 140737488355328)
    (h : ∀ v' w', w'.ownsRow w0.heap.size e size v' m cs → Below w0.heap.size w0 w' → wpList P ops Q rest (a.put o.dst v') w') : wpList P ops Q (o :: rest) a (w0.alloc (.cells #[] e)) := by
  have hn : (w0.alloc (.cells #[] e)).ownsRow w0.heap.size e size (.slice (some ⟨w0.heap.size, 0, none⟩) 0 0) 0 [] := ⟨by simp, .inr ⟨w0.heap.size, 0, #[], rfl, Nat.le_refl _, heap_new w0 _, Nat.le_refl _, by unfold maxLen; omega, by simp, by simp⟩⟩
  have hB : w0.heap.size ≤ (w0.alloc (.cells #[] e)).heap.size := (bel_up _ _).size
  obtain ⟨ao, g, of, cap, rfl, hcap, ha0, ha1, hc⟩ := hr.up (bel_up w0 (.cells #[] e))
  cases ao with
  | none =>
    obtain ⟨rfl, rfl⟩ := ha0 rfl
    have : cs = [] := List.length_eq_zero_iff.1 (by omega)
    subst this
    exact wpList_append_own_none hgd s x t ho w0.heap.size e i size ht hi _ 0 [] hs hn hx (h _ _ hn (bel_up _ _))
  | some ad =>
    refine wpList_append_own _ hgd s x t ho w0.heap.size e i z size bytes ht hi hz hsize hby hzs hsz _ 0 [] hs hn ad m cap cs hx hl (fun j u hu => ?_) h1 (by omega) (by rw [Nat.zero_add]; exact hbytes) hB (fun v' w' h2 h3 _ => h v' w' (by rw [Nat.zero_add, List.nil_append] at h2; exact h2) ((bel_up w0 (.cells #[] e)).grown h3 hB (fun r e' => (row_tag hn r e').1)))
    have hj : j < cs.length := (List.getElem?_eq_some_iff.1 hu).1
    have hm : 0 < m := by
      rcases Nat.eq_zero_or_pos m with h | h
      · subst h; omega
      · exact h
    obtain rfl := Option.some.inj (ha1 hm)
    rw [addPl]
    exact hc j u hu
/-- A list with three marks behind its end, in a row of its own. -/
def Mk (B : Nat) (W : World) (e : TypeId) (size : Nat) (g k n : Nat) (cs mk : List Value) : Prop := W.ownsRow B e size (.slice (some ⟨g, 0, none⟩) (n + 3) k) (n + 3) (cs ++ (mk ++ (mk ++ mk)))
theorem Mk.up {B : Nat} {W W' : World} {e : TypeId} {size g k n : Nat} {cs mk : List Value} (h : Mk B W e size g k n cs mk) (hb : Below W.heap.size W W') : Mk B W' e size g k n cs mk := row_up h hb
theorem Mk.base {B B' : Nat} {W : World} {e : TypeId} {size g k n : Nat} {cs mk : List Value} (h : Mk B W e size g k n cs mk) (hb : B' ≤ B) : Mk B' W e size g k n cs mk := row_base h hb
theorem Mk.rw {B : Nat} {W : World} {e : TypeId} {size g k n : Nat} {cs mk : List Value} (h : Mk B W e size g k n cs mk) : Rw W (.slice (some ⟨g, 0, none⟩) n k) n cs := by
  have c := row_cap h
  refine ⟨_, g, 0, k, rfl, by omega, fun h => (by cases h), fun _ => rfl, fun j u hu => ?_⟩
  rw [Nat.zero_add]
  exact row_at h j u (by rw [List.getElem?_append_left (List.getElem?_eq_some_iff.1 hu).1]; exact hu)
/-- A state whose lists have marks behind their ends. -/
structure Rms (B : Nat) (W : World) (gi ki gq kq gf kf : Nat) (s : Stt) : Prop where
  i : Mk B W 3 1 gi ki s.ind.length (iC s.ind) [.int .i64 (-7)]
  q : Mk B W 9 1 gq kq s.que.length (qC s.que) [.string ⟨#[109, 97, 114, 107]⟩]
  f : Mk B W 58 2 gf kf s.frm.length (fC s.frm) [.int .i64 (-7), .string ⟨#[]⟩]
theorem Rms.up {B : Nat} {W W' : World} {gi ki gq kq gf kf : Nat} {s : Stt} (h : Rms B W gi ki gq kq gf kf s) (hb : Below W.heap.size W W') : Rms B W' gi ki gq kq gf kf s := ⟨h.i.up hb, h.q.up hb, h.f.up hb⟩
theorem Rms.stm {B : Nat} {W : World} {gi ki gq kq gf kf : Nat} {s : Stt} (h : Rms B W gi ki gq kq gf kf s) : Stm W (.slice (some ⟨gi, 0, none⟩) s.ind.length ki) (.slice (some ⟨gq, 0, none⟩) s.que.length kq) (.slice (some ⟨gf, 0, none⟩) s.frm.length kf) s := ⟨h.i.rw, h.q.rw, h.f.rw⟩
/-- A rule whose lists have marks behind their ends. -/
structure Rmr (B : Nat) (W : World) (ge ke gi ki gt kt ga ka : Nat) (r : Rul) : Prop where
  e : Mk B W 50 7 ge ke r.re.length (flat nf r.re) (nf (0, 0, 0, 0, 0, -7, 0))
  i : Mk B W 3 1 gi ki r.inn.length (iC r.inn) [.int .i64 (-7)]
  t : Mk B W 53 2 gt kt r.tes.length (flat tf r.tes) (tf (0, -7))
  a : Mk B W 56 3 ga ka r.act.length (flat af r.act) (af (0, -7, 0))
theorem Rmr.up {B : Nat} {W W' : World} {ge ke gi ki gt kt ga ka : Nat} {r : Rul} (h : Rmr B W ge ke gi ki gt kt ga ka r) (hb : Below W.heap.size W W') : Rmr B W' ge ke gi ki gt kt ga ka r := ⟨h.e.up hb, h.i.up hb, h.t.up hb, h.a.up hb⟩
theorem Rmr.rlm {B : Nat} {W : World} {ge ke gi ki gt kt ga ka : Nat} {r : Rul} (h : Rmr B W ge ke gi ki gt kt ga ka r) : Rlm W (.slice (some ⟨ge, 0, none⟩) r.re.length ke) (.slice (some ⟨gi, 0, none⟩) r.inn.length ki) (.slice (some ⟨gt, 0, none⟩) r.tes.length kt) (.slice (some ⟨ga, 0, none⟩) r.act.length ka) r := ⟨h.e.rw, h.i.rw, h.t.rw, h.a.rw⟩
end Go.Proofs.Ytdchopljojlcpaa
