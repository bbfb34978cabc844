import Derived.Test.YtcmhbcfgikmblabGreatDoorBas
import Derived.ArgAppend
import Derived.OwnWalk
import Derived.Deep.WholeRow
import Derived.Laws.StructEq
namespace Go.Proofs.YtcmhbcfgikmblabGreatDoor.Qy
open Go.RowKit Go.Maps

/-- A node of a pattern; a condition. -/
structure Pn where
  nm : ByteArray
  lit : Bool
  fd : ByteArray
  cp : ByteArray
  kd : Int
  deriving DecidableEq
structure Cd where
  nt : Bool
  a : ByteArray
  b : ByteArray
  tx : ByteArray
  deriving DecidableEq
def pz : Pn := ⟨⟨#[]⟩, false, ⟨#[]⟩, ⟨#[]⟩, 0⟩
def cz : Cd := ⟨false, ⟨#[]⟩, ⟨#[]⟩, ⟨#[]⟩⟩
def pf (x : Pn) : List Value := [.string x.nm, .bool x.lit, .string x.fd, .string x.cp, .int .i64 x.kd]
def cf (x : Cd) : List Value := [.bool x.nt, .string x.a, .string x.b, .string x.tx]
abbrev pV (x : Pn) : Value := .agg #[.string x.nm, .bool x.lit, .string x.fd, .string x.cp, .int .i64 x.kd]
abbrev cV (x : Cd) : Value := .agg #[.bool x.nt, .string x.a, .string x.b, .string x.tx]
abbrev wV (x : Wd) : Value := .agg #[.int .i64 x.k, .string ⟨x.t.toArray⟩, .int .i64 x.n, .int .i64 x.a]
theorem pf_len (x : Pn) : (pf x).length = 5 := rfl
theorem cf_len (x : Cd) : (cf x).length = 4 := rfl
theorem pf_one (x : Pn) : ∀ u ∈ pf x, u.oneCell' = true := fun u hu => by
  simp only [pf, List.mem_cons, List.not_mem_nil, or_false] at hu
  rcases hu with rfl | rfl | rfl | rfl | rfl <;> rfl
theorem cf_one (x : Cd) : ∀ u ∈ cf x, u.oneCell' = true := fun u hu => by
  simp only [cf, List.mem_cons, List.not_mem_nil, or_false] at hu
  rcases hu with rfl | rfl | rfl | rfl <;> rfl
/-- The place of the first node that has the capture. -/
def ixc : List Pn → ByteArray → Nat → Int
  | [], _, _ => -1
  | n :: l, t, k => if n.cp = t then (k : Int) else ixc l t (k + 1)
def cap (l : List Pn) (t : ByteArray) : Int := if t = ⟨#[]⟩ then -1 else ixc l t 0
/-- The reader: words that are left, what has been made, the error. -/
structure Rs where
  ws : List Wd
  ns : List Pn
  cs : List Cd
  co : Int
def hd (s : Rs) : Wd := s.ws.headD w0
def tl (s : Rs) : Rs := ⟨s.ws.tail, s.ns, s.cs, s.co⟩
def fl (s : Rs) (c : Int) : Rs := ⟨s.ws, s.ns, s.cs, c⟩
def se (s : Rs) (k : Int) (t : List UInt8) : Bool := (hd s).k == k && decide ((hd s).t = t)
def nmA (s : Rs) : Bool := (hd s).k == 1 && !decide ((hd s).t = [95])
def fdA (s : Rs) : Bool := nmA s && se (tl s) 5 [58]
def ndA (s : Rs) : Bool := se s 5 [40] || ((hd s).k == 2 && !decide ((hd s).t = []))
abbrev bs (t : List UInt8) : ByteArray := ⟨t.toArray⟩
/-- A node is changed. -/
def upN (s : Rs) (i : Nat) (f : Pn → Pn) : Rs := ⟨s.ws, s.ns.set i (f (s.ns.getD i pz)), s.cs, s.co⟩
def tk (s : Rs) (t : List UInt8) : Rs := if se s 5 t then tl s else s
def mst (s : Rs) (t : List UInt8) : Bool × Rs := if se s 5 t then (true, tl s) else (false, fl s 200)
/-- A capture's name. -/
def cnm (s : Rs) (kn : Bool) : Bool × Rs :=
  if nmA s then (if kn = decide (cap s.ns (bs (hd s).t) ≠ -1) then (true, tl s) else (false, fl s 201)) else (false, fl s 200)
def cpt (s : Rs) (i : Nat) : Bool × Rs :=
  if se s 5 [64] then (match cnm (tl s) false with
    | (true, s1) => (true, upN s1 i fun p => { p with cp := bs (hd (tl s)).t })
    | (false, s1) => (false, s1)) else (true, s)
/-- The node's field, if there is one. -/
def fld (s : Rs) : Rs :=
  if fdA s then upN ⟨s.ws.drop 2, s.ns, s.cs, s.co⟩ (s.ns.length - 1) fun p => { p with fd := bs (hd s).t } else s
def opn (s : Rs) : Rs := fld ⟨s.ws, s.ns ++ [pz], s.cs, s.co⟩
/-- A pattern; the children of a node. -/
def rdP : Nat → Option Nat → Rs → Bool × Rs
  | 0, _, s => (false, s)
  | n + 1, none, s =>
    if !fdA s && !ndA s then (false, fl s 200)
    else if s.ns.length = 32 then (false, fl s 202)
    else if !ndA (opn s) then (false, fl (opn s) 200)
    else if (hd (opn s)).k = 2 then cpt (upN (tl (opn s)) s.ns.length fun p => { p with lit := true, nm := bs (hd (opn s)).t }) s.ns.length
    else if (hd (tl (opn s))).k ≠ 1 then (false, fl (tl (opn s)) 200)
    else match rdP n (some s.ns.length) (tl (if nmA (tl (opn s)) then upN (tl (opn s)) s.ns.length fun p => { p with nm := bs (hd (tl (opn s))).t } else tl (opn s))) with
      | (true, s1) => cpt s1 s.ns.length
      | (false, s1) => (false, s1)
  | n + 1, some i, s =>
    if se s 5 [41] then (true, tl s)
    else match rdP n none s with
      | (true, s1) => rdP n (some i) (upN s1 i fun p => { p with kd := p.kd + 1 })
      | (false, s1) => (false, s1)
def adC (s : Rs) (c : Cd) : Rs := ⟨s.ws, s.ns, s.cs ++ [c], s.co⟩
/-- What a condition holds its capture against. -/
def oth (s : Rs) : Bool × Rs × ByteArray × ByteArray :=
  if (hd s).k = 2 then (true, tl s, ⟨#[]⟩, bs (hd s).t)
  else match mst s [64] with
    | (false, s1) => (false, s1, ⟨#[]⟩, ⟨#[]⟩)
    | (true, s1) => match cnm s1 true with
      | (false, s2) => (false, s2, ⟨#[]⟩, ⟨#[]⟩)
      | (true, s2) => (true, s2, bs (hd s1).t, ⟨#[]⟩)
/-- A condition. -/
def cnd (s : Rs) : Bool × Rs :=
  if !se s 1 [117, 110, 108, 101, 115, 115] && !se s 1 [119, 104, 101, 110] then (false, fl s 200)
  else if s.cs.length = 16 then (false, fl s 202)
  else match mst (tl s) [64] with
    | (false, s1) => (false, adC s1 ⟨se s 1 [117, 110, 108, 101, 115, 115], ⟨#[]⟩, ⟨#[]⟩, ⟨#[]⟩⟩)
    | (true, s1) => match cnm s1 true with
      | (false, s2) => (false, adC s2 ⟨se s 1 [117, 110, 108, 101, 115, 115], ⟨#[]⟩, ⟨#[]⟩, ⟨#[]⟩⟩)
      | (true, s2) => match mst s2 [61] with
        | (false, s3) => (false, adC s3 ⟨se s 1 [117, 110, 108, 101, 115, 115], bs (hd s1).t, ⟨#[]⟩, ⟨#[]⟩⟩)
        | (true, s3) => ((oth s3).1, adC (oth s3).2.1 ⟨se s 1 [117, 110, 108, 101, 115, 115], bs (hd s1).t, (oth s3).2.2.1, (oth s3).2.2.2⟩)
def rdC : Nat → Rs → Bool × Rs
  | 0, s => (true, s)
  | n + 1, s => if s.ws.length ≤ 1 then (true, s) else match cnd s with
    | (true, s1) => rdC n s1
    | (false, s1) => (false, s1)
def rdA (s : Rs) : Bool × Rs := match rdP (2 * s.ws.length) none s with
  | (true, s1) => rdC s1.ws.length s1
  | (false, s1) => (false, s1)
end Go.Proofs.YtcmhbcfgikmblabGreatDoor.Qy
namespace Go.Proofs.YtcmhbcfgikmblabGreatDoor
open Go.RowKit Go.Maps

theorem cell_up {w : World} {a : Addr} {v : Value} (o : Obj) (h : w.cell? a = some v) : (w.alloc o).cell? a = some v := below_cell (bel_up w o) h
/-- The cells of a row of numbers, of texts, of frames. -/
def iC (l : List Int) : List Value := l.map (Value.int .i64)
theorem iC_app (l k : List Int) : iC (l ++ k) = iC l ++ iC k := by simp [iC]
theorem iC_len (l : List Int) : (iC l).length = l.length * 1 := by simp [iC]
theorem iC_get (l : List Int) (i : Nat) (h : i < l.length) : (iC l)[i]? = some (.int .i64 (l.getD i 0)) := by
  simp [iC, List.getD_eq_getElem?_getD, List.getElem?_eq_getElem h]
theorem info3 : (Tryz.prog.info? 3).map (fun i => (i.zero, i.size, i.bytes)) = some (some (.int .i64 0), 1, 8) := by kernel_rfl
theorem iC_one (l : List Int) : ∀ u ∈ iC l, u.oneCell' = true := fun u hu => by
  obtain ⟨x, _, rfl⟩ := List.mem_map.1 hu; rfl
/-- A row that came in is appended to nothing. -/
theorem wpList_copy {P : Program} (w : World) {ops : Array Oper} {rest : List Oper} {o : Oper} {a : Act} {Q : Exit → Act → World → Prop} (hgd : o.guard = none) (s x : Operand) (t : TypeId)
    (ho : o.op = .call { callee := .builtin .append, args := #[s, x], argTypes := #[t, t] })
    (base : Nat) (e : TypeId) (i : TypeInfo) (z : Value) (size bytes : Nat) (ht : P.underlying t = some (.slice e)) (hi : P.info? e = some i) (hz : i.zero = some z)
    (hsize : i.size = size) (hby : i.bytes = bytes) (hzs : z.cells.size = size) (hsz : 0 < size)
    (v : Value) (m : Nat) (cs : List Value) (hs : a.eval s = .slice none 0 0) (hx : a.eval x = v) (hr : Rw w v m cs) (hl : cs.length = m * size) (h1 : ∀ u ∈ cs, u.oneCell' = true)
    (h63 : m ≤ maxLen) (hbytes : m * bytes ≤ 140737488355328) (hbase : base ≤ w.heap.size)
    (h : ∀ v' w', w'.ownsRow base e size v' m cs → w.grownBy w' none → wpList P ops Q rest (a.put o.dst v') w') : wpList P ops Q (o :: rest) a w := by
  obtain ⟨ao, g, of, cap, rfl, hcap, ha0, ha1, hc⟩ := hr
  cases ao with
  | none =>
    obtain ⟨rfl, rfl⟩ := ha0 rfl
    have : cs = [] := List.length_eq_zero_iff.1 (by omega)
    subst this
    exact wpList_append_own_none hgd s x t ho base e i size ht hi _ 0 [] hs (World.ownsRow_nil _ _ _ _) hx (h _ _ (World.ownsRow_nil _ _ _ _) (World.grownBy.refl _ _))
  | some ad =>
    refine wpList_append_own w hgd s x t ho base e i z size bytes ht hi hz hsize hby hzs hsz _ 0 [] hs (World.ownsRow_nil _ _ _ _) ad m cap cs hx hl (fun j u hu => ?_) h1 (by omega) (by rw [Nat.zero_add]; exact hbytes) hbase (fun v' w' h2 h3 _ => h v' w' (by rw [Nat.zero_add, List.nil_append] at h2; exact h2) h3)
    have hj : j < cs.length := (List.getElem?_eq_some_iff.1 hu).1
    have hm : 0 < m := by
      rcases Nat.eq_zero_or_pos m with h | h
      · subst h; omega
      · exact h
    obtain rfl := Option.some.inj (ha1 hm)
    rw [addPl]
    exact hc j u hu
theorem row_base {W : World} {B B' : Nat} {e : TypeId} {size n : Nat} {v : Value} {xs : List Value} (h : W.ownsRow B e size v n xs) (hb : B' ≤ B) : W.ownsRow B' e size v n xs := by
  refine ⟨h.1, ?_⟩
  rcases h.2 with h | ⟨g, cap, cur, h0, h1, h2⟩
  · exact .inl h
  · exact .inr ⟨g, cap, cur, h0, Nat.le_trans hb h1, h2⟩
theorem rcell {W : World} {b : Nat} {cs : Array Value} {t : TypeId} (h : W.heap[b]? = some (.cells cs t (0, 0))) (k : Nat) (v : Value) (hk : cs[k]? = some v) : W.cell? ⟨b, k, none⟩ = some v := by rw [Lib.cell_of_heap h]; exact hk
theorem cel_of {W W2 : World} {B b k : Nat} {e t : TypeId} {size n : Nat} {v u : Value} {xs : List Value} {cs : Array Value} (hg : W.grownBy W2 v.ownBlock) (hb : W.heap[b]? = some (.cells cs t (0, 0))) (hr : W.ownsRow B e size v n xs) (hne : e ≠ t) (hk : cs[k]? = some u) : W2.cell? ⟨b, k, none⟩ = some u := by
  rw [Lib.cell_of_heap ((hg.block b (lt_of_heap hb) (fun e => tag_ne_blk hr hb hne e.symm)).trans hb)]; exact hk
theorem froz_of {W W2 : World} {B b k : Nat} {e t : TypeId} {size n : Nat} {v : Value} {xs : List Value} {cs : Array Value} (hg : W.grownBy W2 v.ownBlock) (hb : W.heap[b]? = some (.cells cs t (0, 0))) (hr : W.ownsRow B e size v n xs) (hne : e ≠ t) : W2.frozen? ⟨b, k, none⟩ = false :=
  Lib.frozen_of_heap ((hg.block b (lt_of_heap hb) (fun e => tag_ne_blk hr hb hne e.symm)).trans hb) k
theorem results_cell1 {fn : Func} {p : Tmp} {ty : TypeId} (h : fn.results = #[.cell p ty]) (tmps : Array Value) (P : Program) (w : World) :
    (results fn tmps).run P w = ((asAddr (tmps.getD p undef)).run P w).andThen fun a w₁ => (loadVar ty a).run P w₁ := by
  simp only [results, h]
  simp [Sem.run_bind, Result.andThen]
theorem row_off {W : World} {B b k : Nat} {e t : TypeId} {size n : Nat} {v u : Value} {xs : List Value} {cs : Array Value} (hb : W.heap[b]? = some (.cells cs t (0, 0))) (h : W.ownsRow B e size v n xs) (he : e ≠ t) : (W.setCell ⟨b, k, none⟩ u).ownsRow B e size v n xs ∧ (W.setCell ⟨b, k, none⟩ u).heap[b]? = some (.cells (cs.setIfInBounds k u) t (0, 0)) :=
  ⟨h.kept grown_set (.inr (tag_ne_blk h hb he)), blk_set u hb⟩
theorem row_cap {W : World} {B : Nat} {e : TypeId} {size n m g cap : Nat} {xs : List Value} (h : W.ownsRow B e size (.slice (some ⟨g, 0, none⟩) n cap) m xs) : m ≤ cap ∧ cap ≤ maxLen := by
  rcases h.2 with ⟨h, _⟩ | ⟨g', cap', cur, h0, h1, h2, h3, h4, _⟩
  · cases h
  · obtain ⟨-, -, rfl⟩ := Value.slice.inj h0
    exact ⟨h3, h4⟩
theorem row_at {W : World} {B : Nat} {e : TypeId} {size n m g cap : Nat} {xs : List Value} (h : W.ownsRow B e size (.slice (some ⟨g, 0, none⟩) n cap) m xs) (j : Nat) (u : Value) (hu : xs[j]? = some u) : W.cell? ⟨g, j, none⟩ = some u := by
  rcases h.2 with ⟨h0, _⟩ | ⟨g', cap', cur, h0, h1, h2, h3, h4, h5, h6⟩
  · cases h0
  · obtain ⟨e1, -, -⟩ := Value.slice.inj h0
    obtain rfl : g' = g := by simpa using (Option.some.inj e1).symm
    rw [Lib.cell_of_heap h2]
    rw [← h6] at hu
    have hj : j < m * size := by
      have := (List.getElem?_eq_some_iff.1 hu).1
      rw [List.length_take] at this
      omega
    rw [List.getElem?_take_of_lt hj] at hu
    simpa using hu
theorem row_low {W : World} {B : Nat} {e : TypeId} {size n k g cap : Nat} {xs : List Value} (h : W.ownsRow B e size (.slice (some ⟨g, 0, none⟩) k cap) k xs) (hn : n ≤ k) : W.ownsRow B e size (.slice (some ⟨g, 0, none⟩) n cap) n (xs.take (n * size)) := by
  have hl := h.1
  refine ⟨by rw [List.length_take, hl]; exact Nat.min_eq_left (Nat.mul_le_mul_right _ hn), ?_⟩
  rcases h.2 with ⟨h0, _⟩ | ⟨g', cap', cur, h0, h1, h2, h3, h4, h5, h6⟩
  · cases h0
  · obtain ⟨e1, -, rfl⟩ := Value.slice.inj h0
    obtain rfl : g' = g := by simpa using (Option.some.inj e1).symm
    refine Or.inr ⟨g', cap, cur, rfl, h1, h2, by omega, h4, h5, ?_⟩
    rw [← h6, List.take_take, Nat.min_eq_left (Nat.mul_le_mul_right _ hn)]
theorem row_set {W : World} {B g n cap : Nat} {e : TypeId} {s : Nat} {xs : List Value} (h : W.ownsRow B e s (.slice (some ⟨g, 0, none⟩) n cap) n xs) (k : Nat) (x : Value) : (W.setCell ⟨g, k, none⟩ x).ownsRow B e s (.slice (some ⟨g, 0, none⟩) n cap) n (xs.set k x) := by
  obtain ⟨hl, h1 | ⟨g', cap', cur, e, h1, h2, h3, h4, h5, h6⟩⟩ := h
  · cases h1.1
  · injection e with e1 e2 e3
    injection e1 with e1
    injection e1 with e1
    subst e1 e3
    refine ⟨by rw [List.length_set]; exact hl, .inr ⟨g, cap, _, rfl, h1, blk_set x h2, h3, h4, ?_, ?_⟩⟩
    · simpa using h5
    · rw [← h6, Array.toList_setIfInBounds, List.take_set]
/-- The cells of a list, so many for each. -/
def flat {α : Type} (f : α → List Value) : List α → List Value
  | [] => []
  | x :: l => f x ++ flat f l
theorem flat_app {α : Type} (f : α → List Value) (l k : List α) : flat f (l ++ k) = flat f l ++ flat f k := by
  induction l with
  | nil => rfl
  | cons x l ih => simp only [List.cons_append, flat, ih, List.append_assoc]
theorem flat_len {α : Type} {f : α → List Value} {n : Nat} (hf : ∀ x, (f x).length = n) (l : List α) : (flat f l).length = l.length * n := by
  induction l with
  | nil => simp [flat]
  | cons x l ih => simp only [flat, List.length_append, ih, hf, List.length_cons, Nat.succ_mul]; omega
theorem flat_one {α : Type} {f : α → List Value} (hf : ∀ x, ∀ u ∈ f x, u.oneCell' = true) (l : List α) : ∀ u ∈ flat f l, u.oneCell' = true := by
  induction l with
  | nil => intro u hu; cases hu
  | cons x l ih =>
    intro u hu
    rcases List.mem_append.1 hu with h | h
    · exact hf x u h
    · exact ih u h
theorem flat_get {α : Type} {f : α → List Value} {n : Nat} (hf : ∀ x, (f x).length = n) (d : α) (l : List α) : ∀ i j (_ : i < l.length) (_ : j < n), (flat f l)[i * n + j]? = (f (l.getD i d))[j]? := by
  induction l with
  | nil => intro i j hi; cases hi
  | cons x l ih =>
    intro i j hi hj
    cases i with
    | zero =>
      show (f x ++ flat f l)[0 * n + j]? = _
      rw [Nat.zero_mul, Nat.zero_add, List.getElem?_append_left (by rw [hf]; exact hj)]
      rfl
    | succ i =>
      have h := ih i j (by simp at hi; omega) hj
      show (f x ++ flat f l)[(i + 1) * n + j]? = _
      rw [List.getElem?_append_right (by rw [hf, Nat.succ_mul]; omega), hf, show (i + 1) * n + j - n = i * n + j by rw [Nat.succ_mul]; omega, h]
      rfl
theorem Rw.place {W : World} {v : Value} {n : Nat} {cs : List Value} (h : Rw W v n cs) (hn : 0 < n) : ∃ g o cap, v = .slice (some ⟨g, o, none⟩) n cap ∧ ∀ k u, cs[k]? = some u → W.cell? ⟨g, o + k, none⟩ = some u := by
  obtain ⟨a, g, o, cap, e, h1, h2, h3, h4⟩ := h
  exact ⟨g, o, cap, by rw [e, h3 hn], h4⟩
theorem u64_bit (a n : Nat) (ha : a < 18446744073709551616) : bits .and .u64 ((a : Int) / 2 ^ n) 1 = if a.testBit n then 1 else 0 := by
  have e : ((a : Int) / 2 ^ n) = ((a / 2 ^ n : Nat) : Int) := by simp
  have hl : a / 2 ^ n < 18446744073709551616 := Nat.lt_of_le_of_lt (Nat.div_le_self _ _) ha
  have h1 := (bits_nat .u64 64 (by decide) (fun n h0 h1 => by simp [IntKind.wrap, IntKind.bits, IntKind.signed]; omega) (a / 2 ^ n) 1 hl (by decide)).1
  rw [e, show (1 : Int) = ((1 : Nat) : Int) by rfl, h1, Nat.and_one_is_mod, Nat.testBit_eq_decide_div_mod_eq]
  by_cases h : a / 2 ^ n % 2 = 1
  · simp [h]
  · have : a / 2 ^ n % 2 = 0 := by omega
    simp [this]
theorem Rw.slot {W : World} {v : Value} {n : Nat} {cs : List Value} (h : Rw W v n cs) (k : Nat) (u : Value) (hn : 0 < n) (hu : cs[k]? = some u) : ∃ g o cap, v = .slice (some ⟨g, o, none⟩) n cap ∧ W.cell? ⟨g, o + k, none⟩ = some u := by
  obtain ⟨a, g, o, cap, e, h1, h2, h3, h4⟩ := h
  exact ⟨g, o, cap, by rw [e, h3 hn], h4 k u hu⟩
theorem Rw.form {W : World} {v : Value} {n : Nat} {cs : List Value} (h : Rw W v n cs) : ∃ a cap, v = .slice a n cap := by
  obtain ⟨a, g, o, cap, e, _⟩ := h
  exact ⟨a, cap, e⟩
end Go.Proofs.YtcmhbcfgikmblabGreatDoor
namespace Go.Proofs.YtcmhbcfgikmblabGreatDoor.Qy
open Go.RowKit Go.Maps

theorem infoP : (Tryz.prog.info? 46).map (fun i => (i.zero, i.size, i.bytes)) = some (some (.agg #[.string ⟨#[]⟩, .bool false, .string ⟨#[]⟩, .string ⟨#[]⟩, .int .i64 0]), 5, 64) := by kernel_rfl
theorem infoC : (Tryz.prog.info? 38).map (fun i => (i.zero, i.size, i.bytes)) = some (some (.agg #[.bool false, .string ⟨#[]⟩, .string ⟨#[]⟩, .string ⟨#[]⟩]), 4, 56) := by kernel_rfl
theorem grown_new {w A : World} {r b k : Nat} {v : Value} (h : w.grownBy A (some r)) (hb : w.heap.size ≤ b) : w.grownBy (A.setCell ⟨b, k, none⟩ v) (some r) :=
  ⟨h.os, h.tape, h.output, by have := h.size; simpa using this, fun j hj hne => (Below.heap_setCell A ⟨b, k, none⟩ v j (fun e => by have e' : j = b := e; omega)).trans (h.block j hj hne)⟩
theorem heap_far {W : World} {b k i : Nat} {v : Value} (h : i ≠ b) : (W.setCell ⟨b, k, none⟩ v).heap[i]? = W.heap[i]? := Below.heap_setCell W ⟨b, k, none⟩ v i (fun e => h (by rw [e]))
theorem cell_keep {W : World} {b k : Nat} {a : Addr} {v u : Value} (h : W.cell? a = some u) (hb : a.block ≠ b) : (W.setCell ⟨b, k, none⟩ v).cell? a = some u := (grown_set (W := W) (b := b) (k := k) (v := v)).cell h (fun e => hb (by injection e))
theorem grown_weak {W W' : World} {r : Nat} (h : W.grownBy W' none) : W.grownBy W' (some r) := ⟨h.os, h.tape, h.output, h.size, fun k hk _ => h.block k hk (by simp)⟩
/-- Nodes, conditions in memory. -/
def Ps (W : World) (v : Value) (l : List Pn) : Prop := Rw W v l.length (flat pf l)
def Cs (W : World) (v : Value) (l : List Cd) : Prop := Rw W v l.length (flat cf l)
theorem Ps.up {W W' : World} {v : Value} {l : List Pn} (h : Ps W v l) (hb : Below W.heap.size W W') : Ps W' v l := Rw.up h hb
theorem Cs.up {W W' : World} {v : Value} {l : List Cd} (h : Cs W v l) (hb : Below W.heap.size W W') : Cs W' v l := Rw.up h hb
theorem Ps.form {W : World} {v : Value} {l : List Pn} (h : Ps W v l) : ∃ a cap, v = .slice a l.length cap := Rw.form h
theorem Cs.form {W : World} {v : Value} {l : List Cd} (h : Cs W v l) : ∃ a cap, v = .slice a l.length cap := Rw.form h
theorem Ps.all {W : World} {a : Option Addr} {n c : Nat} {l : List Pn} (h : Ps W (.slice a n c) l) (i : Nat) (hi : i < l.length) : ∃ g o, a = some ⟨g, o, none⟩ ∧ W.cell? ⟨g, o + i * 5, none⟩ = some (.string (l.getD i pz).nm) ∧ W.cell? ⟨g, o + i * 5 + 1, none⟩ = some (.bool (l.getD i pz).lit) ∧ W.cell? ⟨g, o + i * 5 + 2, none⟩ = some (.string (l.getD i pz).fd) ∧ W.cell? ⟨g, o + i * 5 + 3, none⟩ = some (.string (l.getD i pz).cp) ∧ W.cell? ⟨g, o + i * 5 + 4, none⟩ = some (.int .i64 (l.getD i pz).kd) := by
  obtain ⟨g, o, cap, e, hc⟩ := Rw.place h (by omega)
  obtain ⟨rfl, -, -⟩ := Value.slice.inj e
  have hk : ∀ j u, (pf (l.getD i pz))[j]? = some u → W.cell? ⟨g, o + i * 5 + j, none⟩ = some u := fun j u hu => by
    rw [Nat.add_assoc]
    refine hc _ _ ?_
    rw [flat_get pf_len pz l i j hi (by have := (List.getElem?_eq_some_iff.1 hu).1; rwa [pf_len] at this)]
    exact hu
  exact ⟨g, o, rfl, hk 0 _ rfl, hk 1 _ rfl, hk 2 _ rfl, hk 3 _ rfl, hk 4 _ rfl⟩
theorem Cs.all {W : World} {a : Option Addr} {n c : Nat} {l : List Cd} (h : Cs W (.slice a n c) l) (i : Nat) (hi : i < l.length) : ∃ g o, a = some ⟨g, o, none⟩ ∧ W.cell? ⟨g, o + i * 4, none⟩ = some (.bool (l.getD i cz).nt) ∧ W.cell? ⟨g, o + i * 4 + 1, none⟩ = some (.string (l.getD i cz).a) ∧ W.cell? ⟨g, o + i * 4 + 2, none⟩ = some (.string (l.getD i cz).b) ∧ W.cell? ⟨g, o + i * 4 + 3, none⟩ = some (.string (l.getD i cz).tx) := by
  obtain ⟨g, o, cap, e, hc⟩ := Rw.place h (by omega)
  obtain ⟨rfl, -, -⟩ := Value.slice.inj e
  have hk : ∀ j u, (cf (l.getD i cz))[j]? = some u → W.cell? ⟨g, o + i * 4 + j, none⟩ = some u := fun j u hu => by
    rw [Nat.add_assoc]
    refine hc _ _ ?_
    rw [flat_get cf_len cz l i j hi (by have := (List.getElem?_eq_some_iff.1 hu).1; rwa [cf_len] at this)]
    exact hu
  exact ⟨g, o, rfl, hk 0 _ rfl, hk 1 _ rfl, hk 2 _ rfl, hk 3 _ rfl⟩
end Go.Proofs.YtcmhbcfgikmblabGreatDoor.Qy
