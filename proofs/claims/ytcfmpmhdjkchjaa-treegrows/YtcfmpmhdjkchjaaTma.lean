import Derived.Test.YtcfmpmhdjkchjaaTgi
namespace Go.Proofs.Ytcfmpmhdjkchjaa
open Go.RowKit Go.Maps

/-- What stands on a maker's stack: a symbol, its nodes' slice, its nodes, where they end. -/
abbrev En := Int × Value × List Nd × Int
def mf (x : En) : List Value := [.int .i64 x.1, x.2.1, .int .i64 x.2.2.2]
def end_ : En := (0, .slice none 0 0, [], 0)
theorem mf_len (x : En) : (mf x).length = 3 := rfl
abbrev Ep := Int × List Nd × Int
def ep (x : En) : Ep := (x.1, x.2.2.1, x.2.2.2)
/-- A step of a maker. -/
abbrev Op3 := Int × Int × Int
def opf (x : Op3) : List Value := [.int .i64 x.1, .int .i64 x.2.1, .int .i64 x.2.2]
def opd : Op3 := (0, 0, 0)
theorem opf_len (x : Op3) : (opf x).length = 3 := rfl
theorem infoMd : (Try.prog.info? 61).map (fun i => (i.zero, i.size, i.bytes)) = some (some (.agg #[.int .i64 0, .slice none 0 0, .int .i64 0]), 3, 40) := by kernel_rfl
theorem infoSn : (Try.prog.info? 22).map (fun i => (i.zero, i.size, i.bytes)) = some (some (.slice none 0 0), 1, 24) := by kernel_rfl
/-- A maker's stack and its tokens in memory. -/
structure Mst (B : Nat) (W : World) (v7 v8 : Value) (S : List En) (tk : List Nd) : Prop where
  s : W.ownsRow B 61 3 v7 S.length (flat mf S)
  t : W.ownsRow B 33 7 v8 tk.length (flat nf tk)
  e : ∀ x ∈ S, W.ownsRow B 33 7 x.2.1 x.2.2.1.length (flat nf x.2.2.1) ∧ (x.2.1.ownBlock = none ∨ x.2.1.ownBlock ≠ v8.ownBlock)
theorem Mst.up {B : Nat} {W W' : World} {v7 v8 : Value} {S : List En} {tk : List Nd} (h : Mst B W v7 v8 S tk) (hb : Below W.heap.size W W') : Mst B W' v7 v8 S tk :=
  ⟨row_up h.s hb, row_up h.t hb, fun x hx => ⟨row_up (h.e x hx).1 hb, (h.e x hx).2⟩⟩
theorem own_ltb {W : World} {B n size : Nat} {e : TypeId} {v : Value} {xs : List Value} (h : W.ownsRow B e size v n xs) : ∀ r, v.ownBlock = some r → r < W.heap.size := fun r hr => by
  obtain ⟨_, cur, hh⟩ := row_tag h r hr
  exact lt_of_heap hh
theorem Mst.tok {B : Nat} {W W' : World} {v7 v8 v8' : Value} {S : List En} {tk : List Nd} {x : Nd} {o : Obj} (h : Mst B W v7 v8 S tk) (hg : (W.alloc o).grownBy W' v8.ownBlock) (ht : W'.ownsRow B 33 7 v8' (tk.length + 1) (flat nf tk ++ nf x)) (ha : v8'.ownBlock = v8.ownBlock ∨ v8'.ownBlock = some (W.alloc o).heap.size) : Mst B W' v7 v8' S (tk ++ [x]) := by
  refine ⟨(h.s.alloc o).kept hg (tag_ne (h.s.alloc o) (h.t.alloc o) (by decide)), ?_, fun y hy => ?_⟩
  · rw [List.length_append, flat_app]
    rw [show flat nf [x] = nf x from List.append_nil _]; exact ht
  · obtain ⟨h1, h2⟩ := h.e y hy
    refine ⟨(h1.alloc o).kept hg h2, ?_⟩
    rcases h2 with h2 | h2
    · exact .inl h2
    · rcases ha with ha | ha
      · rw [ha]; exact .inr h2
      · refine .inr fun e => ?_
        rw [ha] at e
        have := own_ltb h1 _ e
        simp at this
        omega
theorem Mst.push {B : Nat} {W W' : World} {v7 v7' v8 : Value} {S : List En} {tk : List Nd} {x : En} {o : Obj} (h : Mst B W v7 v8 S tk) (hg : (W.alloc o).grownBy W' v7.ownBlock) (hs : W'.ownsRow B 61 3 v7' (S.length + 1) (flat mf S ++ mf x)) (he : W.ownsRow B 33 7 x.2.1 x.2.2.1.length (flat nf x.2.2.1)) (hn : x.2.1.ownBlock = none ∨ x.2.1.ownBlock ≠ v8.ownBlock) : Mst B W' v7' v8 (S ++ [x]) tk := by
  refine ⟨?_, (h.t.alloc o).kept hg (tag_ne (h.t.alloc o) (h.s.alloc o) (by decide)), fun y hy => ?_⟩
  · rw [List.length_append, flat_app]
    rw [show flat mf [x] = mf x from List.append_nil _]; exact hs
  · rcases List.mem_append.1 hy with hy | hy
    · obtain ⟨h1, h2⟩ := h.e y hy
      exact ⟨(h1.alloc o).kept hg (tag_ne (h1.alloc o) (h.s.alloc o) (by decide)), h2⟩
    · simp only [List.mem_cons, List.not_mem_nil, or_false] at hy
      subst hy
      exact ⟨(he.alloc o).kept hg (tag_ne (he.alloc o) (h.s.alloc o) (by decide)), hn⟩
theorem Mst.cut {B : Nat} {W : World} {v7 v7' v8 : Value} {S : List En} {tk : List Nd} {d : Nat} (h : Mst B W v7 v8 S tk) (hs : W.ownsRow B 61 3 v7' (S.take d).length (flat mf (S.take d))) : Mst B W v7' v8 (S.take d) tk :=
  ⟨hs, h.t, fun x hx => h.e x (List.mem_of_mem_take hx)⟩
/-- How many nodes stand on the stack, and how many entries. -/
def phi : List Ep → Nat
  | [] => 0
  | x :: l => x.2.1.length + 1 + phi l
theorem phi_app (l k : List Ep) : phi (l ++ k) = phi l + phi k := by
  induction l with
  | nil => simp [phi]
  | cons x l ih => show x.2.1.length + 1 + phi (l ++ k) = x.2.1.length + 1 + phi l + phi k; omega
theorem phi_len (l : List Ep) : l.length ≤ phi l := by
  induction l with
  | nil => exact Nat.le_refl _
  | cons x l ih => show (x :: l).length ≤ x.2.1.length + 1 + phi l; rw [List.length_cons]; omega
theorem phi_rom (l : List Ep) : rom (l.map (·.2.1)) = phi l + 1 := by
  induction l with
  | nil => rfl
  | cons x l ih => show rom (l.map (·.2.1)) + (x.2.1.length + 1) = x.2.1.length + 1 + phi l + 1; omega
theorem rdc_len (Te : List Td) (Sy : List Sd) (P : List Pd) (z : Int) (ks : List (List Nd)) (es : List Int) : (rdc Te Sy P z ks es).length ≤ rom ks := by
  unfold rdc
  split
  · next h =>
    simp only [rok, Bool.and_eq_true, decide_eq_true_eq] at h
    have h1 := h.2.1.1
    have h2 := pts_len Te Sy (P.getD z.toNat pfd).2.2 ks es (P.getD z.toNat pfd).2.2.length (by omega)
    rw [List.take_of_length_le (by omega)] at h2
    unfold red
    split
    · rw [List.length_cons]; omega
    · omega
  · exact Nat.zero_le _
/-- Where the last one ends. -/
def lst (S : List Ep) : Int := match S.getLast? with
  | none => 0
  | some x => x.2.2
/-- What a maker's steps keep. -/
structure Kp (Te : List Td) (Sy : List Sd) (P : List Pd) (J : List Ep → List Nd → Nat → Prop) : Prop where
  z : J [] [] 0
  tok : ∀ (S : List Ep) (tk : List Nd) (p z pad len : Nat), J S tk p → 1 ≤ z → z < Te.length → J (S ++ [((z : Int), tkn Te (z : Int) (tk.length : Int) ((p + pad : Nat) : Int) ((p + pad + len : Nat) : Int), ((p + pad + len : Nat) : Int))]) (tk ++ tkn Te (z : Int) (tk.length : Int) ((p + pad : Nat) : Int) ((p + pad + len : Nat) : Int)) (p + pad + len)
  red : ∀ (A K : List Ep) (tk : List Nd) (p q : Nat), J (A ++ K) tk p → q < P.length → 0 ≤ (P.getD q pfd).1 → K.map (·.1) = (P.getD q pfd).2.2.map (·.1) → J (A ++ [(IntKind.i64.wrap ((P.getD q pfd).1 + (Te.length : Int)), rdc Te Sy P (q : Int) (K.map (·.2.1)) (lst A :: K.map (·.2.2)), (lst A :: K.map (·.2.2)).getD K.length 0)]) tk p
end Go.Proofs.Ytcfmpmhdjkchjaa
