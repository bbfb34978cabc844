import Derived.Test.YtcfmpmhdjkchjaaTge
namespace Go.Proofs.Ytcfmpmhdjkchjaa
open Go.RowKit Go.Maps

/-- A row that is there is appended to a row of the call's own. -/
theorem wpList_push {P : Program} (w : World) {ops : Array Oper} {rest : List Oper} {o : Oper} {a : Act} {Q : Exit → Act → World → Prop} (hgd : o.guard = none) (s x : Operand) (t : TypeId)
    (ho : o.op = .call { callee := .builtin .append, args := #[s, x], argTypes := #[t, t] })
    (base : Nat) (e : TypeId) (i : TypeInfo) (z : Value) (size bytes : Nat) (ht : P.underlying t = some (.slice e)) (hi : P.info? e = some i) (hz : i.zero = some z)
    (hsize : i.size = size) (hby : i.bytes = bytes) (hzs : z.cells.size = size) (hsz : 0 < size)
    (g n cap : Nat) (xs : List Value) (hs : a.eval s = .slice (some ⟨g, 0, none⟩) n cap) (hown : w.ownsRow base e size (.slice (some ⟨g, 0, none⟩) n cap) n xs)
    (v : Value) (m : Nat) (cs : List Value) (hx : a.eval x = v) (hr : Rw w v m cs) (hl : cs.length = m * size) (h1 : ∀ u ∈ cs, u.oneCell' = true)
    (h63 : n + m ≤ maxLen) (hbytes : (n + m) * bytes ≤ 140737488355328) (hbase : base ≤ w.heap.size)
    (h : ∀ g' cap' w', w'.ownsRow base e size (.slice (some ⟨g', 0, none⟩) (n + m) cap') (n + m) (xs ++ cs) → w.grownBy w' (some g) → wpList P ops Q rest (a.put o.dst (.slice (some ⟨g', 0, none⟩) (n + m) cap')) w') : wpList P ops Q (o :: rest) a w := by
  obtain ⟨ao, g1, of, cap1, rfl, hcap, ha0, ha1, hc⟩ := hr
  cases ao with
  | none =>
    obtain ⟨rfl, rfl⟩ := ha0 rfl
    have : cs = [] := List.length_eq_zero_iff.1 (by omega)
    subst this
    refine wpList_append_own_none hgd s x t ho base e i size ht hi _ n xs hs hown hx (h g cap w ?_ (World.grownBy.refl _ _))
    rw [List.append_nil]; exact hown
  | some ad =>
    refine wpList_append_own w hgd s x t ho base e i z size bytes ht hi hz hsize hby hzs hsz _ n xs hs hown ad m cap1 cs hx hl (fun j u hu => ?_) h1 h63 hbytes hbase (fun v' w' h2 h3 h4 => ?_)
    · have hj : j < cs.length := (List.getElem?_eq_some_iff.1 hu).1
      have hm : 0 < m := by
        rcases Nat.eq_zero_or_pos m with h | h
        · subst h; omega
        · exact h
      obtain rfl := Option.some.inj (ha1 hm)
      rw [addPl]
      exact hc j u hu
    · rcases h2.2 with ⟨e1, e2⟩ | ⟨g', cap', cur, rfl, _⟩
      · have h5 := (h4.1 e1).1
        cases h5
      · exact h g' cap' w' h2 h3
/-- What a symbol shows in a production. -/
def prx (Te : List Td) (Sy : List Sd) (r : Rf) (k : List Nd) (e : Int) : List Nd := if r.2.2 = ⟨#[]⟩ then k else if hnd Te Sy r.1 then rtm (cal r.2.2) k k.length else hed r.2.2 k e :: k
def prf (fd : ByteArray) (x : List Nd) : List Nd := if fd = ⟨#[]⟩ then x else rtm (gfl fd) x x.length
def part (Te : List Td) (Sy : List Sd) (r : Rf) (k : List Nd) (e : Int) : List Nd := if r.2.2 = ⟨#[]⟩ ∧ hdn Te r.1 = true then [] else prf r.2.1 (prx Te Sy r k e)
theorem fo_head {nm : ByteArray} {k : List Nd} {e : Int} (h : Fo (kds k)) : rt (kds (hed nm k e :: k)) = some 1 := by
  show rt ((rA (kds k) 0 : Int) :: kds k) = some 1
  have h0 := h.r 0
  rw [List.drop_zero] at h0
  unfold rt
  rw [h0]
  dsimp only
  rw [if_pos (by omega)]
  congr 1; omega
theorem prx_fo {Te : List Td} {Sy : List Sd} {r : Rf} {k : List Nd} {e : Int} (h : Fo (kds k)) : Fo (kds (prx Te Sy r k e)) := by
  unfold prx
  split
  · exact h
  · split
    · rw [kds_rtm (f := cal r.2.2) (fun _ => rfl)]; exact h
    · exact ⟨1, fo_head h⟩
theorem prf_fo {fd : ByteArray} {x : List Nd} (h : Fo (kds x)) : Fo (kds (prf fd x)) := by
  unfold prf
  split
  · exact h
  · rw [kds_rtm (gfl_kd fd)]; exact h
theorem prx_len (Te : List Td) (Sy : List Sd) (r : Rf) (k : List Nd) (e : Int) : k.length ≤ (prx Te Sy r k e).length ∧ (prx Te Sy r k e).length ≤ k.length + 1 := by
  unfold prx
  split
  · omega
  · split
    · rw [rtm_len]; omega
    · rw [List.length_cons]; omega
theorem prf_len (fd : ByteArray) (x : List Nd) : (prf fd x).length = x.length := by
  unfold prf
  split
  · rfl
  · exact rtm_len _ _ _
theorem part_len (Te : List Td) (Sy : List Sd) (r : Rf) (k : List Nd) (e : Int) : (part Te Sy r k e).length ≤ k.length + 1 := by
  unfold part
  split
  · exact Nat.zero_le _
  · rw [prf_len]; exact (prx_len Te Sy r k e).2
theorem part_fo {Te : List Td} {Sy : List Sd} {r : Rf} {k : List Nd} {e : Int} (h : Fo (kds k)) : Fo (kds (part Te Sy r k e)) := by
  unfold part
  split
  · exact ⟨0, rfl⟩
  · exact prf_fo (prx_fo h)
/-- A row under way: its block, what is in it. -/
abbrev Og (B : Nat) (W : World) (g cap : Nat) (X : List Nd) : Prop := W.ownsRow B 33 7 (.slice (some ⟨g, 0, none⟩) X.length cap) X.length (flat nf X)
/-- The box of a Ref. -/
abbrev Rb (W : World) (b : Nat) (r : Rf) : Prop := W.heap[b]? = some (.cells #[.int .i64 r.1, .string r.2.1, .string r.2.2] 97 (0, 0))
theorem Og.blk {B : Nat} {W : World} {g cap : Nat} {X : List Nd} (h : Og B W g cap X) : B ≤ g := (row_tag h g rfl).1
theorem Rb.keep {B : Nat} {W W' : World} {g cap b : Nat} {X : List Nd} {r : Rf} (h : Rb W b r) (ho : Og B W g cap X) (hg : W.grownBy W' (some g)) : Rb W' b r :=
  (hg.block b (lt_of_heap h) (fun e => tag_ne_blk ho h (by decide) e.symm)).trans h
end Go.Proofs.Ytcfmpmhdjkchjaa
