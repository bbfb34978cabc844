import Derived.Test.YtgdmoeocgflhgaaDoorDra
import Derived.Test.YtgdmoeocgflhgaaDoorDro
import Derived.Test.YtgdmoeocgflhgaaDoorDhd
import Derived.Test.YtgdmoeocgflhgaaDoorDre
namespace Go.Proofs.YtgdmoeocgflhgaaDoor
open Go.RowKit Go.Maps

/-- The reference's reader in a state: a place, or a fault. -/
def RS (W : World) (r : Nat) (s : ByteArray) (x : Except Nat Nat) : Prop := match x with
  | .ok p => RR W r s p (-1) ∧ p ≤ s.size
  | .error b => ∃ q, RR W r s q (b : Int)
theorem RS.blk {W : World} {r : Nat} {s : ByteArray} {x : Except Nat Nat} (h : RS W r s x) : ∃ q b, RR W r s q b := by
  cases x with
  | ok p => exact ⟨_, _, h.1⟩
  | error b => obtain ⟨q, h⟩ := h; exact ⟨_, _, h⟩
theorem RS.at {W W' : World} {r : Nat} {s : ByteArray} {x : Except Nat Nat} (h : RS W r s x) (hb : W'.heap[r]? = W.heap[r]?) : RS W' r s x := by
  cases x with
  | ok p => exact ⟨hb.trans h.1, h.2⟩
  | error b => obtain ⟨q, h⟩ := h; exact ⟨q, hb.trans h⟩
theorem RS.up {W W' : World} {r : Nat} {s : ByteArray} {x : Except Nat Nat} (h : RS W r s x) (hb : Below W.heap.size W W') : RS W' r s x := by
  obtain ⟨q, b, h1⟩ := h.blk
  exact h.at (hb.block _ (lt_of_heap h1))
theorem RS.kept {W W' : World} {B n z : Nat} {e : TypeId} {v : Value} {xs : List Value} {r : Nat} {s : ByteArray} {x : Except Nat Nat} (h : RS W r s x) (ho : W.ownsRow B e z v n xs) (he : e ≠ 46) (hg : W.grownBy W' v.ownBlock) : RS W' r s x := by
  obtain ⟨q, b, h1⟩ := h.blk
  exact h.at (hg.block _ (lt_of_heap h1) (fun q => tag_ne_blk ho h1 he q.symm))
theorem RS.off {W : World} {b k : Nat} {t : TypeId} {u : Value} {cs : Array Value} {r : Nat} {s : ByteArray} {x : Except Nat Nat} (h : RS W r s x) (hb : W.heap[b]? = some (.cells cs t (0, 0))) (ht : 46 ≠ t) : RS (W.setCell ⟨b, k, none⟩ u) r s x := by
  obtain ⟨q, c, h1⟩ := h.blk
  exact h.at ((blk_off h1 hb ht).trans h1.symm)
def sgn (s : ByteArray) (d : Nat) : Except Nat Nat → Except Nat Nat
  | .error b => .error b
  | .ok p => if s.data.toList[p]? = some (UInt8.ofNat d) then .ok (p + 1) else .error p
def nuV (s : ByteArray) (lo hi : Nat) : Except Nat Nat → Nat × Except Nat Nat
  | .error b => (0, .error b)
  | .ok p => match num s lo hi p with
    | .ok (v, q) => (v, .ok q)
    | .error b => (0, .error b)
theorem sgn_ok (s : ByteArray) (d p : Nat) : sgn s d (.ok p) = if s.data.toList[p]? = some (UInt8.ofNat d) then .ok (p + 1) else .error p := rfl
theorem nuV_ok (s : ByteArray) (lo hi p : Nat) : nuV s lo hi (.ok p) = match num s lo hi p with
    | .ok (v, q) => (v, .ok q)
    | .error b => (0, .error b) := rfl
theorem nuV_le {s : ByteArray} {lo hi v : Nat} {x y : Except Nat Nat} (h : nuV s lo hi x = (v, y)) : v ≤ hi := by
  cases x with
  | error b => cases h; exact Nat.zero_le _
  | ok p =>
    rw [nuV_ok] at h
    cases hn : num s lo hi p with
    | error b => rw [hn] at h; cases h; exact Nat.zero_le _
    | ok z => obtain ⟨u, q⟩ := z; rw [hn] at h; cases h; exact num_hi hn
theorem sign_st {r : Nat} {s : ByteArray} {x : Except Nat Nat} (d : Nat) (hd : d < 256) (hs : s.size ≤ 140737488355328) (w : World) (hr : RS w r s x) :
    Calls Tryd.prog 12 #[.pointer (some ⟨r, 0, none⟩), .int .u8 (d : Int)] w fun e w' => e = .returned (.tuple #[]) ∧ RS w' r s (sgn s d x) ∧ Fr w w' r := by
  cases x with
  | error b =>
    obtain ⟨q, hr⟩ := hr
    refine (sign_bad d w hr).mono ?_
    rintro e w' ⟨rfl, rfl⟩
    exact ⟨rfl, ⟨q, hr⟩, World.grownBy.refl _ _⟩
  | ok p =>
    by_cases hp : p < s.size
    · refine (sign_any d hs hp w hr.1).mono ?_
      rintro e w' ⟨rfl, ⟨h1, h2⟩, hf⟩
      refine ⟨rfl, ?_, hf⟩
      by_cases hc : s[p].toNat = d
      · have he : s.data.toList[p]? = some (UInt8.ofNat d) := by rw [at_get s p hp, u8_eq hc hd]
        rw [sgn_ok]
        rw [if_pos he]
        exact ⟨h1 hc, hp⟩
      · have he : ¬ s.data.toList[p]? = some (UInt8.ofNat d) := by
          rw [at_get s p hp]
          intro q
          apply hc
          rw [Option.some.inj q]
          simp only [UInt8.toNat_ofNat']
          omega
        rw [sgn_ok]
        rw [if_neg he]
        exact ⟨p, h2 hc⟩
    · refine (sign_end d (by omega) w hr.1).mono ?_
      rintro e w' ⟨rfl, h1, hf⟩
      refine ⟨rfl, ?_, hf⟩
      rw [sgn_ok]
      rw [if_neg (by rw [at_none s p (by omega)]; simp)]
      exact ⟨p, h1⟩
theorem rnum_st {r lo hi : Nat} {s : ByteArray} {x : Except Nat Nat} (hs : s.size ≤ 140737488355328) (hlo : lo ≤ 128) (hhi : hi ≤ 4608) (w : World) (hr : RS w r s x) :
    Calls Tryd.prog 13 #[.pointer (some ⟨r, 0, none⟩), .int .i64 (lo : Int), .int .i64 (hi : Int)] w fun e w' => e = .returned (.int .i64 ((nuV s lo hi x).1 : Int)) ∧ RS w' r s (nuV s lo hi x).2 ∧ Fr w w' r := by
  cases x with
  | error b =>
    obtain ⟨q, hr⟩ := hr
    refine (rnum_bad _ _ w hr).mono ?_
    rintro e w' ⟨rfl, rfl⟩
    exact ⟨rfl, ⟨q, hr⟩, World.grownBy.refl _ _⟩
  | ok p =>
    refine (rnum_any hs hr.2 hlo hhi w hr.1).mono ?_
    rintro e w' ⟨h1, hf⟩
    rw [nuV_ok]
    cases hn : num s lo hi p with
    | error b => rw [hn] at h1; exact ⟨h1.1, h1.2, hf⟩
    | ok z =>
      obtain ⟨v, q⟩ := z
      rw [hn] at h1
      exact ⟨h1.1, ⟨h1.2, (num_le hn hr.2).1⟩, hf⟩
theorem ract_st {r p n : Nat} {s : ByteArray} (hs : s.size ≤ 140737488355328) (hn : n ≤ 2048) (w : World) (hr : RS w r s (.ok p)) :
    Calls Tryd.prog 14 #[.pointer (some ⟨r, 0, none⟩), .int .i64 (n : Int)] w fun e w' => (∃ (v : Ak) (x : Except Nat Nat), e = .returned (.agg #[.int .i64 v.1, .int .i64 v.2]) ∧ RS w' r s x ∧ ((∃ q, x = .ok q ∧ actR n s p = .ok (v, q)) ∨ ∃ b, x = .error b ∧ actR n s p = .error b)) ∧ Fr w w' r := by
  refine (ract_any hs hr.2 hn w hr.1).mono ?_
  rintro e w' ⟨h1, hf⟩
  refine ⟨?_, hf⟩
  cases hn : actR n s p with
  | error b =>
    rw [hn] at h1
    obtain ⟨v, h2, h3⟩ := h1
    exact ⟨v, .error b, h2, h3, Or.inr ⟨b, rfl, rfl⟩⟩
  | ok z =>
    obtain ⟨v, q⟩ := z
    rw [hn] at h1
    exact ⟨v, .ok q, h1.1, ⟨h1.2, actR_le hn hr.2⟩, Or.inl ⟨q, rfl, rfl⟩⟩
theorem szs_st {s : ByteArray} {n tk sy : Nat} {x3 x4 x5 : Except Nat Nat} (h3 : nuV s 1 2048 (sgn s 1 (sgn s 84 (.ok 0))) = (n, x3)) (h4 : nuV s 1 64 x3 = (tk, x4)) (h5 : nuV s 0 128 x4 = (sy, x5)) : (∀ p, x5 = .ok p → szs s = .ok (n, tk, sy, p)) ∧ (∀ b, x5 = .error b → szs s = .error b) := by
  have key : ∀ b, sgn s 1 (sgn s 84 (.ok 0)) = .error b → szs s = .error b → (∀ p, x5 = .ok p → szs s = .ok (n, tk, sy, p)) ∧ (∀ b, x5 = .error b → szs s = .error b) := fun b hb hz => by
    rw [hb] at h3
    cases h3
    cases h4
    cases h5
    exact ⟨fun p h => (by cases h), fun c h => (by cases h; exact hz)⟩
  by_cases h0 : s.data.toList[0]? = some 84
  · have e1 : sgn s 84 (.ok 0) = .ok 1 := by rw [sgn_ok]; exact if_pos h0
    by_cases h1 : s.data.toList[1]? = some 1
    · have e2 : sgn s 1 (.ok 1) = .ok 2 := by rw [sgn_ok]; exact if_pos h1
      have hh := hed_c h0 h1
      rw [e1, e2] at h3
      rw [nuV_ok] at h3
      cases n1 : num s 1 2048 2 with
      | error b =>
        rw [n1] at h3
        cases h3
        cases h4
        cases h5
        exact ⟨fun p h => (by cases h), fun c h => (by cases h; exact szs_b hh n1)⟩
      | ok y =>
        obtain ⟨v, p⟩ := y
        rw [n1] at h3
        cases h3
        rw [nuV_ok] at h4
        cases n2 : num s 1 64 p with
        | error b =>
          rw [n2] at h4
          cases h4
          cases h5
          exact ⟨fun p h => (by cases h), fun c h => (by cases h; exact szs_c hh n1 n2)⟩
        | ok y =>
          obtain ⟨u, q⟩ := y
          rw [n2] at h4
          cases h4
          rw [nuV_ok] at h5
          cases n3 : num s 0 128 q with
          | error b =>
            rw [n3] at h5
            cases h5
            exact ⟨fun p h => (by cases h), fun c h => (by cases h; exact szs_d hh n1 n2 n3)⟩
          | ok y =>
            obtain ⟨t, z⟩ := y
            rw [n3] at h5
            cases h5
            exact ⟨fun p h => (by cases h; exact szs_e hh n1 n2 n3), fun c h => (by cases h)⟩
    · have e2 : sgn s 1 (.ok 1) = .error 1 := by rw [sgn_ok]; exact if_neg h1
      exact key 1 (by rw [e1, e2]) (szs_a (hed_b h0 h1))
  · have e1 : sgn s 84 (.ok 0) = .error 0 := by rw [sgn_ok]; exact if_neg h0
    exact key 0 (by rw [e1]; rfl) (szs_a (hed_a h0))
/-- Rows of rows of the call's own, under way. -/
structure Pt {α : Type} (f : α → List Value) (e : TypeId) (z : Nat) (eo : TypeId) (B : Nat) (W : World) (v : Value) (L : List (Value × List α)) : Prop where
  t : W.ownsRow B eo 1 v L.length (L.map Prod.fst)
  r : ∀ x ∈ L, W.ownsRow B e z x.1 x.2.length (flat f x.2)
section
variable {α : Type} {f : α → List Value} {e : TypeId} {z : Nat} {eo : TypeId} {B : Nat} {W W' : World} {v : Value} {L : List (Value × List α)}
theorem Pt.nil : Pt f e z eo B W (.slice none 0 0) [] := ⟨World.ownsRow_nil _ _ _ _, fun x h => by cases h⟩
theorem Pt.up (h : Pt f e z eo B W v L) (hb : Below W.heap.size W W') : Pt f e z eo B W' v L := ⟨row_up h.t hb, fun x hx => row_up (h.r x hx) hb⟩
theorem Pt.off {b k : Nat} {t : TypeId} {u : Value} {cs : Array Value} (h : Pt f e z eo B W v L) (hb : W.heap[b]? = some (.cells cs t (0, 0))) (h1 : e ≠ t) (h2 : eo ≠ t) : Pt f e z eo B (W.setCell ⟨b, k, none⟩ u) v L :=
  ⟨(row_off hb h.t h2).1, fun x hx => (row_off hb (h.r x hx) h1).1⟩
theorem Pt.kept {B' s' n : Nat} {e' : TypeId} {u : Value} {xs : List Value} (h : Pt f e z eo B W v L) (ho : W.ownsRow B' e' s' u n xs) (h1 : e ≠ e') (h2 : eo ≠ e') (hg : W.grownBy W' u.ownBlock) : Pt f e z eo B W' v L :=
  ⟨h.t.kept hg (tag_ne h.t ho h2), fun x hx => (h.r x hx).kept hg (tag_ne (h.r x hx) ho h1)⟩
theorem Pt.fr {r : Nat} {s : ByteArray} {y : Except Nat Nat} (h : Pt f e z eo B W v L) (hf : Fr W W' r) (hr : RS W r s y) (h1 : e ≠ 46) (h2 : eo ≠ 46) : Pt f e z eo B W' v L := by
  obtain ⟨q, b, h9⟩ := hr.blk
  exact ⟨h.t.kept hf (.inr (tag_ne_blk h.t h9 h2)), fun x hx => (h.r x hx).kept hf (.inr (tag_ne_blk (h.r x hx) h9 h1))⟩
theorem Pt.app {v' : Value} (x : Value × List α) (h : Pt f e z eo B W v L) (hx : W.ownsRow B e z x.1 x.2.length (flat f x.2)) (hne : e ≠ eo) (hg : W.grownBy W' v.ownBlock) (ho : W'.ownsRow B eo 1 v' (L.length + 1) (L.map Prod.fst ++ [x.1])) : Pt f e z eo B W' v' (L ++ [x]) :=
  ⟨by rw [List.length_append, List.map_append]; exact ho, fun y hy => by
    rcases List.mem_append.1 hy with hy | hy
    · exact (h.r y hy).kept hg (tag_ne (h.r y hy) h.t hne)
    · obtain rfl := List.mem_singleton.1 hy
      exact hx.kept hg (tag_ne hx h.t hne)⟩
theorem Pt.nr (h : Pt f e z eo B W v L) (hz : 0 < z) : Nr f W v L := ⟨row_rw h.t (by decide), fun x hx => row_rw (h.r x hx) hz⟩
end
theorem Fr.app {w W W' : World} {r B n z : Nat} {e : TypeId} {v : Value} {xs : List Value} (h : Fr w W r) (ho : W.ownsRow B e z v n xs) (hB : w.heap.size ≤ B) (hg : W.grownBy W' v.ownBlock) : Fr w W' r :=
  ⟨hg.os.trans h.os, hg.tape.trans h.tape, hg.output.trans h.output, Nat.le_trans h.size hg.size, fun k hk hne => (hg.block k (Nat.lt_of_lt_of_le hk h.size) (fun q => by have := (row_tag ho k q.symm).1; omega)).trans (h.block k hk hne)⟩
theorem Fr.bel {w W W' : World} {r : Nat} (h : Below w.heap.size w W) (hf : Fr W W' r) (hr : w.heap.size ≤ r) : Below w.heap.size w W' :=
  h.grown hf h.size (fun k e => by cases e; exact hr)
theorem Fr.boxS {W W' : World} {r c : Nat} {s : ByteArray} {x : Except Nat Nat} {cs : Array Value} {t : TypeId} (h : Fr W W' r) (hc : W.heap[c]? = some (.cells cs t (0, 0))) (hr : RS W r s x) (hne : t ≠ 46) : W'.heap[c]? = some (.cells cs t (0, 0)) := by
  obtain ⟨q, b, h1⟩ := hr.blk
  exact h.boxR hc h1 hne
/-- The answer's block and the table's. -/
structure B5 (W : World) (rb ob : Nat) (x0 x1 : Value) : Prop where
  r : W.heap[rb]? = some (.cells #[.slice none 0 0, .slice none 0 0] 25 (0, 0))
  o : W.heap[ob]? = some (.cells #[x0, x1] 25 (0, 0))
theorem B5.up {W W' : World} {rb ob : Nat} {x0 x1 : Value} (h : B5 W rb ob x0 x1) (hb : Below W.heap.size W W') : B5 W' rb ob x0 x1 :=
  ⟨(hb.block _ (lt_of_heap h.r)).trans h.r, (hb.block _ (lt_of_heap h.o)).trans h.o⟩
theorem B5.fr {W W' : World} {rb ob r : Nat} {x0 x1 : Value} {s : ByteArray} {x : Except Nat Nat} (h : B5 W rb ob x0 x1) (hf : Fr W W' r) (hr : RS W r s x) : B5 W' rb ob x0 x1 :=
  ⟨hf.boxS h.r hr (by decide), hf.boxS h.o hr (by decide)⟩
theorem B5.grown {W W' : World} {rb ob B n z : Nat} {e : TypeId} {v : Value} {xs : List Value} {x0 x1 : Value} (h : B5 W rb ob x0 x1) (ho : W.ownsRow B e z v n xs) (he : e ≠ 25) (hg : W.grownBy W' v.ownBlock) : B5 W' rb ob x0 x1 :=
  ⟨(hg.block _ (lt_of_heap h.r) (fun q => tag_ne_blk ho h.r he q.symm)).trans h.r, (hg.block _ (lt_of_heap h.o) (fun q => tag_ne_blk ho h.o he q.symm)).trans h.o⟩
theorem B5.set {W : World} {rb ob k : Nat} {v x0 x1 : Value} (h : B5 W rb ob x0 x1) (h2 : rb ≠ ob) (y0 y1 : Value) (he : #[x0, x1].setIfInBounds k v = #[y0, y1]) : B5 (W.setCell ⟨ob, k, none⟩ v) rb ob y0 y1 :=
  ⟨(Below.heap_setCell W ⟨ob, k, none⟩ v rb h2).trans h.r, by rw [blk_set v h.o, he]⟩
/-- What the reference's Decode answers. -/
def Rq (x : Except Nat (List (List Ak) × List (List Int))) (e : Ending) (w' : World) : Prop := match x with
  | .ok (T, U) => ∃ v0 v1 A G, e = .returned (.tuple #[.agg #[v0, v1], .int .i64 (-1)]) ∧ Tb w' v0 v1 A G ∧ A.map Prod.snd = T ∧ G.map Prod.snd = U
  | .error b => e = .returned (.tuple #[.agg #[.slice none 0 0, .slice none 0 0], .int .i64 (b : Int)])
end Go.Proofs.YtgdmoeocgflhgaaDoor
