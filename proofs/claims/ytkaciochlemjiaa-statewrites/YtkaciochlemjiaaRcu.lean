import Derived.Test.YtkaciochlemjiaaItm
import Derived.Test.YtkaciochlemjiaaRwr
namespace Go.Proofs.Ytkaciochlemjiaa
open Go.RowKit Go.Maps

/-- The reference's cursor: the bytes, and the place. -/
def Cur (W : World) (r : Nat) (b : ByteArray) (k : Nat) : Prop := W.heap[r]? = some (.cells #[.string b, .int .i64 (k : Int)] 66 (0, 0))
theorem Cur.c0 {W : World} {r k : Nat} {b : ByteArray} (h : Cur W r b k) : W.cell? ⟨r, 0, none⟩ = some (.string b) := by rw [Lib.cell_of_heap h]; rfl
theorem Cur.c1 {W : World} {r k : Nat} {b : ByteArray} (h : Cur W r b k) : W.cell? ⟨r, 1, none⟩ = some (.int .i64 (k : Int)) := by rw [Lib.cell_of_heap h]; rfl
theorem Cur.frz {W : World} {r k : Nat} {b : ByteArray} (h : Cur W r b k) : W.frozen? ⟨r, 1, none⟩ = false := Lib.frozen_of_heap h 1
theorem Cur.set {W : World} {r k : Nat} {b : ByteArray} (h : Cur W r b k) (k' : Nat) : Cur (W.setCell ⟨r, 1, none⟩ (.int .i64 (k' : Int))) r b k' := by
  show (W.setCell ⟨r, 1, none⟩ (.int .i64 (k' : Int))).heap[r]? = _
  rw [blk_set _ h]; rfl
theorem Cur.up {W W' : World} {r k : Nat} {b : ByteArray} (h : Cur W r b k) (hb : Below W.heap.size W W') : Cur W' r b k := by
  show W'.heap[r]? = _
  rw [hb.block r (lt_of_heap h)]; exact h
theorem lst_siz' (x : ByteArray) : x.data.toList.length = x.size := Array.length_toList
theorem gb_drew {a b : World} {o : Option Nat} (h : a.grownBy b o) : a.grownBy b.drew o := ⟨h.os, h.tape, h.output, h.size, h.block⟩
/-- A number that stands here is read as it is. -/
def RdC (b : ByteArray) (k : Nat) (n k' : Nat) : Prop := k ≤ k' ∧ k' ≤ b.size ∧ n < 2097152 ∧ ∀ m q, m < 2097152 → b.data.toList.drop k = nm m ++ q → n = m ∧ b.data.toList.drop k' = q
/-- The bytes that were passed over by a number: all go on. -/
theorem rdc_end {b : ByteArray} {k g n : Nat} {x : UInt8} (hk : k + g < b.size) (hx : b.get! (k + g) = x) (hall : ∀ c ∈ (b.data.toList.drop k).take g, 128 ≤ c.toNat) (hl : x.toNat < 128) (hg : g < 3) (hn : n = gv ((b.data.toList.drop k).take g) + x.toNat * 128 ^ g) : RdC b k n (k + g + 1) := by
  have hlen : k + g < b.data.toList.length := by rw [lst_siz']; exact hk
  have hgl : (b.data.toList.drop k)[g]? = some x := by rw [List.getElem?_drop, List.getElem?_eq_getElem hlen, ← hx, get_list b (k + g) hk]
  have hg2 : g < (b.data.toList.drop k).length := by rw [List.length_drop]; omega
  have hsp : b.data.toList.drop k = (b.data.toList.drop k).take g ++ x :: b.data.toList.drop (k + g + 1) := by
    have h1 : (b.data.toList.drop k)[g] = x := by rw [List.getElem?_eq_getElem hg2] at hgl; exact Option.some.inj hgl
    have h2 : (b.data.toList.drop k).drop g = x :: b.data.toList.drop (k + g + 1) := by
      rw [List.drop_eq_getElem_cons hg2, h1, List.drop_drop, Nat.add_assoc]
    rw [← h2, List.take_append_drop]
  have htl : ((b.data.toList.drop k).take g).length = g := by rw [List.length_take]; omega
  refine ⟨by omega, by omega, ?_, ?_⟩
  · have h1 := gv_lt ((b.data.toList.drop k).take g)
    rw [htl] at h1
    obtain rfl | rfl | rfl : g = 0 ∨ g = 1 ∨ g = 2 := by omega
    · rw [hn]; simp at h1 ⊢; omega
    · rw [hn]; simp at h1 ⊢; omega
    · rw [hn]; simp at h1 ⊢; omega
  · intro m q _ e
    obtain ⟨p, b', h1, h2, h3⟩ := nm_form m
    rw [hsp, h1, List.append_assoc] at e
    obtain ⟨e1, e2, e3⟩ := nmf_at hall hl h2.more h2.last e
    subst e2
    exact ⟨by rw [hn, h3, ← e1, htl], e3⟩
/-- No number of three groups stands here. -/
theorem rdc_none {b : ByteArray} {k g : Nat} (hk : k + g ≤ b.size) (hg : g = 3 ∨ k + g = b.size) (hall : ∀ c ∈ (b.data.toList.drop k).take g, 128 ≤ c.toNat) : RdC b k 0 (k + g) := by
  refine ⟨by omega, hk, by omega, ?_⟩
  intro m q hm e
  exfalso
  have hz : b.data.toList.length = b.size := lst_siz' b
  refine nm_none hall (n := m) (by omega) ?_ ⟨(b.data.toList.drop k).drop g, (List.take_append_drop _ _).symm⟩ q e
  rcases hg with h | h
  · left; rw [List.length_take, List.length_drop, hz]; omega
  · right; exact List.take_of_length_le (by rw [List.length_drop, hz]; omega)
end Go.Proofs.Ytkaciochlemjiaa
