import Derived.Test.YtkaciochlemjiabDoo
import Derived.Test.YtkaciochlemjiabSam
import Derived.Test.YtkaciochlemjiabTwn
import Derived.Test.YtkaciochlemjiabRsp
import Derived.Test.YtkaciochlemjiabRpu
namespace Go.Proofs.Ytkaciochlemjiab
open Go.RowKit Go.Maps

theorem row_base {W : World} {B B' : Nat} {e : TypeId} {size n : Nat} {v : Value} {xs : List Value} (h : W.ownsRow B e size v n xs) (hb : B' ≤ B) : W.ownsRow B' e size v n xs := by
  refine ⟨h.1, ?_⟩
  rcases h.2 with h | ⟨g, cap, cur, h0, h1, h2⟩
  · exact .inl h
  · exact .inr ⟨g, cap, cur, h0, Nat.le_trans hb h1, h2⟩
theorem gb_trans {a b c : World} {o : Option Nat} (h : a.grownBy b o) (k : b.grownBy c o) : a.grownBy c o :=
  ⟨k.os.trans h.os, k.tape.trans h.tape, k.output.trans h.output, Nat.le_trans h.size k.size, fun j hj hne => (k.block j (Nat.lt_of_lt_of_le hj h.size) hne).trans (h.block j hj hne)⟩
theorem gb_of {W W' : World} {o : Option Nat} (h : Below W.heap.size W W') : W.grownBy W' o := ⟨h.os, h.tape, h.output, h.size, fun k hk _ => h.block k hk⟩
theorem gb_refl (W : World) (o : Option Nat) : W.grownBy W o := ⟨rfl, rfl, rfl, Nat.le_refl _, fun _ _ _ => rfl⟩
theorem ext_take (m : ByteArray) (n : Nat) : (m.extract 0 n).data.toList = m.data.toList.take n := by
  rw [ByteArray.data_extract, Array.toList_extract]
  simp
theorem bytes_ext {a b : ByteArray} (h : a.data.toList = b.data.toList) : a = b := by
  cases a; cases b
  congr
  exact Array.toList_inj.1 h
theorem mem_getD {α : Type} (l : List α) (d : α) (i : Nat) (h : i < l.length) : l.getD i d ∈ l := by
  rw [List.getD_eq_getElem?_getD, List.getElem?_eq_getElem h]; exact List.getElem_mem h
theorem ba_lst (x y : ByteArray) : (x ++ y).data.toList = x.data.toList ++ y.data.toList := by rw [ByteArray.data_append]; simp
theorem ba_siz (x y : ByteArray) : (x ++ y).size = x.size + y.size := ByteArray.size_append
theorem cel_of {W W2 : World} {B b k : Nat} {e t : TypeId} {size n : Nat} {v u : Value} {xs : List Value} {cs : Array Value} (hg : W.grownBy W2 v.ownBlock) (hb : W.heap[b]? = some (.cells cs t (0, 0))) (hr : W.ownsRow B e size v n xs) (hne : e ≠ t) (hk : cs[k]? = some u) : W2.cell? ⟨b, k, none⟩ = some u := by
  rw [Lib.cell_of_heap ((hg.block b (lt_of_heap hb) (fun e => tag_ne_blk hr hb hne e.symm)).trans hb)]; exact hk
theorem froz_of {W W2 : World} {B b k : Nat} {e t : TypeId} {size n : Nat} {v : Value} {xs : List Value} {cs : Array Value} (hg : W.grownBy W2 v.ownBlock) (hb : W.heap[b]? = some (.cells cs t (0, 0))) (hr : W.ownsRow B e size v n xs) (hne : e ≠ t) : W2.frozen? ⟨b, k, none⟩ = false :=
  Lib.frozen_of_heap ((hg.block b (lt_of_heap hb) (fun e => tag_ne_blk hr hb hne e.symm)).trans hb) k
theorem rcell {W : World} {b : Nat} {cs : Array Value} {t : TypeId} (h : W.heap[b]? = some (.cells cs t (0, 0))) (k : Nat) (v : Value) (hk : cs[k]? = some v) : W.cell? ⟨b, k, none⟩ = some v := by rw [Lib.cell_of_heap h]; exact hk
theorem own_five {W : World} {B b : Nat} {vi vq vf v0 v1 v2 v3 v4 : Value} {s : Stt} {cs : Array Value} (h : Own B W vi vq vf s) (hb : W.heap[b]? = some (.cells cs 27 (0, 0))) : Own B (five W b v0 v1 v2 v3 v4) vi vq vf s := ⟨row_five hb h.i (by decide), row_five hb h.q (by decide), row_five hb h.f (by decide)⟩
theorem acts_ok (m : ByteArray) : ∀ (l : List (Int × Int × Int)) (s : Stt), s.shp = true → s.flg < 65536 → (∀ t, acts m s l = .ok t → t.shp = true ∧ t.flg < 65536) ∧ (∀ e, acts m s l = .error e → 60 ≤ e ∧ e ≤ 66 ∧ e ≠ 65 ∧ 0 < l.length)
  | [], s, hs, hf => ⟨fun t ht => (by cases ht; exact ⟨hs, hf⟩), fun e he => (by cases he)⟩
  | a :: l, s, hs, hf => by
    have h1 := act_ok s a.1 a.2.1 a.2.2 m hs
    have h2 := act_flg s a.1 a.2.1 a.2.2 m hf
    simp only [acts]
    cases hx : act s a.1 a.2.1 a.2.2 m with
    | ok t =>
      have ih := acts_ok m l t (h1.1 t hx) (h2 t hx)
      exact ⟨ih.1, fun e he => by obtain ⟨k1, k2, k3, _⟩ := ih.2 e he; exact ⟨k1, k2, k3, by simp⟩⟩
    | error c =>
      refine ⟨fun t ht => (by cases ht), fun e he => ?_⟩
      cases he
      obtain ⟨k1, k2, k3⟩ := h1.2 c hx
      exact ⟨k1, k2, k3, by simp⟩
theorem zst_stm (W : World) : Stm W (.slice none 0 0) (.slice none 0 0) (.slice none 0 0) zst := ⟨Rw.nil W, Rw.nil W, Rw.nil W⟩
theorem rsame_zero (W : World) : Calls Try.prog 8 #[zV, zV] W fun e w' => e = .returned (.bool true) ∧ Below W.heap.size W w' := by
  have := rsame_any (s := zst) (t := zst) W (zst_stm W) (zst_stm W) (by decide) (by decide) (by decide)
  rw [decide_eq_true rfl] at this
  exact this
theorem box_cells {W : World} {b : Nat} {x0 x1 x2 x3 x4 : Value} (h : W.heap[b]? = some (.cells #[x0, x1, x2, x3, x4] 27 (0, 0))) : W.cell? ⟨b, 0, none⟩ = some x0 ∧ W.cell? ⟨b, 1, none⟩ = some x1 ∧ W.cell? ⟨b, 2, none⟩ = some x2 ∧ W.cell? ⟨b, 3, none⟩ = some x3 ∧ W.cell? ⟨b, 4, none⟩ = some x4 := by
  refine ⟨?_, ?_, ?_, ?_, ?_⟩
  · rw [Lib.cell_of_heap h]; rfl
  · rw [Lib.cell_of_heap h]; rfl
  · rw [Lib.cell_of_heap h]; rfl
  · rw [Lib.cell_of_heap h]; rfl
  · rw [Lib.cell_of_heap h]; rfl

end Go.Proofs.Ytkaciochlemjiab
