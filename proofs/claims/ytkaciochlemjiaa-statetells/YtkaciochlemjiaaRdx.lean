import Derived.Test.YtkaciochlemjiaaGrc
import Derived.Test.YtkaciochlemjiaaDco
namespace Go.Proofs.Ytkaciochlemjiaa
open Go.RowKit Go.Maps

/-- The reference's Decode under way: the state's box, the cursor, the result's cell. -/
structure Dcx (w W : World) (t : ByteArray) (k : Nat) (vi vq vf : Value) (s : Stt) : Prop where
  nx : Nx w.heap.size W (w.heap.size + 1 + 1) vi vq vf s
  cu : Cur W (w.heap.size + 1) t k
  rs : W.heap[w.heap.size]? = some (.cells zrC 27 (0, 0))
  bw : Below w.heap.size w W
section
variable {w W W' W2 : World} {t : ByteArray} {k k' : Nat} {vi vq vf v' : Value} {s : Stt}
theorem Dcx.num (h : Dcx w W t k vi vq vf s) (hg : W.grownBy W' (some (w.heap.size + 1))) (hc : Cur W' (w.heap.size + 1) t k') : Dcx w W' t k' vi vq vf s := by
  have n : ∀ {e : TypeId} {size m : Nat} {v : Value} {xs : List Value}, W.ownsRow w.heap.size e size v m xs → e ≠ 66 → W'.ownsRow w.heap.size e size v m xs := fun hr he => hr.kept hg (.inr (tag_ne_blk hr h.cu he))
  refine ⟨⟨?_, ⟨n h.nx.own.i (by decide), n h.nx.own.q (by decide), n h.nx.own.f (by decide)⟩, h.nx.lo, Nat.le_trans h.nx.lB hg.size⟩, hc, ?_, ?_⟩
  · rw [hg.block _ (lt_of_heap h.nx.blk) (by simp)]; exact h.nx.blk
  · rw [hg.block _ (lt_of_heap h.rs) (by simp)]; exact h.rs
  · exact h.bw.grown hg h.nx.lB (fun r e => by cases e; omega)
/-- Behind an append to a row of the state's. -/
theorem Dcx.app {e : TypeId} {size m : Nat} {v : Value} {xs : List Value} (h : Dcx w W t k vi vq vf s) (hr : W.ownsRow w.heap.size e size v m xs) (h1 : e ≠ 66) (h2 : e ≠ 27) (hg : W.grownBy W2 v.ownBlock) {j : Nat} {vi' vq' vf' : Value} {s' : Stt}
    (hn : Nx w.heap.size (W2.setCell ⟨w.heap.size + 1 + 1, j, none⟩ v') (w.heap.size + 1 + 1) vi' vq' vf' s' ∧ Below w.heap.size W (W2.setCell ⟨w.heap.size + 1 + 1, j, none⟩ v')) : Dcx w (W2.setCell ⟨w.heap.size + 1 + 1, j, none⟩ v') t k vi' vq' vf' s' := by
  refine ⟨hn.1, ?_, ?_, h.bw.trans hn.2⟩
  · show (W2.setCell ⟨w.heap.size + 1 + 1, j, none⟩ v').heap[w.heap.size + 1]? = _
    rw [Below.heap_setCell _ _ _ _ (by simp <;> omega), hg.block _ (lt_of_heap h.cu) (fun e => tag_ne_blk hr h.cu h1 e.symm)]
    exact h.cu
  · rw [Below.heap_setCell _ _ _ _ (by simp <;> omega), hg.block _ (lt_of_heap h.rs) (fun e => tag_ne_blk hr h.rs h2 e.symm)]
    exact h.rs
theorem Dcx.up (h : Dcx w W t k vi vq vf s) (hb : Below W.heap.size W W') : Dcx w W' t k vi vq vf s :=
  ⟨h.nx.up hb, h.cu.up hb, by rw [hb.block _ (lt_of_heap h.rs)]; exact h.rs, h.bw.trans (hb.mono h.bw.size)⟩
theorem Dcx.put (h : Dcx w W t k vi vq vf s) (j : Nat) (v : Value) (s' : Stt) (he : (bxC vi vq vf s).setIfInBounds j v = bxC vi vq vf s') (ho : Own w.heap.size W vi vq vf s') : Dcx w (W.setCell ⟨w.heap.size + 1 + 1, j, none⟩ v) t k vi vq vf s' := by
  obtain ⟨h1, h2⟩ := h.nx.put j v s' he ho
  refine ⟨h1, ?_, ?_, h.bw.trans h2⟩
  · show (W.setCell ⟨w.heap.size + 1 + 1, j, none⟩ v).heap[w.heap.size + 1]? = _
    rw [Below.heap_setCell _ _ _ _ (by simp <;> omega)]; exact h.cu
  · rw [Below.heap_setCell _ _ _ _ (by simp <;> omega)]; exact h.rs
theorem Dcx.ai (h : Dcx w W t k vi vq vf s) {x : Int} (hg : W.grownBy W2 vi.ownBlock) (hr : W2.ownsRow w.heap.size 3 1 v' (s.ind ++ [x]).length (iC (s.ind ++ [x]))) : Dcx w (W2.setCell ⟨w.heap.size + 1 + 1, 0, none⟩ v') t k v' vq vf { s with ind := s.ind ++ [x] } :=
  h.app h.nx.own.i (by decide) (by decide) hg (h.nx.appI hg hr)
theorem Dcx.aq (h : Dcx w W t k vi vq vf s) {x : ByteArray} (hg : W.grownBy W2 vq.ownBlock) (hr : W2.ownsRow w.heap.size 9 1 v' (s.que ++ [x]).length (qC (s.que ++ [x]))) : Dcx w (W2.setCell ⟨w.heap.size + 1 + 1, 2, none⟩ v') t k vi v' vf { s with que := s.que ++ [x] } :=
  h.app h.nx.own.q (by decide) (by decide) hg (h.nx.appQ hg hr)
theorem Dcx.af (h : Dcx w W t k vi vq vf s) {x : Int × ByteArray} (hg : W.grownBy W2 vf.ownBlock) (hr : W2.ownsRow w.heap.size 54 2 v' (s.frm ++ [x]).length (fC (s.frm ++ [x]))) : Dcx w (W2.setCell ⟨w.heap.size + 1 + 1, 3, none⟩ v') t k vi vq v' { s with frm := s.frm ++ [x] } :=
  h.app h.nx.own.f (by decide) (by decide) hg (h.nx.appF hg hr)
theorem Dcx.frz (h : Dcx w W t k vi vq vf s) (j : Nat) : W.frozen? ⟨w.heap.size, j, none⟩ = false := Lib.frozen_of_heap h.rs j
end
/-- The bytes are a shaped state's. -/
def OkS (t : ByteArray) (S : Stt) : Prop := S.shp = true ∧ S.flg < 65536 ∧ t.data.toList = enc S
def R4 (S : Stt) : List UInt8 := prt S 4
def R3 (S : Stt) : List UInt8 := prt S 3 ++ R4 S
def R2 (S : Stt) : List UInt8 := prt S 2 ++ R3 S
def R1 (S : Stt) : List UInt8 := prt S 1 ++ R2 S
theorem enc_r (S : Stt) : enc S = 83 :: (prt S 0 ++ R1 S) := by simp [enc, R1, R2, R3, R4]
theorem fm_ge {α : Type} (f : α → List UInt8) (h : ∀ x, 0 < (f x).length) : ∀ l : List α, l.length ≤ (l.flatMap f).length
  | [] => by simp
  | x :: l => by
    have h1 := h x
    have h2 := fm_ge f h l
    simp only [List.flatMap_cons, List.length_append, List.length_cons]
    omega
theorem nmi_pos (x : Int) : 0 < (nmi x).length := nm_pos _
theorem tx_pos (x : ByteArray) : 0 < (tx x).length := by unfold tx; rw [List.length_append]; have := nm_pos x.size; omega
theorem frb_pos (x : Int × ByteArray) : 0 < (frb x).length := by unfold frb; rw [List.length_append]; have := nm_pos x.1.toNat; omega
/-- A list's number of things is read. -/
theorem few_lst {α : Type} {f : α → List UInt8} (hf : ∀ x, 0 < (f x).length) {t : ByteArray} {k n k' : Nat} (h : ∀ m q, m < 2097152 → t.data.toList.drop k = nm m ++ q → m ≤ q.length → n = m ∧ t.data.toList.drop k' = q) {l : List α} {r : List UInt8} (hl : l.length < 2097152) (e : t.data.toList.drop k = nm l.length ++ l.flatMap f ++ r) : n = l.length ∧ t.data.toList.drop k' = l.flatMap f ++ r := by
  rw [List.append_assoc] at e
  exact h _ _ hl e (by rw [List.length_append]; have := fm_ge f hf l; omega)
/-- A thing more is read. -/
theorem one_more {α : Type} {f : α → List UInt8} {d1 d2 r : List UInt8} {L xs : List α} {x : α} (hlen : xs.length < L.length) (h : ∃ L', L = xs ++ L' ∧ d1 = L'.flatMap f ++ r) (hx : ∀ y q, y ∈ L → d1 = f y ++ q → x = y ∧ d2 = q) : ∃ L', L = (xs ++ [x]) ++ L' ∧ d2 = L'.flatMap f ++ r := by
  obtain ⟨L', rfl, h2⟩ := h
  cases L' with
  | nil => simp at hlen
  | cons y L'' =>
    rw [List.flatMap_cons, List.append_assoc] at h2
    obtain ⟨rfl, h3⟩ := hx y _ (by simp) h2
    exact ⟨L'', by simp, h3⟩
theorem all_read {α : Type} {f : α → List UInt8} {d r : List UInt8} {L xs : List α} (hlen : xs.length = L.length) (h : ∃ L', L = xs ++ L' ∧ d = L'.flatMap f ++ r) : xs = L ∧ d = r := by
  obtain ⟨L', h1, h2⟩ := h
  have : L' = [] := by
    rw [h1, List.length_append] at hlen
    exact List.length_eq_zero_iff.1 (by omega)
  subst this
  exact ⟨by rw [h1, List.append_nil], h2⟩
end Go.Proofs.Ytkaciochlemjiaa
