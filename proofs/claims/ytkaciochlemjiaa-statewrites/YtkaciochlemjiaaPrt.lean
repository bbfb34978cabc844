import Derived.Test.YtkaciochlemjiaaNum
namespace Go.Proofs.Ytkaciochlemjiaa
open Go.RowKit Go.Maps

def nmi (x : Int) : List UInt8 := nm x.toNat
/-- The five parts of a state's bytes. -/
def frb (f : Int × ByteArray) : List UInt8 := nm f.1.toNat ++ tx f.2
def prt (s : Stt) : Nat → List UInt8
  | 0 => nm s.ind.length ++ s.ind.flatMap nmi
  | 1 => nm (s.pen + 1).toNat
  | 2 => nm s.que.length ++ s.que.flatMap tx
  | 3 => nm s.frm.length ++ s.frm.flatMap frb
  | 4 => nm s.flg
  | _ => []
theorem fm_snoc {α : Type} (f : α → List UInt8) (l : List α) (d : α) (i : Nat) (h : i < l.length) : (l.take (i + 1)).flatMap f = (l.take i).flatMap f ++ f (l.getD i d) := by
  rw [take_snoc l d i h]; simp
theorem fm_len {α : Type} (f : α → List UInt8) (c : Nat) : ∀ l : List α, (∀ x ∈ l, (f x).length ≤ c) → (l.flatMap f).length ≤ l.length * c
  | [], _ => by simp
  | x :: l, h => by
    have h1 := h x (by simp)
    have h2 := fm_len f c l (fun y hy => h y (by simp [hy]))
    simp only [List.flatMap_cons, List.length_append, List.length_cons, Nat.add_mul, Nat.one_mul]
    omega
/-- What is within the limits, as numbers. -/
structure Lim (s : Stt) : Prop where
  i : s.ind.length ≤ 32
  iv : ∀ x ∈ s.ind, 0 ≤ x ∧ x ≤ 65536
  p0 : -1 ≤ s.pen
  p1 : s.pen ≤ 65536
  q : s.que.length ≤ 8
  qv : ∀ d ∈ s.que, d.size ≤ 16
  f : s.frm.length ≤ 16
  fv : ∀ f ∈ s.frm, 0 ≤ f.1 ∧ f.1 ≤ 15 ∧ f.2.size ≤ 16
  g : s.flg < 65536
theorem Lim.of {s : Stt} (h : s.shp = true) (hf : s.flg < 65536) : Lim s := by
  simp only [Stt.shp, Stt.oi, Stt.oq, Stt.of, Bool.and_eq_true, decide_eq_true_eq, List.all_eq_true, wai, okF1, isM] at h
  obtain ⟨⟨⟨⟨⟨h1, h1b⟩, h2⟩, h3⟩, h4, h4b⟩, h5, h5b⟩ := h
  exact ⟨h1, fun x hx => by have := ris_mem 0 _ h1b x hx; omega, h2, h3, h4, fun d hd => (h4b d hd).1.2, h5, fun f hf => by have := h5b f hf; omega, hf⟩
theorem nm3 (n : Nat) (h : n ≤ 70000) : (nm n).length ≤ 3 := nm_len n 3 (by omega) (by omega)
theorem n9 (n : Nat) (h : n ≤ 70000) : n < 128 ^ 9 := Nat.lt_of_le_of_lt h (by decide)
theorem tx_len (d : ByteArray) (h : d.size ≤ 16) : (tx d).length ≤ 19 := by
  have := nm3 d.size (by omega)
  have e : d.data.toList.length = d.size := Array.length_toList
  unfold tx
  rw [List.length_append]
  omega
theorem frb_len (f : Int × ByteArray) (h : 0 ≤ f.1 ∧ f.1 ≤ 15 ∧ f.2.size ≤ 16) : (frb f).length ≤ 22 := by
  have h1 := nm3 f.1.toNat (by omega)
  have h2 := tx_len f.2 h.2.2
  unfold frb
  rw [List.length_append]
  omega
theorem mem_getD {α : Type} (l : List α) (d : α) (i : Nat) (h : i < l.length) : l.getD i d ∈ l := by
  rw [List.getD_eq_getElem?_getD, List.getElem?_eq_getElem h]; exact List.getElem_mem h
theorem mem_take {α : Type} (P : α → Prop) (l : List α) (i : Nat) (h : ∀ x ∈ l, P x) : ∀ x ∈ l.take i, P x := fun x hx => h x (List.mem_of_mem_take hx)
end Go.Proofs.Ytkaciochlemjiaa
