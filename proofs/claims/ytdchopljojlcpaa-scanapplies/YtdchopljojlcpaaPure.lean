import Derived.Test.YtdchopljojlcpaaProg
import Derived.Test.YtdchopljojlcpaaShelf
namespace Go.Proofs.Ytdchopljojlcpaa


structure Stt where
  ind : List Int
  pen : Int
  que : List ByteArray
  frm : List (Int × ByteArray)
  flg : Nat
  deriving DecidableEq
/-- Widths that rise, from below on. -/
def ris : Int → List Int → Bool
  | _, [] => true
  | b, w :: l => decide (b < w) && decide (w ≤ 65536) && ris w l
def hasNl (d : ByteArray) : Bool := d.data.toList.contains 10
def wai (d : ByteArray) : Bool := decide (0 < d.size) && decide (d.size ≤ 16) && !hasNl d
def isM (n : Int) : Bool := decide (0 ≤ n) && decide (n < 16)
def okF1 (f : Int × ByteArray) : Bool := isM f.1 && decide (f.2.size ≤ 16)
def Stt.oi (s : Stt) : Bool := decide (s.ind.length ≤ 32) && ris 0 s.ind
def Stt.oq (s : Stt) : Bool := decide (s.que.length ≤ 8) && s.que.all wai
def Stt.of (s : Stt) : Bool := decide (s.frm.length ≤ 16) && s.frm.all okF1
def Stt.shp (s : Stt) : Bool := s.oi && decide (-1 ≤ s.pen) && decide (s.pen ≤ 65536) && s.oq && s.of
/-- The top indentation. -/
def topI (l : List Int) : Int := l.getLastD 0
def Stt.top (s : Stt) : Int := topI s.ind
theorem ris_app (b : Int) (l : List Int) (x : Int) : ris b (l ++ [x]) = (ris b l && decide (l.getLastD b < x) && decide (x ≤ 65536)) := by
  induction l generalizing b with
  | nil => simp [ris]
  | cons w l ih =>
    simp only [List.cons_append, ris, ih, List.getLastD_cons]
    cases decide (b < w) <;> cases decide (w ≤ 65536) <;> simp
theorem ris_take (b : Int) (l : List Int) (n : Nat) (h : ris b l = true) : ris b (l.take n) = true := by
  induction l generalizing b n with
  | nil => simp [ris]
  | cons w l ih =>
    cases n with
    | zero => simp [ris]
    | succ n =>
      simp only [ris, Bool.and_eq_true, List.take_succ_cons] at h ⊢
      exact ⟨h.1, ih w n h.2⟩
theorem ris_mem (b : Int) (l : List Int) (h : ris b l = true) (x : Int) (hx : x ∈ l) : b < x ∧ x ≤ 65536 := by
  induction l generalizing b with
  | nil => cases hx
  | cons w l ih =>
    simp only [ris, Bool.and_eq_true, decide_eq_true_eq] at h
    rcases List.mem_cons.1 hx with rfl | h2
    · exact ⟨h.1.1, h.1.2⟩
    · have := ih w h.2 h2
      omega
theorem last_mem (l : List Int) (d : Int) (h : l ≠ []) : l.getLastD d ∈ l := by
  induction l generalizing d with
  | nil => exact absurd rfl h
  | cons w l ih =>
    rw [List.getLastD_cons]
    cases l with
    | nil => simp
    | cons x l => exact List.mem_cons_of_mem _ (ih w (by simp))
theorem all_take {α : Type} (p : α → Bool) (l : List α) (n : Nat) (h : l.all p = true) : (l.take n).all p = true := by
  rw [List.all_eq_true] at h ⊢
  exact fun x hx => h x (List.mem_of_mem_take hx)
end Go.Proofs.Ytdchopljojlcpaa
