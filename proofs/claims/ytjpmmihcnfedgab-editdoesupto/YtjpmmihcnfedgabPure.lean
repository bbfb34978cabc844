import Derived.Test.YtjpmmihcnfedgabRows
import Derived.WalkKit
namespace Go.Proofs.Ytjpmmihcnfedgab
open Go.RowKit

/-- clamped -/
def cl (n m : Int) : Int := if n < 0 then 0 else if m < n then m else n
theorem cl_bd (n m : Int) (h : 0 ≤ m) : 0 ≤ cl n m ∧ cl n m ≤ m := by
  unfold cl
  split
  · omega
  · split <;> omega
theorem cl_id {n m : Int} (h : 0 ≤ n) (h2 : n ≤ m) : cl n m = n := by
  unfold cl
  split
  · omega
  · split <;> omega
/-- the clamped place, the clamped number of bytes -/
def ca (n : Nat) (p : Int) : Nat := (cl p n).toNat
def cd (n : Nat) (p q : Int) : Nat := (cl q ((n : Int) - ca n p)).toNat
theorem ca_le (n : Nat) (p : Int) : ca n p ≤ n := by
  have := cl_bd p n (by omega)
  unfold ca
  omega
theorem cd_le (n : Nat) (p q : Int) : ca n p + cd n p q ≤ n := by
  have h := ca_le n p
  have := cl_bd q ((n : Int) - ca n p) (by omega)
  unfold cd
  omega
theorem ca_eq (n : Nat) (p : Int) : cl p n = (ca n p : Int) := by
  have := cl_bd p n (by omega)
  unfold ca
  omega
theorem cd_eq (n : Nat) (p q : Int) : cl q ((n : Int) - ca n p) = (cd n p q : Int) := by
  have h := ca_le n p
  have := cl_bd q ((n : Int) - ca n p) (by omega)
  unfold cd
  omega
theorem ca_nat {n a : Nat} (h : a ≤ n) : ca n (a : Int) = a := by
  have := ca_eq n a
  rw [cl_id (by omega) (by omega)] at this
  omega
theorem cd_nat {n a d : Nat} (h : a + d ≤ n) : cd n (a : Int) (d : Int) = d := by
  have := cd_eq n a d
  rw [ca_nat (by omega), cl_id (by omega) (by omega)] at this
  omega

theorem size_data (s : ByteArray) : s.data.size = s.size := rfl
theorem get_bang (s : ByteArray) (i : Nat) (h : i < s.size) : s[i]'h = s.get! i := by
  have := get_at s i h
  simpa using this.symm
theorem ext_get (s : ByteArray) (p e : Nat) (he : e ≤ s.size) (i : Nat) (hi : p + i < e) : (s.extract p e).data.toList[i]? = some (s.get! (p + i)) := by
  have hs : p + i < s.size := by omega
  rw [← get_bang s (p + i) hs, ByteArray.data_extract]
  simp only [Array.getElem?_toList, Array.getElem?_extract]
  have h1 : i < min e s.data.size - p := by
    have := size_data s
    omega
  rw [if_pos h1]
  exact Array.getElem?_eq_getElem (by rw [size_data]; exact hs)
theorem ext_size (s : ByteArray) (p e : Nat) (hp : p ≤ e) (he : e ≤ s.size) : (s.extract p e).size = e - p := by
  rw [ByteArray.size_extract]; omega
theorem get_list (s : ByteArray) (i : Nat) (h : i < s.size) : s.data.toList[i]? = some (s.get! i) := by
  rw [← get_bang s i h]
  simp only [Array.getElem?_toList]
  exact Array.getElem?_eq_getElem h
theorem get_none (s : ByteArray) (i : Nat) (h : s.size ≤ i) : s.data.toList[i]? = none := by
  simp only [Array.getElem?_toList]
  exact Array.getElem?_eq_none h
theorem ext_at (s : ByteArray) (p e : Nat) (he : e ≤ s.size) (i : Nat) (hi : p + i < e) : (s.extract p e).get! i = s.get! (p + i) := by
  have h1 := ext_get s p e he i hi
  rw [get_list _ i (by rw [ext_size s p e (by omega) he]; omega)] at h1
  simpa using h1
theorem ba_ext {x y : ByteArray} (h : x.size = y.size) (hb : ∀ i, i < x.size → x.get! i = y.get! i) : x = y := by
  have hd : x.data.toList = y.data.toList := by
    apply List.ext_getElem?
    intro i
    by_cases hi : i < x.size
    · rw [get_list x i hi, get_list y i (by omega), hb i hi]
    · rw [get_none x i (by omega), get_none y i (by omega)]
  have : x.data = y.data := Array.toList_inj.1 hd
  cases x
  cases y
  simp at this
  rw [this]

/-- the text behind an edit, at clamped places -/
def spl (s : ByteArray) (a e : Nat) (ins : ByteArray) : ByteArray := s.extract 0 a ++ ins ++ s.extract e s.size
theorem spl_list (s : ByteArray) (a e : Nat) (ins : ByteArray) : (spl s a e ins).data.toList = (s.extract 0 a).data.toList ++ ins.data.toList ++ (s.extract e s.size).data.toList := by
  unfold spl
  rw [ByteArray.data_append, ByteArray.data_append, Array.toList_append, Array.toList_append]
theorem ext_len (s : ByteArray) (a e : Nat) (h : a ≤ e) (he : e ≤ s.size) : (s.extract a e).data.toList.length = e - a := by
  have := ext_size s a e h he
  rw [Array.length_toList]
  exact this
theorem spl_size (s : ByteArray) (a e : Nat) (ins : ByteArray) (h : a ≤ e) (he : e ≤ s.size) : (spl s a e ins).size = s.size - (e - a) + ins.size := by
  unfold spl
  rw [ByteArray.size_append, ByteArray.size_append, ext_size s 0 a (by omega) (by omega), ext_size s e s.size he (Nat.le_refl _)]
  omega
theorem spl_head (s : ByteArray) (a e : Nat) (ins : ByteArray) (h : a ≤ e) (he : e ≤ s.size) (i : Nat) (hi : i < a) : (spl s a e ins).get! i = s.get! i := by
  have hs := spl_size s a e ins h he
  have h1 := get_list (spl s a e ins) i (by omega)
  have l1 := ext_len s 0 a (by omega) (by omega)
  rw [spl_list, List.append_assoc, List.getElem?_append_left (by omega), ext_get s 0 a (by omega) i (by omega)] at h1
  simpa using h1.symm
theorem spl_mid (s : ByteArray) (a e : Nat) (ins : ByteArray) (h : a ≤ e) (he : e ≤ s.size) (i : Nat) (hi : i < ins.size) : (spl s a e ins).get! (a + i) = ins.get! i := by
  have hs := spl_size s a e ins h he
  have h1 := get_list (spl s a e ins) (a + i) (by omega)
  have l1 := ext_len s 0 a (by omega) (by omega)
  have l3 : ins.data.toList.length = ins.size := by rw [Array.length_toList]; rfl
  rw [spl_list, List.append_assoc, List.getElem?_append_right (by omega), List.getElem?_append_left (by omega), l1, show a + i - (a - 0) = i by omega, get_list ins i hi] at h1
  simpa using h1.symm
theorem spl_tail (s : ByteArray) (a e : Nat) (ins : ByteArray) (h : a ≤ e) (he : e ≤ s.size) (i : Nat) (hi : e ≤ i) (hi2 : i < s.size) : (spl s a e ins).get! (i - (e - a) + ins.size) = s.get! i := by
  have hs := spl_size s a e ins h he
  have h1 := get_list (spl s a e ins) (i - (e - a) + ins.size) (by omega)
  have l1 := ext_len s 0 a (by omega) (by omega)
  have l3 : ins.data.toList.length = ins.size := by rw [Array.length_toList]; rfl
  rw [spl_list, List.getElem?_append_right (by rw [List.length_append]; omega), List.length_append, l1, l3, show i - (e - a) + ins.size - (a - 0 + ins.size) = i - e by omega,
    ext_get s e s.size (Nat.le_refl _) (i - e) (by omega), show e + (i - e) = i by omega] at h1
  simpa using h1.symm
/-- nothing taken, nothing brought -/
theorem spl_none (s : ByteArray) (a : Nat) (h : a ≤ s.size) (ins : ByteArray) (hi : ins.size = 0) : spl s a a ins = s := by
  have hs := spl_size s a a ins (Nat.le_refl _) h
  refine ba_ext (by omega) fun i hi => ?_
  rcases Nat.lt_or_ge i a with h1 | h1
  · exact spl_head s a a ins (Nat.le_refl _) h i h1
  · have := spl_tail s a a ins (Nat.le_refl _) h i h1 (by omega)
    rwa [show i - (a - a) + ins.size = i by omega] at this
/-- a text that begins as another and ends as it is that one behind an edit -/
theorem spl_of (s L : ByteArray) (a z : Nat) (h : a ≤ z) (hz : z ≤ s.size) (hL : a + (s.size - z) ≤ L.size) (hh : ∀ i, i < a → L.get! i = s.get! i)
    (ht : ∀ i, z ≤ i → i < s.size → L.get! (i + L.size - s.size) = s.get! i) : spl s a z (L.extract a (L.size - (s.size - z))) = L := by
  have l1 := ext_size L a (L.size - (s.size - z)) (by omega) (by omega)
  have hs := spl_size s a z (L.extract a (L.size - (s.size - z))) h hz
  refine ba_ext (by omega) fun i hi => ?_
  rcases Nat.lt_or_ge i a with h1 | h1
  · rw [spl_head s a z _ h hz i h1, hh i h1]
  rcases Nat.lt_or_ge i (L.size - (s.size - z)) with h2 | h2
  · have := spl_mid s a z (L.extract a (L.size - (s.size - z))) h hz (i - a) (by omega)
    rw [show a + (i - a) = i by omega] at this
    rw [this, ext_at L a _ (by omega) (i - a) (by omega), show a + (i - a) = i by omega]
  · have := spl_tail s a z (L.extract a (L.size - (s.size - z))) h hz (i + s.size - L.size) (by omega) (by omega)
    rw [l1, show i + s.size - L.size - (z - a) + (L.size - (s.size - z) - a) = i by omega] at this
    rw [this, ← ht (i + s.size - L.size) (by omega) (by omega), show i + s.size - L.size + L.size - s.size = i by omega]
theorem spl_back (s : ByteArray) (a e : Nat) (ins : ByteArray) (h : a ≤ e) (he : e ≤ s.size) : spl (spl s a e ins) a (a + ins.size) (s.extract a e) = s := by
  have hs := spl_size s a e ins h he
  have := spl_of (spl s a e ins) s a (a + ins.size) (by omega) (by omega) (by omega) (fun i hi => (spl_head s a e ins h he i hi).symm) (fun i h1 h2 => by
    have := spl_tail s a e ins h he (i + s.size - (spl s a e ins).size) (by omega) (by omega)
    rw [← this]
    congr 1
    omega)
  rwa [show s.size - ((spl s a e ins).size - (a + ins.size)) = e by omega] at this
theorem spl_ins (s : ByteArray) (a e : Nat) (ins : ByteArray) (h : a ≤ e) (he : e ≤ s.size) : (spl s a e ins).extract a (a + ins.size) = ins := by
  have hs := spl_size s a e ins h he
  have l1 := ext_size (spl s a e ins) a (a + ins.size) (by omega) (by omega)
  refine ba_ext (by omega) fun i hi => ?_
  rw [ext_at _ a _ (by omega) i (by omega), spl_mid s a e ins h he i (by omega)]

/-- where a byte goes -/
def mvv (p a d c : Int) : Int := if p < a then p else if p < a + d then 0 else p - d + c
def mvb (p a d : Int) : Bool := if p < a then true else if p < a + d then false else true

end Go.Proofs.Ytjpmmihcnfedgab
