import Derived.Test.YtbhlaheidlnppaaLastb
namespace Go.Proofs.Ytbhlaheidlnppaa
open Go.RowKit

/-- the text behind an edit, at clamped places -/
def spl (s : ByteArray) (a e : Nat) (ins : ByteArray) : ByteArray := ⟨((s.extract 0 a).data.toList ++ ins.data.toList ++ (s.extract e s.size).data.toList).toArray⟩

theorem ext_len (s : ByteArray) (a e : Nat) (h : a ≤ e) (he : e ≤ s.size) : (s.extract a e).data.toList.length = e - a := by
  have := ext_size s a e h he
  rw [Array.length_toList]
  exact this
theorem spl_size (s : ByteArray) (a e : Nat) (ins : ByteArray) (h : a ≤ e) (he : e ≤ s.size) : (spl s a e ins).size = s.size - (e - a) + ins.size := by
  have h1 := ext_len s 0 a (by omega) (by omega)
  have h2 := ext_len s e s.size he (Nat.le_refl _)
  have h3 : ins.data.toList.length = ins.size := by rw [Array.length_toList]; rfl
  have h4 : (spl s a e ins).size = ((s.extract 0 a).data.toList ++ ins.data.toList ++ (s.extract e s.size).data.toList).length := by
    unfold spl
    show (List.toArray _).size = _
    rw [List.size_toArray]
  rw [h4, List.length_append, List.length_append]
  omega
theorem get_list (s : ByteArray) (i : Nat) (h : i < s.size) : s.data.toList[i]? = some (s.get! i) := by
  rw [← get_bang s i h]
  simp only [Array.getElem?_toList]
  exact Array.getElem?_eq_getElem h
theorem spl_head (s : ByteArray) (a e : Nat) (ins : ByteArray) (h : a ≤ e) (he : e ≤ s.size) (i : Nat) (hi : i < a) : (spl s a e ins).get! i = s.get! i := by
  have hs := spl_size s a e ins h he
  have h1 := get_list (spl s a e ins) i (by omega)
  have l1 := ext_len s 0 a (by omega) (by omega)
  have h2 : (spl s a e ins).data.toList = (s.extract 0 a).data.toList ++ ins.data.toList ++ (s.extract e s.size).data.toList := by
    unfold spl; rfl
  rw [h2, List.append_assoc, List.getElem?_append_left (by omega), ext_get s 0 a (by omega) i (by omega)] at h1
  simpa using h1.symm
theorem spl_tail (s : ByteArray) (a e : Nat) (ins : ByteArray) (h : a ≤ e) (he : e ≤ s.size) (i : Nat) (hi : e ≤ i) (hi2 : i < s.size) : (spl s a e ins).get! (i - (e - a) + ins.size) = s.get! i := by
  have hs := spl_size s a e ins h he
  have h1 := get_list (spl s a e ins) (i - (e - a) + ins.size) (by omega)
  have l1 := ext_len s 0 a (by omega) (by omega)
  have l3 : ins.data.toList.length = ins.size := by rw [Array.length_toList]; rfl
  have h2 : (spl s a e ins).data.toList = (s.extract 0 a).data.toList ++ ins.data.toList ++ (s.extract e s.size).data.toList := by
    unfold spl; rfl
  rw [h2, List.getElem?_append_right (by rw [List.length_append]; omega), List.length_append, l1, l3, show i - (e - a) + ins.size - (a - 0 + ins.size) = i - e by omega,
    ext_get s e s.size (Nat.le_refl _) (i - e) (by omega), show e + (i - e) = i by omega] at h1
  simpa using h1.symm

/-- rows that lie ahead of a change stay -/
theorem Rw.ahead {s s' : ByteArray} {a e : Nat} {R : List (Nat × Nat)} (h : Rw s 0 s.size R) {n : Nat} {r : Nat × Nat} (hn : R[n]? = some r) (h0 : 0 < n) (hr : r.1 ≤ a) (hs : r.1 ≤ s'.size) (hg : ∀ i, i < a → s'.get! i = s.get! i) (_he : a ≤ e) : Rw s' 0 (r.1 - 1) (R.take n) ∧ s'.get! (r.1 - 1) = 10 ∧ 1 ≤ r.1 := by
  have hl := lt_of_get hn
  obtain ⟨q, hq⟩ := get_of_lt (R := R) (i := n - 1) (by omega)
  have hst := h.step (n - 1) q r hq (by rw [show n - 1 + 1 = n by omega]; exact hn)
  have lq := h.le _ _ hq
  have tk : ∀ (i : Nat) (x : Nat × Nat), (R.take n)[i]? = some x → i < n ∧ R[i]? = some x := by
    intro i x hx
    rw [List.getElem?_take] at hx
    by_cases hi : i < n
    · rw [if_pos hi] at hx; exact ⟨hi, hx⟩
    · rw [if_neg hi] at hx; simp at hx
  have lt' : (R.take n).length = n := by rw [List.length_take]; omega
  have bound : ∀ (i : Nat) (x : Nat × Nat), i < n → R[i]? = some x → x.2 < r.1 := fun i x hi hx => h.apart' hx hn hi
  refine ⟨⟨by omega, fun x hx => h.first x (tk _ _ hx).2, fun x hx => ?_, fun i x hx => ?_, by omega, fun i x x' hx hx' => ?_, fun i x hx k hk1 hk2 => ?_⟩, ?_, by omega⟩
  · rw [lt'] at hx
    have := (tk _ _ hx).2
    rw [hq] at this
    simp at this
    subst this
    omega
  · obtain ⟨hi, hx⟩ := tk _ _ hx
    have := h.le _ _ hx
    have := bound _ _ hi hx
    omega
  · obtain ⟨hi, hx⟩ := tk _ _ hx
    obtain ⟨hi', hx'⟩ := tk _ _ hx'
    have s1 := h.step _ _ _ hx hx'
    have := bound _ _ hi hx
    exact ⟨s1.1, by rw [hg _ (by omega)]; exact s1.2⟩
  · obtain ⟨hi, hx⟩ := tk _ _ hx
    have := bound _ _ hi hx
    rw [hg _ (by omega)]
    exact h.free _ _ hx k hk1 hk2
  · rw [hg _ (by omega), show r.1 - 1 = q.2 by omega]
    exact hst.2

/-- rows that lie behind a change, moved -/
theorem Rw.behind {s s' : ByteArray} {e : Nat} {D : Int} {R : List (Nat × Nat)} (h : Rw s 0 s.size R) {n : Nat} {r : Nat × Nat} (hn : R[n]? = some r) (hlast : n + 1 < R.length) (hr : e ≤ r.2) (hD : (s'.size : Int) = s.size + D) (hD2 : 0 ≤ (e : Int) + D)
    (hg : ∀ i j : Nat, e ≤ i → i < s.size → (j : Int) = i + D → s'.get! j = s.get! i) (k : Nat) (hk : (k : Int) = r.2 + D) :
    Rw s' (k + 1) s'.size ((R.drop (n + 1)).map fun x => (((x.1 : Int) + D).toNat, ((x.2 : Int) + D).toNat)) ∧ s'.get! k = 10 := by
  obtain ⟨q, hq⟩ := get_of_lt hlast
  have hst := h.step n r q hn hq
  have lq := h.le _ _ hq
  have dk : ∀ (i : Nat) (x : Nat × Nat), ((R.drop (n + 1)).map fun x => (((x.1 : Int) + D).toNat, ((x.2 : Int) + D).toNat))[i]? = some x → ∃ y, R[n + 1 + i]? = some y ∧ (x.1 : Int) = y.1 + D ∧ (x.2 : Int) = y.2 + D ∧ r.2 < y.1 ∧ y.1 ≤ y.2 ∧ y.2 ≤ s.size := by
    intro i x hx
    rw [List.getElem?_map, List.getElem?_drop] at hx
    cases hy : R[n + 1 + i]? with
    | none => rw [hy] at hx; simp at hx
    | some y =>
      rw [hy] at hx
      simp at hx
      have b1 := h.apart' hn hy (by omega)
      have b2 := h.le _ _ hy
      subst hx
      exact ⟨y, rfl, by simp; omega, by simp; omega, b1, b2.2.1, b2.2.2⟩
  have ll : ((R.drop (n + 1)).map fun x => (((x.1 : Int) + D).toNat, ((x.2 : Int) + D).toNat)).length = R.length - (n + 1) := by simp
  refine ⟨⟨by rw [ll]; omega, fun x hx => ?_, fun x hx => ?_, fun i x hx => ?_, Nat.le_refl _, fun i x x' hx hx' => ?_, fun i x hx k' hk1 hk2 => ?_⟩, ?_⟩
  · obtain ⟨y, e1, e2, e3, e4, e5, e6⟩ := dk _ _ hx
    rw [show n + 1 + 0 = n + 1 by omega, hq] at e1
    simp at e1
    subst e1
    omega
  · rw [ll] at hx
    obtain ⟨y, e1, e2, e3, e4, e5, e6⟩ := dk _ _ hx
    have := h.last y (by rw [← e1]; congr 1; omega)
    omega
  · obtain ⟨y, e1, e2, e3, e4, e5, e6⟩ := dk _ _ hx
    omega
  · obtain ⟨y, e1, e2, e3, e4, e5, e6⟩ := dk _ _ hx
    obtain ⟨y', f1, f2, f3, f4, f5, f6⟩ := dk _ _ hx'
    have s1 := h.step _ _ _ e1 (by rw [show n + 1 + i + 1 = n + 1 + (i + 1) by omega]; exact f1)
    refine ⟨by omega, ?_⟩
    have hlt : y.2 < s.size := by omega
    rw [hg y.2 x.2 (by omega) hlt e3]
    exact s1.2
  · obtain ⟨y, e1, e2, e3, e4, e5, e6⟩ := dk _ _ hx
    have hf := h.free _ _ e1 ((k' : Int) - D).toNat (by omega) (by omega)
    rw [hg ((k' : Int) - D).toNat k' (by omega) (by omega) (by omega)]
    exact hf
  · rw [hg r.2 k (by omega) (by omega) hk]
    exact hst.2

theorem ext_congr (s s' : ByteArray) (f e f' e' : Nat) (h1 : f ≤ e) (h2 : e ≤ s.size) (h3 : f' ≤ e') (h4 : e' ≤ s'.size) (hl : e - f = e' - f') (hb : ∀ i, i < e - f → s.get! (f + i) = s'.get! (f' + i)) : s.extract f e = s'.extract f' e' := by
  have hd : (s.extract f e).data.toList = (s'.extract f' e').data.toList := by
    apply List.ext_getElem?
    intro i
    by_cases hi : i < e - f
    · rw [ext_get s f e h2 i (by omega), ext_get s' f' e' h4 i (by omega), hb i hi]
    · rw [ext_none s f e h2 i (by omega), ext_none s' f' e' h4 i (by omega)]
  have : (s.extract f e).data = (s'.extract f' e').data := Array.toList_inj.1 hd
  cases hx : s.extract f e
  cases hy : s'.extract f' e'
  rw [hx, hy] at this
  simp at this
  rw [this]

end Go.Proofs.Ytbhlaheidlnppaa
