import Derived.Test.YtbhlaheidlnppaaEditp
namespace Go.Proofs.Ytbhlaheidlnppaa
open Go.RowKit

/-- a row, moved -/
def sh (D : Int) (x : (Nat × Nat) × Value) : (Nat × Nat) × Value := ((((x.1.1 : Int) + D).toNat, ((x.1.2 : Int) + D).toNat), x.2)

/-- the rows behind an edit -/
theorem edit_rows {s ins s' : ByteArray} {T T2 : List ((Nat × Nat) × Value)} {a e jh jt mm : Nat} {xh xt : (Nat × Nat) × Value} {D : Int} (h : Rw s 0 s.size (T.map (·.1))) (hs' : s' = spl s a e ins) (hae : a ≤ e) (hes : e ≤ s.size)
    (hxh : T[jh]? = some xh) (hxt : T[jt]? = some xt) (p1 : xh.1.1 ≤ a) (p4 : e ≤ xt.1.2) (hmm : (mm : Int) = (xt.1.2 : Int) + D) (hD : D = (s'.size : Int) - (s.size : Int)) (rw2 : Rw s' xh.1.1 mm (T2.map (·.1))) :
    Rw s' 0 s'.size ((T.take jh ++ T2 ++ (T.drop (jt + 1)).map (sh D)).map (·.1)) := by
  have hsz := spl_size s a e ins hae hes
  rw [← hs'] at hsz
  have hxtl := h.le _ _ (map_get hxt)
  have head : Rw s' 0 mm ((T.map (·.1)).take jh ++ T2.map (·.1)) := by
    rcases Nat.eq_zero_or_pos jh with h0 | h0
    · subst h0
      have := h.first _ (map_get hxh)
      rw [this] at rw2
      simpa using rw2
    · have hsm : xh.1.1 ≤ s'.size := by
        have := rw2.le _ _ (get_of_lt rw2.pos).choose_spec
        have := rw2.fin
        omega
      obtain ⟨q1, q2, q3⟩ := h.ahead (s' := s') (a := a) (e := e) (map_get hxh) h0 p1 hsm (fun i hi => by rw [hs']; exact spl_head s a e ins hae hes i hi) hae
      refine q1.app ?_ q2
      rw [show xh.1.1 - 1 + 1 = xh.1.1 by omega]
      exact rw2
  have e1 : ((T.take jh ++ T2 ++ (T.drop (jt + 1)).map (sh D)).map (·.1)) = ((T.map (·.1)).take jh ++ T2.map (·.1)) ++ ((T.map (·.1)).drop (jt + 1)).map fun x => (((x.1 : Int) + D).toNat, ((x.2 : Int) + D).toNat) := by
    simp [List.map_take, List.map_drop, sh, Function.comp_def]
  rw [e1]
  have hl : jt < T.length := (List.getElem?_eq_some_iff.1 hxt).1
  by_cases hm : jt + 1 < T.length
  · obtain ⟨q1, q2⟩ := h.behind (s' := s') (e := e) (D := D) (map_get hxt) (by rw [List.length_map]; exact hm) p4 (by omega) (by omega)
      (fun i j h1 h2 h3 => by
        have := spl_tail s a e ins hae hes i h1 h2
        rw [← hs'] at this
        rw [← this]
        congr 1
        omega) mm hmm
    exact head.app q1 q2
  · have hlast := h.last xt.1 (by rw [List.length_map, show T.length - 1 = jt by omega]; exact map_get hxt)
    have e2 : (T.map (·.1)).drop (jt + 1) = [] := List.drop_eq_nil_of_le (by rw [List.length_map]; omega)
    rw [e2]
    have e3 : mm = s'.size := by omega
    rw [e3] at head
    simpa using head

/-- the marks behind an edit -/
theorem edit_marks {w : World} {s ins s' : ByteArray} {T T2 : List ((Nat × Nat) × Value)} {a e jh jt : Nat} {xh xt : (Nat × Nat) × Value} {D : Int} (h : Rw s 0 s.size (T.map (·.1))) (hM : ∀ x ∈ T, Mk w x.2 (s.extract x.1.1 x.1.2)) (hM2 : ∀ x ∈ T2, Mk w x.2 (s'.extract x.1.1 x.1.2)) (hs' : s' = spl s a e ins) (hae : a ≤ e) (hes : e ≤ s.size)
    (hxh : T[jh]? = some xh) (hxt : T[jt]? = some xt) (p1 : xh.1.1 ≤ a) (p4 : e ≤ xt.1.2) (hD : D = (s'.size : Int) - (s.size : Int)) :
    ∀ x ∈ T.take jh ++ T2 ++ (T.drop (jt + 1)).map (sh D), Mk w x.2 (s'.extract x.1.1 x.1.2) := by
  have hsz := spl_size s a e ins hae hes
  rw [← hs'] at hsz
  intro x hx
  rcases List.mem_append.1 hx with hx | hx
  · rcases List.mem_append.1 hx with hx | hx
    · obtain ⟨i, hi⟩ := List.getElem?_of_mem hx
      rw [List.getElem?_take] at hi
      by_cases hij : i < jh
      · rw [if_pos hij] at hi
        have hb := h.apart' (map_get hi) (map_get hxh) hij
        have hle := h.le _ _ (map_get hi)
        have hmk := hM x (List.mem_of_getElem? hi)
        rw [ext_congr s s' x.1.1 x.1.2 x.1.1 x.1.2 hle.2.1 hle.2.2 hle.2.1 (by omega) rfl (fun k hk => by
          rw [hs', spl_head s a e ins hae hes _ (by omega)])] at hmk
        exact hmk
      · rw [if_neg hij] at hi
        simp at hi
    · exact hM2 x hx
  · obtain ⟨y, hy, rfl⟩ := List.mem_map.1 hx
    obtain ⟨i, hi⟩ := List.getElem?_of_mem hy
    rw [List.getElem?_drop] at hi
    have hb := h.apart' (map_get hxt) (map_get hi) (by omega)
    have hle := h.le _ _ (map_get hi)
    have hmk := hM y (List.mem_of_getElem? hi)
    obtain ⟨⟨yf, yt⟩, v⟩ := y
    simp only [sh] at hb hle hmk ⊢
    rw [ext_congr s s' yf yt ((yf : Int) + D).toNat ((yt : Int) + D).toNat hle.2.1 hle.2.2 (by omega) (by omega) (by omega) (fun k hk => by
      have := spl_tail s a e ins hae hes (yf + k) (by omega) (by omega)
      rw [← hs'] at this
      rw [← this]
      congr 1
      omega)] at hmk
    exact hmk

end Go.Proofs.Ytbhlaheidlnppaa
