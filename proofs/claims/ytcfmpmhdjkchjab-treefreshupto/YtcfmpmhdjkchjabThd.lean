import Derived.Test.YtcfmpmhdjkchjabThc
namespace Go.Proofs.Ytcfmpmhdjkchjab
open Go.RowKit Go.Maps

/-- A tree's node turned. -/
def itm (f : Nd → Nd) (x : It) : It := ⟨f x.y, x.v, x.p, x.n, x.L⟩
theorem seg_get (t : List Nd) (a b j : Nat) (hj : j < b - a) : (seg t a b).getD j ndd = t.getD (a + j) ndd := by
  unfold seg
  rw [List.getD_eq_getElem?_getD, List.getElem?_take_of_lt hj, List.getElem?_drop, List.getD_eq_getElem?_getD]
theorem seg_congr (T t : List Nd) (a b : Nat) (hl : T.length = t.length) (hb : b ≤ t.length) (h : ∀ j, a ≤ j → j < b → T.getD j ndd = t.getD j ndd) : seg T a b = seg t a b := by
  refine list_ext ndd (by rw [seg_len T a b (by omega), seg_len t a b hb]) fun j hj => ?_
  rw [seg_len T a b (by omega)] at hj
  rw [seg_get T a b j hj, seg_get t a b j hj]
  exact h _ (by omega) (by omega)
theorem seg_all (t : List Nd) : seg t 0 t.length = t := by unfold seg; simp
theorem rtm_roots {t : List Nd} (hf : Fo (kds t)) (f : Nd → Nd) (hk : ∀ x, (f x).kd = x.kd) (fs : List (Nat × Value)) : ∀ (r : Nat), r ≤ rA (kds t) 0 → fs.map Prod.fst = pls (kds t) 0 r → ((fs.map (ito t)).map (itm f)).flatMap itl = seg (rtm f t t.length) 0 (wA (kds t) 0 r) := by
  intro r
  induction r generalizing fs with
  | zero =>
    intro _ h1
    have : fs = [] := List.length_eq_zero_iff.1 (FrM.len h1)
    subst this
    rw [wA_zero, seg_self]; rfl
  | succ r ih =>
    intro hr h1
    rw [pls_succ] at h1
    obtain ⟨fs', x, rfl⟩ : ∃ fs' x, fs = fs' ++ [x] := by
      have hl : fs ≠ [] := fun e => by rw [e] at h1; simp at h1
      exact ⟨fs.dropLast, fs.getLast hl, (List.dropLast_concat_getLast hl).symm⟩
    rw [List.map_append] at h1
    obtain ⟨e1, e2⟩ := List.append_inj' h1 rfl
    have e3 : x.1 = wA (kds t) 0 r := by simpa using e2
    have hlt := hf.lt 0 r (Nat.zero_le _) (by omega)
    have hel := hf.elt _ hlt
    have hro : pl (kds t) (wA (kds t) 0 r) = -1 := pl_ro hf ⟨by omega, rfl⟩
    have hnx := hf.next 0 r (by omega)
    have hst := hf.step _ hlt
    rw [kds_len] at hlt hel
    have hin : ∀ j, wA (kds t) 0 r + 1 ≤ j → j < eA (kds t) (wA (kds t) 0 r) → pl (kds t) j ≠ -1 := fun j h3 h4 e => by
      rcases pl_is hf j (by rw [kds_len]; omega) with ⟨_, i, hi, hw⟩ | ⟨q, i, e5, _⟩
      · rcases Nat.lt_or_ge r i with h5 | h5
        · have := hf.mono 0 (r + 1) i (Nat.zero_le _) h5 (by omega); omega
        · have := hf.mono 0 i r (Nat.zero_le _) h5 (by omega); omega
      · omega
    rw [List.map_append, List.map_append, List.flatMap_append, ih fs' (by omega) e1, hnx]
    have hT := rtm_len f t t.length
    rw [← seg_app (rtm f t t.length) 0 (wA (kds t) 0 r) (eA (kds t) (wA (kds t) 0 r)) (Nat.zero_le _) (by omega)]
    congr 1
    show itl (itm f (ito t x)) ++ [] = _
    rw [List.append_nil, ← seg_app (rtm f t t.length) _ (wA (kds t) 0 r + 1) _ (by omega) (by omega), seg_one (rtm f t t.length) _ (by omega)]
    rw [seg_congr (rtm f t t.length) t (wA (kds t) 0 r + 1) (eA (kds t) (wA (kds t) 0 r)) hT hel.2.1 (fun j h3 h4 => by rw [rtm_get f t t.length j (by omega), if_neg (fun q => hin j h3 h4 q.2)])]
    rw [rtm_get f t t.length _ hlt, if_pos ⟨hlt, hro⟩]
    unfold itm ito itl
    dsimp only
    rw [e3, ← hst.2.1, kds_get, ← hk (t.getD (wA (kds t) 0 r) ndd)]
    rfl
theorem rtm_whole {t : List Nd} (hf : Fo (kds t)) (f : Nd → Nd) (hk : ∀ x, (f x).kd = x.kd) (fs : List (Nat × Value)) (h1 : fs.map Prod.fst = pls (kds t) 0 (rA (kds t) 0)) : ((fs.map (ito t)).map (itm f)).flatMap itl = rtm f t t.length := by
  rw [rtm_roots hf f hk fs _ (Nat.le_refl _) h1, hf.whole, kds_len]
  have h2 := seg_all (rtm f t t.length)
  rw [rtm_len] at h2
  exact h2
theorem rtm_id {t : List Nd} : rtm id t t.length = t := by
  refine list_ext ndd (rtm_len id t t.length) fun j hj => ?_
  rw [rtm_len] at hj
  rw [rtm_get id t t.length j hj]
  split <;> rfl
theorem rtm_head {nm : ByteArray} {t : List Nd} {e : Int} (hf : Fo (kds t)) (f : Nd → Nd) (hk : ∀ x, (f x).kd = x.kd) : rtm f (hed nm t e :: t) (hed nm t e :: t).length = f (hed nm t e) :: t := by
  have h1 := fo_head (nm := nm) (e := e) hf
  have hF : Fo (kds (hed nm t e :: t)) := ⟨1, h1⟩
  have ht := Fo.top h1
  have key := rtm_whole hF f hk [(0, .slice none 0 0)] (by rw [ht]; show [0] = _; unfold pls; simp [wA_zero])
  rw [← key]
  have hlast := hF.whole
  rw [ht] at hlast
  have hst := hF.step 0 (by rw [kds_len]; exact Nat.succ_pos _)
  show itl (itm f (ito (hed nm t e :: t) (0, _))) ++ [] = _
  rw [List.append_nil]
  unfold itm ito itl
  dsimp only
  have he : eA (kds (hed nm t e :: t)) 0 = t.length + 1 := by unfold eA; rw [hlast, kds_len]; rfl
  rw [he, ← hst.2.1, kds_get, ← hk ((hed nm t e :: t).getD 0 ndd)]
  have hs : seg (hed nm t e :: t) (0 + 1) (t.length + 1) = t := by unfold seg; simp
  rw [hs]
  rfl
/-- The head of a forest is the document's. -/
theorem und_hed {t : List Nd} (hf : Fo (kds t)) (nm : ByteArray) (e : Int) (fs : List (Nat × Value)) (h1 : fs.map Prod.fst = pls (kds t) 0 (rA (kds t) 0)) : (⟨nm, true, ⟨#[]⟩, ufr (fs.map (ito t)) e, uto (fs.map (ito t)) e, (rA (kds t) 0 : Int), -1⟩ : Nd) = hed nm t e := by
  have hl := FrM.len h1
  have hle := hf.le 0
  rw [kds_len] at hle
  have hget : ∀ i, i < rA (kds t) 0 → ((fs.map (ito t)).getD i itd).y = t.getD (wA (kds t) 0 i) ndd := fun i hi => by
    have h4 := congrArg (fun l => l[i]?) h1
    simp only [List.getElem?_map, pls] at h4
    rw [List.getElem?_eq_getElem (by omega), List.getElem?_eq_getElem (by rw [List.length_range]; exact hi)] at h4
    have h5 : (fs[i]'(by omega)).1 = wA (kds t) 0 i := by simpa using h4
    rw [List.getD_eq_getElem?_getD, List.getElem?_map, List.getElem?_eq_getElem (by omega)]
    show t.getD (fs[i]'(by omega)).1 ndd = _
    rw [h5]
  unfold hed
  have e1 : ufr (fs.map (ito t)) e = hfr t e := by
    unfold ufr hfr
    rw [List.length_map, hl]
    by_cases h0 : rA (kds t) 0 = 0
    · have : t.length = 0 := by
        rcases Nat.eq_zero_or_pos t.length with h | h
        · exact h
        · have := hf.pos 0 (by rw [kds_len]; exact h); omega
      rw [if_pos h0, if_pos this]
    · rw [if_neg h0, if_neg (by omega), hget 0 (by omega), wA_zero]
  have e2 : uto (fs.map (ito t)) e = hto t e (rA (kds t) 0) := by
    unfold uto hto
    rw [List.length_map, hl]
    by_cases h0 : rA (kds t) 0 = 0
    · rw [if_pos h0, if_pos h0]
    · rw [if_neg h0, if_neg h0, hget _ (by omega)]
  rw [e1, e2]
theorem flat_setg {α : Type} {f : α → List Value} {n : Nat} (hf : ∀ x, (f x).length = n) (d : α) (j : Nat) (hj : j < n) (u : Value) (y : α) : ∀ (L : List α) (i : Nat), i < L.length → f y = (f (L.getD i d)).set j u → (flat f L).set (i * n + j) u = flat f (L.set i y)
  | [], i, h, _ => by cases h
  | x :: L, 0, _, h => by
    have e1 : flat f (x :: L) = f x ++ flat f L := rfl
    have e2 : flat f ((x :: L).set 0 y) = f y ++ flat f L := rfl
    rw [e1, e2, h, List.set_append_left _ _ (by rw [hf]; omega), Nat.zero_mul, Nat.zero_add]
    rfl
  | x :: L, i + 1, hi, h => by
    have ih := flat_setg hf d j hj u y L i (by simpa using hi) (by simpa using h)
    have e1 : flat f (x :: L) = f x ++ flat f L := rfl
    have e2 : flat f ((x :: L).set (i + 1) y) = f x ++ flat f (L.set i y) := rfl
    rw [e1, e2, ← ih, List.set_append_right _ _ (by rw [hf, Nat.add_mul]; omega), hf, show (i + 1) * n + j - n = i * n + j by rw [Nat.add_mul]; omega]
theorem itf_one (x : It) (hv : x.v.oneCell' = true) : ∀ u ∈ itf x, u.oneCell' = true := fun u hu => by
  unfold itf at hu
  rcases List.mem_append.1 hu with h | h
  · exact nf_one x.y u h
  · simp only [List.mem_cons, List.not_mem_nil, or_false] at h
    rcases h with rfl | rfl
    · exact hv
    · rfl
end Go.Proofs.Ytcfmpmhdjkchjab
