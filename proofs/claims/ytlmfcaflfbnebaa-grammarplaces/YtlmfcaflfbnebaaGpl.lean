import Derived.Test.YtlmfcaflfbnebaaBas
namespace Go.Proofs.Ytlmfcaflfbnebaa
open Go.RowKit Go.Maps

/-- What stands at a place of a list; 0 where nothing does. -/
def en (l : List Int) (i : Int) : Int := if 0 ≤ i ∧ i < (l.length : Int) then l.getD i.toNat 0 else 0
def enL (l : List (List Int)) (i : Int) : List Int := if 0 ≤ i ∧ i < (l.length : Int) then l.getD i.toNat [] else []
theorem en_nil (i : Int) : en [] i = 0 := by unfold en; split <;> simp
/-- The place of a flaw: the eight lists, the nodes' lists. -/
def pl (L : Nat → List Int) (N : List (List Int)) (p i s : Int) : Int :=
  if p = 4 ∧ 0 ≤ s then en (enL N i) s else if p = 1 then en (L 0) i else if p = 2 then en (L 1) i else if p = 3 then en (L 2) i else if p = 4 then en (L 3) i else if p = 5 then en (L 4) i else if p = 6 then en (L 5) i else if p = 7 then en (L 6) i else if p = 8 then en (L 7) i else 0
theorem Rw.slot {W : World} {v : Value} {n : Nat} {cs : List Value} (h : Rw W v n cs) (k : Nat) (u : Value) (hn : 0 < n) (hu : cs[k]? = some u) : ∃ g o cap, v = .slice (some ⟨g, o, none⟩) n cap ∧ W.cell? ⟨g, o + k, none⟩ = some u := by
  obtain ⟨a, g, o, cap, e, h1, h2, h3, h4⟩ := h
  exact ⟨g, o, cap, by rw [e, h3 hn], h4 k u hu⟩
theorem Rw.form {W : World} {v : Value} {n : Nat} {cs : List Value} (h : Rw W v n cs) : ∃ a cap, v = .slice a n cap := by
  obtain ⟨a, g, o, cap, e, _⟩ := h
  exact ⟨a, cap, e⟩

set_option maxRecDepth 100000 in
set_option maxHeartbeats 4000000 in
theorem entry_any {v : Value} {l : List Int} (w : World) (h : Rw w v l.length (iC l)) (i : Int) :
    Calls Try.prog 8 #[v, .int .i64 i] w fun e w' => e = .returned (.int .i64 (en l i)) ∧ Below w.heap.size w w' := by
  by_cases h0 : i < 0
  · rw [show en l i = 0 from by unfold en; rw [if_neg (by omega)]]
    obtain ⟨a, cap, rfl⟩ := h.form
    clear h
    go_enter Try.func8, Try.ntmps8
    go_wp2_with fail
    go_ret
    exact ⟨rfl, Below.refl _ _⟩
  by_cases h1 : (l.length : Int) ≤ i
  · rw [show en l i = 0 from by unfold en; rw [if_neg (by omega)]]
    obtain ⟨a, cap, rfl⟩ := h.form
    clear h
    go_enter Try.func8, Try.ntmps8
    go_wp2_with fail
    go_ret
    exact ⟨rfl, Below.refl _ _⟩
  obtain ⟨k, rfl⟩ : ∃ k : Nat, i = (k : Int) := ⟨i.toNat, by omega⟩
  have hk : k < l.length := by omega
  rw [show en l (k : Int) = l.getD k 0 from by unfold en; rw [if_pos (by omega)]; rfl]
  obtain ⟨g, o, cap, rfl, hc⟩ := h.slot k _ (by omega) (iC_get l k hk)
  clear h h0 h1
  obtain ⟨n, hn⟩ : ∃ n, l.length = n := ⟨_, rfl⟩
  rw [hn] at hk ⊢
  clear hn
  go_enter Try.func8, Try.ntmps8
  go_wp2_with fail
  go_ret
  exact ⟨rfl, Below.refl _ _⟩

set_option maxRecDepth 100000 in
set_option maxHeartbeats 4000000 in
theorem rentry_any {v : Value} {l : List Int} (w : World) (h : Rw w v l.length (iC l)) (i : Int) :
    Calls Try.prog 11 #[v, .int .i64 i] w fun e w' => e = .returned (.int .i64 (en l i)) ∧ Below w.heap.size w w' := by
  by_cases h0 : i < 0
  · rw [show en l i = 0 from by unfold en; rw [if_neg (by omega)]]
    obtain ⟨a, cap, rfl⟩ := h.form
    clear h
    go_enter Try.func11, Try.ntmps11
    go_wp2_with fail
    go_ret
    exact ⟨rfl, Below.refl _ _⟩
  by_cases h1 : (l.length : Int) ≤ i
  · rw [show en l i = 0 from by unfold en; rw [if_neg (by omega)]]
    obtain ⟨a, cap, rfl⟩ := h.form
    clear h
    go_enter Try.func11, Try.ntmps11
    go_wp2_with fail
    go_ret
    exact ⟨rfl, Below.refl _ _⟩
  obtain ⟨k, rfl⟩ : ∃ k : Nat, i = (k : Int) := ⟨i.toNat, by omega⟩
  have hk : k < l.length := by omega
  rw [show en l (k : Int) = l.getD k 0 from by unfold en; rw [if_pos (by omega)]; rfl]
  obtain ⟨g, o, cap, rfl, hc⟩ := h.slot k _ (by omega) (iC_get l k hk)
  clear h h0 h1
  obtain ⟨n, hn⟩ : ∃ n, l.length = n := ⟨_, rfl⟩
  rw [hn] at hk ⊢
  clear hn
  go_enter Try.func11, Try.ntmps11
  go_wp2_with fail
  go_ret
  exact ⟨rfl, Below.refl _ _⟩

set_option maxRecDepth 100000 in
set_option maxHeartbeats 4000000 in
theorem entryL_any {v : Value} {N : List (List Int)} {vs : List Value} (w : World) (h : Rw w v N.length vs) (hl : vs.length = N.length) (he : ∀ (j : Nat) (x : Value) (l : List Int), vs[j]? = some x → N[j]? = some l → Rw w x l.length (iC l)) (i : Int) :
    Calls Try.prog 9 #[v, .int .i64 i] w fun e w' => (∃ x, e = .returned x ∧ Rw w x (enL N i).length (iC (enL N i))) ∧ Below w.heap.size w w' := by
  by_cases h0 : i < 0
  · rw [show enL N i = [] from by unfold enL; rw [if_neg (by omega)]]
    obtain ⟨a, cap, rfl⟩ := h.form
    clear h he
    go_enter Try.func9, Try.ntmps9
    go_wp2_with fail
    go_ret
    exact ⟨⟨_, rfl, Rw.nil _⟩, Below.refl _ _⟩
  by_cases h1 : (N.length : Int) ≤ i
  · rw [show enL N i = [] from by unfold enL; rw [if_neg (by omega)]]
    obtain ⟨a, cap, rfl⟩ := h.form
    clear h he
    go_enter Try.func9, Try.ntmps9
    go_wp2_with fail
    go_ret
    exact ⟨⟨_, rfl, Rw.nil _⟩, Below.refl _ _⟩
  obtain ⟨k, rfl⟩ : ∃ k : Nat, i = (k : Int) := ⟨i.toNat, by omega⟩
  have hk : k < N.length := by omega
  rw [show enL N (k : Int) = N.getD k [] from by unfold enL; rw [if_pos (by omega)]; rfl]
  have hx : vs[k]? = some vs[k] := List.getElem?_eq_getElem (by omega)
  have hN : N[k]? = some (N.getD k []) := by rw [List.getD_eq_getElem?_getD, List.getElem?_eq_getElem hk]; rfl
  obtain ⟨g, o, cap, rfl, hc⟩ := h.slot k _ (by omega) hx
  have HE : Hid (Rw w vs[k] (N.getD k []).length (iC (N.getD k []))) := he k _ _ hx hN
  obtain ⟨x, hx'⟩ : ∃ x, vs[k] = x := ⟨_, rfl⟩
  rw [hx'] at HE hc
  clear h h0 h1 he hN hx hx' hl
  obtain ⟨n, hn⟩ : ∃ n, N.length = n := ⟨_, rfl⟩
  rw [hn] at hk ⊢
  clear hn
  obtain ⟨a, c, rfl⟩ := HE.out.form
  go_enter Try.func9, Try.ntmps9
  go_wp2_with fail
  go_ret
  exact ⟨⟨_, rfl, HE.out⟩, Below.refl _ _⟩
/-- The spots in memory. -/
structure Sp (W : World) (v : Nat → Value) (vn : Value) (L : Nat → List Int) (N : List (List Int)) (vs : List Value) : Prop where
  f : ∀ k, k < 8 → Rw W (v k) (L k).length (iC (L k))
  n : Rw W vn N.length vs
  len : vs.length = N.length
  e : ∀ (j : Nat) (x : Value) (l : List Int), vs[j]? = some x → N[j]? = some l → Rw W x l.length (iC l)
theorem Sp.up {W W' : World} {v : Nat → Value} {vn : Value} {L : Nat → List Int} {N : List (List Int)} {vs : List Value} (h : Sp W v vn L N vs) (hb : Below W.heap.size W W') : Sp W' v vn L N vs :=
  ⟨fun k hk => (h.f k hk).up hb, h.n.up hb, h.len, fun j x l hx hl => (h.e j x l hx hl).up hb⟩
@[reducible] def spv (v : Nat → Value) (vn : Value) : Value := .agg #[v 0, v 1, v 2, v 3, v 4, v 5, v 6, v 7, vn]
@[reducible] def spC (v : Nat → Value) (vn : Value) : Array Value := #[v 0, v 1, v 2, v 3, v 4, v 5, v 6, v 7, vn]
end Go.Proofs.Ytlmfcaflfbnebaa
