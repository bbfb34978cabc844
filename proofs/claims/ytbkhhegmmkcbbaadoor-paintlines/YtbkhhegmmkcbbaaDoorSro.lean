import Derived.Test.YtbkhhegmmkcbbaaDoorSuf
namespace Go.Proofs.YtbkhhegmmkcbbaaDoor
open Go.RowKit Go.Maps

/-- The cells of a row of numbers. -/
def rC (l : List Nat) : List Value := l.map fun (x : Nat) => .int .i64 (x : Int)
theorem rC_get (l : List Nat) (i : Nat) (h : i < l.length) : (rC l)[i]? = some (.int .i64 ((l.getD i 0 : Nat) : Int)) := by
  unfold rC
  rw [List.getElem?_map, List.getElem?_eq_getElem h, List.getD_eq_getElem?_getD, List.getElem?_eq_getElem h]; rfl
theorem rC_set (l : List Nat) (i x : Nat) : (rC l).set i (.int .i64 (x : Int)) = rC (l.set i x) := by unfold rC; rw [List.map_set]
theorem grown_tr {w w1 w2 : World} {r : Option Nat} (h : w.grownBy w1 r) (k : w1.grownBy w2 r) : w.grownBy w2 r :=
  ⟨k.os.trans h.os, k.tape.trans h.tape, k.output.trans h.output, Nat.le_trans h.size k.size, fun j hj hne => (k.block j (Nat.lt_of_lt_of_le hj h.size) hne).trans (h.block j hj hne)⟩
theorem grown_rf (w : World) (r : Option Nat) : w.grownBy w r := ⟨rfl, rfl, rfl, Nat.le_refl _, fun _ _ _ => rfl⟩
theorem row_frz {W : World} {B g n cap : Nat} {e : TypeId} {s : Nat} {xs : List Value} (h : W.ownsRow B e s (.slice (some ⟨g, 0, none⟩) n cap) n xs) (k : Nat) : W.frozen? ⟨g, k, none⟩ = false := by
  obtain ⟨_, cur, hgh⟩ := row_tag h g rfl
  exact Lib.frozen_of_heap hgh k
set_option maxRecDepth 100000 in
set_option maxHeartbeats 4000000 in
/-- take. -/
theorem rowTake_any {B g n cap : Nat} {l : List Nat} {K : Nat → Bool} (w : World) (h : w.ownsRow B 3 1 (.slice (some ⟨g, 0, none⟩) n cap) n (rC l)) (hu : Uf l K n) (a : Nat) (ha : a + 1 < n) (hn : n ≤ 4611686018427387904) :
    Calls Tryd.prog 24 #[.slice (some ⟨g, 0, none⟩) n cap, .int .i64 (a : Int)] w fun e w' => e = .returned (.tuple #[]) ∧ w'.ownsRow B 3 1 (.slice (some ⟨g, 0, none⟩) n cap) n (rC (l.set a (a + 1))) ∧ w.grownBy w' (some g) := by
  have HR : Hid (w.ownsRow B 3 1 (.slice (some ⟨g, 0, none⟩) n cap) n (rC l)) := h
  have HL : Hid (a < l.length) := by show _ < _; rw [hu.len]; omega
  have c1 := row_at h a _ (rC_get l a (by rw [hu.len]; omega))
  have fz := row_frz h a
  have b1 : (0 : Int) ≤ (a : Int) := by omega
  have b2 : (a : Int) < (n : Int) := by omega
  have b3 : a < n := by omega
  have hw := w64n a (by omega)
  clear h hu ha hn
  go_enter Tryd.func24, Tryd.ntmps24
  go_wp2_with fail
  have h9 := row_set HR.out a (.int .i64 ((a + 1 : Nat) : Int))
  rw [rC_set] at h9
  exact bodyPost_end (results_none rfl _ _ _) rfl ⟨rfl, h9, grown_set⟩
set_option maxRecDepth 100000 in
set_option maxHeartbeats 4000000 in
/-- from: the first free one. -/
theorem rowFrom_any {B g n cap : Nat} {l : List Nat} {K : Nat → Bool} (w : World) (h : w.ownsRow B 3 1 (.slice (some ⟨g, 0, none⟩) n cap) n (rC l)) (hu : Uf l K n) (a : Nat) (ha : a < n) :
    Calls Tryd.prog 23 #[.slice (some ⟨g, 0, none⟩) n cap, .int .i64 (a : Int)] w fun e w' => ∃ (f : Nat) (l' : List Nat), e = .returned (.int .i64 (f : Int)) ∧ Fr K a f ∧ f < n ∧ Uf l' K n ∧ w'.ownsRow B 3 1 (.slice (some ⟨g, 0, none⟩) n cap) n (rC l') ∧ w.grownBy w' (some g) := by
  have HR : Hid (w.ownsRow B 3 1 (.slice (some ⟨g, 0, none⟩) n cap) n (rC l)) := h
  have HU : Hid (Uf l K n) := hu
  have HA : Hid (a < n) := ha
  clear h hu ha
  go_enter Tryd.func23, Tryd.ntmps23
  go_upto_region 1 with fail
  go_loopg [1] (n - a) (fun gm v1 wr => ∃ (t : Nat) (l' : List Nat), v1 = .int .i64 (t : Int) ∧ Hid (a ≤ t ∧ t < n ∧ gm = n - t ∧ ∀ j, a ≤ j → j < t → K j = true) ∧ Hid (Uf l' K n) ∧ Hid (wr.ownsRow B 3 1 (.slice (some ⟨g, 0, none⟩) n cap) n (rC l')) ∧ Hid (w.grownBy wr (some g)))
  case atStart => exact ⟨a, l, rfl, ⟨Nat.le_refl _, HA.out, rfl, fun j h1 h2 => by omega⟩, HU, HR, grown_rf _ _⟩
  case round =>
    obtain ⟨t, k, rfl, HT, HK, HO, HG⟩ := hrel
    obtain ⟨wa, hwa⟩ : ∃ wa, wa = wr := ⟨_, rfl⟩
    rw [← hwa] at HO HG ⊢
    clear hwa
    have c1 := row_at HO.out t _ (rC_get k t (by rw [HK.out.len]; exact HT.out.2.1))
    have b1 : (0 : Int) ≤ (t : Int) := by omega
    have b2 : (t : Int) < (n : Int) := by have := HT.out.2.1; omega
    have b3 : t < n := HT.out.2.1
    by_cases hx : k.getD t 0 = t
    · have HF : Hid (K t = false) := (HK.out.free t b3).2 hx
      rw [hx] at c1
      have e1 : ((t : Int) != (t : Int)) = false := by simp
      clear hx
      go_wp2_with fail
      go_ret
      exact ⟨t, k, rfl, ⟨HT.out.1, HF.out, HT.out.2.2.2⟩, HT.out.2.1, HK.out, HO.out, HG.out⟩
    · have HH := HK.out.half b3 hx
      have c2 := row_at HO.out (k.getD t 0) _ (rC_get k (k.getD t 0) (by rw [HK.out.len]; exact HK.out.hi t b3))
      have fz := row_frz HO.out t
      have b4 := HK.out.hi t b3
      obtain ⟨x, hxx⟩ : ∃ x, k.getD t 0 = x := ⟨_, rfl⟩
      rw [hxx] at c1 c2 hx HH b4
      obtain ⟨y, hyy⟩ : ∃ y, k.getD x 0 = y := ⟨_, rfl⟩
      rw [hyy] at c2 HH
      have HHH : Hid _ := HH
      have e1 : ((x : Int) != (t : Int)) = true := by rw [bne_iff_ne]; omega
      have b5 : (0 : Int) ≤ (x : Int) := by omega
      have b6 : (x : Int) < (n : Int) := by omega
      have HO2 : Hid ((wa.setCell ⟨g, t, none⟩ (.int .i64 (y : Int))).ownsRow B 3 1 (.slice (some ⟨g, 0, none⟩) n cap) n (rC (k.set t y))) := by
        have h9 := row_set HO.out t (.int .i64 (y : Int))
        rw [rC_set] at h9
        exact h9
      clear hx hxx hyy HH
      go_upto_region 3 with fail
      obtain ⟨wb, hwb⟩ : ∃ wb, wb = wa.setCell ⟨g, t, none⟩ (.int .i64 (y : Int)) := ⟨_, rfl⟩
      have HG2 : Hid (w.grownBy wb (some g)) := by rw [hwb]; exact grown_tr HG.out grown_set
      rw [← hwb] at HO2 ⊢
      clear hwb c1 c2 fz
      have c3 : wb.cell? ⟨g, t, none⟩ = some (.int .i64 (y : Int)) := by
        have h9 := row_at HO2.out t _ (rC_get (k.set t y) t (by rw [List.length_set, HK.out.len]; exact b3))
        rw [getD_set (by rw [HK.out.len]; exact b3), if_pos rfl] at h9
        exact h9
      go_wp2_with fail
      go_roundg (n - y)
      case measure => have := HT.out; have := HHH.out; omega
      case rel => exact ⟨y, k.set t y, rfl, ⟨by have := HT.out.1; have := HHH.out.2.1; omega, HHH.out.2.2.1, rfl, fun j h1 h2 => by
        by_cases h3 : j < t
        · exact HT.out.2.2.2 j h1 h3
        · exact HHH.out.2.2.2 j (by omega) h2⟩, HHH.out.1, HO2, HG2⟩
end Go.Proofs.YtbkhhegmmkcbbaaDoor
