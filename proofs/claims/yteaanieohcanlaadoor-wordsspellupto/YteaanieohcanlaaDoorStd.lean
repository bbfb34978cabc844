import Derived.Test.YteaanieohcanlaaDoorFlt
import Derived.Test.YteaanieohcanlaaDoorSpf
namespace Go.Proofs.YteaanieohcanlaaDoor
open Go.RowKit Go.Maps

def W0 : List Wd := [⟨1, [97], 0, 0⟩, ⟨5, [61], 0, 2⟩, ⟨2, [10], 0, 4⟩, ⟨3, [98], 0, 9⟩, ⟨4, [], 7, 13⟩, ⟨5, [59], 0, 15⟩]
theorem cut_W0 : cutR ⟨#[97, 32, 61, 32, 34, 92, 110, 34, 32, 47, 98, 47, 32, 48, 55, 59]⟩ = .inr W0 := by decide +kernel
theorem wl_W0 : wl ⟨#[97, 32, 61, 32, 34, 92, 110, 34, 32, 47, 98, 47, 32, 48, 55, 59]⟩ = W0 := by unfold wl; rw [cut_W0]
theorem cc_W0 : cc ⟨#[97, 32, 61, 32, 34, 92, 110, 34, 32, 47, 98, 47, 32, 48, 55, 59]⟩ = 0 := by unfold cc; rw [cut_W0]
theorem oo_W0 : oo ⟨#[97, 32, 61, 32, 34, 92, 110, 34, 32, 47, 98, 47, 32, 48, 55, 59]⟩ = 0 := by unfold oo; rw [cut_W0]
theorem itoa_7 : Lib.itoa 7 = [55] := by
  rw [show (7 : Int) = ((7 : Nat) : Int) from rfl, Lib.itoa_nonneg, Lib.decDigits_one (by decide)]
  rfl
theorem spl_1 : spl ⟨1, [97], 0, 0⟩ = [97] := by decide +kernel
theorem spl_2 : spl ⟨5, [61], 0, 2⟩ = [61] := by decide +kernel
theorem spl_3 : spl ⟨2, [10], 0, 4⟩ = [34, 92, 110, 34] := by decide +kernel
theorem spl_4 : spl ⟨3, [98], 0, 9⟩ = [47, 98, 47] := by decide +kernel
theorem spl_5 : spl ⟨4, [], 7, 13⟩ = [55] := by
  unfold spl
  rw [if_neg (by decide), if_pos rfl, itoa_7]
theorem spl_6 : spl ⟨5, [59], 0, 15⟩ = [59] := by decide +kernel
theorem jna_W0 : jna W0 = [97, 32, 61, 32, 34, 92, 110, 34, 32, 47, 98, 47, 32, 55, 32, 59] := by
  show spl _ ++ 32 :: (spl _ ++ 32 :: (spl _ ++ 32 :: (spl _ ++ 32 :: (spl _ ++ 32 :: spl _)))) = _
  rw [spl_1, spl_2, spl_3, spl_4, spl_5, spl_6]
  rfl
theorem jn_W0 : jn W0 = [97, 32, 61, 32, 34, 92, 110, 34, 32, 47, 98, 47, 32, 55, 32, 59] := by
  unfold jn
  rw [if_pos (by decide +kernel), jna_W0]
theorem jna_len (l : List Wd) (i : Nat) : (jna (l.take i)).length ≤ (jna l).length := by
  induction l generalizing i with
  | nil => simp
  | cons x r ih =>
    cases i with
    | zero => simp [jna]
    | succ i =>
      rw [List.take_succ_cons]
      cases r with
      | nil => simp
      | cons y r =>
        cases i with
        | zero =>
          simp only [List.take_zero, jna, List.length_append, List.length_cons]
          omega
        | succ i =>
          have h := ih (i + 1)
          rw [List.take_succ_cons] at h ⊢
          simp only [jna, List.length_append, List.length_cons] at h ⊢
          omega

set_option maxRecDepth 100000 in
set_option maxHeartbeats 8000000 in
theorem started_any (w : World) : Calls Tryd.prog 8 #[] w fun e w' => e = .returned (.bool true) ∧ Below w.heap.size w w' := by
  go_enter Tryd.func8, Tryd.ntmps8
  go_wp2_with fail
  refine (wcut_any ⟨#[97, 32, 61, 32, 34, 92, 110, 34, 32, 47, 98, 47, 32, 48, 55, 59]⟩ w).mono ?_
  rintro e w1 ⟨he, b1⟩
  obtain ⟨v1, rfl, h1⟩ := he.flat
  rw [wl_W0] at h1
  rw [cc_W0, oo_W0]
  have H1 : Hid (Wow w.heap.size w1 v1 W0) := h1
  have B1 : Hid (Below w.heap.size w w1) := b1
  obtain ⟨g, cap, hv, _, _, _⟩ := row_form h1 (by decide)
  subst hv
  have c9 : w1.cell? ⟨g, 9, none⟩ = some (.string ⟨#[10]⟩) := by rw [H1.out.cellAt 9 (by decide)]; rfl
  have c18 : w1.cell? ⟨g, 18, none⟩ = some (.int .i64 7) := by rw [H1.out.cellAt 18 (by decide)]; rfl
  have c23 : w1.cell? ⟨g, 23, none⟩ = some (.int .i64 15) := by rw [H1.out.cellAt 23 (by decide)]; rfl
  have HRW : Hid (Rw w1 (.slice (some ⟨g, 0, none⟩) 6 cap) W0.length (wC W0)) := row_rw h1
  have hlen : W0.length = 6 := rfl
  rw [hlen]
  clear he h1 b1 hlen
  go_wp2_with fail
  refine (join_any W0 w1 HRW.out (by decide) (by decide) (fun i => Nat.le_trans (jna_len W0 i) (by rw [jna_W0]; decide)) (fun x hx _ hk => ?_)).mono ?_
  · have : x.n < 100 ∧ 0 ≤ x.n := by
      simp only [W0, List.mem_cons, List.not_mem_nil, or_false] at hx
      rcases hx with rfl | rfl | rfl | rfl | rfl | rfl <;> exact ⟨by decide, by decide⟩
    exact itoaOK_small w1 x.n this.2 this.1
  rintro e w2 ⟨rfl, b2⟩
  rw [jn_W0]
  have B2 : Hid (Below w.heap.size w w2) := below_trans B1.out b2
  clear b2 c9 c18 c23
  go_wp2_with fail
  go_ret
  exact ⟨rfl, B2.out⟩
end Go.Proofs.YteaanieohcanlaaDoor
