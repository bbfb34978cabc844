import Derived.Test.YtbkhhegmmkcbbaaDoorSsa
namespace Go.Proofs.YtbkhhegmmkcbbaaDoor
open Go.RowKit Go.Maps

def awL : List Pa := [⟨⟨#[97]⟩, ⟨#[120]⟩⟩, ⟨⟨#[98]⟩, ⟨#[121]⟩⟩]
def awT : List Nd := [⟨⟨#[97]⟩, true, ⟨#[]⟩, 0, 3, 1, -1⟩, ⟨⟨#[98]⟩, false, ⟨#[]⟩, 1, 2, 0, 0⟩]
def awA : List Ar := [⟨1, 2, ⟨#[121]⟩⟩, ⟨0, 3, ⟨#[120]⟩⟩]
theorem aw_ars1 : (ars (lcl awL) awT).1 = awA := by kernel_rfl
theorem aw_ars2 : (ars (lcl awL) awT).2.length = 1 := by kernel_rfl
theorem aw_cts : cts awA = [0, 1, 2, 3] := by
  have h1 : ddp (eds awA) = [1, 2, 0, 3] := by kernel_rfl
  unfold cts
  rw [h1]
  first | (simp [List.mergeSort, List.MergeSort.Internal.splitInTwo]; done) | (simp only [List.mergeSort]; rfl)
theorem aw_spr : spr awA [0, 1, 2, 3] 4 = [⟨0, 1, ⟨#[120]⟩⟩, ⟨1, 2, ⟨#[121]⟩⟩, ⟨2, 3, ⟨#[120]⟩⟩] := by kernel_rfl
theorem aw_spn : spn (lcl awL) awT = [⟨0, 1, ⟨#[120]⟩⟩, ⟨1, 2, ⟨#[121]⟩⟩, ⟨2, 3, ⟨#[120]⟩⟩] := by
  unfold spn
  rw [aw_ars1, aw_ars2, if_pos rfl, aw_cts]
  exact aw_spr
theorem aw_c1 : cls awL awT 1 = ⟨#[121]⟩ := by kernel_rfl
theorem aw_c2 : cls awL awT 2 = ⟨#[120]⟩ := by kernel_rfl
theorem aw_zp : Zp awL awT := ⟨by decide, by unfold Sm; decide, fun x hx => by
  rcases List.mem_cons.1 hx with rfl | hx
  · decide
  · rw [List.mem_singleton.1 hx]; decide, fun x hx => by
  rcases List.mem_cons.1 hx with rfl | hx
  · decide
  · rw [List.mem_singleton.1 hx]; decide⟩
theorem aw_in : ∀ n ∈ awT, inI n.fr ∧ inI n.tt := fun x hx => by
  unfold inI
  rcases List.mem_cons.1 hx with rfl | hx
  · decide
  · rw [List.mem_singleton.1 hx]; decide
end Go.Proofs.YtbkhhegmmkcbbaaDoor
