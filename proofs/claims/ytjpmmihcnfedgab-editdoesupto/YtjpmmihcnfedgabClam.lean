import Derived.Test.YtjpmmihcnfedgabSmall
namespace Go.Proofs.Ytjpmmihcnfedgab
open Go.RowKit

set_option maxRecDepth 100000 in
theorem clone_any (s : ByteArray) (w : World) (h : s.size ≤ 281474976710656) : Calls Try.prog 17 #[.string s] w fun e w' => e = .returned (.string s) ∧ Below w.heap.size w w' := by
  have C : Hid _ := Try.stringslite_Clone s w h
  go_enter Try.func17, Try.ntmps17
  go_wp2_with fail
  refine Calls.mono C.out ?_
  rintro e w1 ⟨rfl, hb⟩
  have B : Hid _ := hb
  clear hb
  go_wp2_with fail
  go_ret
  exact ⟨rfl, B.out⟩

set_option maxRecDepth 100000 in
set_option maxHeartbeats 1000000 in
theorem clamped_any (n : Nat) (p q : Int) (ins : ByteArray) (w : World) (hn : n ≤ 140737488355328) :
    Calls Try.prog 18 #[.int .i64 (n : Int), ed p q ins] w fun e w' => e = .returned (ed (ca n p) (cd n p q) ins) ∧ Below w.heap.size w w' := by
  have C1 : Hid _ := fun W : World => clamp_any p n (by omega) W
  have C2 : Hid _ := fun W : World => clamp_any q ((n : Int) - ca n p) (by have := ca_le n p; omega) W
  rw [ca_eq] at C1
  rw [cd_eq] at C2
  have ha := ca_le n p
  have wr : IntKind.i64.wrap ((n : Int) - (ca n p : Int)) = (n : Int) - (ca n p : Int) := by rw [IntKind.wrap_i64]; omega
  go_enter Try.func18, Try.ntmps18
  go_wp2_with fail
  refine (C1.out _).mono ?_
  rintro e w' ⟨rfl, rfl⟩
  go_upto_region 2 with fail
  obtain ⟨W0, hW0⟩ : ∃ W0, W0 = (w.alloc (.cells #[.int .i64 p, .int .i64 q, .string ins] 23)).alloc (.cells #[.int .i64 0, .int .i64 0, .string ⟨#[]⟩] 23) := ⟨_, rfl⟩
  rw [← hW0]
  have HP : Hid (∀ W, Below W0.heap.size W0 W → W.cell? ⟨w.heap.size, 1, none⟩ = some (.int .i64 q) ∧ W.cell? ⟨w.heap.size, 2, none⟩ = some (.string ins) ∧ Below w.heap.size w W) := fun W hW => by
    subst hW0
    obtain ⟨h1, h2, h3⟩ := box2 hW
    exact ⟨h1.c1, h1.c2, h3⟩
  have HK : Hid (∀ W x y z, (W.cell? ⟨w.heap.size, 1, none⟩ = some (.int .i64 q) ∧ W.cell? ⟨w.heap.size, 2, none⟩ = some (.string ins) ∧ Below w.heap.size w W) → (((W.setCell ⟨w.heap.size + 1, 0, none⟩ x).setCell ⟨w.heap.size + 1, 1, none⟩ y).setCell ⟨w.heap.size + 1, 2, none⟩ z).cell? ⟨w.heap.size, 1, none⟩ = some (.int .i64 q) ∧ (((W.setCell ⟨w.heap.size + 1, 0, none⟩ x).setCell ⟨w.heap.size + 1, 1, none⟩ y).setCell ⟨w.heap.size + 1, 2, none⟩ z).cell? ⟨w.heap.size, 2, none⟩ = some (.string ins) ∧ Below w.heap.size w (((W.setCell ⟨w.heap.size + 1, 0, none⟩ x).setCell ⟨w.heap.size + 1, 1, none⟩ y).setCell ⟨w.heap.size + 1, 2, none⟩ z)) := fun W x y z h => by
    obtain ⟨g1, g2, g3⟩ := h
    exact ⟨cell_set3 _ _ _ g1 (by simp), cell_set3 _ _ _ g2 (by simp), Below.setCell (Below.setCell (Below.setCell g3 (by simp) _) (by simp) _) (by simp) _⟩
  have hR : Box w W0 (w.heap.size + 1) (.int .i64 0) (.int .i64 0) (.string ⟨#[]⟩) := by
    subst hW0
    exact (box2 (Below.refl _ _)).2.1
  obtain ⟨r0, r1, r2, fr⟩ := hR
  have B0 : Hid (Below w.heap.size w W0) := (HP.out W0 (Below.refl _ _)).2.2
  clear hW0
  go_region_held3 (fun W => W.cell? ⟨w.heap.size, 1, none⟩ = some (.int .i64 q) ∧ W.cell? ⟨w.heap.size, 2, none⟩ = some (.string ins) ∧ Below w.heap.size w W) (first | exact HP.out _ (Below.drew (Below.refl _ _)) | exact HK.out _ _ _ _ (by assumption) | go_keep | assumption) (first | (go_at_call 26; refine (C2.out _).mono ?_; rintro e' w2 ⟨rfl, rfl⟩))
  clear HP HK wr C1 C2
  rename_i hh
  clear hh
  go_wp2_with fail
  (try simp only [Exit.inBlock, Exit.then])
  refine bodyPost_ret (v := ed (ca n p) (cd n p q) ins) ?_ rfl ⟨rfl, ?_⟩
  · rw [results_cell1 rfl]; go_simp
  · exact Below.drew (Below.setCell (Below.setCell (Below.setCell B0.out (by simp) _) (by simp) _) (by simp) _)

end Go.Proofs.Ytjpmmihcnfedgab
