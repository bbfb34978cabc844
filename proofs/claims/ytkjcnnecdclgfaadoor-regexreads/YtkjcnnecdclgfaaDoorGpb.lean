import Derived.Test.YtkjcnnecdclgfaaDoorGpa
namespace Go.Proofs.YtkjcnnecdclgfaaDoor
open Go.RowKit

/-- Two cells of a block, which may be written. -/
structure Bw (W : World) (b o : Nat) (m : Nat → Bool) : Prop where
  p : Bp W b o m
  f : ∀ i, W.frozen? ⟨b, i, none⟩ = false
theorem Bw.new (w : World) (m : Nat → Bool) (t : TypeId) : Bw (w.alloc (.cells #[.int .u64 (wd m 0 : Nat), .int .u64 (wd m 1 : Nat)] t)) w.heap.size 0 m := by
  refine ⟨⟨?_, ?_⟩, fun i => fr_up (Below.refl _ _) i⟩
  · rw [World.cell?_alloc_at _ _ _ _ (by simp)]; rfl
  · rw [World.cell?_alloc_at _ _ _ _ (by simp)]; rfl
theorem Bw.mono {W W' : World} {b o : Nat} {m : Nat → Bool} (h : Bw W b o m) (hb : Below W.heap.size W W') : Bw W' b o m :=
  ⟨⟨below_cell hb h.p.c0, below_cell hb h.p.c1⟩, fun i => by rw [hb.frozen (p := ⟨b, i, none⟩) h.p.lt]; exact h.f i⟩
theorem Bw.up {W : World} {b o : Nat} {m : Nat → Bool} (h : Bw W b o m) (x : Obj) : Bw (W.alloc x) b o m := h.mono (bel_up _ _)
theorem Bw.aside {W : World} {b o : Nat} {m : Nat → Bool} (h : Bw W b o m) (p : Addr) (v : Value) (hp : p.block ≠ b) : Bw (W.setCell p v) b o m := by
  refine ⟨⟨?_, ?_⟩, fun i => by rw [World.frozen?_setCell]; exact h.f i⟩
  · rw [World.cell?_setCell_other _ _ _ _ (by rintro rfl; exact hp rfl)]; exact h.p.c0
  · rw [World.cell?_setCell_other _ _ _ _ (by rintro rfl; exact hp rfl)]; exact h.p.c1
theorem Bw.drewN {W : World} {b o k : Nat} {m : Nat → Bool} (h : Bw W b o m) : Bw (W.drewN k) b o m := ⟨h.p.drewN, h.f⟩

theorem agg2 (a b : Value) : (∀ W : World, (Instr.index 45 (.agg #[a, b]) (.int .i64 0)).run Tryd.prog W = .ok a W) ∧ (∀ W : World, (Instr.index 45 (.agg #[a, b]) (.int .i64 1)).run Tryd.prog W = .ok b W) :=
  ⟨fun W => by kernel_rfl, fun W => by kernel_rfl⟩

set_option maxRecDepth 100000 in
set_option maxHeartbeats 4000000 in
theorem pboth_any (m m' : Nat → Bool) (w : World) : Calls Tryd.prog 33 #[PV m, PV m'] w fun e w' => e = .returned (PV fun k => m k && m' k) ∧ Below w.heap.size w w' := by
  go_enter Tryd.func33, Tryd.ntmps33
  go_wp2_with fail
  go_loopg [8] 2 (fun g v wr => ∃ (k : Nat) (n : Nat → Bool), v = .int .i64 (k : Int) ∧ k ≤ 2 ∧ g = 2 - k ∧ n = (fun x => if x < 64 * k then m x && m' x else m x) ∧ Bw wr w.heap.size 0 n ∧ Bw wr (w.heap.size + 2) 0 (fun _ => false) ∧ Below w.heap.size w wr)
  case atStart =>
    refine ⟨0, m, rfl, by omega, rfl, ?_, ?_, ?_, ?_⟩
    · funext x; simp
    · exact ((Bw.new w m 45).up _).up _
    · have h := Bw.new ((w.alloc (.cells #[.int .u64 (wd m 0 : Nat), .int .u64 (wd m 1 : Nat)] 45)).alloc (.cells #[.int .u64 (wd m' 0 : Nat), .int .u64 (wd m' 1 : Nat)] 45)) (fun _ => false) 45
      simp only [wd_none] at h
      rw [World.size_alloc, World.size_alloc] at h
      exact h
    · exact below_trans (below_trans (bel_up _ _) (bel_up _ _)) (bel_up _ _)
  case round =>
    obtain ⟨k, n, rfl, hk, hg, hn, hb, hr, hbel⟩ := hrel
    have HB : Hid (Bw wr w.heap.size 0 n) := hb
    have HR : Hid (Bw wr (w.heap.size + 2) 0 (fun _ => false)) := hr
    have HL : Hid (Below w.heap.size w wr) := hbel
    have HE : Hid (n = (fun x => if x < 64 * k then m x && m' x else m x)) := hn
    have HG : Hid (gk = 2 - k) := hg
    obtain ⟨⟨p0, p1⟩, f⟩ := hb
    obtain ⟨⟨r0, r1⟩, rf⟩ := hr
    simp only [Nat.zero_add] at p1 r1
    have f0 := f 0
    have f1 := f 1
    have rf0 := rf 0
    have rf1 := rf 1
    clear hn hg hbel f rf
    rcases (by omega : k = 0 ∨ k = 1 ∨ k = 2) with rfl | rfl | rfl
    · obtain ⟨a0, a1⟩ := agg2 (.int .u64 (wd m' 0 : Nat)) (.int .u64 (wd m' 1 : Nat))
      go_wp2_with fail
      go_roundg 1
      case measure => have := HG.out; omega
      case rel =>
        refine ⟨1, _, rfl, by omega, rfl, rfl, ⟨Bp.put0 (n := n) HB.out.p ?_ ?_, fun i => by rw [World.frozen?_setCell]; exact HB.out.f i⟩, HR.out.aside _ _ (by dsimp only; omega), HL.out.setCell (by dsimp only; omega) _⟩
        · rw [u64_both, wd_congr (fun k => n k && m' k) (fun x => if x < 64 * 1 then m x && m' x else m x) 0 (fun j hj => ?_)]
          rw [HE.out]
          have h1 : 64 * 0 + j < 64 * 1 := by omega
          have h0 : ¬ (64 * 0 + j < 64 * 0) := by omega
          simp only [h1, h0, if_true, if_false]
        · refine wd_congr _ _ _ (fun j hj => ?_)
          rw [HE.out]
          have h1 : ¬ (64 * 1 + j < 64 * 1) := by omega
          have h0 : ¬ (64 * 1 + j < 64 * 0) := by omega
          simp only [h1, h0, if_false]
    · obtain ⟨a0, a1⟩ := agg2 (.int .u64 (wd m' 0 : Nat)) (.int .u64 (wd m' 1 : Nat))
      go_wp2_with fail
      go_roundg 0
      case measure => have := HG.out; omega
      case rel =>
        refine ⟨2, _, rfl, by omega, rfl, rfl, ⟨Bp.put1 (n := n) HB.out.p ?_ ?_, fun i => by rw [World.frozen?_setCell]; exact HB.out.f i⟩, HR.out.aside _ _ (by dsimp only; omega), HL.out.setCell (by dsimp only; omega) _⟩
        · rw [u64_both, wd_congr (fun k => n k && m' k) (fun x => if x < 64 * 2 then m x && m' x else m x) 1 (fun j hj => ?_)]
          rw [HE.out]
          have h1 : 64 * 1 + j < 64 * 2 := by omega
          have h0 : ¬ (64 * 1 + j < 64 * 1) := by omega
          simp only [h1, h0, if_true, if_false]
        · refine wd_congr _ _ _ (fun j hj => ?_)
          rw [HE.out]
          have h1 : 64 * 0 + j < 64 * 2 := by omega
          have h0 : 64 * 0 + j < 64 * 1 := by omega
          simp only [h1, h0, if_true]
    · go_wp2_with fail
      (try simp only [Exit.inBlock, Exit.then])
      have e0 : wd n 0 = wd (fun k => m k && m' k) 0 := wd_congr _ _ _ (fun j hj => by
        rw [HE.out]
        have h2 : 64 * 0 + j < 64 * 2 := by omega
        simp only [h2, if_true])
      have e1 : wd n 1 = wd (fun k => m k && m' k) 1 := wd_congr _ _ _ (fun j hj => by
        rw [HE.out]
        have h2 : 64 * 1 + j < 64 * 2 := by omega
        simp only [h2, if_true])
      refine bodyPost_ret (v := PV fun k => m k && m' k) ?_ rfl ⟨rfl, ?_⟩
      · rw [results_cell1 rfl]
        unfold PV
        rw [← e0, ← e1]
        go_simp
      · exact (HL.out.setCell (by dsimp only; omega) _).setCell (by dsimp only; omega) _

/-- The table of math/bits in its variable. -/
def Dbt (w : World) : Prop := ∀ j, j < 64 → w.cell? ⟨0, j, none⟩ = some (.int .u8 (Lib.deBruijn64tab.getD j 0 : Nat))
theorem Dbt.up {W W' : World} (h : Dbt W) (hb : Below W.heap.size W W') : Dbt W' := fun j hj => below_cell hb (h j hj)
theorem Dbt.pos {W : World} (h : Dbt W) : 0 < W.heap.size := cell_lt (h 0 (by omega))
theorem tz_core (x k idx : Nat) (w : World) (hx0 : ((x : Int) == 0) = false)
    (key : IntKind.u64.wrap (bits BinOp.and IntKind.u64 (x : Int) (IntKind.u64.wrap (-(x : Int))) * 285870213051353865) / 288230376151711744 = (idx : Int))
    (hi : idx < 64) (hk : k < 64) (hcell : w.cell? ⟨0, idx, none⟩ = some (.int .u8 (k : Int))) :
    Calls Tryd.prog 48 #[.int .u64 (x : Int)] w fun e w' => e = .returned (.int .i64 (k : Int)) ∧ w' = w := by
  have hk2 : IntKind.i64.wrap (k : Int) = (k : Int) := by rw [IntKind.wrap_i64]; omega
  go_enter Tryd.func48, Tryd.ntmps48
  go_wp2_with (simp only [key])
  go_ret
  exact ⟨rfl, rfl⟩
theorem u64_wrap (n : Int) (h0 : 0 ≤ n) (h1 : n < 18446744073709551616) : IntKind.u64.wrap n = n := by
  rw [IntKind.wrap_u64]; omega
theorem tz_key (x a : Nat) (hx : x < 18446744073709551616) (h0 : x ≠ 0) (hlow : x &&& (18446744073709551616 - x) = a) :
    IntKind.u64.wrap (bits BinOp.and IntKind.u64 (x : Int) (IntKind.u64.wrap (-(x : Int))) * 285870213051353865) / 288230376151711744 = ((a * 285870213051353865 % 18446744073709551616 / 288230376151711744 : Nat) : Int) := by
  have e1 : IntKind.u64.wrap (-(x : Int)) = ((18446744073709551616 - x : Nat) : Int) := by rw [IntKind.wrap_u64]; omega
  rw [e1, (u64_nat x _ hx (by omega)).1, hlow, IntKind.wrap_u64]
  omega
/-- bits.TrailingZeros64 of what is not 0. -/
theorem tz_any (x : Nat) (hx : x < 2 ^ 64) (h0 : x ≠ 0) (w : World) (hT : Dbt w) :
    Calls Tryd.prog 48 #[.int .u64 (x : Int)] w fun e w' => e = .returned (.int .i64 (Lib.ctz 64 x : Nat)) ∧ w' = w := by
  obtain ⟨hlow, hk⟩ := Lib.lowest_bit 64 x h0 hx
  obtain ⟨hi, htab⟩ := Lib.deBruijn64_at _ hk
  have hcell := hT _ hi
  rw [htab] at hcell
  exact tz_core x _ _ w (by simp; omega) (tz_key x _ hx h0 hlow) hi hk hcell
theorem all_any (m : Nat → Bool) (w : World) : Calls Tryd.prog 30 #[PV m] w fun e w' =>
    e = .returned (.func (.func 47) #[] #[.pointer (some ⟨w.heap.size, 0, none⟩)]) ∧ w' = w.alloc (.cells #[.int .u64 (wd m 0 : Nat), .int .u64 (wd m 1 : Nat)] 45) := by
  go_enter Tryd.func30, Tryd.ntmps30
  go_wp2_with fail
  go_ret
  exact ⟨rfl, rfl⟩
end Go.Proofs.YtkjcnnecdclgfaaDoor
