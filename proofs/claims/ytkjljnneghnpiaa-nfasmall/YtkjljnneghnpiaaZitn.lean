import Derived.Test.YtkjljnneghnpiaaZitm
namespace Go.Proofs.Ytkjljnneghnpiaa.Rg
open Go.RowKit
/-- An item of a class. -/
def pitem (s : ByteArray) (i : Nat) : Except (Int × Nat) ((Nat → Bool) × Nat) :=
  match psets s i with
  | some m => .ok (m, i + 2)
  | none => match pone s i wth with
    | .error p => .error (40, p)
    | .ok (f, j) => if pk s j = 45 then (match pone s (j + 1) wth with
        | .error p => .error (40, p)
        | .ok (l, k) => if l < f then .error (41, i) else .ok (fun b => decide (f ≤ b) && decide (b ≤ l), k))
      else .ok (fun b => decide (f ≤ b) && decide (b ≤ f), j)
/-- What a reading of a set answers. -/
def ClsRes (B b : Nat) (s : ByteArray) (opn : Nat) (nds : List Nd) (lg : Bool) (w : World) (r : Except (Int × Nat) ((Nat → Bool) × Nat)) (e : Ending) (w' : World) : Prop :=
  match r with
  | .ok (m, j) => e = .returned (CV m) ∧ IsP B b s j opn nds lg w' ∧ FP B b w w' ∧ j ≤ s.size
  | .error (c, p) => e = flt c (p : Int) ∧ FP B b w w'
theorem one_box (w : World) : AtC (w.alloc (.cells #[.int .u64 0, .int .u64 0, .int .u64 0, .int .u64 0] 40)) w.heap.size (fun _ => false) := by
  have h1 := AtC.new w (fun _ => false)
  simp only [wd_none] at h1
  exact h1
theorem AtC.lt {W : World} {k : Nat} {m : Nat → Bool} (h : AtC W k m) : k < W.heap.size := lt_of_heap h.h
set_option maxRecDepth 100000 in
set_option maxHeartbeats 4000000 in
theorem item_any (B b : Nat) (s : ByteArray) (i opn : Nat) (nds : List Nd) (lg : Bool) (w : World) (h : IsP B b s i opn nds lg w) (hi : i ≤ s.size) (hs : s.size < 1000000000000000) :
    Calls Try.prog 70 #[.pointer (some ⟨b, 0, none⟩)] w fun e w' => ClsRes B b s opn nds lg w (pitem s i) e w' := by
  have h1 := h.mono (bel_up w (.cells #[.int .u64 0, .int .u64 0, .int .u64 0, .int .u64 0] 40))
  have S := pset_any B b s i opn nds lg _ h1 hi hs
  have A1 : Hid _ := one_box w
  have F1 : Hid (FP B b w (w.alloc (.cells #[.int .u64 0, .int .u64 0, .int .u64 0, .int .u64 0] 40))) := FP.of (bel_up _ _) h.sz
  have HSZ : Hid _ := h.sz
  have HBL : Hid _ := h.lt
  have HS : Hid _ := hs
  have HI : Hid _ := hi
  clear h h1 hs hi
  go_enter Try.func70, Try.ntmps70
  go_wp2_with fail
  refine S.mono ?_
  clear S
  intro e w1 hr1
  unfold SetRes at hr1
  cases hp : psets s i with
  | some m =>
    rw [hp] at hr1
    obtain ⟨rfl, p1, f1, hj⟩ := hr1
    have hres : pitem s i = .ok (m, i + 2) := by unfold pitem; rw [hp]
    have HR : Hid _ := hres
    have P1 : Hid _ := p1
    have A2 : Hid (AtC w1 w.heap.size (fun _ => false)) := A1.out.fp f1 (by have := HBL.out; omega)
    have F2 : Hid _ := F1.out.trans f1
    have HJ : Hid _ := hj
    clear p1 f1 hj hp hres
    have N3 : Hid _ := AtC.new w1 m
    obtain ⟨d0, d1, d2, d3, df⟩ := N3.out.box
    obtain ⟨e0, e1, e2, e3, ef⟩ := (A2.out.mono (bel_up w1 (.cells #[.int .u64 (wd m 0 : Nat), .int .u64 (wd m 1 : Nat), .int .u64 (wd m 2 : Nat), .int .u64 (wd m 3 : Nat)] 40))).box
    go_wp2_with fail
    rw [HR.out]
    refine bodyPost_ret (v := CV m) ?_ rfl ⟨rfl, ?_, ?_, HJ.out⟩
    · rw [results_cell1 rfl]; go_simp
    · exact (P1.out.mono (bel_up _ _)).aside4 w.heap.size _ m (A2.out.mono (bel_up _ _))
    · exact fp_set4 (F2.out.trans (FP.of (bel_up _ _) P1.out.sz)) w.heap.size _ _ _ _ (Nat.le_refl _) HSZ.out
  | none =>
    rw [hp] at hr1
    obtain ⟨rfl, p1, f1⟩ := hr1
    have HP : Hid _ := hp
    have A2 : Hid (AtC w1 w.heap.size (fun _ => false)) := A1.out.fp f1 (by have := HBL.out; omega)
    have F2 : Hid _ := F1.out.trans f1
    have P1 : Hid _ := p1
    clear p1 f1 hp
    have P2 : Hid (IsP B b s i opn nds lg (w1.alloc (.cells #[.int .u64 (wd (fun _ => false) 0 : Nat), .int .u64 (wd (fun _ => false) 1 : Nat), .int .u64 (wd (fun _ => false) 2 : Nat), .int .u64 (wd (fun _ => false) 3 : Nat)] 40))) := P1.out.mono (bel_up _ _)
    have A3 : Hid (AtC (w1.alloc (.cells #[.int .u64 (wd (fun _ => false) 0 : Nat), .int .u64 (wd (fun _ => false) 1 : Nat), .int .u64 (wd (fun _ => false) 2 : Nat), .int .u64 (wd (fun _ => false) 3 : Nat)] 40)) w.heap.size (fun _ => false)) := A2.out.mono (bel_up _ _)
    have F3 : Hid (FP B b w (w1.alloc (.cells #[.int .u64 (wd (fun _ => false) 0 : Nat), .int .u64 (wd (fun _ => false) 1 : Nat), .int .u64 (wd (fun _ => false) 2 : Nat), .int .u64 (wd (fun _ => false) 3 : Nat)] 40))) := F2.out.trans (FP.of (bel_up _ _) P1.out.sz)
    obtain ⟨c0, c1, c2, c4, cf⟩ := P2.out.cells
    go_wp2_with fail
    have O := one_any B b s i opn nds lg [92, 47, 91, 93, 45, 94] _ P2.out HI.out HS.out
    refine O.mono ?_
    clear O c0 c1 c2 c4 cf P1 A2 F2
    intro e w2 hr2
    unfold OneRes at hr2
    cases ho : pone s i [92, 47, 91, 93, 45, 94] with
    | error p =>
      rw [ho] at hr2
      obtain ⟨rfl, f2⟩ := hr2
      have F4 : Hid _ := F3.out.trans f2
      have hres : pitem s i = .error (40, p) := by
        unfold pitem
        rw [HP.out]
        dsimp only
        rw [show wth = [92, 47, 91, 93, 45, 94] by rfl, ho]
      have HR : Hid _ := hres
      clear f2 ho hres
      go_wp2_with fail
      refine ⟨rfl, ?_⟩
      rw [HR.out]
      exact ⟨rfl, F4.out⟩
    | ok fj =>
      obtain ⟨f, j⟩ := fj
      rw [ho] at hr2
      obtain ⟨rfl, p2, f2, hj, hf⟩ := hr2
      have P3 : Hid _ := p2
      have F4 : Hid _ := F3.out.trans f2
      have A4 : Hid _ := A3.out.fp f2 (by have := HBL.out; omega)
      have HO : Hid _ := ho
      have HJ : Hid _ := hj
      have HF : Hid _ := hf
      clear p2 f2 hj hf ho F3 A3 P2
      go_wp2_with fail
      have T := take_any B b s j opn nds lg 45 _ P3.out HJ.out HS.out
      refine T.mono ?_
      clear T
      rintro e w3 ⟨rfl, p3, f3⟩
      have F5 : Hid _ := F4.out.trans f3
      have A5 : Hid _ := A4.out.fp f3 (by have := HBL.out; omega)
      by_cases h45 : pk s j = 45
      · rw [if_pos h45] at p3
        have P4 : Hid _ := p3
        rw [show (pk s j == 45) = true by simpa using h45]
        have H45 : Hid _ := h45
        have HJ1 : Hid (j + 1 ≤ s.size) := pk_in (by rw [h45]; decide)
        clear p3 f3 h45 F4 A4
        go_wp2_with fail
        have O := one_any B b s (j + 1) opn nds lg [92, 47, 91, 93, 45, 94] _ P4.out HJ1.out HS.out
        refine O.mono ?_
        clear O
        intro e w4 hr4
        unfold OneRes at hr4
        cases ho2 : pone s (j + 1) [92, 47, 91, 93, 45, 94] with
        | error p =>
          rw [ho2] at hr4
          obtain ⟨rfl, f4⟩ := hr4
          have F6 : Hid _ := F5.out.trans f4
          have hres : pitem s i = .error (40, p) := by
            unfold pitem
            rw [HP.out]
            dsimp only
            rw [show wth = [92, 47, 91, 93, 45, 94] by rfl, HO.out]
            dsimp only
            rw [if_pos H45.out, ho2]
          have HR : Hid _ := hres
          clear f4 ho2 hres
          go_wp2_with fail
          refine ⟨rfl, ?_⟩
          rw [HR.out]
          exact ⟨rfl, F6.out⟩
        | ok lk =>
          obtain ⟨l, k⟩ := lk
          rw [ho2] at hr4
          obtain ⟨rfl, p4, f4, hk, hl⟩ := hr4
          have P5 : Hid _ := p4
          have F6 : Hid _ := F5.out.trans f4
          have A6 : Hid _ := A5.out.fp f4 (by have := HBL.out; omega)
          have HK : Hid _ := hk
          have HLL : Hid _ := hl
          have hres : pitem s i = if l < f then .error (41, i) else .ok (fun b => decide (f ≤ b) && decide (b ≤ l), k) := by
            unfold pitem
            rw [HP.out]
            dsimp only
            rw [show wth = [92, 47, 91, 93, 45, 94] by rfl, HO.out]
            dsimp only
            rw [if_pos H45.out, ho2]
          have HR : Hid _ := hres
          clear p4 f4 hk hl ho2 hres F5 A5
          by_cases hlf : l < f
          · have HLF : Hid _ := hlf
            go_wp2_with fail
            refine (giveUp_any 41 (i : Int) _).mono ?_
            rintro e w5 ⟨rfl, rfl⟩
            go_wp2_with fail
            refine ⟨rfl, ?_⟩
            rw [HR.out, if_pos HLF.out]
            exact ⟨rfl, F6.out⟩
          · have HLF : Hid _ := hlf
            go_wp2_with fail
            refine (span_any f l HF.out HLL.out _).mono ?_
            rintro e w5 ⟨rfl, hb5⟩
            have P6 : Hid _ := P5.out.mono hb5
            have A7 : Hid _ := A6.out.mono hb5
            have F7 : Hid _ := F6.out.trans (FP.of hb5 P5.out.sz)
            clear hb5
            obtain ⟨e0, e1, e2, e3, ef⟩ := A7.out.box
            go_wp2_with fail
            rw [HR.out, if_neg HLF.out]
            refine bodyPost_ret (v := CV fun b => decide (f ≤ b) && decide (b ≤ l)) ?_ rfl ⟨rfl, ?_, ?_, HK.out⟩
            · rw [results_cell1 rfl]; go_simp
            · exact P6.out.aside4 w.heap.size _ _ A7.out
            · exact fp_set4 F7.out w.heap.size _ _ _ _ (Nat.le_refl _) HSZ.out
      · rw [if_neg h45] at p3
        have P4 : Hid _ := p3
        rw [show (pk s j == 45) = false by simpa using h45]
        have hres : pitem s i = .ok (fun b => decide (f ≤ b) && decide (b ≤ f), j) := by
          unfold pitem
          rw [HP.out]
          dsimp only
          rw [show wth = [92, 47, 91, 93, 45, 94] by rfl, HO.out]
          dsimp only
          rw [if_neg h45]
        have HR : Hid _ := hres
        clear p3 f3 h45 hres F4 A4
        go_wp2_with fail
        refine (span_any f f HF.out HF.out _).mono ?_
        rintro e w5 ⟨rfl, hb5⟩
        have P6 : Hid _ := P4.out.mono hb5
        have A7 : Hid _ := A5.out.mono hb5
        have F7 : Hid _ := F5.out.trans (FP.of hb5 P4.out.sz)
        clear hb5
        obtain ⟨e0, e1, e2, e3, ef⟩ := A7.out.box
        go_wp2_with fail
        rw [HR.out]
        refine bodyPost_ret (v := CV fun b => decide (f ≤ b) && decide (b ≤ f)) ?_ rfl ⟨rfl, ?_, ?_, HJ.out⟩
        · rw [results_cell1 rfl]; go_simp
        · exact P6.out.aside4 w.heap.size _ _ A7.out
        · exact fp_set4 F7.out w.heap.size _ _ _ _ (Nat.le_refl _) HSZ.out
end Go.Proofs.Ytkjljnneghnpiaa.Rg
