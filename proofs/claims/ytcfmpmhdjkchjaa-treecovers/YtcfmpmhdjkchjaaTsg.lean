import Derived.Test.YtcfmpmhdjkchjaaTse
namespace Go.Proofs.Ytcfmpmhdjkchjaa
open Go.RowKit Go.Maps

/-- The reference's cursor in its block: the forest stands in w0, the cursor behind it. -/
def Md (B : Nat) (w0 W : World) (t : List Nd) (m : Nat) (x : Int) : Prop :=
  B ≤ w0.heap.size ∧ w0.heap.size ≤ m ∧ Below w0.heap.size w0 W ∧ ∃ ad k cp, W.heap[m]? = some (.cells #[.slice ad k cp, .int .i64 x] 87 (0, 0)) ∧ (rt (kds t) = some k ∧ FrM (fun g => B ≤ g) w0 t (.slice ad k cp) 0 k ∨ rt (kds t) = none ∧ ad = none ∧ k = 0 ∧ cp = 0)
theorem Md.up {B : Nat} {w0 W W' : World} {t : List Nd} {m : Nat} {x : Int} (h : Md B w0 W t m x) (hb : Below W.heap.size W W') : Md B w0 W' t m x := by
  obtain ⟨h1, h2, h3, ad, k, cp, h4, h5⟩ := h
  exact ⟨h1, h2, below_trans h3 hb, ad, k, cp, by rw [hb.block m (lt_of_heap h4)]; exact h4, h5⟩
theorem Md.set {B : Nat} {w0 W : World} {t : List Nd} {m : Nat} {x : Int} (h : Md B w0 W t m x) (y : Int) : Md B w0 (W.setCell ⟨m, 1, none⟩ (.int .i64 y)) t m y := by
  obtain ⟨h1, h2, h3, ad, k, cp, h4, h5⟩ := h
  exact ⟨h1, h2, bel_put h3 h2, ad, k, cp, blk_set (k := 1) (.int .i64 y) h4, h5⟩
/-- Where it stands at first. -/
def fst0 (t : List Nd) : Int := match rt (kds t) with
  | some (_ + 1) => 0
  | _ => -1
set_option maxRecDepth 100000 in
set_option maxHeartbeats 8000000 in
theorem rwalk_any {v : Value} {t : List Nd} (hs : t.length * 72 + 4096 ≤ 140737488355328) (w : World) (h : Ns w v t) :
    Calls Try.prog 12 #[v] w fun e w' => ∃ w0 m, e = .returned (.pointer (some ⟨m, 0, none⟩)) ∧ Md w.heap.size w0 w' t m (fst0 t) ∧ Below w.heap.size w w' := by
  have HFO : Hid _ := forest_any hs w h
  clear h
  have HFK : Hid (∀ W r, Fkr w.heap.size W t r → ∃ ad k cp bb, r = .tuple #[.slice ad k cp, .bool bb] ∧ (rt (kds t) = some k ∧ FrM (fun g => w.heap.size ≤ g) W t (.slice ad k cp) 0 k ∨ rt (kds t) = none ∧ ad = none ∧ k = 0 ∧ cp = 0)) := fun W r hr => by
    unfold Fkr at hr
    split at hr
    · next k hk =>
      obtain ⟨ad, cp, fs, rfl, h1, h2, h3⟩ := hr
      exact ⟨ad, k, cp, true, rfl, Or.inl ⟨hk, fs, h1, h2, h3⟩⟩
    · next hk =>
      subst hr
      exact ⟨none, 0, 0, false, rfl, Or.inr ⟨hk, rfl, rfl, rfl⟩⟩
  go_enter Try.func12, Try.ntmps12
  go_upto_region 2 with (go_at_call 41; refine Calls.mono HFO.out ?_; rintro ee W4 ⟨r, rfl, hr, hb4⟩; obtain ⟨ad, k, cp, bb, rfl, hfk⟩ := HFK.out W4 r hr; have HB4 : Hid (Below w.heap.size w W4) := hb4; have HK : Hid (rt (kds t) = some k ∧ FrM (fun g => w.heap.size ≤ g) W4 t (.slice ad k cp) 0 k ∨ rt (kds t) = none ∧ ad = none ∧ k = 0 ∧ cp = 0) := hfk; clear hb4 hfk hr)
  clear HFK HFO
  obtain ⟨W5, hW5⟩ : ∃ W5, W5 = W4.alloc (.cells #[.slice ad k cp, .int .i64 (-1)] 87) := ⟨_, rfl⟩
  have HX5 : Hid (W5.heap[W4.heap.size]? = some (.cells #[.slice ad k cp, .int .i64 (-1)] 87 (0, 0))) := by rw [hW5]; exact heap_new _ _
  have HB5 : Hid (Below W4.heap.size W4 W5) := by rw [hW5]; exact bel_up _ _
  go_upto_region 3 with fail
  rw [← hW5]
  clear hW5
  obtain ⟨mb, hmb⟩ : ∃ mb, W4.heap.size = mb := ⟨_, rfl⟩
  have HMB : Hid (W4.heap.size = mb) := hmb
  rw [hmb] at HX5 ⊢
  clear hmb
  have HMD : Hid (Md w.heap.size W4 W5 t mb (-1)) := ⟨HB4.out.size, by rw [HMB.out]; exact Nat.le_refl _, HB5.out, ad, k, cp, HX5.out, HK.out⟩
  have x0 := rcell HX5.out 0 _ rfl
  have x1 := rcell HX5.out 1 _ rfl
  have ff := fun k => Lib.frozen_of_heap HX5.out k
  have HB6 : Hid (Below w.heap.size w W5) := below_trans HB4.out HB5.out
  cases k with
  | zero =>
    have HE : Hid (fst0 t = -1) := by
      unfold fst0
      rcases HK.out with ⟨h1, _⟩ | ⟨h1, _⟩
      · rw [h1]; exact rfl
      · rw [h1]; exact rfl
    go_wp2_with fail
    (try simp only [Exit.inBlock, Exit.then])
    refine bodyPost_ret (v := .pointer (some ⟨mb, 0, none⟩)) ?_ rfl ⟨W4, mb, rfl, by rw [HE.out]; exact HMD.out, HB6.out⟩
    simp [results, Try.results12, go_sem]
  | succ k =>
    have e1 : decide ((0 : Int) < ((k + 1 : Nat) : Int)) = true := by rw [decide_eq_true_eq]; omega
    have e2 : decide ((0 : Int) < (k : Int) + 1) = true := by rw [decide_eq_true_eq]; omega
    have e3 : (0 : Int) < (k : Int) + 1 := by omega
    have HE : Hid (fst0 t = 0) := by
      unfold fst0
      rcases HK.out with ⟨h1, _⟩ | ⟨h1, _, h2, _⟩
      · rw [h1]; exact rfl
      · cases h2
    go_wp2_with fail
    (try simp only [Exit.inBlock, Exit.then])
    refine bodyPost_ret (v := .pointer (some ⟨mb, 0, none⟩)) ?_ rfl ⟨W4, mb, rfl, by rw [HE.out]; exact HMD.out.set 0, bel_put HB6.out (by have := HB4.out.size; have := HMB.out; omega)⟩
    simp [results, Try.results12, go_sem]
set_option maxRecDepth 100000 in
theorem rplace_any {B : Nat} {w0 w : World} {t : List Nd} {m : Nat} {x : Int} (h : Md B w0 w t m x) :
    Calls Try.prog 14 #[.pointer (some ⟨m, 0, none⟩)] w fun e w' => e = .returned (.int .i64 x) ∧ w = w' := by
  obtain ⟨_, _, _, ad, k, cp, h4, _⟩ := h
  have x1 := rcell h4 1 _ rfl
  clear h4
  go_enter Try.func14, Try.ntmps14
  go_wp2_with fail
  go_ret
  exact ⟨rfl, rfl⟩
end Go.Proofs.Ytcfmpmhdjkchjaa
