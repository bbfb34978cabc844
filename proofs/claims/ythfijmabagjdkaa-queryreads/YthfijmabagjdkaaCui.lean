import Derived.Test.YthfijmabagjdkaaCuh
namespace Go.Proofs.Ythfijmabagjdkaa
open Go.RowKit Go.Maps

def gd (a : Act) (i : Nat) : Value := a.tmps.getD i undef
/-- The frame of run, but for what is forgotten. -/
def Frm (b : Nat) (v2 : Value) (a : Act) : Prop := ∃ u : Nat → Value, a = { tmps := #[.pointer (some ⟨b, 0, none⟩), u 1, v2, u 3, u 4, u 5, u 6, u 7, u 8, u 9, u 10, u 11, u 12, u 13, u 14, u 15, u 16, u 17, u 18, u 19, u 20, u 21, u 22, u 23, u 24, u 25, u 26, u 27, u 28, u 29, u 30, u 31, u 32, u 33, u 34, u 35, u 36, u 37, u 38, u 39, u 40, u 41, u 42, u 43, u 44, u 45, u 46, u 47, u 48, u 49, u 50, u 51, u 52, u 53, u 54, u 55, u 56, u 57, u 58, u 59, u 60, u 61, u 62, u 63, u 64, u 65, u 66, u 67, u 68, u 69, u 70, u 71, u 72, u 73, u 74, u 75, u 76, u 77, u 78, u 79, u 80, u 81, u 82, u 83, u 84, u 85, u 86, u 87, u 88, u 89, u 90, u 91, u 92, u 93, u 94, u 95, u 96, u 97, u 98, u 99, u 100, u 101, u 102, u 103, u 104, u 105, u 106, u 107, u 108, u 109], defers := [] }
theorem frm_of {b : Nat} {v2 : Value} (a : Act) (h : a = { tmps := #[.pointer (some ⟨b, 0, none⟩), gd a 1, v2, gd a 3, gd a 4, gd a 5, gd a 6, gd a 7, gd a 8, gd a 9, gd a 10, gd a 11, gd a 12, gd a 13, gd a 14, gd a 15, gd a 16, gd a 17, gd a 18, gd a 19, gd a 20, gd a 21, gd a 22, gd a 23, gd a 24, gd a 25, gd a 26, gd a 27, gd a 28, gd a 29, gd a 30, gd a 31, gd a 32, gd a 33, gd a 34, gd a 35, gd a 36, gd a 37, gd a 38, gd a 39, gd a 40, gd a 41, gd a 42, gd a 43, gd a 44, gd a 45, gd a 46, gd a 47, gd a 48, gd a 49, gd a 50, gd a 51, gd a 52, gd a 53, gd a 54, gd a 55, gd a 56, gd a 57, gd a 58, gd a 59, gd a 60, gd a 61, gd a 62, gd a 63, gd a 64, gd a 65, gd a 66, gd a 67, gd a 68, gd a 69, gd a 70, gd a 71, gd a 72, gd a 73, gd a 74, gd a 75, gd a 76, gd a 77, gd a 78, gd a 79, gd a 80, gd a 81, gd a 82, gd a 83, gd a 84, gd a 85, gd a 86, gd a 87, gd a 88, gd a 89, gd a 90, gd a 91, gd a 92, gd a 93, gd a 94, gd a 95, gd a 96, gd a 97, gd a 98, gd a 99, gd a 100, gd a 101, gd a 102, gd a 103, gd a 104, gd a 105, gd a 106, gd a 107, gd a 108, gd a 109], defers := [] }) : Frm b v2 a := ⟨gd a, h⟩
/-- What holds at each label. -/
def Lab (A : Sum (Nat × Nat) (List Wd)) (s : ByteArray) (l : Nat) (v2 : Value) (g : Nat) (c : Cs) : Prop :=
  match l with
  | 0 => ∃ k : Nat, c.p + 1 = (k : Int) ∧ g = 2 * (s.size + 10 - k) + 1 ∧ ((Mid A s k c ∧ k ≤ s.size) ∨ (Bad A s c ∧ k ≤ s.size + 4))
  | 1 => ∃ k : Nat, c.p = (k : Int) ∧ v2 = .int .i64 (rd s k) ∧ g = 2 * (s.size + 10 - (k + 1)) + 2 ∧ ((Mid A s k c ∧ k ≤ s.size) ∨ (Bad A s c ∧ k ≤ s.size + 4))
  | 2 => ∃ k : Nat, c.p = (k : Int) ∧ g = 2 * (s.size + 10 - (k + 1)) + 1 ∧ Cmt A s (k + 1) c ∧ k < s.size
  | 3 => ∃ f k : Nat, c.p = (k : Int) ∧ g = 2 * (s.size + 10 - (k + 1)) + 1 ∧ Nam A s f k c
  | 4 => ∃ f k : Nat, c.p = (k : Int) ∧ v2 = .int .i64 (rd s k) ∧ g = 2 * (s.size + 10 - (k + 1)) + 1 ∧ Num A s f k c
  | 5 => ∃ f k : Nat, c.p + 1 = (k : Int) ∧ g = 2 * (s.size + 10 - k) + 1 ∧ Txt A s f k c ∧ k ≤ s.size
  | 6 => ∃ f k : Nat, c.p + 1 = (k : Int) ∧ g = 2 * (s.size + 10 - k) + 1 ∧ Rgx A s f k c ∧ k ≤ s.size
  | _ => False
/-- What holds at a jump. -/
def JJ (A : Sum (Nat × Nat) (List Wd)) (s : ByteArray) (B b : Nat) (w : World) (l g : Nat) (a : Act) (w' : World) : Prop :=
  ∃ v2, Frm b v2 a ∧ Below B w w' ∧ ∃ vb vw c, Cu B w' b vb vw c ∧ Lab A s l v2 g c
theorem Mid.p {A : Sum (Nat × Nat) (List Wd)} {s : ByteArray} {k : Nat} {c : Cs} (h : Mid A s k c) (p f : Int) : Mid A s k { c with p := p, f := f } := h.over rfl rfl rfl rfl rfl
theorem Bad.p {A : Sum (Nat × Nat) (List Wd)} {s : ByteArray} {c : Cs} (h : Bad A s c) (p f : Int) : Bad A s { c with p := p, f := f } := h.over rfl rfl rfl

section
variable {B b : Nat} {W : World} {vb vw : Value} {c : Cs}
theorem Cu.k0 (h : Cu B W b vb vw c) {x : ByteArray} (e : c.s = x) : W.cell? ⟨b, 0, none⟩ = some (.string x) := by rw [← e]; exact h.c0
theorem Cu.k1 (h : Cu B W b vb vw c) {x : Int} (e : c.p = x) : W.cell? ⟨b, 1, none⟩ = some (.int .i64 x) := by rw [← e]; exact h.c1
theorem Cu.k2 (h : Cu B W b vb vw c) {x : Int} (e : c.f = x) : W.cell? ⟨b, 2, none⟩ = some (.int .i64 x) := by rw [← e]; exact h.c2
theorem Cu.k3 (h : Cu B W b vb vw c) {x : Int} (e : c.n = x) : W.cell? ⟨b, 3, none⟩ = some (.int .i64 x) := by rw [← e]; exact h.c3
theorem Cu.k6 (h : Cu B W b vb vw c) {x : Int} (e : c.co = x) : W.cell? ⟨b, 6, none⟩ = some (.int .i64 x) := by rw [← e]; exact h.c6
theorem jf {A : Sum (Nat × Nat) (List Wd)} {s : ByteArray} {w W : World} {l g : Nat} {a : Act} (hf : Frm b (gd a 2) a) (hb : Below B w W) (hc : Cu B W b vb vw c) (hl : Lab A s l (gd a 2) g c) : ∃ g, JJ A s B b w l g a W := ⟨g, gd a 2, hf, hb, vb, vw, c, hc, hl⟩
theorem jp {A : Sum (Nat × Nat) (List Wd)} {s : ByteArray} {w W : World} {l g g0 : Nat} {a : Act} (hf : Frm b (gd a 2) a) (hb : Below B w W) (hc : Cu B W b vb vw c) (hl : Lab A s l (gd a 2) g c) (hg : g < g0) : ∃ g', g' < g0 ∧ JJ A s B b w l g' a W := ⟨g, hg, gd a 2, hf, hb, vb, vw, c, hc, hl⟩
end
theorem Mid.wle {A : Sum (Nat × Nat) (List Wd)} {s : ByteArray} {k : Nat} {c : Cs} (h : Mid A s k c) (hk : k ≤ s.size) (hz : s.size ≤ 1000000000) : c.ws.length ≤ 1000000000000 := by have := h.wl; omega
theorem Wrd.wle {A : Sum (Nat × Nat) (List Wd)} {s : ByteArray} {f : Nat} {c : Cs} (h : Wrd A s f c) (hz : s.size ≤ 1000000000) : c.ws.length ≤ 1000000000000 := by have := h.wl; have := h.fs; omega

set_option maxRecDepth 100000 in
set_option maxHeartbeats 8000000 in
theorem run_any {A : Sum (Nat × Nat) (List Wd)} {B b : Nat} {vb vw : Value} {c : Cs} (hp : c.p = -1) (hz : c.s.size ≤ 1000000000) (hm : Mid A c.s 0 c) (w : World) (h : Cu B w b vb vw c) :
    Calls Try.prog 24 #[.pointer (some ⟨b, 0, none⟩)] w fun e w' => e = .returned (.tuple #[]) ∧ Below B w w' ∧ ∃ vb' vw' c', Cu B w' b vb' vw' c' ∧ Res A c' := by
  obtain ⟨s, hs⟩ : ∃ s, c.s = s := ⟨_, rfl⟩
  rw [hs] at hz hm
  have HZ : Hid (s.size ≤ 1000000000) := hz
  have HM0 : Hid (Mid A s 0 c) := hm
  have HP0 : Hid (c.p = -1) := hp
  have HH : Hid (Cu B w b vb vw c) := h
  clear hp hz hm h hs
  go_enter Try.func24, Try.ntmps24
  go_wp2_with fail
  refine wp_scope_labels (JJ A s B b w) ?_ ?_
  · go_wp2_with fail
    go_step3
    go_wp2_with fail
    refine (read_any 0 (by rw [HP0.out]; rfl) (by omega) w HH.out).mono ?_
    rintro e w1 ⟨rfl, h1, b1⟩
    obtain ⟨c1, hc1⟩ : ∃ c1 : Cs, c1 = { c with p := ((0 : Nat) : Int) } := ⟨_, rfl⟩
    rw [← hc1] at h1
    obtain ⟨k, hk⟩ : ∃ k : Nat, k = 0 := ⟨_, rfl⟩
    obtain ⟨vb1, hvb⟩ : ∃ v, v = vb := ⟨_, rfl⟩
    obtain ⟨vw1, hvw⟩ : ∃ v, v = vw := ⟨_, rfl⟩
    rw [← hvb, ← hvw] at h1
    have H1 : Hid (Cu B w1 b vb1 vw1 c1) := h1
    have B1 : Hid (Below B w w1) := b1
    have HP1 : Hid (c1.p = (k : Int)) := by rw [hc1, hk]; exact rfl
    have HA : Hid ((Mid A s k c1 ∧ k ≤ s.size) ∨ (Bad A s c1 ∧ k ≤ s.size + 4)) := by rw [hc1, hk]; exact .inl ⟨HM0.out.over rfl rfl rfl rfl rfl, Nat.zero_le _⟩
    obtain ⟨x, hx⟩ : ∃ x, rd s k = x := ⟨_, rfl⟩
    have HX : Hid (rd s k = x) := hx
    rw [HM0.out.hs, show rd s 0 = x by rw [← hk]; exact hx]
    clear h1 b1 hc1 hk hvb hvw hx HH HP0 HM0
    go_wp2_with fail
    go_step3
    have k1 := H1.out.k1 HP1.out
    have k2 := H1.out.c2
    have f2 := H1.out.frz 2
    go_upto_block 0 with fail
    obtain ⟨w2, hw2⟩ : ∃ w2, w2 = w1.setCell ⟨b, 2, none⟩ (.int .i64 (k : Int)) := ⟨_, rfl⟩
    rw [← hw2]
    obtain ⟨d, hd⟩ : ∃ d : Cs, d = { c1 with f := (k : Int) } := ⟨_, rfl⟩
    have H2 : Hid (Cu B w2 b vb1 vw1 d) := by rw [hw2, hd]; exact H1.out.setf _
    have B2 : Hid (Below B w w2) := by rw [hw2]; exact B1.out.setCell H1.out.lo _
    have HP2 : Hid (d.p = (k : Int)) := by rw [hd]; exact HP1.out
    have HF2 : Hid (d.f = (k : Int)) := by rw [hd]; exact rfl
    have HA2 : Hid ((Mid A s k d ∧ k ≤ s.size) ∨ (Bad A s d ∧ k ≤ s.size + 4)) := by
      rw [hd]
      rcases HA.out with ⟨h, hk⟩ | ⟨h, hk⟩
      · exact .inl ⟨h.over rfl rfl rfl rfl rfl, hk⟩
      · exact .inr ⟨h.over rfl rfl rfl, hk⟩
    clear hw2 hd k1 k2 f2 H1 HP1 HA B1
    by_cases cx : x = -1
    · subst cx
      have HRS : Hid (Res A d) := by
        rcases HA2.out with ⟨h, hk⟩ | ⟨h, hk⟩
        · exact h.done HX.out
        · exact h.res
      go_wp2_with fail
      simp only [Exit.jumps]
      refine bodyPost_ret (v := .tuple #[]) (results_none (by rfl) _ _ _) rfl ?_
      exact ⟨rfl, B2.out, _, _, _, H2.out, HRS.out⟩
    rcases HA2.out with ⟨hm, hk⟩ | ⟨hbd, hk⟩
    rotate_left
    · have k6 := H2.out.c6
      have n6 : (d.co != 0) = true := by have := hbd.ne; simpa using this
      have HRS : Hid (Res A d) := hbd.res
      clear hbd
      go_wp2_with fail
      simp only [Exit.jumps]
      refine bodyPost_ret (v := .tuple #[]) (results_none (by rfl) _ _ _) rfl ?_
      exact ⟨rfl, B2.out, _, _, _, H2.out, HRS.out⟩
    have HM : Hid (Mid A s k d) := hm
    have HKS : Hid (k ≤ s.size) := hk
    have k6 := H2.out.k6 hm.co
    have HC1 : Hid (x ≠ -1) := cx
    clear hm hk HA2
    go_wp2_with fail
    refine (blank_any x w2).mono ?_
    rintro e w9 ⟨rfl, hw9⟩
    rw [hw9]
    clear hw9 w9
    cases hB : isB x
    rotate_left
    · have HL : Hid (Mid A s (k + 1) d) := HM.out.blank (by rw [HX.out]; exact hB)
      have hks : k < s.size := rd_lt (by rw [HX.out]; exact HC1.out)
      go_wp2_with fail
      go_step3
      show ∃ g, JJ A s B b w 0 g _ _
      exact jf (frm_of _ (by kernel_rfl)) B2.out H2.out ⟨k + 1, by rw [HP2.out]; simp, rfl, .inl ⟨HL.out, hks⟩⟩
    by_cases c35 : x = 35
    · have HL : Hid (Cmt A s (k + 1) d) := HM.out.hash (by rw [HX.out]; exact c35)
      have hks : k < s.size := rd_lt (by rw [HX.out]; exact HC1.out)
      subst c35
      go_wp2_with fail
      go_step3
      show ∃ g, JJ A s B b w 2 g _ _
      exact jf (frm_of _ (by kernel_rfl)) B2.out H2.out ⟨k, HP2.out, rfl, HL.out, hks⟩
    go_wp2_with fail
    refine (letter_any x w2).mono ?_
    rintro e w9 ⟨rfl, hw9⟩
    rw [hw9]
    clear hw9 w9
    cases hL : isL x
    rotate_left
    · have HL : Hid (Nam A s k k d) := HM.out.name HF2.out (by rw [HX.out]; exact hL)
      have hks : k < s.size := rd_lt (by rw [HX.out]; exact HC1.out)
      go_wp2_with fail
      go_step3
      show ∃ g, JJ A s B b w 3 g _ _
      exact jf (frm_of _ (by kernel_rfl)) B2.out H2.out ⟨k, k, HP2.out, rfl, HL.out⟩
    go_wp2_with fail
    refine (digit_any x w2).mono ?_
    rintro e w9 ⟨rfl, hw9⟩
    rw [hw9]
    clear hw9 w9
    cases hD : isD x
    rotate_left
    · have HL : Hid (Num A s k k d) := HM.out.num HF2.out (by rw [HX.out]; exact hD)
      have hks : k < s.size := rd_lt (by rw [HX.out]; exact HC1.out)
      go_wp2_with fail
      go_step3
      show ∃ g, JJ A s B b w 4 g _ _
      exact jf (frm_of _ (by kernel_rfl)) B2.out H2.out ⟨k, k, HP2.out, by show Value.int .i64 x = _; rw [HX.out], rfl, HL.out⟩
    by_cases c34 : x = 34
    · have HL : Hid (Txt A s k (k + 1) d) := HM.out.text HF2.out (by rw [HX.out]; exact c34)
      have hks : k < s.size := rd_lt (by rw [HX.out]; exact HC1.out)
      subst c34
      go_wp2_with fail
      go_step3
      show ∃ g, JJ A s B b w 5 g _ _
      exact jf (frm_of _ (by kernel_rfl)) B2.out H2.out ⟨k, k + 1, by rw [HP2.out]; simp, rfl, HL.out, hks⟩
    by_cases c47 : x = 47
    · have HL : Hid (Rgx A s k (k + 1) d) := HM.out.regex HF2.out (by rw [HX.out]; exact c47)
      have hks : k < s.size := rd_lt (by rw [HX.out]; exact HC1.out)
      subst c47
      go_wp2_with fail
      go_step3
      show ∃ g, JJ A s B b w 6 g _ _
      exact jf (frm_of _ (by kernel_rfl)) B2.out H2.out ⟨k, k + 1, by rw [HP2.out]; simp, rfl, HL.out, hks⟩
    go_wp2_with fail
    refine (sign_any x (by rw [← HX.out]; exact rd_ok _ _) w2).mono ?_
    rintro e w9 ⟨rfl, hw9⟩
    rw [hw9]
    clear hw9 w9
    cases hS : isS x
    · have HRS : Hid (Res A { d with co := 81, pl := (k : Int) }) := by
        have := HX.out
        exact HM.out.byte (by rw [this]; exact HC1.out) (by rw [this]; exact hB) (by rw [this]; exact c35) (by rw [this]; exact hL) (by rw [this]; exact hD) (by rw [this]; exact c34) (by rw [this]; exact c47) (by rw [this]; exact hS)
      have k1 := H2.out.k1 HP2.out
      go_wp2_with fail
      refine (fail_any 81 k w2 H2.out).mono ?_
      rintro e w3 ⟨rfl, h3, b3⟩
      have H3 : Hid _ := h3
      have B3 : Hid (Below B w w3) := B2.out.trans b3
      clear h3 b3 k1 k6
      go_wp2_with fail
      simp only [Exit.jumps]
      refine bodyPost_ret (v := .tuple #[]) (results_none (by rfl) _ _ _) rfl ?_
      exact ⟨rfl, B3.out, _, _, _, H3.out, HRS.out⟩
    have HL : Hid (Mid A s (k + 1) (cw d 5 (s.extract k (k + 1)))) := by
      have := HX.out
      exact HM.out.sign HF2.out (by rw [this]; exact HC1.out) (by rw [this]; exact hB) (by rw [this]; exact c35) (by rw [this]; exact hL) (by rw [this]; exact hD) (by rw [this]; exact c34) (by rw [this]; exact c47) (by rw [this]; exact hS)
    have hks : k < s.size := rd_lt (by rw [HX.out]; exact HC1.out)
    have HKL : Hid (k < s.size) := hks
    obtain ⟨m, hmm⟩ : ∃ m, k + 1 = m := ⟨_, rfl⟩
    have HMM : Hid (k + 1 = m) := hmm
    rw [hmm] at HL
    clear hmm
    go_upto_region 11 with fail
    clear k6
    have hw1 : IntKind.i64.wrap ((k : Int) + 1) = (m : Int) := by have := HZ.out; have := HMM.out; rw [IntKind.wrap_i64]; omega
    have s0 : (0 : Int) ≤ (k : Int) := by omega
    have s1 : (k : Int) ≤ (m : Int) := by have := HMM.out; omega
    have s2 : (m : Int) ≤ (s.size : Int) := by have := HMM.out; omega
    have s3 : k ≤ m := by have := HMM.out; omega
    have s4 : m ≤ s.size := by have := HMM.out; omega
    have HEX : Hid ((s.extract k m).size ≤ 1000000000000) := by
      have := HZ.out
      show (s.extract k m).size ≤ _
      rw [ByteArray.size_extract]
      omega
    obtain ⟨T, hT⟩ : ∃ T, s.extract k m = T := ⟨_, rfl⟩
    rw [hT] at HEX HL
    have HSS : Hid (d.s = s) := HM.out.hs
    clear hks
    refine wp_region_noPanic ?_
    refine wp_region_held_drew (S := fun W => W.cell? ⟨b, 0, none⟩ = some (.string s) ∧ W.cell? ⟨b, 1, none⟩ = some (.int .i64 (k : Int)) ∧ W.cell? ⟨b, 2, none⟩ = some (.int .i64 (k : Int))) (by kernel_rfl) ⟨H2.out.drew.k0 HSS.out, H2.out.drew.k1 HP2.out, H2.out.drew.k2 HF2.out⟩ (fun hHeld => ?_)
    refine wpAnyH_take (i := 0) (oi := { dst := _, op := _, type := _, pos := _, after := _, guard := _ }) (v := ?_) rfl (by kernel_rfl) (by kernel_rfl) (by kernel_rfl) (fun _ _ _ h => h) (Or.inl ⟨by rfl, ?_⟩) (by assumption) ?_
    rotate_left
    · intro W hSw
      (try dsimp only at hSw)
      go_simp
      (try with_reducible rfl)
    try simp only [Act.put, List.setIfInBounds_toArray, List.set_cons_zero, List.set_cons_succ]
    refine wpAnyH_take (i := 1) (oi := { dst := _, op := _, type := _, pos := _, after := _, guard := _ }) (v := ?_) rfl (by kernel_rfl) (by kernel_rfl) (by kernel_rfl) (fun _ _ _ h => h) (Or.inl ⟨by rfl, ?_⟩) (by assumption) ?_
    rotate_left
    · intro W hSw
      (try dsimp only at hSw)
      go_simp
      (try with_reducible rfl)
    try simp only [Act.put, List.setIfInBounds_toArray, List.set_cons_zero, List.set_cons_succ]
    refine wpAnyH_take (i := 2) (oi := { dst := _, op := _, type := _, pos := _, after := _, guard := _ }) (v := ?_) rfl (by kernel_rfl) (by kernel_rfl) (by kernel_rfl) (fun _ _ _ h => h) (Or.inl ⟨by rfl, ?_⟩) (by assumption) ?_
    rotate_left
    · intro W hSw
      (try dsimp only at hSw)
      go_simp
      (try with_reducible rfl)
    try simp only [Act.put, List.setIfInBounds_toArray, List.set_cons_zero, List.set_cons_succ]
    refine wpAnyH_take (i := 3) (oi := { dst := _, op := _, type := _, pos := _, after := _, guard := _ }) (v := ?_) rfl (by kernel_rfl) (by kernel_rfl) (by kernel_rfl) (fun _ _ _ h => h) (Or.inl ⟨by rfl, ?_⟩) (by assumption) ?_
    rotate_left
    · intro W hSw
      (try dsimp only at hSw)
      go_simp
      (try with_reducible rfl)
    try simp only [Act.put, List.setIfInBounds_toArray, List.set_cons_zero, List.set_cons_succ]
    refine wpAnyH_take (i := 4) (oi := { dst := _, op := _, type := _, pos := _, after := _, guard := _ }) (v := ?_) rfl (by kernel_rfl) (by kernel_rfl) (by kernel_rfl) (fun _ _ _ h => h) (Or.inl ⟨by rfl, ?_⟩) (by assumption) ?_
    rotate_left
    · intro W hSw
      (try dsimp only at hSw)
      obtain ⟨hs0, hs1, hs2⟩ := hSw
      go_simp
      (try with_reducible rfl)
    try simp only [Act.put, List.setIfInBounds_toArray, List.set_cons_zero, List.set_cons_succ]
    refine wpAnyH_take (i := 5) (oi := { dst := _, op := _, type := _, pos := _, after := _, guard := _ }) (v := ?_) rfl (by kernel_rfl) (by kernel_rfl) (by kernel_rfl) (fun _ _ _ h => h) (Or.inl ⟨by rfl, ?_⟩) (by assumption) ?_
    rotate_left
    · intro W hSw
      (try dsimp only at hSw)
      go_simp
      (try with_reducible rfl)
    try simp only [Act.put, List.setIfInBounds_toArray, List.set_cons_zero, List.set_cons_succ]
    refine wpAnyH_take (i := 6) (oi := { dst := _, op := _, type := _, pos := _, after := _, guard := _ }) (v := ?_) rfl (by kernel_rfl) (by kernel_rfl) (by kernel_rfl) (fun _ _ _ h => h) (Or.inl ⟨by rfl, ?_⟩) (by assumption) ?_
    rotate_left
    · intro W hSw
      (try dsimp only at hSw)
      go_simp
      (try with_reducible rfl)
    try simp only [Act.put, List.setIfInBounds_toArray, List.set_cons_zero, List.set_cons_succ]
    refine wpAnyH_take (i := 7) (oi := { dst := _, op := _, type := _, pos := _, after := _, guard := _ }) (v := ?_) rfl (by kernel_rfl) (by kernel_rfl) (by kernel_rfl) (fun _ _ _ h => h) (Or.inl ⟨by rfl, ?_⟩) (by assumption) ?_
    rotate_left
    · intro W hSw
      (try dsimp only at hSw)
      go_simp
      (try with_reducible rfl)
    try simp only [Act.put, List.setIfInBounds_toArray, List.set_cons_zero, List.set_cons_succ]
    refine wpAnyH_take (i := 8) (oi := { dst := _, op := _, type := _, pos := _, after := _, guard := _ }) (v := ?_) rfl (by kernel_rfl) (by kernel_rfl) (by kernel_rfl) (fun _ _ _ h => h) (Or.inl ⟨by rfl, ?_⟩) (by assumption) ?_
    rotate_left
    · intro W hSw
      (try dsimp only at hSw)
      obtain ⟨hs0, hs1, hs2⟩ := hSw
      go_simp
      (try with_reducible rfl)
    try simp only [Act.put, List.setIfInBounds_toArray, List.set_cons_zero, List.set_cons_succ]
    refine wpAnyH_take (i := 9) (oi := { dst := _, op := _, type := _, pos := _, after := _, guard := _ }) (v := ?_) rfl (by kernel_rfl) (by kernel_rfl) (by kernel_rfl) (fun _ _ _ h => h) (Or.inl ⟨by rfl, ?_⟩) (by assumption) ?_
    rotate_left
    · intro W hSw
      (try dsimp only at hSw)
      go_simp
      (try with_reducible rfl)
    try simp only [Act.put, List.setIfInBounds_toArray, List.set_cons_zero, List.set_cons_succ]
    refine wpAnyH_take (i := 10) (oi := { dst := _, op := _, type := _, pos := _, after := _, guard := _ }) (v := ?_) rfl (by kernel_rfl) (by kernel_rfl) (by kernel_rfl) (fun _ _ _ h => h) (Or.inl ⟨by rfl, ?_⟩) (by assumption) ?_
    rotate_left
    · intro W hSw
      (try dsimp only at hSw)
      go_simp
      (try with_reducible rfl)
    try simp only [Act.put, List.setIfInBounds_toArray, List.set_cons_zero, List.set_cons_succ]
    refine wpAnyH_take (i := 11) (oi := { dst := _, op := _, type := _, pos := _, after := _, guard := _ }) (v := ?_) rfl (by kernel_rfl) (by kernel_rfl) (by kernel_rfl) (fun _ _ _ h => h) (Or.inl ⟨by rfl, ?_⟩) (by assumption) ?_
    rotate_left
    · intro W hSw
      (try dsimp only at hSw)
      go_simp
      (try with_reducible rfl)
    try simp only [Act.put, List.setIfInBounds_toArray, List.set_cons_zero, List.set_cons_succ]
    refine wpAnyH_take (i := 12) (oi := { dst := _, op := _, type := _, pos := _, after := _, guard := _ }) (v := ?_) rfl (by kernel_rfl) (by kernel_rfl) (by kernel_rfl) (fun _ _ _ h => h) (Or.inl ⟨by rfl, ?_⟩) (by assumption) ?_
    rotate_left
    · intro W hSw
      (try dsimp only at hSw)
      obtain ⟨hs0, hs1, hs2⟩ := hSw
      go_simp
      (try with_reducible rfl)
    try simp only [Act.put, List.setIfInBounds_toArray, List.set_cons_zero, List.set_cons_succ]
    refine wpAnyH_take (i := 13) (oi := { dst := _, op := _, type := _, pos := _, after := _, guard := _ }) (v := ?_) rfl (by kernel_rfl) (by kernel_rfl) (by kernel_rfl) (fun _ _ _ h => h) (Or.inl ⟨by rfl, ?_⟩) (by assumption) ?_
    rotate_left
    · intro W hSw
      (try dsimp only at hSw)
      go_simp
      (try with_reducible rfl)
    try simp only [Act.put, List.setIfInBounds_toArray, List.set_cons_zero, List.set_cons_succ]
    refine wpAnyH_take (i := 14) (oi := { dst := _, op := _, type := _, pos := _, after := _, guard := _ }) (v := ?_) rfl (by kernel_rfl) (by kernel_rfl) (by kernel_rfl) (fun _ _ _ h => h) (Or.inl ⟨by rfl, ?_⟩) (by assumption) ?_
    rotate_left
    · intro W hSw
      (try dsimp only at hSw)
      go_simp
      (try with_reducible rfl)
    try simp only [Act.put, List.setIfInBounds_toArray, List.set_cons_zero, List.set_cons_succ]
    refine wpAnyH_ready (rs := [15]) (by kernel_rfl) (by simp) ?_
    refine AllReadyH.cons (o := { dst := _, op := _, type := _, pos := _, after := _, guard := _ }) rfl (fun K hK => ?_) AllReadyH.nil
    go_simp
    refine (cut_any 5 T HEX.out (HM.out.wle HKS.out HZ.out) _ H2.out.drew).mono ?_
    rintro e w3 ⟨rfl, b3, vb3, vw3, h3⟩
    have H3 : Hid (Cu B w3 b vb3 vw3 (cw d 5 T)) := h3
    have B3 : Hid (Below B w w3) := B2.out.trans ((Below.drew (Below.refl _ _)).trans b3)
    clear h3 b3
    go_wp2_with fail
    refine hK.out _ _ ?_ (fun hHeld => ?_)
    · exact ⟨H3.out.k0 HSS.out, H3.out.k1 HP2.out, H3.out.k2 HF2.out⟩
    clear hK K
    try simp only [Act.put, List.setIfInBounds_toArray, List.set_cons_zero, List.set_cons_succ]
    refine wpAnyH_done (by kernel_rfl) ?_ _
    clear hHeld
    refine NoPanic.normal ?_
    have hks := HKL.out
    have hmk := HMM.out
    go_wp2_with fail
    go_step3
    show ∃ g, JJ A s B b w 0 g _ _
    exact jf (frm_of _ (by kernel_rfl)) B3.out H3.out ⟨m, by show d.p + 1 = _; rw [HP2.out, ← hmk]; simp, rfl, .inl ⟨HL.out, by omega⟩⟩
  · intro l g a w0 hJ
    clear HH HP0 HM0
    match l with
    | 0 =>
      obtain ⟨v2, ⟨u, rfl⟩, b0, vb1, vw1, c0, h0, hl⟩ := hJ
      obtain ⟨k, hp, hg, ha⟩ := hl
      have H0 : Hid (Cu B w0 b vb1 vw1 c0) := h0
      have B0 : Hid (Below B w w0) := b0
      clear h0 b0
      have HA0 : Hid ((Mid A s k c0 ∧ k ≤ s.size) ∨ (Bad A s c0 ∧ k ≤ s.size + 4)) := ha
      have HP : Hid (c0.p + 1 = (k : Int)) := hp
      have HS0 : Hid (c0.s = s) := by rcases ha with ⟨h, _⟩ | ⟨h, _⟩; exact h.hs; exact h.1
      have hkz : k ≤ s.size + 4 := by rcases ha with ⟨_, h⟩ | ⟨_, h⟩ <;> omega
      have HKZ : Hid (k ≤ s.size + 4) := hkz
      clear ha hp hkz
      refine ⟨_, rfl, ?_⟩
      go_wp2_with fail
      refine (read_any k HP.out (by have := HKZ.out; have := HZ.out; omega) w0 H0.out).mono ?_
      rintro e w1 ⟨rfl, h1, b1⟩
      obtain ⟨c1, hc1⟩ : ∃ c1 : Cs, c1 = { c0 with p := ((k : Nat) : Int) } := ⟨_, rfl⟩
      rw [← hc1] at h1
      have H1 : Hid (Cu B w1 b vb1 vw1 c1) := h1
      have B1 : Hid (Below B w w1) := B0.out.trans b1
      have HP1 : Hid (c1.p = ((k : Nat) : Int)) := by rw [hc1]; exact rfl
      clear h1 b1
      have HA : Hid ((Mid A s k c1 ∧ k ≤ s.size) ∨ (Bad A s c1 ∧ k ≤ s.size + 4)) := by
        rw [hc1]
        rcases HA0.out with ⟨h, hk⟩ | ⟨h, hk⟩
        · exact .inl ⟨h.over rfl rfl rfl rfl rfl, hk⟩
        · exact .inr ⟨h.over rfl rfl rfl, hk⟩
      obtain ⟨x, hx⟩ : ∃ x, rd s k = x := ⟨_, rfl⟩
      have HX : Hid (rd s k = x) := hx
      rw [HS0.out, hx]
      have HG : Hid (g = 2 * (s.size + 10 - k) + 1) := hg
      clear hc1 hx HA0 H0 B0 HP hg
      go_wp2_with fail
      go_step3
      have hg0 := HG.out
      have hkz := HKZ.out
      clear HG
      have k1 := H1.out.k1 HP1.out
      have k2 := H1.out.c2
      have f2 := H1.out.frz 2
      go_upto_block 0 with fail
      obtain ⟨w2, hw2⟩ : ∃ w2, w2 = w1.setCell ⟨b, 2, none⟩ (.int .i64 (k : Int)) := ⟨_, rfl⟩
      rw [← hw2]
      obtain ⟨d, hd⟩ : ∃ d : Cs, d = { c1 with f := (k : Int) } := ⟨_, rfl⟩
      have H2 : Hid (Cu B w2 b vb1 vw1 d) := by rw [hw2, hd]; exact H1.out.setf _
      have B2 : Hid (Below B w w2) := by rw [hw2]; exact B1.out.setCell H1.out.lo _
      have HP2 : Hid (d.p = (k : Int)) := by rw [hd]; exact HP1.out
      have HF2 : Hid (d.f = (k : Int)) := by rw [hd]; exact rfl
      have HA2 : Hid ((Mid A s k d ∧ k ≤ s.size) ∨ (Bad A s d ∧ k ≤ s.size + 4)) := by
        rw [hd]
        rcases HA.out with ⟨h, hk⟩ | ⟨h, hk⟩
        · exact .inl ⟨h.over rfl rfl rfl rfl rfl, hk⟩
        · exact .inr ⟨h.over rfl rfl rfl, hk⟩
      clear hw2 hd k1 k2 f2 H1 HP1 HA B1
      by_cases cx : x = -1
      · subst cx
        have HRS : Hid (Res A d) := by
          rcases HA2.out with ⟨h, hk⟩ | ⟨h, hk⟩
          · exact h.done HX.out
          · exact h.res
        go_wp2_with fail
        simp only [Exit.jumps]
        refine bodyPost_ret (v := .tuple #[]) (results_none (by rfl) _ _ _) rfl ?_
        exact ⟨rfl, B2.out, _, _, _, H2.out, HRS.out⟩
      rcases HA2.out with ⟨hm, hk⟩ | ⟨hbd, hk⟩
      rotate_left
      · have k6 := H2.out.c6
        have n6 : (d.co != 0) = true := by have := hbd.ne; simpa using this
        have HRS : Hid (Res A d) := hbd.res
        clear hbd
        go_wp2_with fail
        simp only [Exit.jumps]
        refine bodyPost_ret (v := .tuple #[]) (results_none (by rfl) _ _ _) rfl ?_
        exact ⟨rfl, B2.out, _, _, _, H2.out, HRS.out⟩
      have HM : Hid (Mid A s k d) := hm
      have HKS : Hid (k ≤ s.size) := hk
      have k6 := H2.out.k6 hm.co
      have HC1 : Hid (x ≠ -1) := cx
      clear hm hk HA2
      go_wp2_with fail
      refine (blank_any x w2).mono ?_
      rintro e w9 ⟨rfl, hw9⟩
      rw [hw9]
      clear hw9 w9
      cases hB : isB x
      rotate_left
      · have HL : Hid (Mid A s (k + 1) d) := HM.out.blank (by rw [HX.out]; exact hB)
        have hks : k < s.size := rd_lt (by rw [HX.out]; exact HC1.out)
        go_wp2_with fail
        go_step3
        show ∃ g', g' < _ ∧ JJ A s B b w 0 g' _ _
        exact jp (frm_of _ (by kernel_rfl)) B2.out H2.out ⟨k + 1, by rw [HP2.out]; simp, rfl, .inl ⟨HL.out, hks⟩⟩ (by omega)
      by_cases c35 : x = 35
      · have HL : Hid (Cmt A s (k + 1) d) := HM.out.hash (by rw [HX.out]; exact c35)
        have hks : k < s.size := rd_lt (by rw [HX.out]; exact HC1.out)
        subst c35
        go_wp2_with fail
        go_step3
        show ∃ g', g' < _ ∧ JJ A s B b w 2 g' _ _
        exact jp (frm_of _ (by kernel_rfl)) B2.out H2.out ⟨k, HP2.out, rfl, HL.out, hks⟩ (by omega)
      go_wp2_with fail
      refine (letter_any x w2).mono ?_
      rintro e w9 ⟨rfl, hw9⟩
      rw [hw9]
      clear hw9 w9
      cases hL : isL x
      rotate_left
      · have HL : Hid (Nam A s k k d) := HM.out.name HF2.out (by rw [HX.out]; exact hL)
        have hks : k < s.size := rd_lt (by rw [HX.out]; exact HC1.out)
        go_wp2_with fail
        go_step3
        show ∃ g', g' < _ ∧ JJ A s B b w 3 g' _ _
        exact jp (frm_of _ (by kernel_rfl)) B2.out H2.out ⟨k, k, HP2.out, rfl, HL.out⟩ (by omega)
      go_wp2_with fail
      refine (digit_any x w2).mono ?_
      rintro e w9 ⟨rfl, hw9⟩
      rw [hw9]
      clear hw9 w9
      cases hD : isD x
      rotate_left
      · have HL : Hid (Num A s k k d) := HM.out.num HF2.out (by rw [HX.out]; exact hD)
        have hks : k < s.size := rd_lt (by rw [HX.out]; exact HC1.out)
        go_wp2_with fail
        go_step3
        show ∃ g', g' < _ ∧ JJ A s B b w 4 g' _ _
        exact jp (frm_of _ (by kernel_rfl)) B2.out H2.out ⟨k, k, HP2.out, by show Value.int .i64 x = _; rw [HX.out], rfl, HL.out⟩ (by omega)
      by_cases c34 : x = 34
      · have HL : Hid (Txt A s k (k + 1) d) := HM.out.text HF2.out (by rw [HX.out]; exact c34)
        have hks : k < s.size := rd_lt (by rw [HX.out]; exact HC1.out)
        subst c34
        go_wp2_with fail
        go_step3
        show ∃ g', g' < _ ∧ JJ A s B b w 5 g' _ _
        exact jp (frm_of _ (by kernel_rfl)) B2.out H2.out ⟨k, k + 1, by rw [HP2.out]; simp, rfl, HL.out, hks⟩ (by omega)
      by_cases c47 : x = 47
      · have HL : Hid (Rgx A s k (k + 1) d) := HM.out.regex HF2.out (by rw [HX.out]; exact c47)
        have hks : k < s.size := rd_lt (by rw [HX.out]; exact HC1.out)
        subst c47
        go_wp2_with fail
        go_step3
        show ∃ g', g' < _ ∧ JJ A s B b w 6 g' _ _
        exact jp (frm_of _ (by kernel_rfl)) B2.out H2.out ⟨k, k + 1, by rw [HP2.out]; simp, rfl, HL.out, hks⟩ (by omega)
      go_wp2_with fail
      refine (sign_any x (by rw [← HX.out]; exact rd_ok _ _) w2).mono ?_
      rintro e w9 ⟨rfl, hw9⟩
      rw [hw9]
      clear hw9 w9
      cases hS : isS x
      · have HRS : Hid (Res A { d with co := 81, pl := (k : Int) }) := by
          have := HX.out
          exact HM.out.byte (by rw [this]; exact HC1.out) (by rw [this]; exact hB) (by rw [this]; exact c35) (by rw [this]; exact hL) (by rw [this]; exact hD) (by rw [this]; exact c34) (by rw [this]; exact c47) (by rw [this]; exact hS)
        have k1 := H2.out.k1 HP2.out
        go_wp2_with fail
        refine (fail_any 81 k w2 H2.out).mono ?_
        rintro e w3 ⟨rfl, h3, b3⟩
        have H3 : Hid _ := h3
        have B3 : Hid (Below B w w3) := B2.out.trans b3
        clear h3 b3 k1 k6
        go_wp2_with fail
        simp only [Exit.jumps]
        refine bodyPost_ret (v := .tuple #[]) (results_none (by rfl) _ _ _) rfl ?_
        exact ⟨rfl, B3.out, _, _, _, H3.out, HRS.out⟩
      have HL : Hid (Mid A s (k + 1) (cw d 5 (s.extract k (k + 1)))) := by
        have := HX.out
        exact HM.out.sign HF2.out (by rw [this]; exact HC1.out) (by rw [this]; exact hB) (by rw [this]; exact c35) (by rw [this]; exact hL) (by rw [this]; exact hD) (by rw [this]; exact c34) (by rw [this]; exact c47) (by rw [this]; exact hS)
      have hks : k < s.size := rd_lt (by rw [HX.out]; exact HC1.out)
      have HKL : Hid (k < s.size) := hks
      obtain ⟨m, hmm⟩ : ∃ m, k + 1 = m := ⟨_, rfl⟩
      have HMM : Hid (k + 1 = m) := hmm
      rw [hmm] at HL
      clear hmm
      go_upto_region 11 with fail
      clear k6
      have hw1 : IntKind.i64.wrap ((k : Int) + 1) = (m : Int) := by have := HZ.out; have := HMM.out; rw [IntKind.wrap_i64]; omega
      have s0 : (0 : Int) ≤ (k : Int) := by omega
      have s1 : (k : Int) ≤ (m : Int) := by have := HMM.out; omega
      have s2 : (m : Int) ≤ (s.size : Int) := by have := HMM.out; omega
      have s3 : k ≤ m := by have := HMM.out; omega
      have s4 : m ≤ s.size := by have := HMM.out; omega
      have HEX : Hid ((s.extract k m).size ≤ 1000000000000) := by
        have := HZ.out
        show (s.extract k m).size ≤ _
        rw [ByteArray.size_extract]
        omega
      obtain ⟨T, hT⟩ : ∃ T, s.extract k m = T := ⟨_, rfl⟩
      rw [hT] at HEX HL
      have HSS : Hid (d.s = s) := HM.out.hs
      clear hks
      refine wp_region_noPanic ?_
      refine wp_region_held_drew (S := fun W => W.cell? ⟨b, 0, none⟩ = some (.string s) ∧ W.cell? ⟨b, 1, none⟩ = some (.int .i64 (k : Int)) ∧ W.cell? ⟨b, 2, none⟩ = some (.int .i64 (k : Int))) (by kernel_rfl) ⟨H2.out.drew.k0 HSS.out, H2.out.drew.k1 HP2.out, H2.out.drew.k2 HF2.out⟩ (fun hHeld => ?_)
      refine wpAnyH_take (i := 0) (oi := { dst := _, op := _, type := _, pos := _, after := _, guard := _ }) (v := ?_) rfl (by kernel_rfl) (by kernel_rfl) (by kernel_rfl) (fun _ _ _ h => h) (Or.inl ⟨by rfl, ?_⟩) (by assumption) ?_
      rotate_left
      · intro W hSw
        (try dsimp only at hSw)
        go_simp
        (try with_reducible rfl)
      try simp only [Act.put, List.setIfInBounds_toArray, List.set_cons_zero, List.set_cons_succ]
      refine wpAnyH_take (i := 1) (oi := { dst := _, op := _, type := _, pos := _, after := _, guard := _ }) (v := ?_) rfl (by kernel_rfl) (by kernel_rfl) (by kernel_rfl) (fun _ _ _ h => h) (Or.inl ⟨by rfl, ?_⟩) (by assumption) ?_
      rotate_left
      · intro W hSw
        (try dsimp only at hSw)
        go_simp
        (try with_reducible rfl)
      try simp only [Act.put, List.setIfInBounds_toArray, List.set_cons_zero, List.set_cons_succ]
      refine wpAnyH_take (i := 2) (oi := { dst := _, op := _, type := _, pos := _, after := _, guard := _ }) (v := ?_) rfl (by kernel_rfl) (by kernel_rfl) (by kernel_rfl) (fun _ _ _ h => h) (Or.inl ⟨by rfl, ?_⟩) (by assumption) ?_
      rotate_left
      · intro W hSw
        (try dsimp only at hSw)
        go_simp
        (try with_reducible rfl)
      try simp only [Act.put, List.setIfInBounds_toArray, List.set_cons_zero, List.set_cons_succ]
      refine wpAnyH_take (i := 3) (oi := { dst := _, op := _, type := _, pos := _, after := _, guard := _ }) (v := ?_) rfl (by kernel_rfl) (by kernel_rfl) (by kernel_rfl) (fun _ _ _ h => h) (Or.inl ⟨by rfl, ?_⟩) (by assumption) ?_
      rotate_left
      · intro W hSw
        (try dsimp only at hSw)
        go_simp
        (try with_reducible rfl)
      try simp only [Act.put, List.setIfInBounds_toArray, List.set_cons_zero, List.set_cons_succ]
      refine wpAnyH_take (i := 4) (oi := { dst := _, op := _, type := _, pos := _, after := _, guard := _ }) (v := ?_) rfl (by kernel_rfl) (by kernel_rfl) (by kernel_rfl) (fun _ _ _ h => h) (Or.inl ⟨by rfl, ?_⟩) (by assumption) ?_
      rotate_left
      · intro W hSw
        (try dsimp only at hSw)
        obtain ⟨hs0, hs1, hs2⟩ := hSw
        go_simp
        (try with_reducible rfl)
      try simp only [Act.put, List.setIfInBounds_toArray, List.set_cons_zero, List.set_cons_succ]
      refine wpAnyH_take (i := 5) (oi := { dst := _, op := _, type := _, pos := _, after := _, guard := _ }) (v := ?_) rfl (by kernel_rfl) (by kernel_rfl) (by kernel_rfl) (fun _ _ _ h => h) (Or.inl ⟨by rfl, ?_⟩) (by assumption) ?_
      rotate_left
      · intro W hSw
        (try dsimp only at hSw)
        go_simp
        (try with_reducible rfl)
      try simp only [Act.put, List.setIfInBounds_toArray, List.set_cons_zero, List.set_cons_succ]
      refine wpAnyH_take (i := 6) (oi := { dst := _, op := _, type := _, pos := _, after := _, guard := _ }) (v := ?_) rfl (by kernel_rfl) (by kernel_rfl) (by kernel_rfl) (fun _ _ _ h => h) (Or.inl ⟨by rfl, ?_⟩) (by assumption) ?_
      rotate_left
      · intro W hSw
        (try dsimp only at hSw)
        go_simp
        (try with_reducible rfl)
      try simp only [Act.put, List.setIfInBounds_toArray, List.set_cons_zero, List.set_cons_succ]
      refine wpAnyH_take (i := 7) (oi := { dst := _, op := _, type := _, pos := _, after := _, guard := _ }) (v := ?_) rfl (by kernel_rfl) (by kernel_rfl) (by kernel_rfl) (fun _ _ _ h => h) (Or.inl ⟨by rfl, ?_⟩) (by assumption) ?_
      rotate_left
      · intro W hSw
        (try dsimp only at hSw)
        go_simp
        (try with_reducible rfl)
      try simp only [Act.put, List.setIfInBounds_toArray, List.set_cons_zero, List.set_cons_succ]
      refine wpAnyH_take (i := 8) (oi := { dst := _, op := _, type := _, pos := _, after := _, guard := _ }) (v := ?_) rfl (by kernel_rfl) (by kernel_rfl) (by kernel_rfl) (fun _ _ _ h => h) (Or.inl ⟨by rfl, ?_⟩) (by assumption) ?_
      rotate_left
      · intro W hSw
        (try dsimp only at hSw)
        obtain ⟨hs0, hs1, hs2⟩ := hSw
        go_simp
        (try with_reducible rfl)
      try simp only [Act.put, List.setIfInBounds_toArray, List.set_cons_zero, List.set_cons_succ]
      refine wpAnyH_take (i := 9) (oi := { dst := _, op := _, type := _, pos := _, after := _, guard := _ }) (v := ?_) rfl (by kernel_rfl) (by kernel_rfl) (by kernel_rfl) (fun _ _ _ h => h) (Or.inl ⟨by rfl, ?_⟩) (by assumption) ?_
      rotate_left
      · intro W hSw
        (try dsimp only at hSw)
        go_simp
        (try with_reducible rfl)
      try simp only [Act.put, List.setIfInBounds_toArray, List.set_cons_zero, List.set_cons_succ]
      refine wpAnyH_take (i := 10) (oi := { dst := _, op := _, type := _, pos := _, after := _, guard := _ }) (v := ?_) rfl (by kernel_rfl) (by kernel_rfl) (by kernel_rfl) (fun _ _ _ h => h) (Or.inl ⟨by rfl, ?_⟩) (by assumption) ?_
      rotate_left
      · intro W hSw
        (try dsimp only at hSw)
        go_simp
        (try with_reducible rfl)
      try simp only [Act.put, List.setIfInBounds_toArray, List.set_cons_zero, List.set_cons_succ]
      refine wpAnyH_take (i := 11) (oi := { dst := _, op := _, type := _, pos := _, after := _, guard := _ }) (v := ?_) rfl (by kernel_rfl) (by kernel_rfl) (by kernel_rfl) (fun _ _ _ h => h) (Or.inl ⟨by rfl, ?_⟩) (by assumption) ?_
      rotate_left
      · intro W hSw
        (try dsimp only at hSw)
        go_simp
        (try with_reducible rfl)
      try simp only [Act.put, List.setIfInBounds_toArray, List.set_cons_zero, List.set_cons_succ]
      refine wpAnyH_take (i := 12) (oi := { dst := _, op := _, type := _, pos := _, after := _, guard := _ }) (v := ?_) rfl (by kernel_rfl) (by kernel_rfl) (by kernel_rfl) (fun _ _ _ h => h) (Or.inl ⟨by rfl, ?_⟩) (by assumption) ?_
      rotate_left
      · intro W hSw
        (try dsimp only at hSw)
        obtain ⟨hs0, hs1, hs2⟩ := hSw
        go_simp
        (try with_reducible rfl)
      try simp only [Act.put, List.setIfInBounds_toArray, List.set_cons_zero, List.set_cons_succ]
      refine wpAnyH_take (i := 13) (oi := { dst := _, op := _, type := _, pos := _, after := _, guard := _ }) (v := ?_) rfl (by kernel_rfl) (by kernel_rfl) (by kernel_rfl) (fun _ _ _ h => h) (Or.inl ⟨by rfl, ?_⟩) (by assumption) ?_
      rotate_left
      · intro W hSw
        (try dsimp only at hSw)
        go_simp
        (try with_reducible rfl)
      try simp only [Act.put, List.setIfInBounds_toArray, List.set_cons_zero, List.set_cons_succ]
      refine wpAnyH_take (i := 14) (oi := { dst := _, op := _, type := _, pos := _, after := _, guard := _ }) (v := ?_) rfl (by kernel_rfl) (by kernel_rfl) (by kernel_rfl) (fun _ _ _ h => h) (Or.inl ⟨by rfl, ?_⟩) (by assumption) ?_
      rotate_left
      · intro W hSw
        (try dsimp only at hSw)
        go_simp
        (try with_reducible rfl)
      try simp only [Act.put, List.setIfInBounds_toArray, List.set_cons_zero, List.set_cons_succ]
      refine wpAnyH_ready (rs := [15]) (by kernel_rfl) (by simp) ?_
      refine AllReadyH.cons (o := { dst := _, op := _, type := _, pos := _, after := _, guard := _ }) rfl (fun K hK => ?_) AllReadyH.nil
      go_simp
      refine (cut_any 5 T HEX.out (HM.out.wle HKS.out HZ.out) _ H2.out.drew).mono ?_
      rintro e w3 ⟨rfl, b3, vb3, vw3, h3⟩
      have H3 : Hid (Cu B w3 b vb3 vw3 (cw d 5 T)) := h3
      have B3 : Hid (Below B w w3) := B2.out.trans ((Below.drew (Below.refl _ _)).trans b3)
      clear h3 b3
      go_wp2_with fail
      refine hK.out _ _ ?_ (fun hHeld => ?_)
      · exact ⟨H3.out.k0 HSS.out, H3.out.k1 HP2.out, H3.out.k2 HF2.out⟩
      clear hK K
      try simp only [Act.put, List.setIfInBounds_toArray, List.set_cons_zero, List.set_cons_succ]
      refine wpAnyH_done (by kernel_rfl) ?_ _
      clear hHeld
      refine NoPanic.normal ?_
      have hks := HKL.out
      have hmk := HMM.out
      go_wp2_with fail
      go_step3
      show ∃ g', g' < _ ∧ JJ A s B b w 0 g' _ _
      exact jp (frm_of _ (by kernel_rfl)) B3.out H3.out ⟨m, by show d.p + 1 = _; rw [HP2.out, ← hmk]; simp, rfl, .inl ⟨HL.out, by omega⟩⟩ (by omega)
    | 1 =>
      obtain ⟨v2, ⟨u, rfl⟩, b0, vb1, vw1, c0, h0, hl⟩ := hJ
      obtain ⟨k, hp, rfl, hg, ha⟩ := hl
      obtain ⟨w1, hw1⟩ : ∃ w1, w1 = w0 := ⟨_, rfl⟩
      rw [← hw1] at h0 b0 ⊢
      obtain ⟨c1, hc1⟩ : ∃ c1, c1 = c0 := ⟨_, rfl⟩
      rw [← hc1] at h0 hp ha
      have H1 : Hid (Cu B w1 b vb1 vw1 c1) := h0
      have B1 : Hid (Below B w w1) := b0
      have HA : Hid ((Mid A s k c1 ∧ k ≤ s.size) ∨ (Bad A s c1 ∧ k ≤ s.size + 4)) := ha
      have HP1 : Hid (c1.p = (k : Int)) := hp
      have hkz : k ≤ s.size + 4 := by rcases ha with ⟨_, h⟩ | ⟨_, h⟩ <;> omega
      have hg0 := hg
      obtain ⟨x, hx⟩ : ∃ x, rd s k = x := ⟨_, rfl⟩
      have HX : Hid (rd s k = x) := hx
      rw [hx]
      clear h0 b0 ha hp hx hw1 hc1 hg
      refine ⟨_, rfl, ?_⟩
      have k1 := H1.out.k1 HP1.out
      have k2 := H1.out.c2
      have f2 := H1.out.frz 2
      go_upto_block 0 with fail
      obtain ⟨w2, hw2⟩ : ∃ w2, w2 = w1.setCell ⟨b, 2, none⟩ (.int .i64 (k : Int)) := ⟨_, rfl⟩
      rw [← hw2]
      obtain ⟨d, hd⟩ : ∃ d : Cs, d = { c1 with f := (k : Int) } := ⟨_, rfl⟩
      have H2 : Hid (Cu B w2 b vb1 vw1 d) := by rw [hw2, hd]; exact H1.out.setf _
      have B2 : Hid (Below B w w2) := by rw [hw2]; exact B1.out.setCell H1.out.lo _
      have HP2 : Hid (d.p = (k : Int)) := by rw [hd]; exact HP1.out
      have HF2 : Hid (d.f = (k : Int)) := by rw [hd]; exact rfl
      have HA2 : Hid ((Mid A s k d ∧ k ≤ s.size) ∨ (Bad A s d ∧ k ≤ s.size + 4)) := by
        rw [hd]
        rcases HA.out with ⟨h, hk⟩ | ⟨h, hk⟩
        · exact .inl ⟨h.over rfl rfl rfl rfl rfl, hk⟩
        · exact .inr ⟨h.over rfl rfl rfl, hk⟩
      clear hw2 hd k1 k2 f2 H1 HP1 HA B1
      by_cases cx : x = -1
      · subst cx
        have HRS : Hid (Res A d) := by
          rcases HA2.out with ⟨h, hk⟩ | ⟨h, hk⟩
          · exact h.done HX.out
          · exact h.res
        go_wp2_with fail
        simp only [Exit.jumps]
        refine bodyPost_ret (v := .tuple #[]) (results_none (by rfl) _ _ _) rfl ?_
        exact ⟨rfl, B2.out, _, _, _, H2.out, HRS.out⟩
      rcases HA2.out with ⟨hm, hk⟩ | ⟨hbd, hk⟩
      rotate_left
      · have k6 := H2.out.c6
        have n6 : (d.co != 0) = true := by have := hbd.ne; simpa using this
        have HRS : Hid (Res A d) := hbd.res
        clear hbd
        go_wp2_with fail
        simp only [Exit.jumps]
        refine bodyPost_ret (v := .tuple #[]) (results_none (by rfl) _ _ _) rfl ?_
        exact ⟨rfl, B2.out, _, _, _, H2.out, HRS.out⟩
      have HM : Hid (Mid A s k d) := hm
      have HKS : Hid (k ≤ s.size) := hk
      have k6 := H2.out.k6 hm.co
      have HC1 : Hid (x ≠ -1) := cx
      clear hm hk HA2
      go_wp2_with fail
      refine (blank_any x w2).mono ?_
      rintro e w9 ⟨rfl, hw9⟩
      rw [hw9]
      clear hw9 w9
      cases hB : isB x
      rotate_left
      · have HL : Hid (Mid A s (k + 1) d) := HM.out.blank (by rw [HX.out]; exact hB)
        have hks : k < s.size := rd_lt (by rw [HX.out]; exact HC1.out)
        go_wp2_with fail
        go_step3
        show ∃ g', g' < _ ∧ JJ A s B b w 0 g' _ _
        exact jp (frm_of _ (by kernel_rfl)) B2.out H2.out ⟨k + 1, by rw [HP2.out]; simp, rfl, .inl ⟨HL.out, hks⟩⟩ (by omega)
      by_cases c35 : x = 35
      · have HL : Hid (Cmt A s (k + 1) d) := HM.out.hash (by rw [HX.out]; exact c35)
        have hks : k < s.size := rd_lt (by rw [HX.out]; exact HC1.out)
        subst c35
        go_wp2_with fail
        go_step3
        show ∃ g', g' < _ ∧ JJ A s B b w 2 g' _ _
        exact jp (frm_of _ (by kernel_rfl)) B2.out H2.out ⟨k, HP2.out, rfl, HL.out, hks⟩ (by omega)
      go_wp2_with fail
      refine (letter_any x w2).mono ?_
      rintro e w9 ⟨rfl, hw9⟩
      rw [hw9]
      clear hw9 w9
      cases hL : isL x
      rotate_left
      · have HL : Hid (Nam A s k k d) := HM.out.name HF2.out (by rw [HX.out]; exact hL)
        have hks : k < s.size := rd_lt (by rw [HX.out]; exact HC1.out)
        go_wp2_with fail
        go_step3
        show ∃ g', g' < _ ∧ JJ A s B b w 3 g' _ _
        exact jp (frm_of _ (by kernel_rfl)) B2.out H2.out ⟨k, k, HP2.out, rfl, HL.out⟩ (by omega)
      go_wp2_with fail
      refine (digit_any x w2).mono ?_
      rintro e w9 ⟨rfl, hw9⟩
      rw [hw9]
      clear hw9 w9
      cases hD : isD x
      rotate_left
      · have HL : Hid (Num A s k k d) := HM.out.num HF2.out (by rw [HX.out]; exact hD)
        have hks : k < s.size := rd_lt (by rw [HX.out]; exact HC1.out)
        go_wp2_with fail
        go_step3
        show ∃ g', g' < _ ∧ JJ A s B b w 4 g' _ _
        exact jp (frm_of _ (by kernel_rfl)) B2.out H2.out ⟨k, k, HP2.out, by show Value.int .i64 x = _; rw [HX.out], rfl, HL.out⟩ (by omega)
      by_cases c34 : x = 34
      · have HL : Hid (Txt A s k (k + 1) d) := HM.out.text HF2.out (by rw [HX.out]; exact c34)
        have hks : k < s.size := rd_lt (by rw [HX.out]; exact HC1.out)
        subst c34
        go_wp2_with fail
        go_step3
        show ∃ g', g' < _ ∧ JJ A s B b w 5 g' _ _
        exact jp (frm_of _ (by kernel_rfl)) B2.out H2.out ⟨k, k + 1, by rw [HP2.out]; simp, rfl, HL.out, hks⟩ (by omega)
      by_cases c47 : x = 47
      · have HL : Hid (Rgx A s k (k + 1) d) := HM.out.regex HF2.out (by rw [HX.out]; exact c47)
        have hks : k < s.size := rd_lt (by rw [HX.out]; exact HC1.out)
        subst c47
        go_wp2_with fail
        go_step3
        show ∃ g', g' < _ ∧ JJ A s B b w 6 g' _ _
        exact jp (frm_of _ (by kernel_rfl)) B2.out H2.out ⟨k, k + 1, by rw [HP2.out]; simp, rfl, HL.out, hks⟩ (by omega)
      go_wp2_with fail
      refine (sign_any x (by rw [← HX.out]; exact rd_ok _ _) w2).mono ?_
      rintro e w9 ⟨rfl, hw9⟩
      rw [hw9]
      clear hw9 w9
      cases hS : isS x
      · have HRS : Hid (Res A { d with co := 81, pl := (k : Int) }) := by
          have := HX.out
          exact HM.out.byte (by rw [this]; exact HC1.out) (by rw [this]; exact hB) (by rw [this]; exact c35) (by rw [this]; exact hL) (by rw [this]; exact hD) (by rw [this]; exact c34) (by rw [this]; exact c47) (by rw [this]; exact hS)
        have k1 := H2.out.k1 HP2.out
        go_wp2_with fail
        refine (fail_any 81 k w2 H2.out).mono ?_
        rintro e w3 ⟨rfl, h3, b3⟩
        have H3 : Hid _ := h3
        have B3 : Hid (Below B w w3) := B2.out.trans b3
        clear h3 b3 k1 k6
        go_wp2_with fail
        simp only [Exit.jumps]
        refine bodyPost_ret (v := .tuple #[]) (results_none (by rfl) _ _ _) rfl ?_
        exact ⟨rfl, B3.out, _, _, _, H3.out, HRS.out⟩
      have HL : Hid (Mid A s (k + 1) (cw d 5 (s.extract k (k + 1)))) := by
        have := HX.out
        exact HM.out.sign HF2.out (by rw [this]; exact HC1.out) (by rw [this]; exact hB) (by rw [this]; exact c35) (by rw [this]; exact hL) (by rw [this]; exact hD) (by rw [this]; exact c34) (by rw [this]; exact c47) (by rw [this]; exact hS)
      have hks : k < s.size := rd_lt (by rw [HX.out]; exact HC1.out)
      have HKL : Hid (k < s.size) := hks
      obtain ⟨m, hmm⟩ : ∃ m, k + 1 = m := ⟨_, rfl⟩
      have HMM : Hid (k + 1 = m) := hmm
      rw [hmm] at HL
      clear hmm
      go_upto_region 11 with fail
      clear k6
      have hw1 : IntKind.i64.wrap ((k : Int) + 1) = (m : Int) := by have := HZ.out; have := HMM.out; rw [IntKind.wrap_i64]; omega
      have s0 : (0 : Int) ≤ (k : Int) := by omega
      have s1 : (k : Int) ≤ (m : Int) := by have := HMM.out; omega
      have s2 : (m : Int) ≤ (s.size : Int) := by have := HMM.out; omega
      have s3 : k ≤ m := by have := HMM.out; omega
      have s4 : m ≤ s.size := by have := HMM.out; omega
      have HEX : Hid ((s.extract k m).size ≤ 1000000000000) := by
        have := HZ.out
        show (s.extract k m).size ≤ _
        rw [ByteArray.size_extract]
        omega
      obtain ⟨T, hT⟩ : ∃ T, s.extract k m = T := ⟨_, rfl⟩
      rw [hT] at HEX HL
      have HSS : Hid (d.s = s) := HM.out.hs
      clear hks
      refine wp_region_noPanic ?_
      refine wp_region_held_drew (S := fun W => W.cell? ⟨b, 0, none⟩ = some (.string s) ∧ W.cell? ⟨b, 1, none⟩ = some (.int .i64 (k : Int)) ∧ W.cell? ⟨b, 2, none⟩ = some (.int .i64 (k : Int))) (by kernel_rfl) ⟨H2.out.drew.k0 HSS.out, H2.out.drew.k1 HP2.out, H2.out.drew.k2 HF2.out⟩ (fun hHeld => ?_)
      refine wpAnyH_take (i := 0) (oi := { dst := _, op := _, type := _, pos := _, after := _, guard := _ }) (v := ?_) rfl (by kernel_rfl) (by kernel_rfl) (by kernel_rfl) (fun _ _ _ h => h) (Or.inl ⟨by rfl, ?_⟩) (by assumption) ?_
      rotate_left
      · intro W hSw
        (try dsimp only at hSw)
        go_simp
        (try with_reducible rfl)
      try simp only [Act.put, List.setIfInBounds_toArray, List.set_cons_zero, List.set_cons_succ]
      refine wpAnyH_take (i := 1) (oi := { dst := _, op := _, type := _, pos := _, after := _, guard := _ }) (v := ?_) rfl (by kernel_rfl) (by kernel_rfl) (by kernel_rfl) (fun _ _ _ h => h) (Or.inl ⟨by rfl, ?_⟩) (by assumption) ?_
      rotate_left
      · intro W hSw
        (try dsimp only at hSw)
        go_simp
        (try with_reducible rfl)
      try simp only [Act.put, List.setIfInBounds_toArray, List.set_cons_zero, List.set_cons_succ]
      refine wpAnyH_take (i := 2) (oi := { dst := _, op := _, type := _, pos := _, after := _, guard := _ }) (v := ?_) rfl (by kernel_rfl) (by kernel_rfl) (by kernel_rfl) (fun _ _ _ h => h) (Or.inl ⟨by rfl, ?_⟩) (by assumption) ?_
      rotate_left
      · intro W hSw
        (try dsimp only at hSw)
        go_simp
        (try with_reducible rfl)
      try simp only [Act.put, List.setIfInBounds_toArray, List.set_cons_zero, List.set_cons_succ]
      refine wpAnyH_take (i := 3) (oi := { dst := _, op := _, type := _, pos := _, after := _, guard := _ }) (v := ?_) rfl (by kernel_rfl) (by kernel_rfl) (by kernel_rfl) (fun _ _ _ h => h) (Or.inl ⟨by rfl, ?_⟩) (by assumption) ?_
      rotate_left
      · intro W hSw
        (try dsimp only at hSw)
        go_simp
        (try with_reducible rfl)
      try simp only [Act.put, List.setIfInBounds_toArray, List.set_cons_zero, List.set_cons_succ]
      refine wpAnyH_take (i := 4) (oi := { dst := _, op := _, type := _, pos := _, after := _, guard := _ }) (v := ?_) rfl (by kernel_rfl) (by kernel_rfl) (by kernel_rfl) (fun _ _ _ h => h) (Or.inl ⟨by rfl, ?_⟩) (by assumption) ?_
      rotate_left
      · intro W hSw
        (try dsimp only at hSw)
        obtain ⟨hs0, hs1, hs2⟩ := hSw
        go_simp
        (try with_reducible rfl)
      try simp only [Act.put, List.setIfInBounds_toArray, List.set_cons_zero, List.set_cons_succ]
      refine wpAnyH_take (i := 5) (oi := { dst := _, op := _, type := _, pos := _, after := _, guard := _ }) (v := ?_) rfl (by kernel_rfl) (by kernel_rfl) (by kernel_rfl) (fun _ _ _ h => h) (Or.inl ⟨by rfl, ?_⟩) (by assumption) ?_
      rotate_left
      · intro W hSw
        (try dsimp only at hSw)
        go_simp
        (try with_reducible rfl)
      try simp only [Act.put, List.setIfInBounds_toArray, List.set_cons_zero, List.set_cons_succ]
      refine wpAnyH_take (i := 6) (oi := { dst := _, op := _, type := _, pos := _, after := _, guard := _ }) (v := ?_) rfl (by kernel_rfl) (by kernel_rfl) (by kernel_rfl) (fun _ _ _ h => h) (Or.inl ⟨by rfl, ?_⟩) (by assumption) ?_
      rotate_left
      · intro W hSw
        (try dsimp only at hSw)
        go_simp
        (try with_reducible rfl)
      try simp only [Act.put, List.setIfInBounds_toArray, List.set_cons_zero, List.set_cons_succ]
      refine wpAnyH_take (i := 7) (oi := { dst := _, op := _, type := _, pos := _, after := _, guard := _ }) (v := ?_) rfl (by kernel_rfl) (by kernel_rfl) (by kernel_rfl) (fun _ _ _ h => h) (Or.inl ⟨by rfl, ?_⟩) (by assumption) ?_
      rotate_left
      · intro W hSw
        (try dsimp only at hSw)
        go_simp
        (try with_reducible rfl)
      try simp only [Act.put, List.setIfInBounds_toArray, List.set_cons_zero, List.set_cons_succ]
      refine wpAnyH_take (i := 8) (oi := { dst := _, op := _, type := _, pos := _, after := _, guard := _ }) (v := ?_) rfl (by kernel_rfl) (by kernel_rfl) (by kernel_rfl) (fun _ _ _ h => h) (Or.inl ⟨by rfl, ?_⟩) (by assumption) ?_
      rotate_left
      · intro W hSw
        (try dsimp only at hSw)
        obtain ⟨hs0, hs1, hs2⟩ := hSw
        go_simp
        (try with_reducible rfl)
      try simp only [Act.put, List.setIfInBounds_toArray, List.set_cons_zero, List.set_cons_succ]
      refine wpAnyH_take (i := 9) (oi := { dst := _, op := _, type := _, pos := _, after := _, guard := _ }) (v := ?_) rfl (by kernel_rfl) (by kernel_rfl) (by kernel_rfl) (fun _ _ _ h => h) (Or.inl ⟨by rfl, ?_⟩) (by assumption) ?_
      rotate_left
      · intro W hSw
        (try dsimp only at hSw)
        go_simp
        (try with_reducible rfl)
      try simp only [Act.put, List.setIfInBounds_toArray, List.set_cons_zero, List.set_cons_succ]
      refine wpAnyH_take (i := 10) (oi := { dst := _, op := _, type := _, pos := _, after := _, guard := _ }) (v := ?_) rfl (by kernel_rfl) (by kernel_rfl) (by kernel_rfl) (fun _ _ _ h => h) (Or.inl ⟨by rfl, ?_⟩) (by assumption) ?_
      rotate_left
      · intro W hSw
        (try dsimp only at hSw)
        go_simp
        (try with_reducible rfl)
      try simp only [Act.put, List.setIfInBounds_toArray, List.set_cons_zero, List.set_cons_succ]
      refine wpAnyH_take (i := 11) (oi := { dst := _, op := _, type := _, pos := _, after := _, guard := _ }) (v := ?_) rfl (by kernel_rfl) (by kernel_rfl) (by kernel_rfl) (fun _ _ _ h => h) (Or.inl ⟨by rfl, ?_⟩) (by assumption) ?_
      rotate_left
      · intro W hSw
        (try dsimp only at hSw)
        go_simp
        (try with_reducible rfl)
      try simp only [Act.put, List.setIfInBounds_toArray, List.set_cons_zero, List.set_cons_succ]
      refine wpAnyH_take (i := 12) (oi := { dst := _, op := _, type := _, pos := _, after := _, guard := _ }) (v := ?_) rfl (by kernel_rfl) (by kernel_rfl) (by kernel_rfl) (fun _ _ _ h => h) (Or.inl ⟨by rfl, ?_⟩) (by assumption) ?_
      rotate_left
      · intro W hSw
        (try dsimp only at hSw)
        obtain ⟨hs0, hs1, hs2⟩ := hSw
        go_simp
        (try with_reducible rfl)
      try simp only [Act.put, List.setIfInBounds_toArray, List.set_cons_zero, List.set_cons_succ]
      refine wpAnyH_take (i := 13) (oi := { dst := _, op := _, type := _, pos := _, after := _, guard := _ }) (v := ?_) rfl (by kernel_rfl) (by kernel_rfl) (by kernel_rfl) (fun _ _ _ h => h) (Or.inl ⟨by rfl, ?_⟩) (by assumption) ?_
      rotate_left
      · intro W hSw
        (try dsimp only at hSw)
        go_simp
        (try with_reducible rfl)
      try simp only [Act.put, List.setIfInBounds_toArray, List.set_cons_zero, List.set_cons_succ]
      refine wpAnyH_take (i := 14) (oi := { dst := _, op := _, type := _, pos := _, after := _, guard := _ }) (v := ?_) rfl (by kernel_rfl) (by kernel_rfl) (by kernel_rfl) (fun _ _ _ h => h) (Or.inl ⟨by rfl, ?_⟩) (by assumption) ?_
      rotate_left
      · intro W hSw
        (try dsimp only at hSw)
        go_simp
        (try with_reducible rfl)
      try simp only [Act.put, List.setIfInBounds_toArray, List.set_cons_zero, List.set_cons_succ]
      refine wpAnyH_ready (rs := [15]) (by kernel_rfl) (by simp) ?_
      refine AllReadyH.cons (o := { dst := _, op := _, type := _, pos := _, after := _, guard := _ }) rfl (fun K hK => ?_) AllReadyH.nil
      go_simp
      refine (cut_any 5 T HEX.out (HM.out.wle HKS.out HZ.out) _ H2.out.drew).mono ?_
      rintro e w3 ⟨rfl, b3, vb3, vw3, h3⟩
      have H3 : Hid (Cu B w3 b vb3 vw3 (cw d 5 T)) := h3
      have B3 : Hid (Below B w w3) := B2.out.trans ((Below.drew (Below.refl _ _)).trans b3)
      clear h3 b3
      go_wp2_with fail
      refine hK.out _ _ ?_ (fun hHeld => ?_)
      · exact ⟨H3.out.k0 HSS.out, H3.out.k1 HP2.out, H3.out.k2 HF2.out⟩
      clear hK K
      try simp only [Act.put, List.setIfInBounds_toArray, List.set_cons_zero, List.set_cons_succ]
      refine wpAnyH_done (by kernel_rfl) ?_ _
      clear hHeld
      refine NoPanic.normal ?_
      have hks := HKL.out
      have hmk := HMM.out
      go_wp2_with fail
      go_step3
      show ∃ g', g' < _ ∧ JJ A s B b w 0 g' _ _
      exact jp (frm_of _ (by kernel_rfl)) B3.out H3.out ⟨m, by show d.p + 1 = _; rw [HP2.out, ← hmk]; simp, rfl, .inl ⟨HL.out, by omega⟩⟩ (by omega)
    | 2 =>
      obtain ⟨v2, ⟨u, rfl⟩, b0, vb1, vw1, c0, h0, hl⟩ := hJ
      obtain ⟨k, hp, hg, hcm, hks⟩ := hl
      have H0 : Hid (Cu B w0 b vb1 vw1 c0) := h0
      have B0 : Hid (Below B w w0) := b0
      clear h0 b0
      have HCM : Hid (Cmt A s (k + 1) c0) := hcm
      have HP : Hid (c0.p = (k : Int)) := hp
      have HS0 : Hid (c0.s = s) := hcm.hs
      clear hcm hp
      refine ⟨_, rfl, ?_⟩
      go_wp2_with fail
      refine (read_any (k + 1) (by rw [HP.out]; simp) (by have := HZ.out; omega) w0 H0.out).mono ?_
      rintro e w1 ⟨rfl, h1, b1⟩
      obtain ⟨c1, hc1⟩ : ∃ c1 : Cs, c1 = { c0 with p := ((k + 1 : Nat) : Int) } := ⟨_, rfl⟩
      rw [← hc1] at h1
      have H1 : Hid (Cu B w1 b vb1 vw1 c1) := h1
      have B1 : Hid (Below B w w1) := B0.out.trans b1
      have HP1 : Hid (c1.p = ((k + 1 : Nat) : Int)) := by rw [hc1]; exact rfl
      clear h1 b1
      obtain ⟨x, hx⟩ : ∃ x, rd s (k + 1) = x := ⟨_, rfl⟩
      have HX : Hid (rd s (k + 1) = x) := hx
      rw [HS0.out, hx]
      clear hx
      go_wp2_with fail
      refine (stops_any x w1).mono ?_
      rintro e w9 ⟨rfl, hw9⟩
      rw [hw9]
      clear hw9 w9
      rw [st_bool]
      by_cases cx : x = -1 ∨ x = 10
      · have d1 : decide (x = -1 ∨ x = 10) = true := by rw [decide_eq_true_eq]; exact cx
        have HL : Hid (Mid A s (k + 1) c1) := by rw [hc1]; exact (HCM.out.out (by rw [HX.out]; exact cx)).over rfl rfl rfl rfl rfl
        rw [d1]
        clear cx
        go_wp2_with fail
        go_step3
        show ∃ g', g' < _ ∧ JJ A s B b w 1 g' _ _
        exact jp (frm_of _ (by kernel_rfl)) B1.out H1.out ⟨k + 1, HP1.out, by show Value.int .i64 x = _; rw [HX.out], rfl, .inl ⟨HL.out, hks⟩⟩ (by omega)
      have d1 : decide (x = -1 ∨ x = 10) = false := by rw [decide_eq_false_iff_not]; exact cx
      have HL : Hid (Cmt A s (k + 1 + 1) c1) := by
        rw [hc1]
        have h := HCM.out.on (by rw [HX.out]; exact fun e => cx (.inl e)) (by rw [HX.out]; exact fun e => cx (.inr e))
        exact ⟨h.hs, h.co, h.n, h.bs, h.wl, h.a⟩
      have hks2 : k + 1 < s.size := rd_lt (by rw [HX.out]; exact fun e => cx (.inl e))
      rw [d1]
      clear cx
      go_wp2_with fail
      go_step3
      show ∃ g', g' < _ ∧ JJ A s B b w 2 g' _ _
      exact jp (frm_of _ (by kernel_rfl)) B1.out H1.out ⟨k + 1, HP1.out, rfl, HL.out, hks2⟩ (by omega)
    | 3 =>
      obtain ⟨v2, ⟨u, rfl⟩, b0, vb1, vw1, c0, h0, hl⟩ := hJ
      obtain ⟨f, k, hp, hg, hcm⟩ := hl
      have H0 : Hid (Cu B w0 b vb1 vw1 c0) := h0
      have B0 : Hid (Below B w w0) := b0
      clear h0 b0
      have HCM : Hid (Nam A s f k c0) := hcm
      have HP : Hid (c0.p = (k : Int)) := hp
      have HS0 : Hid (c0.s = s) := hcm.w.hs
      have hks := hcm.ks
      have HKS : Hid (k + 1 ≤ s.size) := hks
      clear hcm hp
      refine ⟨_, rfl, ?_⟩
      go_wp2_with fail
      refine (read_any (k + 1) (by rw [HP.out]; simp) (by have := HZ.out; omega) w0 H0.out).mono ?_
      rintro e w1 ⟨rfl, h1, b1⟩
      obtain ⟨c1, hc1⟩ : ∃ c1 : Cs, c1 = { c0 with p := ((k + 1 : Nat) : Int) } := ⟨_, rfl⟩
      rw [← hc1] at h1
      have H1 : Hid (Cu B w1 b vb1 vw1 c1) := h1
      have B1 : Hid (Below B w w1) := B0.out.trans b1
      have HP1 : Hid (c1.p = ((k + 1 : Nat) : Int)) := by rw [hc1]; exact rfl
      clear h1 b1
      obtain ⟨x, hx⟩ : ∃ x, rd s (k + 1) = x := ⟨_, rfl⟩
      have HX : Hid (rd s (k + 1) = x) := hx
      rw [HS0.out, hx]
      clear hx
      go_wp2_with fail
      refine (inname_any x w1).mono ?_
      rintro e w9 ⟨rfl, hw9⟩
      rw [hw9]
      clear hw9 w9
      cases hN : isN x
      rotate_left
      · have HL : Hid (Nam A s f (k + 1) c1) := by
          rw [hc1]
          have h := HCM.out.on (by rw [HX.out]; exact hN)
          exact ⟨⟨h.w.hs, h.w.co, h.w.fr, h.w.fs, h.w.wl⟩, h.n, h.bs, h.l, h.fk, h.t, h.a⟩
        have hks2 : k + 1 + 1 ≤ s.size := HL.out.ks
        go_wp2_with fail
        go_step3
        show ∃ g', g' < _ ∧ JJ A s B b w 3 g' _ _
        exact jp (frm_of _ (by kernel_rfl)) B1.out H1.out ⟨f, k + 1, HP1.out, rfl, HL.out⟩ (by omega)
      have HL : Hid (Aft A s (k + 1) (cw c1 1 (s.extract f (k + 1)))) := by rw [hc1]; exact HCM.out.out (by rw [HX.out]; exact hN) _
      have HF1 : Hid (c1.f = (f : Int)) := by rw [hc1]; exact HCM.out.w.fr
      have HS1 : Hid (c1.s = s) := by rw [hc1]; exact HS0.out
      have HW1 : Hid (c1.ws.length ≤ 1000000000000) := by rw [hc1]; exact HCM.out.w.wle HZ.out
      have HFK : Hid (f ≤ k) := HCM.out.fk
      have HG : Hid (g = 2 * (s.size + 10 - (k + 1)) + 1) := hg
      clear hg hks
      obtain ⟨m, hmm⟩ : ∃ m, k + 1 = m := ⟨_, rfl⟩
      have HMM : Hid (k + 1 = m) := hmm
      rw [hmm] at HL HP1 HX
      clear hmm hc1
      go_upto_region 17 with fail
      have s0 : (0 : Int) ≤ (f : Int) := by omega
      have s1 : (f : Int) ≤ (m : Int) := by have := HMM.out; have := HFK.out; omega
      have s2 : (m : Int) ≤ (s.size : Int) := by have := HMM.out; have := HKS.out; omega
      have s3 : f ≤ m := by have := HMM.out; have := HFK.out; omega
      have s4 : m ≤ s.size := by have := HMM.out; have := HKS.out; omega
      have HEX : Hid ((s.extract f m).size ≤ 1000000000000) := by
        have := HZ.out
        show (s.extract f m).size ≤ _
        rw [ByteArray.size_extract]
        omega
      obtain ⟨T, hT⟩ : ∃ T, s.extract f m = T := ⟨_, rfl⟩
      rw [hT] at HEX HL
      refine wp_region_noPanic ?_
      refine wp_region_held_drew (S := fun W => W.cell? ⟨b, 0, none⟩ = some (.string s) ∧ W.cell? ⟨b, 1, none⟩ = some (.int .i64 (m : Int)) ∧ W.cell? ⟨b, 2, none⟩ = some (.int .i64 (f : Int))) (by kernel_rfl) ⟨H1.out.drew.k0 HS1.out, H1.out.drew.k1 HP1.out, H1.out.drew.k2 HF1.out⟩ (fun hHeld => ?_)
      refine wpAnyH_take (i := 0) (oi := { dst := _, op := _, type := _, pos := _, after := _, guard := _ }) (v := ?_) rfl (by kernel_rfl) (by kernel_rfl) (by kernel_rfl) (fun _ _ _ h => h) (Or.inl ⟨by rfl, ?_⟩) (by assumption) ?_
      rotate_left
      · intro W hSw
        (try dsimp only at hSw)
        go_simp
        (try with_reducible rfl)
      try simp only [Act.put, List.setIfInBounds_toArray, List.set_cons_zero, List.set_cons_succ]
      refine wpAnyH_take (i := 1) (oi := { dst := _, op := _, type := _, pos := _, after := _, guard := _ }) (v := ?_) rfl (by kernel_rfl) (by kernel_rfl) (by kernel_rfl) (fun _ _ _ h => h) (Or.inl ⟨by rfl, ?_⟩) (by assumption) ?_
      rotate_left
      · intro W hSw
        (try dsimp only at hSw)
        go_simp
        (try with_reducible rfl)
      try simp only [Act.put, List.setIfInBounds_toArray, List.set_cons_zero, List.set_cons_succ]
      refine wpAnyH_take (i := 2) (oi := { dst := _, op := _, type := _, pos := _, after := _, guard := _ }) (v := ?_) rfl (by kernel_rfl) (by kernel_rfl) (by kernel_rfl) (fun _ _ _ h => h) (Or.inl ⟨by rfl, ?_⟩) (by assumption) ?_
      rotate_left
      · intro W hSw
        (try dsimp only at hSw)
        go_simp
        (try with_reducible rfl)
      try simp only [Act.put, List.setIfInBounds_toArray, List.set_cons_zero, List.set_cons_succ]
      refine wpAnyH_take (i := 3) (oi := { dst := _, op := _, type := _, pos := _, after := _, guard := _ }) (v := ?_) rfl (by kernel_rfl) (by kernel_rfl) (by kernel_rfl) (fun _ _ _ h => h) (Or.inl ⟨by rfl, ?_⟩) (by assumption) ?_
      rotate_left
      · intro W hSw
        (try dsimp only at hSw)
        go_simp
        (try with_reducible rfl)
      try simp only [Act.put, List.setIfInBounds_toArray, List.set_cons_zero, List.set_cons_succ]
      refine wpAnyH_take (i := 4) (oi := { dst := _, op := _, type := _, pos := _, after := _, guard := _ }) (v := ?_) rfl (by kernel_rfl) (by kernel_rfl) (by kernel_rfl) (fun _ _ _ h => h) (Or.inl ⟨by rfl, ?_⟩) (by assumption) ?_
      rotate_left
      · intro W hSw
        (try dsimp only at hSw)
        obtain ⟨hs0, hs1, hs2⟩ := hSw
        go_simp
        (try with_reducible rfl)
      try simp only [Act.put, List.setIfInBounds_toArray, List.set_cons_zero, List.set_cons_succ]
      refine wpAnyH_take (i := 5) (oi := { dst := _, op := _, type := _, pos := _, after := _, guard := _ }) (v := ?_) rfl (by kernel_rfl) (by kernel_rfl) (by kernel_rfl) (fun _ _ _ h => h) (Or.inl ⟨by rfl, ?_⟩) (by assumption) ?_
      rotate_left
      · intro W hSw
        (try dsimp only at hSw)
        go_simp
        (try with_reducible rfl)
      try simp only [Act.put, List.setIfInBounds_toArray, List.set_cons_zero, List.set_cons_succ]
      refine wpAnyH_take (i := 6) (oi := { dst := _, op := _, type := _, pos := _, after := _, guard := _ }) (v := ?_) rfl (by kernel_rfl) (by kernel_rfl) (by kernel_rfl) (fun _ _ _ h => h) (Or.inl ⟨by rfl, ?_⟩) (by assumption) ?_
      rotate_left
      · intro W hSw
        (try dsimp only at hSw)
        go_simp
        (try with_reducible rfl)
      try simp only [Act.put, List.setIfInBounds_toArray, List.set_cons_zero, List.set_cons_succ]
      refine wpAnyH_take (i := 7) (oi := { dst := _, op := _, type := _, pos := _, after := _, guard := _ }) (v := ?_) rfl (by kernel_rfl) (by kernel_rfl) (by kernel_rfl) (fun _ _ _ h => h) (Or.inl ⟨by rfl, ?_⟩) (by assumption) ?_
      rotate_left
      · intro W hSw
        (try dsimp only at hSw)
        go_simp
        (try with_reducible rfl)
      try simp only [Act.put, List.setIfInBounds_toArray, List.set_cons_zero, List.set_cons_succ]
      refine wpAnyH_take (i := 8) (oi := { dst := _, op := _, type := _, pos := _, after := _, guard := _ }) (v := ?_) rfl (by kernel_rfl) (by kernel_rfl) (by kernel_rfl) (fun _ _ _ h => h) (Or.inl ⟨by rfl, ?_⟩) (by assumption) ?_
      rotate_left
      · intro W hSw
        (try dsimp only at hSw)
        obtain ⟨hs0, hs1, hs2⟩ := hSw
        go_simp
        (try with_reducible rfl)
      try simp only [Act.put, List.setIfInBounds_toArray, List.set_cons_zero, List.set_cons_succ]
      refine wpAnyH_take (i := 9) (oi := { dst := _, op := _, type := _, pos := _, after := _, guard := _ }) (v := ?_) rfl (by kernel_rfl) (by kernel_rfl) (by kernel_rfl) (fun _ _ _ h => h) (Or.inl ⟨by rfl, ?_⟩) (by assumption) ?_
      rotate_left
      · intro W hSw
        (try dsimp only at hSw)
        go_simp
        (try with_reducible rfl)
      try simp only [Act.put, List.setIfInBounds_toArray, List.set_cons_zero, List.set_cons_succ]
      refine wpAnyH_take (i := 10) (oi := { dst := _, op := _, type := _, pos := _, after := _, guard := _ }) (v := ?_) rfl (by kernel_rfl) (by kernel_rfl) (by kernel_rfl) (fun _ _ _ h => h) (Or.inl ⟨by rfl, ?_⟩) (by assumption) ?_
      rotate_left
      · intro W hSw
        (try dsimp only at hSw)
        go_simp
        (try with_reducible rfl)
      try simp only [Act.put, List.setIfInBounds_toArray, List.set_cons_zero, List.set_cons_succ]
      refine wpAnyH_take (i := 11) (oi := { dst := _, op := _, type := _, pos := _, after := _, guard := _ }) (v := ?_) rfl (by kernel_rfl) (by kernel_rfl) (by kernel_rfl) (fun _ _ _ h => h) (Or.inl ⟨by rfl, ?_⟩) (by assumption) ?_
      rotate_left
      · intro W hSw
        (try dsimp only at hSw)
        go_simp
        (try with_reducible rfl)
      try simp only [Act.put, List.setIfInBounds_toArray, List.set_cons_zero, List.set_cons_succ]
      refine wpAnyH_take (i := 12) (oi := { dst := _, op := _, type := _, pos := _, after := _, guard := _ }) (v := ?_) rfl (by kernel_rfl) (by kernel_rfl) (by kernel_rfl) (fun _ _ _ h => h) (Or.inl ⟨by rfl, ?_⟩) (by assumption) ?_
      rotate_left
      · intro W hSw
        (try dsimp only at hSw)
        obtain ⟨hs0, hs1, hs2⟩ := hSw
        go_simp
        (try with_reducible rfl)
      try simp only [Act.put, List.setIfInBounds_toArray, List.set_cons_zero, List.set_cons_succ]
      refine wpAnyH_take (i := 13) (oi := { dst := _, op := _, type := _, pos := _, after := _, guard := _ }) (v := ?_) rfl (by kernel_rfl) (by kernel_rfl) (by kernel_rfl) (fun _ _ _ h => h) (Or.inl ⟨by rfl, ?_⟩) (by assumption) ?_
      rotate_left
      · intro W hSw
        (try dsimp only at hSw)
        go_simp
        (try with_reducible rfl)
      try simp only [Act.put, List.setIfInBounds_toArray, List.set_cons_zero, List.set_cons_succ]
      refine wpAnyH_ready (rs := [14]) (by kernel_rfl) (by simp) ?_
      refine AllReadyH.cons (o := { dst := _, op := _, type := _, pos := _, after := _, guard := _ }) rfl (fun K hK => ?_) AllReadyH.nil
      go_simp
      refine (cut_any 1 T HEX.out HW1.out _ H1.out.drew).mono ?_
      rintro e w3 ⟨rfl, b3, vb3, vw3, h3⟩
      have H3 : Hid (Cu B w3 b vb3 vw3 (cw c1 1 T)) := h3
      have B3 : Hid (Below B w w3) := B1.out.trans ((Below.drew (Below.refl _ _)).trans b3)
      clear h3 b3
      go_wp2_with fail
      refine hK.out _ _ ?_ (fun hHeld => ?_)
      · exact ⟨H3.out.k0 HS1.out, H3.out.k1 HP1.out, H3.out.k2 HF1.out⟩
      clear hK K
      try simp only [Act.put, List.setIfInBounds_toArray, List.set_cons_zero, List.set_cons_succ]
      refine wpAnyH_done (by kernel_rfl) ?_ _
      clear hHeld
      refine NoPanic.normal ?_
      have hks := HKS.out
      have hmk := HMM.out
      have hg := HG.out
      clear HG
      have HLA : Hid ((Mid A s m (cw c1 1 T) ∧ m ≤ s.size) ∨ (Bad A s (cw c1 1 T) ∧ m ≤ s.size + 4)) := HL.out.elim (fun h => .inl ⟨h, by omega⟩) (fun h => .inr ⟨h, by omega⟩)
      go_wp2_with fail
      go_step3
      show ∃ g', g' < _ ∧ JJ A s B b w 1 g' _ _
      exact jp (frm_of _ (by kernel_rfl)) B3.out H3.out ⟨m, HP1.out, by show Value.int .i64 x = _; rw [HX.out], rfl, HLA.out⟩ (by omega)
    | 4 =>
      obtain ⟨v2, ⟨u, rfl⟩, b0, vb1, vw1, c0, h0, hl⟩ := hJ
      obtain ⟨f, k, hp, rfl, hg, hcm⟩ := hl
      have H00 : Hid (Cu B w0 b vb1 vw1 c0) := h0
      have B00 : Hid (Below B w w0) := b0
      clear h0 b0
      have HCM : Hid (Num A s f k c0) := hcm
      have HP : Hid (c0.p = (k : Int)) := hp
      have hks := hcm.ks
      have HKS : Hid (k + 1 ≤ s.size) := hks
      have hnb := hcm.nb
      obtain ⟨y, hy⟩ : ∃ y, rd s k = y := ⟨_, rfl⟩
      have hyb : -1 ≤ y ∧ y < 256 := by rcases rd_ok s k with h | ⟨n, hn, h⟩ <;> omega
      obtain ⟨v, hv⟩ : ∃ v, min (10 * c0.n + y - 48) 65536 = v := ⟨_, rfl⟩
      have HV : Hid (min (10 * c0.n + rd s k - 48) 65536 = v) := by rw [hy]; exact hv
      have m1 : IntKind.i64.wrap (10 * c0.n) = 10 * c0.n := by rw [IntKind.wrap_i64]; omega
      have m2 : IntKind.i64.wrap (10 * c0.n + y) = 10 * c0.n + y := by rw [IntKind.wrap_i64]; omega
      have m3 : IntKind.i64.wrap (10 * c0.n + y - 48) = 10 * c0.n + y - 48 := by rw [IntKind.wrap_i64]; omega
      have HG : Hid (g = 2 * (s.size + 10 - (k + 1)) + 1) := hg
      have k3 := H00.out.c3
      have f3 := H00.out.frz 3
      rw [hy]
      clear hcm hp hks hnb hyb hg hy
      refine ⟨_, rfl, ?_⟩
      go_upto_region 19 with fail
      obtain ⟨wa, hwa⟩ : ∃ wa, wa = w0.setCell ⟨b, 3, none⟩ (.int .i64 v) := ⟨_, rfl⟩
      rw [← hwa]
      obtain ⟨ca, hca⟩ : ∃ ca : Cs, ca = { c0 with n := v } := ⟨_, rfl⟩
      have H0 : Hid (Cu B wa b vb1 vw1 ca) := by rw [hwa, hca]; exact H00.out.setn _
      have B0 : Hid (Below B w wa) := by rw [hwa]; exact B00.out.setCell H00.out.lo _
      have HS0 : Hid (ca.s = s) := by rw [hca]; exact HCM.out.w.hs
      clear hwa k3 f3 m1 m2 m3 H00 B00
      go_wp2_with fail
      refine (read_any (k + 1) (by rw [hca]; show c0.p + 1 = _; rw [HP.out]; simp) (by have := HZ.out; have := HKS.out; omega) wa H0.out).mono ?_
      rintro e w1 ⟨rfl, h1, b1⟩
      obtain ⟨c1, hc1⟩ : ∃ c1 : Cs, c1 = { ca with p := ((k + 1 : Nat) : Int) } := ⟨_, rfl⟩
      rw [← hc1] at h1
      have H1 : Hid (Cu B w1 b vb1 vw1 c1) := h1
      have B1 : Hid (Below B w w1) := B0.out.trans b1
      have HP1 : Hid (c1.p = ((k + 1 : Nat) : Int)) := by rw [hc1]; exact rfl
      clear h1 b1
      obtain ⟨x, hx⟩ : ∃ x, rd s (k + 1) = x := ⟨_, rfl⟩
      have HX : Hid (rd s (k + 1) = x) := hx
      rw [HS0.out, hx]
      clear hx
      have HC1 : Hid (c1 = { c0 with n := min (10 * c0.n + rd s k - 48) 65536, p := ((k + 1 : Nat) : Int) }) := by rw [hc1, hca, HV.out]; exact rfl
      clear hc1 hca
      go_wp2_with fail
      refine (digit_any x w1).mono ?_
      rintro e w9 ⟨rfl, hw9⟩
      rw [hw9]
      clear hw9 w9
      cases hN : isD x
      rotate_left
      · have HL : Hid (Num A s f (k + 1) c1) := by
          rw [HC1.out]
          exact HCM.out.on (by rw [HX.out]; exact hN) _
        have hks2 : k + 1 + 1 ≤ s.size := HL.out.ks
        have hg := HG.out
        go_wp2_with fail
        go_step3
        show ∃ g', g' < _ ∧ JJ A s B b w 4 g' _ _
        exact jp (frm_of _ (by kernel_rfl)) B1.out H1.out ⟨f, k + 1, HP1.out, by show Value.int .i64 x = _; rw [HX.out], rfl, HL.out⟩ (by omega)
      have HL : Hid (Aft A s (k + 1) (cw c1 4 ⟨#[]⟩)) := by rw [HC1.out]; exact HCM.out.out (by rw [HX.out]; exact hN) _
      have HW1 : Hid (c1.ws.length ≤ 1000000000000) := by rw [HC1.out]; exact HCM.out.w.wle HZ.out
      go_wp2_with fail
      refine (cut_any 4 ⟨#[]⟩ (by decide) HW1.out _ H1.out).mono ?_
      rintro e w3 ⟨rfl, b3, vb3, vw3, h3⟩
      have H3 : Hid (Cu B w3 b vb3 vw3 (cw c1 4 ⟨#[]⟩)) := h3
      have B3 : Hid (Below B w w3) := B1.out.trans b3
      clear h3 b3
      have hks := HKS.out
      have hg := HG.out
      clear HG
      have HLA : Hid ((Mid A s (k + 1) (cw c1 4 ⟨#[]⟩) ∧ k + 1 ≤ s.size) ∨ (Bad A s (cw c1 4 ⟨#[]⟩) ∧ k + 1 ≤ s.size + 4)) := HL.out.elim (fun h => .inl ⟨h, by omega⟩) (fun h => .inr ⟨h, by omega⟩)
      go_wp2_with fail
      go_step3
      show ∃ g', g' < _ ∧ JJ A s B b w 1 g' _ _
      exact jp (frm_of _ (by kernel_rfl)) B3.out H3.out ⟨k + 1, HP1.out, by show Value.int .i64 x = _; rw [HX.out], rfl, HLA.out⟩ (by omega)
    | 5 =>
      obtain ⟨v2, ⟨u, rfl⟩, b0, vb1, vw1, c0, h0, hl⟩ := hJ
      obtain ⟨f, k, hp, hg, hcm, hks⟩ := hl
      have H0 : Hid (Cu B w0 b vb1 vw1 c0) := h0
      have B0 : Hid (Below B w w0) := b0
      clear h0 b0
      have HCM : Hid (Txt A s f k c0) := hcm
      have HP : Hid (c0.p + 1 = (k : Int)) := hp
      have HKS : Hid (k ≤ s.size) := hks
      have HG : Hid (g = 2 * (s.size + 10 - k) + 1) := hg
      have HS0 : Hid (c0.s = s) := hcm.w.hs
      clear hcm hp hks hg
      refine ⟨_, rfl, ?_⟩
      go_wp2_with fail
      refine (intext_any k HP.out (by have := HKS.out; have := HZ.out; omega) (by have := HCM.out.bl; have := HKS.out; have := HZ.out; omega) (HCM.out.w.wle HZ.out) w0 H0.out).mono ?_
      rintro e w1 ⟨rfl, b1, vb3, vw3, h1⟩
      have H1 : Hid (Cu B w1 b vb3 vw3 (inT c0 k).2) := h1
      have B1 : Hid (Below B w w1) := B0.out.trans b1
      clear h1 b1
      rcases HCM.out.step with ⟨h1, q, hkq, hqs, hpq, hst⟩ | ⟨h1, q, hkq, hqs, hpq, hst⟩
      · have HL : Hid (Txt A s f (q + 1) (inT c0 k).2) := hst
        have HPQ : Hid ((inT c0 k).2.p = (q : Int)) := hpq
        have HQ : Hid (k ≤ q ∧ q < s.size) := ⟨hkq, hqs⟩
        rw [h1]
        clear h1 hst hpq hkq hqs
        go_wp2_with fail
        have hg := HG.out
        have hq := HQ.out
        go_step3
        show ∃ g', g' < _ ∧ JJ A s B b w 5 g' _ _
        exact jp (frm_of _ (by kernel_rfl)) B1.out H1.out ⟨f, q + 1, by rw [HPQ.out]; simp, rfl, HL.out, hq.2⟩ (by omega)
      · have HL : Hid ((Mid A s (q + 1) (inT c0 k).2 ∧ q < s.size) ∨ Bad A s (inT c0 k).2) := hst
        have HPQ : Hid ((inT c0 k).2.p = (q : Int)) := hpq
        have HQ : Hid (k ≤ q ∧ q ≤ k + 3) := ⟨hkq, hqs⟩
        rw [h1]
        clear h1 hst hpq hkq hqs
        go_wp2_with fail
        have hg := HG.out
        have hq := HQ.out
        have hks := HKS.out
        go_step3
        show ∃ g', g' < _ ∧ JJ A s B b w 0 g' _ _
        exact jp (frm_of _ (by kernel_rfl)) B1.out H1.out ⟨q + 1, by rw [HPQ.out]; simp, rfl, HL.out.elim (fun h => .inl ⟨h.1, h.2⟩) (fun h => .inr ⟨h, by omega⟩)⟩ (by omega)
    | 6 =>
      obtain ⟨v2, ⟨u, rfl⟩, b0, vb1, vw1, c0, h0, hl⟩ := hJ
      obtain ⟨f, k, hp, hg, hcm, hks⟩ := hl
      have H0 : Hid (Cu B w0 b vb1 vw1 c0) := h0
      have B0 : Hid (Below B w w0) := b0
      clear h0 b0
      have HCM : Hid (Rgx A s f k c0) := hcm
      have HP : Hid (c0.p + 1 = (k : Int)) := hp
      have HKS : Hid (k ≤ s.size) := hks
      have HG : Hid (g = 2 * (s.size + 10 - k) + 1) := hg
      have HS0 : Hid (c0.s = s) := hcm.w.hs
      clear hcm hp hks hg
      refine ⟨_, rfl, ?_⟩
      go_wp2_with fail
      refine (inregex_any f k HCM.out.w.fr HCM.out.fk HP.out (by have := HKS.out; have := HZ.out; omega) (by rw [HS0.out]; have := HZ.out; omega) (HCM.out.w.wle HZ.out) w0 H0.out).mono ?_
      rintro e w1 ⟨rfl, b1, vb3, vw3, h1⟩
      have H1 : Hid (Cu B w1 b vb3 vw3 (inR c0 f k).2) := h1
      have B1 : Hid (Below B w w1) := B0.out.trans b1
      clear h1 b1
      rcases HCM.out.step with ⟨h1, q, hkq, hqs, hpq, hst⟩ | ⟨h1, q, hkq, hqs, hpq, hst⟩
      · have HL : Hid (Rgx A s f (q + 1) (inR c0 f k).2) := hst
        have HPQ : Hid ((inR c0 f k).2.p = (q : Int)) := hpq
        have HQ : Hid (k ≤ q ∧ q < s.size) := ⟨hkq, hqs⟩
        rw [h1]
        clear h1 hst hpq hkq hqs
        go_wp2_with fail
        have hg := HG.out
        have hq := HQ.out
        go_step3
        show ∃ g', g' < _ ∧ JJ A s B b w 6 g' _ _
        exact jp (frm_of _ (by kernel_rfl)) B1.out H1.out ⟨f, q + 1, by rw [HPQ.out]; simp, rfl, HL.out, hq.2⟩ (by omega)
      · have HL : Hid ((Mid A s (q + 1) (inR c0 f k).2 ∧ q < s.size) ∨ Bad A s (inR c0 f k).2) := hst
        have HPQ : Hid ((inR c0 f k).2.p = (q : Int)) := hpq
        have HQ : Hid (k ≤ q ∧ q ≤ k + 3) := ⟨hkq, hqs⟩
        rw [h1]
        clear h1 hst hpq hkq hqs
        go_wp2_with fail
        have hg := HG.out
        have hq := HQ.out
        have hks := HKS.out
        go_step3
        show ∃ g', g' < _ ∧ JJ A s B b w 0 g' _ _
        exact jp (frm_of _ (by kernel_rfl)) B1.out H1.out ⟨q + 1, by rw [HPQ.out]; simp, rfl, HL.out.elim (fun h => .inl ⟨h.1, h.2⟩) (fun h => .inr ⟨h, by omega⟩)⟩ (by omega)
    | n + 7 =>
      obtain ⟨v2, _, _, vb1, vw1, c0, _, hl⟩ := hJ
      exact hl.elim
end Go.Proofs.Ythfijmabagjdkaa
