import Derived.Test.YticheeacbajeeaaOrs
import Derived.Laws.StructEq
namespace Go.Proofs.Yticheeacbajeeaa
open Go.RowKit Go.Maps

/-- Symbols in memory. -/
def Ys (W : World) (v : Value) (l : List Sy) : Prop := Rw W v l.length (flat syf l)
theorem Ys.up {W W' : World} {v : Value} {l : List Sy} (h : Ys W v l) (hb : Below W.heap.size W W') : Ys W' v l := Rw.up h hb
theorem Ys.form {W : World} {v : Value} {l : List Sy} (h : Ys W v l) : ∃ a cap, v = .slice a l.length cap := Rw.form h
def syz : Sy := ⟨⟨#[]⟩, ⟨#[]⟩, 0, 0, 0⟩
theorem Ys.five {W : World} {a : Option Addr} {n cap : Nat} {l : List Sy} (h : Ys W (.slice a n cap) l) (i : Nat) (hi : i < l.length) : ∃ g o, a = some ⟨g, o, none⟩ ∧ ∀ W', Below W.heap.size W W' → W'.cell? ⟨g, o + i * 5, none⟩ = some (.string (l.getD i syz).nm) ∧ W'.cell? ⟨g, o + i * 5 + 1, none⟩ = some (.string (l.getD i syz).cl) ∧ W'.cell? ⟨g, o + i * 5 + 2, none⟩ = some (.int .i64 (l.getD i syz).fr) ∧ W'.cell? ⟨g, o + i * 5 + 3, none⟩ = some (.int .i64 (l.getD i syz).tt) ∧ W'.cell? ⟨g, o + i * 5 + 4, none⟩ = some (.int .i64 (l.getD i syz).dp) := by
  obtain ⟨g, o, cap', e, hc⟩ := Rw.place h (by omega)
  obtain ⟨rfl, -, -⟩ := Value.slice.inj e
  refine ⟨g, o, rfl, fun W' hW => ?_⟩
  have k : ∀ j u, (syf (l.getD i syz))[j]? = some u → W'.cell? ⟨g, o + i * 5 + j, none⟩ = some u := fun j u hu => by
    rw [Nat.add_assoc]
    refine below_cell hW (hc _ _ ?_)
    rw [flat_get syf_len syz l i j hi (by have := (List.getElem?_eq_some_iff.1 hu).1; rwa [syf_len] at this)]
    exact hu
  exact ⟨k 0 _ rfl, k 1 _ rfl, k 2 _ rfl, k 3 _ rfl, k 4 _ rfl⟩
theorem equal_sy (x : Sy) (W : World) : (Op.equalIn 10000 59 (.agg #[.string x.nm, .string x.cl, .int .i64 x.fr, .int .i64 x.tt, .int .i64 x.dp]) (.agg #[.string x.nm, .string x.cl, .int .i64 x.fr, .int .i64 x.tt, .int .i64 x.dp])).run Try.prog W = .ok true W := by
  go_simp
set_option maxRecDepth 100000 in
set_option maxHeartbeats 8000000 in
/-- The same symbols. -/
theorem sameSymbols_any {v u : Value} {R : List Sy} (hs : R.length < 4611686018427387904) (w : World) (h : Ys w v R) (h' : Ys w u R) : Calls Try.prog 11 #[v, u] w fun e w' => e = .returned (.bool true) ∧ Below w.heap.size w w' := by
  have HT : Hid (Ys w v R) := h
  have HU : Hid (Ys w u R) := h'
  obtain ⟨a1, q1, rfl⟩ := h.form
  obtain ⟨a2, q2, rfl⟩ := h'.form
  obtain ⟨n, hn⟩ : ∃ n, R.length = n := ⟨_, rfl⟩
  have HN : Hid (R.length = n ∧ n < 4611686018427387904) := ⟨hn, by rw [← hn]; exact hs⟩
  rw [hn] at HT HU ⊢
  clear h h' hs hn
  have f1 : ((n : Int) != (n : Int)) = false := by simp
  go_enter Try.func11, Try.ntmps11
  go_upto_region 4 with fail
  clear f1
  go_loopg [5] n (fun gm v5 wr => ∃ i : Nat, v5 = .int .i64 (i : Int) ∧ Hid (i ≤ n ∧ gm = n - i) ∧ Hid (Below w.heap.size w wr))
  case atStart => exact ⟨0, rfl, ⟨Nat.zero_le _, rfl⟩, Below.refl _ _⟩
  case round =>
    obtain ⟨i, rfl, HI, HB⟩ := hrel
    by_cases hi : i < n
    · have e1 : decide ((i : Int) < (n : Int)) = true := by rw [decide_eq_true_eq]; omega
      have e2 : decide (i < n) = true := by rw [decide_eq_true_eq]; omega
      have b1 : (i : Int) < (n : Int) := by omega
      have b2 : i < n := hi
      have HIL : Hid (i < n) := hi
      have hwi := w64n i (by have := HN.out; omega)
      have HWI : Hid (IntKind.i64.wrap ((i : Int) + 1) = (i : Int) + 1) := by rw [hwi]; rfl
      obtain ⟨g1, o1, rfl, hc1⟩ := HT.out.five i (by rw [HN.out.1]; exact hi)
      obtain ⟨g2, o2, rfl, hc2⟩ := HU.out.five i (by rw [HN.out.1]; exact hi)
      obtain ⟨x, hx⟩ : ∃ x, R.getD i syz = x := ⟨_, rfl⟩
      rw [hx] at hc1 hc2
      have HC1 : Hid _ := hc1
      have HC2 : Hid _ := hc2
      have hE := equal_sy x
      have HD : Hid (Below w.heap.size w wr.drew) := below_trans HB.out (Below.drew (Below.refl _ _))
      clear hi hx hc1 hc2 hwi
      go_upto_region 6 with fail
      refine wp_region_noPanic ?_
      refine wp_region_held_drew (S := fun W => Below w.heap.size w W) (by kernel_rfl) HD.out (fun hHeld => ?_)
      refine wpAnyH_take (i := 0) (oi := { dst := _, op := _, type := _, pos := _, after := _, guard := _ }) (v := ?_) rfl (by kernel_rfl) (by kernel_rfl) (by kernel_rfl) (fun _ _ _ h => h) (Or.inl ⟨by rfl, ?_⟩) (by assumption) ?_
      rotate_left
      · intro W hSw
        (try dsimp only at hSw)
        go_simp
        (try with_reducible rfl)
      try simp only [Act.put, List.setIfInBounds_toArray, List.set_cons_zero, List.set_cons_succ]
      refine wpAnyH_take (i := 1) (oi := { dst := _, op := _, type := _, pos := _, after := _, guard := _ }) (v := ?_) rfl (by kernel_rfl) (by kernel_rfl) (by kernel_rfl) (fun _ _ _ h => h) (Or.inl ⟨by rfl, ?_⟩) (by assumption) ?_
      rotate_left
      · intro W hSw
        (try dsimp only at hSw)
        go_simp
        (try with_reducible rfl)
      try simp only [Act.put, List.setIfInBounds_toArray, List.set_cons_zero, List.set_cons_succ]
      refine wpAnyH_take (i := 2) (oi := { dst := _, op := _, type := _, pos := _, after := _, guard := _ }) (v := ?_) rfl (by kernel_rfl) (by kernel_rfl) (by kernel_rfl) (fun _ _ _ h => h) (Or.inl ⟨by rfl, ?_⟩) (by assumption) ?_
      rotate_left
      · intro W hSw
        (try dsimp only at hSw)
        go_simp
        (try with_reducible rfl)
      try simp only [Act.put, List.setIfInBounds_toArray, List.set_cons_zero, List.set_cons_succ]
      refine wpAnyH_take (i := 3) (oi := { dst := _, op := _, type := _, pos := _, after := _, guard := _ }) (v := ?_) rfl (by kernel_rfl) (by kernel_rfl) (by kernel_rfl) (fun _ _ _ h => h) (Or.inl ⟨by rfl, ?_⟩) (by assumption) ?_
      rotate_left
      · intro W hSw
        (try dsimp only at hSw)
        obtain ⟨s0, s1, s2, s3, s4⟩ := HC1.out W hSw
        go_simp
        (try with_reducible rfl)
      try simp only [Act.put, List.setIfInBounds_toArray, List.set_cons_zero, List.set_cons_succ]
      refine wpAnyH_take (i := 4) (oi := { dst := _, op := _, type := _, pos := _, after := _, guard := _ }) (v := ?_) rfl (by kernel_rfl) (by kernel_rfl) (by kernel_rfl) (fun _ _ _ h => h) (Or.inl ⟨by rfl, ?_⟩) (by assumption) ?_
      rotate_left
      · intro W hSw
        (try dsimp only at hSw)
        go_simp
        (try with_reducible rfl)
      try simp only [Act.put, List.setIfInBounds_toArray, List.set_cons_zero, List.set_cons_succ]
      refine wpAnyH_take (i := 5) (oi := { dst := _, op := _, type := _, pos := _, after := _, guard := _ }) (v := ?_) rfl (by kernel_rfl) (by kernel_rfl) (by kernel_rfl) (fun _ _ _ h => h) (Or.inl ⟨by rfl, ?_⟩) (by assumption) ?_
      rotate_left
      · intro W hSw
        (try dsimp only at hSw)
        go_simp
        (try with_reducible rfl)
      try simp only [Act.put, List.setIfInBounds_toArray, List.set_cons_zero, List.set_cons_succ]
      refine wpAnyH_take (i := 6) (oi := { dst := _, op := _, type := _, pos := _, after := _, guard := _ }) (v := ?_) rfl (by kernel_rfl) (by kernel_rfl) (by kernel_rfl) (fun _ _ _ h => h) (Or.inl ⟨by rfl, ?_⟩) (by assumption) ?_
      rotate_left
      · intro W hSw
        (try dsimp only at hSw)
        go_simp
        (try with_reducible rfl)
      try simp only [Act.put, List.setIfInBounds_toArray, List.set_cons_zero, List.set_cons_succ]
      refine wpAnyH_take (i := 7) (oi := { dst := _, op := _, type := _, pos := _, after := _, guard := _ }) (v := ?_) rfl (by kernel_rfl) (by kernel_rfl) (by kernel_rfl) (fun _ _ _ h => h) (Or.inl ⟨by rfl, ?_⟩) (by assumption) ?_
      rotate_left
      · intro W hSw
        (try dsimp only at hSw)
        obtain ⟨s0, s1, s2, s3, s4⟩ := HC2.out W hSw
        go_simp
        (try with_reducible rfl)
      try simp only [Act.put, List.setIfInBounds_toArray, List.set_cons_zero, List.set_cons_succ]
      refine wpAnyH_take (i := 8) (oi := { dst := _, op := _, type := _, pos := _, after := _, guard := _ }) (v := ?_) rfl (by kernel_rfl) (by kernel_rfl) (by kernel_rfl) (fun _ _ _ h => h) (Or.inl ⟨by rfl, ?_⟩) (by assumption) ?_
      rotate_left
      · intro W hSw
        (try dsimp only at hSw)
        go_simp
        (try with_reducible rfl)
      try simp only [Act.put, List.setIfInBounds_toArray, List.set_cons_zero, List.set_cons_succ]
      refine wpAnyH_done (by kernel_rfl) ?_ _
      clear hHeld
      refine NoPanic.normal ?_
      clear hE
      have hwi2 := HWI.out
      go_wp2_with fail
      go_roundg (n - (i + 1))
      case measure => have := HI.out; have := HIL.out; omega
      case rel => exact ⟨i + 1, by simp, ⟨HIL.out, rfl⟩, HD⟩
    · have e1 : decide ((i : Int) < (n : Int)) = false := by rw [decide_eq_false_iff_not]; omega
      have e2 : decide (i < n) = false := by rw [decide_eq_false_iff_not]; omega
      clear hi
      go_wp2_with fail
      go_ret
      exact ⟨rfl, HB.out⟩
def m77 : Nd := ⟨⟨#[]⟩, false, ⟨#[]⟩, 0, 0, -77, 0⟩
/-- Nodes in a block of the call's own, two marks behind their end. -/
def Rmy (B : Nat) (W : World) (g n cap : Nat) (t : List Nd) : Prop :=
  t.length = n ∧ n + 2 ≤ cap ∧ W.ownsRow B 50 7 (.slice (some ⟨g, 0, none⟩) (n + 2) cap) (n + 2) (flat nf (t ++ [m77, m77]))
theorem Rmy.up {B g n cap : Nat} {W W' : World} {t : List Nd} (h : Rmy B W g n cap t) (hb : Below W.heap.size W W') : Rmy B W' g n cap t := ⟨h.1, h.2.1, row_up h.2.2 hb⟩
theorem Rmy.ns {B g n cap : Nat} {W : World} {t : List Nd} (h : Rmy B W g n cap t) : Ns W (.slice (some ⟨g, 0, none⟩) n cap) t := by
  refine ⟨some ⟨g, 0, none⟩, g, 0, cap, by rw [h.1], by rw [h.1]; have := h.2.1; omega, (fun e => by cases e), (fun _ => rfl), fun j u hj => ?_⟩
  rw [Nat.zero_add]
  have h1 := h.2.2.cellAt j (by
    have h2 := (List.getElem?_eq_some_iff.1 hj).1
    rw [flat_len nf_len, h.1] at h2
    omega)
  rw [h1, flat_app, List.getElem?_append_left (List.getElem?_eq_some_iff.1 hj).1]
  exact hj
theorem infoNd : (Try.prog.info? 50).map (fun i => (i.zero, i.size, i.bytes)) = some (some (.agg #[.string ⟨#[]⟩, .bool false, .string ⟨#[]⟩, .int .i64 0, .int .i64 0, .int .i64 0, .int .i64 0]), 7, 72) := by kernel_rfl
set_option maxRecDepth 100000 in
set_option maxHeartbeats 4000000 in
theorem roomy_any {v : Value} {t : List Nd} (hs : t.length * 72 + 4096 ≤ 140737488355328) (w : World) (h : Ns w v t) :
    Calls Try.prog 8 #[v] w fun e w' => ∃ g cap, e = .returned (.slice (some ⟨g, 0, none⟩) (t.length + 2) cap) ∧ Rmy w.heap.size w' g t.length cap t ∧ Below w.heap.size w w' := by
  obtain ⟨iN, hiN, hx0, hx1, hx2⟩ := info_parts infoNd
  have HN : Hid (Rw w v t.length (flat nf t)) := h
  have HL : Hid ((flat nf t).length = t.length * 7) := flat_len nf_len t
  have HO : Hid (∀ u ∈ flat nf t, u.oneCell' = true) := flat_one nf_one t
  obtain ⟨n, hn⟩ : ∃ n, t.length = n := ⟨_, rfl⟩
  obtain ⟨cs, hc⟩ : ∃ cs, flat nf t = cs := ⟨_, rfl⟩
  rw [hc, hn] at HN HL
  rw [hc] at HO
  have HZ : Hid (n * 72 + 4096 ≤ 140737488355328) := by rw [← hn]; exact hs
  have HX : Hid (t.length = n ∧ flat nf t = cs) := ⟨hn, hc⟩
  rw [hn]
  obtain ⟨av, cap, rfl⟩ := HN.out.form
  clear h hs hn hc
  have HN0 : Hid (w.ownsRow w.heap.size 50 7 (.slice none 0 0) 0 []) := World.ownsRow_nil _ _ _ _
  go_enter Try.func8, Try.ntmps8
  go_upto_region 3 with (at_builtin; refine wpList_rows w rfl (.tmp 4) (.tmp 5) 26 rfl w.heap.size 50 iN _ 7 72 Try.underlying26 hiN hx0 hx1 hx2 rfl (by decide) (.slice none 0 0) 0 [] rfl HN0.out (.slice av n cap) n cs rfl HN.out HL.out HO.out (by have := HZ.out; unfold maxLen; omega) (by have := HZ.out; omega) (Nat.le_refl _) ?_; intro v4 w4 ho4 hg4 _; rw [Nat.zero_add, List.nil_append] at ho4; have HO4 : Hid (w4.ownsRow w.heap.size 50 7 v4 n cs) := ho4; have HB4 : Hid (Below w.heap.size w w4) := (Below.refl _ _).grown hg4 (Nat.le_refl _) (fun r hr => by cases hr); obtain ⟨qa, qc, rfl⟩ := row_shape ho4; clear ho4 hg4)
  have HMX : Hid (n + 2 ≤ maxLen ∧ (n + 2) * 72 ≤ 140737488355328) := by have := HZ.out; show _ ∧ _; unfold maxLen; omega
  go_wp2_with (at_builtin; refine wpList_append_own_at _ rfl _ _ 26 rfl w.heap.size 50 iN _ 7 72 Try.underlying26 hiN hx0 hx1 hx2 rfl (by decide) _ _ _ rfl (row_up HO4.out (bel_up _ _)) ⟨w4.heap.size, 0, none⟩ 2 2 (nf m77 ++ nf m77) rfl rfl (World.news_of_block (heap_new _ _)) (fun u hu => by rcases List.mem_append.1 hu with hu | hu <;> exact nf_one _ u hu) HMX.out.1 HMX.out.2 (by have := HB4.out.size; simp; omega) ?_; intro v7 w7 ho7 hg7 _ ha7; have HO7 : Hid (w7.ownsRow w.heap.size 50 7 v7 (n + 2) (cs ++ (nf m77 ++ nf m77))) := ho7; have HG7 : Hid (Below w.heap.size w w7) := (below_trans HB4.out (bel_up _ _)).grown hg7 (by have := HB4.out.size; simp; omega) (fun r e' => (row_tag HO4.out r e').1); obtain ⟨ua, uc, rfl⟩ := row_shape ho7; clear ho7 hg7 ha7)
  go_ret
  obtain ⟨gg, cc, e0, -, hcp, -⟩ := row_form HO7.out (by omega)
  obtain ⟨e1, -, e2⟩ := Value.slice.inj e0
  subst e1 e2
  refine ⟨gg, _, rfl, ⟨HX.out.1, hcp, ?_⟩, HG7.out⟩
  rw [flat_app, HX.out.2]
  exact HO7.out
set_option maxRecDepth 100000 in
set_option maxHeartbeats 4000000 in
theorem spared_any {B g n cap : Nat} {u : Value} {t : List Nd} (w : World) (hs : Sm t) (h : Rmy B w g n cap t) (ht : Ns w u t) : Calls Try.prog 13 #[.slice (some ⟨g, 0, none⟩) (n + 2) cap, u] w fun e w' => e = .returned (.bool true) ∧ Below w.heap.size w w' := by
  have HS : Hid _ := same_any hs w h.ns ht
  rw [decide_eq_true rfl] at HS
  have HN : Hid (n * 72 + 4096 ≤ 140737488355328) := by have h9 := hs; unfold Sm at h9; rw [h.1] at h9; exact h9
  have hk : ∀ (i j : Nat) x, i < 2 → (nf m77)[j]? = some x → w.cell? ⟨g, (n + i) * 7 + j, none⟩ = some x := fun i j x hi hx => by
    have hj := (List.getElem?_eq_some_iff.1 hx).1
    rw [nf_len] at hj
    rw [h.2.2.cellAt _ (by omega)]
    rw [flat_get nf_len ndd (t ++ [m77, m77]) (n + i) j (by simp [h.1]; omega) hj]
    have e : (t ++ [m77, m77]).getD (n + i) ndd = m77 := by
      rw [List.getD_eq_getElem?_getD, List.getElem?_append_right (by rw [h.1]; omega), h.1, Nat.add_sub_cancel_left]
      match i, hi with
      | 0, _ => rfl
      | 1, _ => rfl
    rw [e]
    exact hx
  have HC : Hid (∀ W, Below w.heap.size w W → ∀ (i j : Nat) x, i < 2 → (nf m77)[j]? = some x → W.cell? ⟨g, (n + i) * 7 + j, none⟩ = some x) := fun W hW i j x hi hx => below_cell hW (hk i j x hi hx)
  obtain ⟨ua, uc, rfl⟩ := ht.form
  rw [h.1] at HS ⊢
  have f1 : n ≤ cap := by have := h.2.1; omega
  have f2 : (0 : Int) ≤ (n : Int) := by omega
  have f3 : (n : Int) ≤ (cap : Int) := by omega
  have hE : ∀ W, (Op.equalIn 10000 50 (.agg #[.string ⟨#[]⟩, .bool false, .string ⟨#[]⟩, .int .i64 0, .int .i64 0, .int .i64 (-77), .int .i64 0]) (.agg #[.string ⟨#[]⟩, .bool false, .string ⟨#[]⟩, .int .i64 0, .int .i64 0, .int .i64 (-77), .int .i64 0])).run Try.prog W = .ok true W := fun W => by have h9 := equal_nd m77 m77 W; rw [decide_eq_true rfl] at h9; exact h9
  have f4 : n < n + 2 := by omega
  have f5 : n + 1 < n + 2 := by omega
  have f6 : (n : Int) < ((n + 2 : Nat) : Int) := by omega
  have f7 : ((n + 1 : Nat) : Int) < ((n + 2 : Nat) : Int) := by omega
  have hwn := w64n n (by have := HN.out; omega)
  clear h ht hs hk
  go_enter Try.func13, Try.ntmps13
  go_wp2_with (go_at_call 27; refine Calls.mono HS.out ?_; rintro e w2 ⟨rfl, hb2⟩; have HB2 : Hid (Below w.heap.size w w2) := hb2; have c0 := HC.out w2 hb2 0 0 _ (by decide) rfl; have c1 := HC.out w2 hb2 0 1 _ (by decide) rfl; have c2 := HC.out w2 hb2 0 2 _ (by decide) rfl; have c3 := HC.out w2 hb2 0 3 _ (by decide) rfl; have c4 := HC.out w2 hb2 0 4 _ (by decide) rfl; have c5 := HC.out w2 hb2 0 5 _ (by decide) rfl; have c6 := HC.out w2 hb2 0 6 _ (by decide) rfl; have d0 := HC.out w2 hb2 1 0 _ (by decide) rfl; have d1 := HC.out w2 hb2 1 1 _ (by decide) rfl; have d2 := HC.out w2 hb2 1 2 _ (by decide) rfl; have d3 := HC.out w2 hb2 1 3 _ (by decide) rfl; have d4 := HC.out w2 hb2 1 4 _ (by decide) rfl; have d5 := HC.out w2 hb2 1 5 _ (by decide) rfl; have d6 := HC.out w2 hb2 1 6 _ (by decide) rfl; simp only [Nat.add_zero, m77] at c0 c1 c2 c3 c4 c5 c6 d0 d1 d2 d3 d4 d5 d6; clear hb2)
  go_ret
  exact ⟨rfl, HB2.out⟩
end Go.Proofs.Yticheeacbajeeaa
