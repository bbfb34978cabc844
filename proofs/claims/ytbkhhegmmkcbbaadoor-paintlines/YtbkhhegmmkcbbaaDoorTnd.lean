import Derived.Test.YtbkhhegmmkcbbaaDoorTpu
namespace Go.Proofs.YtbkhhegmmkcbbaaDoor
open Go.RowKit Go.Maps

/-- A node. -/
structure Nd where
  nm : ByteArray
  nd : Bool
  fd : ByteArray
  fr : Int
  tt : Int
  kd : Int
  lf : Int
def nf (x : Nd) : List Value := [.string x.nm, .bool x.nd, .string x.fd, .int .i64 x.fr, .int .i64 x.tt, .int .i64 x.kd, .int .i64 x.lf]
def ndd : Nd := ⟨⟨#[]⟩, false, ⟨#[]⟩, 0, 0, 0, 0⟩
theorem nf_len (x : Nd) : (nf x).length = 7 := rfl
theorem nf_one (x : Nd) : ∀ u ∈ nf x, u.oneCell' = true := fun u hu => by
  simp only [nf, List.mem_cons, List.not_mem_nil, or_false] at hu
  rcases hu with rfl | rfl | rfl | rfl | rfl | rfl | rfl <;> rfl
/-- The numbers of children. -/
def kds (t : List Nd) : List Int := t.map Nd.kd
theorem kds_len (t : List Nd) : (kds t).length = t.length := List.length_map _
theorem kds_get (t : List Nd) (i : Nat) : (kds t).getD i 0 = (t.getD i ndd).kd := by
  unfold kds
  rw [List.getD_eq_getElem?_getD, List.getElem?_map, List.getD_eq_getElem?_getD]
  cases t[i]? <;> rfl
/-- Nodes in memory. -/
def Ns (W : World) (v : Value) (t : List Nd) : Prop := Rw W v t.length (flat nf t)
theorem Ns.up {W W' : World} {v : Value} {t : List Nd} (h : Ns W v t) (hb : Below W.heap.size W W') : Ns W' v t := Rw.up h hb
theorem Ns.form {W : World} {v : Value} {t : List Nd} (h : Ns W v t) : ∃ a cap, v = .slice a t.length cap := Rw.form h
/-- The cells of a node. -/
theorem Ns.cells {W : World} {v : Value} {t : List Nd} (h : Ns W v t) (i : Nat) (hi : i < t.length) : ∃ g o cap, v = .slice (some ⟨g, o, none⟩) t.length cap ∧ ∀ j u, (nf (t.getD i ndd))[j]? = some u → W.cell? ⟨g, o + (i * 7 + j), none⟩ = some u := by
  obtain ⟨g, o, cap, e, hc⟩ := Rw.place h (by omega)
  refine ⟨g, o, cap, e, fun j u hu => hc _ _ ?_⟩
  have hj : j < 7 := by
    have := (List.getElem?_eq_some_iff.1 hu).1
    rwa [nf_len] at this
  rw [flat_get nf_len ndd t i j hi hj]
  exact hu
theorem Ns.kid {W : World} {a : Option Addr} {n cap : Nat} {t : List Nd} (h : Ns W (.slice a n cap) t) (i : Nat) (hi : i < t.length) : ∃ g o, a = some ⟨g, o, none⟩ ∧ W.cell? ⟨g, o + i * 7 + 5, none⟩ = some (.int .i64 (t.getD i ndd).kd) := by
  obtain ⟨g, o, cap', e, hc⟩ := h.cells i hi
  obtain ⟨rfl, -, -⟩ := Value.slice.inj e
  refine ⟨g, o, rfl, ?_⟩
  rw [Nat.add_assoc]
  exact hc 5 _ rfl
/-- Small enough. -/
def Sm (t : List Nd) : Prop := t.length * 72 + 4096 ≤ 140737488355328
/-- The answer of Roots. -/
def rts (t : List Nd) : Int := match rt (kds t) with
  | none => -1
  | some r => (r : Int)
theorem rts_some {t : List Nd} {r : Nat} (h : rt (kds t) = some r) : rts t = (r : Int) := by unfold rts; rw [h]
theorem rts_none {t : List Nd} (h : rt (kds t) = none) : rts t = -1 := by unfold rts; rw [h]
theorem rt_bad : ∀ (l : List Int) (a : Nat), rt (l.drop a) = none → rt l = none
  | l, 0, h => h
  | [], a + 1, h => by simp [rt] at h
  | x :: l, a + 1, h => by
    have := rt_bad l a h
    unfold rt; rw [this]
theorem w64 (z : Int) (h0 : -9223372036854775808 ≤ z) (h1 : z ≤ 9223372036854775807) : IntKind.i64.wrap z = z := by rw [IntKind.wrap_i64]; omega
set_option maxRecDepth 100000 in
set_option maxHeartbeats 8000000 in
theorem roots_any {v : Value} {t : List Nd} (w : World) (h : Ns w v t) (hs : Sm t) :
    Calls Tryd.prog 25 #[v] w fun e w' => e = .returned (.int .i64 (rts t)) ∧ w = w' := by
  have HT : Hid (Ns w v t) := h
  have HS : Hid (Sm t) := hs
  obtain ⟨a, cap, rfl⟩ := h.form
  clear h hs
  obtain ⟨n, hn⟩ : ∃ n, t.length = n := ⟨_, rfl⟩
  have HN : Hid (t.length = n) := hn
  rw [hn] at HT ⊢
  have HSZ : Hid (n * 72 + 4096 ≤ 140737488355328) := by have := HS.out; unfold Sm at this; rw [hn] at this; exact this
  clear hn
  have hw0 : IntKind.i64.wrap ((n : Int) - 1) = (n : Int) - 1 := w64 _ (by omega) (by have := HSZ.out; omega)
  obtain ⟨z0, hz0⟩ : ∃ z0, (n : Int) - 1 = z0 := ⟨_, rfl⟩
  have HZ0 : Hid ((n : Int) - 1 = z0) := hz0
  rw [hz0] at hw0
  have hw1 : IntKind.i64.wrap ((n : Int) - 1) = z0 := by rw [hz0]; exact hw0
  clear hz0 hw0
  go_enter Tryd.func25, Tryd.ntmps25
  go_upto_region 3 with fail
  clear hw1
  go_loopg [3, 4] n (fun gm v3 v4 wr => ∃ (r k : Nat) (z : Int), v3 = .int .i64 (r : Int) ∧ v4 = .int .i64 z ∧ Hid (z = (k : Int) - 1) ∧ Hid (gm = k ∧ k ≤ n ∧ r + k ≤ n ∧ rt ((kds t).drop k) = some r) ∧ w = wr)
  case atStart => exact ⟨0, n, z0, rfl, rfl, HZ0.out.symm, ⟨rfl, Nat.le_refl _, by omega, by rw [List.drop_of_length_le (by rw [kds_len, HN.out]; exact Nat.le_refl _)]; rfl⟩, rfl⟩
  case round =>
    obtain ⟨r, k, z, rfl, rfl, HZ, HI, hw9⟩ := hrel
    subst hw9
    clear HZ0
    cases k with
    | zero =>
      have e1 : z = -1 := by have := HZ.out; omega
      subst e1
      have HE : Hid (rts t = (r : Int)) := rts_some HI.out.2.2.2
      go_wp2_with fail
      go_ret
      exact ⟨by rw [HE.out]; rfl, rfl⟩
    | succ p =>
      have e1 : z = (p : Int) := by have := HZ.out; omega
      subst e1
      clear HZ
      have hp : p < t.length := by have := HI.out; have := HN.out; omega
      obtain ⟨g, o, rfl, hc⟩ := HT.out.kid p hp
      have hx0 : (kds t).getD p 0 = (t.getD p ndd).kd := kds_get t p
      obtain ⟨x, hx⟩ : ∃ x, (t.getD p ndd).kd = x := ⟨_, rfl⟩
      rw [hx] at hc hx0
      clear hx
      have HD : Hid ((kds t).drop p = x :: (kds t).drop (p + 1)) := by rw [← hx0]; exact drop_at _ _ (by rw [kds_len]; exact hp)
      have e2 : decide ((0 : Int) ≤ (p : Int)) = true := by rw [decide_eq_true_eq]; omega
      have e3 : (p : Int) < (n : Int) := by have := HN.out; omega
      have e4 : p < n := by omega
      clear hx0 hp
      by_cases h1 : x < 0
      · have e5 : decide (x < 0) = true := by rw [decide_eq_true_eq]; exact h1
        have HE : Hid (rts t = -1) := rts_none (rt_bad _ p (by rw [HD.out]; unfold rt; rw [HI.out.2.2.2]; dsimp only; rw [if_neg (by omega)]))
        clear h1
        go_wp2_with fail
        go_ret
        exact ⟨by rw [HE.out]; rfl, rfl⟩
      · have e5 : decide (x < 0) = false := by rw [decide_eq_false_iff_not]; exact h1
        by_cases h2 : (r : Int) < x
        · have e6 : decide ((r : Int) < x) = true := by rw [decide_eq_true_eq]; exact h2
          have HE : Hid (rts t = -1) := rts_none (rt_bad _ p (by rw [HD.out]; unfold rt; rw [HI.out.2.2.2]; dsimp only; rw [if_neg (by omega)]))
          clear h1 h2
          go_wp2_with fail
          go_ret
          exact ⟨by rw [HE.out]; rfl, rfl⟩
        · obtain ⟨y, rfl⟩ : ∃ y : Nat, x = (y : Int) := ⟨x.toNat, by omega⟩
          have e6 : decide ((r : Int) < (y : Int)) = false := by rw [decide_eq_false_iff_not]; exact h2
          have e7 : decide (r < y) = false := by rw [decide_eq_false_iff_not]; omega
          have HY : Hid (y ≤ r) := by show y ≤ r; omega
          have HE : Hid (rt ((kds t).drop p) = some (r + 1 - y)) := by rw [HD.out]; unfold rt; rw [HI.out.2.2.2]; dsimp only; rw [if_pos (by omega)]; rfl
          have hA : IntKind.i64.wrap ((y : Int) - 1) = (y : Int) - 1 := w64 _ (by omega) (by have := HSZ.out; have := HI.out; omega)
          have hB : IntKind.i64.wrap ((r : Int) - ((y : Int) - 1)) = ((r + 1 - y : Nat) : Int) := by rw [w64 _ (by omega) (by have := HSZ.out; have := HI.out; omega)]; omega
          have hC : IntKind.i64.wrap ((p : Int) - 1) = (p : Int) - 1 := w64 _ (by omega) (by have := HSZ.out; have := HI.out; omega)
          obtain ⟨q, hq⟩ : ∃ q, r + 1 - y = q := ⟨_, rfl⟩
          rw [hq] at hB HE
          have HQ : Hid (q = r + 1 - y ∧ q + p ≤ n) := by have := HI.out; show _ ∧ _; omega
          clear h1 h2 hq
          go_wp2_with fail
          go_roundg p
          case measure => have := HI.out.1; omega
          case rel => exact ⟨q, p, _, rfl, rfl, rfl, ⟨rfl, by have := HI.out; omega, HQ.out.2, HE.out⟩, rfl⟩
/-- The place behind a subtree. -/
theorem sk_stop {l : List Int} {a : Nat} (h : a < l.length) (k : Nat) : wA l a (k + 1) = wA l (a + 1) (kA l a + k) := by
  unfold wA kA
  rw [drop_at l a h]
  show a + (1 + sk _ (k + _)) = _
  rw [Nat.add_comm k]; omega
set_option maxRecDepth 100000 in
set_option maxHeartbeats 8000000 in
theorem behind_any {v : Value} {t : List Nd} (w : World) (h : Ns w v t) (hs : Sm t) (hf : Fo (kds t)) (a0 : Nat) (ha : a0 < t.length) :
    Calls Tryd.prog 27 #[v, .int .i64 (a0 : Int)] w fun e w' => e = .returned (.int .i64 (eA (kds t) a0 : Nat)) ∧ w = w' := by
  have HT : Hid (Ns w v t) := h
  have HS : Hid (Sm t) := hs
  have HF : Hid (Fo (kds t)) := hf
  obtain ⟨a, cap, rfl⟩ := h.form
  clear h hs hf
  obtain ⟨n, hn⟩ : ∃ n, t.length = n := ⟨_, rfl⟩
  have HN : Hid (t.length = n) := hn
  rw [hn] at HT ⊢
  have HSZ : Hid (n * 72 + 4096 ≤ 140737488355328) := by have := HS.out; unfold Sm at this; rw [hn] at this; exact this
  have HA : Hid (a0 < n) := by rw [hn] at ha; exact ha
  clear hn ha
  obtain ⟨E, hE⟩ : ∃ E, eA (kds t) a0 = E := ⟨_, rfl⟩
  rw [hE]
  have HE : Hid (eA (kds t) a0 = E) := hE
  clear hE
  go_enter Tryd.func27, Tryd.ntmps27
  go_upto_region 2 with fail
  go_loopg [1, 5] (n + 1) (fun gm v1 v5 wr => ∃ (p r : Nat), v1 = .int .i64 (p : Int) ∧ v5 = .int .i64 (r : Int) ∧ Hid (n + 1 - p ≤ gm ∧ p ≤ n ∧ r ≤ rA (kds t) p ∧ wA (kds t) p r = E) ∧ w = wr)
  case atStart => exact ⟨a0, 1, rfl, rfl, ⟨by omega, by have := HA.out; omega, HF.out.pos _ (by rw [kds_len, HN.out]; exact HA.out), HE.out⟩, rfl⟩
  case round =>
    obtain ⟨p, r, rfl, rfl, HI, hw9⟩ := hrel
    subst hw9
    cases r with
    | zero =>
      have HEE : Hid (p = E) := by have := HI.out.2.2.2; rw [wA_zero] at this; exact this
      go_wp2_with fail
      go_ret
      exact ⟨by rw [HEE.out]; rfl, rfl⟩
    | succ q =>
      have hp : p < t.length := by
        have h1 := HI.out.2.2.1
        have h2 := HF.out.le p
        rw [kds_len] at h2; omega
      obtain ⟨g, o, rfl, hc⟩ := HT.out.kid p hp
      obtain ⟨s1, s2, s3, s4⟩ := HF.out.step p (by rw [kds_len]; exact hp)
      rw [← kds_get, s2] at hc
      have HR : Hid (wA (kds t) (p + 1) (kA (kds t) p + q) = E) := by rw [← sk_stop (by rw [kds_len]; exact hp)]; exact HI.out.2.2.2
      have HK : Hid (kA (kds t) p + q ≤ rA (kds t) (p + 1) ∧ rA (kds t) (p + 1) ≤ n) := by
        have h1 := HI.out.2.2.1
        have h2 := HF.out.le (p + 1)
        have h3 := HN.out
        rw [kds_len] at h2
        show _ ∧ _; omega
      obtain ⟨y, hy⟩ : ∃ y, kA (kds t) p = y := ⟨_, rfl⟩
      rw [hy] at hc HR HK
      have e3 : (p : Int) < (n : Int) := by have := HN.out; omega
      have e4 : p < n := by omega
      have e5 : decide ((0 : Int) < ((q + 1 : Nat) : Int)) = true := by rw [decide_eq_true_eq]; omega
      obtain ⟨r, hr⟩ : ∃ r, q + 1 = r := ⟨_, rfl⟩
      rw [hr] at e5 ⊢
      have e6 : decide (0 < r) = true := by rw [decide_eq_true_eq]; omega
      have e7 : 0 < r := by omega
      have hA : IntKind.i64.wrap ((y : Int) - 1) = (y : Int) - 1 := w64 _ (by omega) (by have := HSZ.out; have := HK.out; omega)
      have hB : IntKind.i64.wrap ((r : Int) + ((y : Int) - 1)) = ((y + q : Nat) : Int) := by rw [w64 _ (by omega) (by have := HSZ.out; have := HK.out; omega)]; omega
      have hC := w64n p (by have := HSZ.out; omega)
      clear s1 s2 s3 s4 hy hp hr
      obtain ⟨z, hz⟩ : ∃ z, y + q = z := ⟨_, rfl⟩
      rw [hz] at hB HK HR
      obtain ⟨p', hp'⟩ : ∃ p', p + 1 = p' := ⟨_, rfl⟩
      rw [hp'] at hC HK HR
      have HP : Hid (p + 1 = p' ∧ p' ≤ n) := ⟨hp', by omega⟩
      clear hz hp'
      go_wp2_with fail
      go_roundg (n + 1 - p')
      case measure => have := HI.out.1; have := HP.out; omega
      case rel => exact ⟨p', z, rfl, rfl, ⟨Nat.le_refl _, HP.out.2, HK.out.1, HR.out⟩, rfl⟩
end Go.Proofs.YtbkhhegmmkcbbaaDoor
