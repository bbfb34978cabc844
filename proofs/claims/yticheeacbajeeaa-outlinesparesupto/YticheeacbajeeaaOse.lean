import Derived.Test.YticheeacbajeeaaOen
import Derived.Test.YticheeacbajeeaaOpu
namespace Go.Proofs.Yticheeacbajeeaa
open Go.RowKit Go.Maps

/-- A search in its block. -/
structure Sh (W : World) (b : Nat) (M : List Pa) (T : List Nd) (s : ByteArray) (ma na ba : Option Addr) (mc nc bc mb mn : Nat) : Prop where
  cl : W.heap[b]? = some (.cells #[.slice ma M.length mc, .map (some mb), .slice na T.length nc, .slice ba T.length bc, .string s] 87 (0, 0))
  ml : Pl W (.slice ma M.length mc) M
  mq : Mq W mb mn (fs M)
  nd : Ns W (.slice na T.length nc) T
  en : Rw W (.slice ba T.length bc) T.length (iC (ends T))
theorem Sh.up {W W' : World} {b : Nat} {M : List Pa} {T : List Nd} {s : ByteArray} {ma na ba : Option Addr} {mc nc bc mb mn : Nat} (h : Sh W b M T s ma na ba mc nc bc mb mn) (hb : Below W.heap.size W W') : Sh W' b M T s ma na ba mc nc bc mb mn :=
  ⟨(hb.block _ (lt_of_heap h.cl)).trans h.cl, h.ml.up hb, h.mq.up hb, h.nd.up hb, Rw.up h.en hb⟩
theorem ends_len (T : List Nd) : (ends T).length = T.length := by unfold ends; simp
theorem ends_get (T : List Nd) (a : Nat) (h : a < T.length) : (ends T).getD a 0 = ((eA (kds T) a : Nat) : Int) := by
  have := ew_get T 0 a (Nat.zero_le _) h
  rwa [ew_zero] at this
theorem Sh.endat {W : World} {b : Nat} {M : List Pa} {T : List Nd} {s : ByteArray} {ma na ba : Option Addr} {mc nc bc mb mn : Nat} (h : Sh W b M T s ma na ba mc nc bc mb mn) (a : Nat) (ha : a < T.length) : ∃ g o, ba = some ⟨g, o, none⟩ ∧ W.cell? ⟨g, o + a, none⟩ = some (.int .i64 ((eA (kds T) a : Nat) : Int)) := by
  obtain ⟨g, o, cap, e, hc⟩ := Rw.place h.en (by omega)
  obtain ⟨rfl, -, -⟩ := Value.slice.inj e
  refine ⟨g, o, rfl, hc a _ ?_⟩
  rw [iC_get _ a (by rw [ends_len]; exact ha), ends_get T a ha]
/-- A place or -1. -/
def opi : Option Nat → Int
  | some c => (c : Int)
  | none => -1
abbrev nV (x : Nd) : Value := .agg #[.string x.nm, .bool x.nd, .string x.fd, .int .i64 x.fr, .int .i64 x.tt, .int .i64 x.kd, .int .i64 x.lf]
set_option maxRecDepth 100000 in
set_option maxHeartbeats 4000000 in
theorem field_any (x : Nd) (f : ByteArray) (c : Nat) (w : World) (h : w.cell? ⟨c, 0, none⟩ = some (.string f)) : Calls Try.prog 53 (#[nV x] ++ #[.pointer (some ⟨c, 0, none⟩)]) w fun e w' => e = .returned (.bool (decide (x.fd = f))) ∧ Below w.heap.size w w' := by
  obtain ⟨W1, hW1⟩ : ∃ W1, W1 = w.alloc (.cells #[.string x.nm, .bool x.nd, .string x.fd, .int .i64 x.fr, .int .i64 x.tt, .int .i64 x.kd, .int .i64 x.lf] 50) := ⟨_, rfl⟩
  have HB1 : Hid (Below w.heap.size w W1) := by rw [hW1]; exact bel_up _ _
  have hn : W1.heap[w.heap.size]? = some (.cells #[.string x.nm, .bool x.nd, .string x.fd, .int .i64 x.fr, .int .i64 x.tt, .int .i64 x.kd, .int .i64 x.lf] 50 (0, 0)) := by rw [hW1]; exact heap_new w _
  have c2 := rcell hn 2 _ rfl
  have hf : W1.cell? ⟨c, 0, none⟩ = some (.string f) := below_cell HB1.out h
  clear h hn
  obtain ⟨R, hR⟩ : ∃ R, decide (x.fd = f) = R := ⟨_, rfl⟩
  have HR : Hid (decide (x.fd = f) = R) := hR
  have e1 : (x.fd.toList == f.toList) = R := by rw [← hR]; exact str_eq _ _
  rw [hR]
  clear hR
  go_enter Try.func53, Try.ntmps53
  go_upto_region 1 with fail
  rw [← hW1]
  clear hW1
  go_wp2_with fail
  go_ret
  exact ⟨rfl, HB1.out⟩
set_option maxRecDepth 100000 in
set_option maxHeartbeats 8000000 in
theorem kid_any {b : Nat} {M : List Pa} {T : List Nd} {s : ByteArray} {ma na ba : Option Addr} {mc nc bc mb mn : Nat} (w : World) (h : Sh w b M T s ma na ba mc nc bc mb mn) (hf : Fo (kds T)) (hz : T.length * 72 + 4096 ≤ 140737488355328) (a : Nat) (ha : a < T.length) (f : ByteArray) (c : Nat) (hc : w.cell? ⟨c, 0, none⟩ = some (.string f)) : Calls Try.prog 52 #[.pointer (some ⟨b, 0, none⟩), .int .i64 (a : Int), .func (.func 53) #[] #[.pointer (some ⟨c, 0, none⟩)]] w fun e w' => e = .returned (.int .i64 (opi (kdf T a f))) ∧ Below w.heap.size w w' := by
  have HS : Hid (Sh w b M T s ma na ba mc nc bc mb mn) := h
  have HF : Hid (Fo (kds T)) := hf
  have HC : Hid (w.cell? ⟨c, 0, none⟩ = some (.string f)) := hc
  have HA : Hid (a < T.length ∧ a < (kds T).length) := ⟨ha, by rw [kds_len]; exact ha⟩
  obtain ⟨n, hn⟩ : ∃ n, T.length = n := ⟨_, rfl⟩
  have HN : Hid (T.length = n ∧ n * 72 + 4096 ≤ 140737488355328) := ⟨hn, by rw [← hn]; exact hz⟩
  obtain ⟨K, hK⟩ : ∃ K, kA (kds T) a = K := ⟨_, rfl⟩
  have HK : Hid (kA (kds T) a = K ∧ eA (kds T) a = wA (kds T) (a + 1) K ∧ K ≤ rA (kds T) (a + 1) ∧ K ≤ n) := by
    have h1 := hf.step a HA.out.2
    have h2 := hf.le (a + 1)
    rw [kds_len, hn] at h2
    rw [hK] at h1
    exact ⟨hK, by rw [← hK]; exact hf.eq a HA.out.2, h1.2.2.1, by omega⟩
  obtain ⟨bg, bo, hba, hbe⟩ := h.endat a ha
  have HBE : Hid (w.cell? ⟨bg, bo + a, none⟩ = some (.int .i64 ((eA (kds T) a : Nat) : Int))) := hbe
  subst hba
  have hwa := w64n a (by have := HN.out.2; have := HA.out.1; omega)
  have d1 : (a : Int) < (n : Int) := by have := HA.out.1; omega
  have d2 : a < n := by have := HA.out.1; omega
  have ha0 : (0 : Int) ≤ (a : Int) := by omega
  clear h hf ha hc hz hK hbe hn
  go_enter Try.func52, Try.ntmps52
  go_upto_region 2 with fail
  clear hwa
  go_loopg [7] K (fun gm v7 wr => ∃ j : Nat, v7 = .int .i64 ((wA (kds T) (a + 1) j : Nat) : Int) ∧ Hid (j ≤ K ∧ gm = K - j) ∧ Hid (∀ i, i < j → (T.getD (wA (kds T) (a + 1) i) ndd).fd ≠ f) ∧ Hid (Below w.heap.size w wr))
  case atStart => exact ⟨0, by rw [wA_zero]; simp, ⟨Nat.zero_le _, rfl⟩, (fun i hi => by omega), Below.refl _ _⟩
  case round =>
    obtain ⟨j, rfl, HJ, HM, HB⟩ := hrel
    obtain ⟨wa, hwa⟩ : ∃ wa, wa = wr := ⟨_, rfl⟩
    rw [← hwa] at HB ⊢
    clear hwa
    have hcl := (HS.out.up HB.out).cl
    rw [HN.out.1] at hcl
    have q2 := rcell hcl 2 _ rfl
    have q3 := rcell hcl 3 _ rfl
    have hbe := below_cell HB.out HBE.out
    clear hcl
    by_cases hj : j < K
    · have HJL : Hid (j < K) := hj
      have hch := Ch.in HF.out (show Ch (kds T) a j _ from ⟨HA.out.2, by rw [HK.out.1]; exact hj, rfl⟩)
      obtain ⟨x, hx⟩ : ∃ x, wA (kds T) (a + 1) j = x := ⟨_, rfl⟩
      rw [hx] at hch ⊢
      have HX : Hid (wA (kds T) (a + 1) j = x) := hx
      obtain ⟨h1, h2, h3, h4, h5, h6⟩ := hch
      rw [kds_len] at h2
      obtain ⟨E, hE⟩ : ∃ E, eA (kds T) a = E := ⟨_, rfl⟩
      rw [hE] at hbe h4
      have e1 : decide ((x : Int) < (E : Int)) = true := by rw [decide_eq_true_eq]; omega
      have e2 : decide (x < E) = true := by rw [decide_eq_true_eq]; omega
      obtain ⟨g2, o2, rfl, hq⟩ := HS.out.nd.seven x h2
      obtain ⟨t0, t1, t2, t3, t4, t5, t6⟩ := hq wa HB.out
      have HTX : Hid (x < T.length) := h2
      obtain ⟨y, hy⟩ : ∃ y, T.getD x ndd = y := ⟨_, rfl⟩
      have HY : Hid (T.getD x ndd = y) := hy
      rw [hy] at t0 t1 t2 t3 t4 t5 t6
      have b2 : x < n := by have := HN.out.1; omega
      have b1 : (x : Int) < (n : Int) := by omega
      have b3 : (0 : Int) ≤ (x : Int) := by omega
      obtain ⟨F, hF⟩ : ∃ F, eA (kds T) x = F := ⟨_, rfl⟩
      have HNX : Hid (wA (kds T) (a + 1) (j + 1) = F) := by show _ = _; rw [← hF]; exact h6
      obtain ⟨bg2, bo2, hb2, hbx⟩ := HS.out.endat x h2
      obtain ⟨e8, e9⟩ : bg2 = bg ∧ bo2 = bo := by
        have h9 := Option.some.inj hb2
        exact ⟨(Addr.mk.inj h9).1.symm, (Addr.mk.inj h9).2.1.symm⟩
      subst e8 e9
      rw [hF] at hbx
      have HBX : Hid (∀ W, Below wa.heap.size wa W → W.cell? ⟨bg2, bo2 + x, none⟩ = some (.int .i64 (F : Int)) ∧ W.cell? ⟨b, 3, none⟩ = some (.slice (some ⟨bg2, bo2, none⟩) n bc)) := fun W hW => ⟨below_cell hW (below_cell HB.out hbx), below_cell hW q3⟩
      have HFA : Hid _ := field_any y f c wa (below_cell HB.out HC.out)
      obtain ⟨R, hR⟩ : ∃ R, decide (y.fd = f) = R := ⟨_, rfl⟩
      have HR : Hid (decide (y.fd = f) = R) := hR
      rw [hR] at HFA
      clear hj h1 h2 h3 h4 h5 h6 hE hq hy hF hb2 hbx hx hR
      cases R with
      | true =>
        have HE : Hid (kdf T a f = some x) := by
          show _ = _
          rw [← HX.out]
          exact kdf_hit j (by rw [HK.out.1]; exact HJL.out) (by rw [HX.out, HY.out]; exact of_decide_eq_true HR.out) HM.out
        go_wp2_with (go_at_call 53; refine Calls.mono HFA.out ?_; rintro e w2 ⟨rfl, hb2⟩; have HB2 : Hid (Below wa.heap.size wa w2) := hb2; clear hb2)
        go_ret
        exact ⟨by rw [HE.out]; rfl, below_trans HB.out HB2.out⟩
      | false =>
        have HM2 : Hid (∀ i, i < j + 1 → (T.getD (wA (kds T) (a + 1) i) ndd).fd ≠ f) := fun i hi => by
          rcases Nat.lt_or_ge i j with h9 | h9
          · exact HM.out i h9
          · have : i = j := by omega
            rw [this, HX.out, HY.out]
            exact of_decide_eq_false HR.out
        go_wp2_with (go_at_call 53; refine Calls.mono HFA.out ?_; rintro e w2 ⟨rfl, hb2⟩; have HB2 : Hid (Below wa.heap.size wa w2) := hb2; obtain ⟨z1, z2⟩ := HBX.out w2 hb2; clear hb2)
        go_roundg (K - (j + 1))
        case measure => have := HJ.out; have := HJL.out; omega
        case rel => exact ⟨j + 1, by rw [HNX.out], ⟨HJL.out, rfl⟩, HM2, below_trans HB.out HB2.out⟩
    · have hjk : j = K := by have := HJ.out; omega
      subst hjk
      rw [HK.out.2.1] at hbe
      obtain ⟨E, hE⟩ : ∃ E, wA (kds T) (a + 1) j = E := ⟨_, rfl⟩
      rw [hE] at hbe ⊢
      have e1 : decide ((E : Int) < (E : Int)) = false := by rw [decide_eq_false_iff_not]; omega
      have e2 : decide (E < E) = false := by rw [decide_eq_false_iff_not]; omega
      have HE : Hid (kdf T a f = none) := kdf_none (fun i hi => HM.out i (by rw [HK.out.1] at hi; exact hi))
      clear hj hE
      go_wp2_with fail
      go_ret
      exact ⟨by rw [HE.out]; rfl, HB.out⟩
end Go.Proofs.Yticheeacbajeeaa
