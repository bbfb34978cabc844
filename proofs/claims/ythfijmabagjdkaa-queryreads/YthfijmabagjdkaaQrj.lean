import Derived.Test.YthfijmabagjdkaaQri
import Derived.Test.YthfijmabagjdkaaQpr
namespace Go.Proofs.Ythfijmabagjdkaa.Qy
open Go.RowKit Go.Maps

theorem results_ctt {fn : Func} {p u v : Tmp} {ty : TypeId} (h : fn.results = #[.cell p ty, .tmp u, .tmp v]) (tmps : Array Value) (P : Program) (w : World) :
    (results fn tmps).run P w = ((asAddr (tmps.getD p undef)).run P w).andThen fun a w₁ => ((loadVar ty a).run P w₁).andThen fun x w₂ => .ok (.tuple #[x, tmps.getD u undef, tmps.getD v undef]) w₂ := by
  simp only [results, h]
  simp [Sem.run_bind, Result.andThen]
theorem mst_ws (s : Rs) (t : List UInt8) : (mst s t).2.ws.length ≤ s.ws.length := by
  unfold mst
  split
  · show s.ws.tail.length ≤ _; simp
  · exact Nat.le_refl _
theorem cnm_ws (s : Rs) (k : Bool) : (cnm s k).2.ws.length ≤ s.ws.length := by
  unfold cnm
  split
  · split
    · show s.ws.tail.length ≤ _; simp
    · exact Nat.le_refl _
  · exact Nat.le_refl _
theorem oth_ws (s : Rs) : (oth s).2.1.ws.length ≤ s.ws.length := by
  unfold oth
  split
  · show s.ws.tail.length ≤ _; simp
  · have h1 := mst_ws s [64]
    cases hq : mst s [64] with
    | mk b s1 =>
      rw [hq] at h1
      cases b with
      | false => exact h1
      | true =>
        simp only
        have h2 := cnm_ws s1 true
        cases hq2 : cnm s1 true with
        | mk b s2 =>
          rw [hq2] at h2
          cases b with
          | false => exact Nat.le_trans h2 h1
          | true => exact Nat.le_trans h2 h1
theorem cdB_ws (s : Rs) (nt : Bool) : (cdB s nt).2.1.ws.length ≤ s.ws.length := by
  unfold cdB
  have h1 := mst_ws s [64]
  cases hq : mst s [64] with
  | mk b s1 =>
    rw [hq] at h1
    cases b with
    | false => exact h1
    | true =>
      simp only
      have h2 := cnm_ws s1 true
      cases hq2 : cnm s1 true with
      | mk b s2 =>
        rw [hq2] at h2
        cases b with
        | false => exact Nat.le_trans h2 h1
        | true =>
          simp only
          have h3 := mst_ws s2 [61]
          cases hq3 : mst s2 [61] with
          | mk b s3 =>
            rw [hq3] at h3
            cases b with
            | false => exact Nat.le_trans h3 (Nat.le_trans h2 h1)
            | true => exact Nat.le_trans (oth_ws s3) (Nat.le_trans h3 (Nat.le_trans h2 h1))
theorem cnd_more {s s' : Rs} (h : cnd s = (true, s')) (hw : 0 < s.ws.length) : s'.ws.length < s.ws.length ∧ s'.ns = s.ns ∧ s'.cs.length = s.cs.length + 1 ∧ s.cs.length ≠ 16 := by
  rw [cnd_cdB] at h
  split at h
  · simp at h
  · split at h
    · simp at h
    · next hl =>
      simp only [Prod.mk.injEq] at h
      obtain ⟨_, rfl⟩ := h
      have h1 := cdB_ws (tl s) (se s 1 [117, 110, 108, 101, 115, 115])
      have h2 := cdB_ns (tl s) (se s 1 [117, 110, 108, 101, 115, 115])
      have h3 : (tl s).ws.length = s.ws.length - 1 := by show s.ws.tail.length = _; simp
      refine ⟨?_, h2.1, ?_, hl⟩
      · show (cdB (tl s) _).2.1.ws.length < _; omega
      · show ((cdB (tl s) _).2.1.cs ++ [_]).length = _
        rw [List.length_append, h2.2]; rfl
theorem cpt_cs {s s' : Rs} {i : Nat} (h : cpt s i = (true, s')) : s'.cs = s.cs := by
  unfold cpt at h
  split at h
  · cases hc : cnm (tl s) false with
    | mk b s1 =>
      have h1 := (cnm_ns (tl s) false).2
      rw [hc] at h h1
      cases b with
      | false => simp at h
      | true =>
        simp only [Prod.mk.injEq, true_and] at h
        subst h
        exact h1
  · simp only [Prod.mk.injEq, true_and] at h
    subst h
    rfl
theorem fld_cs (s : Rs) : (fld s).cs = s.cs := by unfold fld; split <;> rfl
theorem rdP_cs : ∀ (n : Nat) (md : Option Nat) (s s' : Rs), rdP n md s = (true, s') → s'.cs = s.cs
  | 0, _, s, s', h => by simp [rdP] at h
  | n + 1, none, s, s', h => by
    rw [rdP_node] at h
    split at h
    · simp at h
    · split at h
      · simp at h
      · cases hc : ndS n (opn s) s.ns.length with
        | mk b s1 =>
          rw [hc] at h
          cases b with
          | false => simp at h
          | true =>
            simp only at h
            rw [cpt_cs h]
            have ho : (opn s).cs = s.cs := fld_cs _
            rw [← ho]
            unfold ndS at hc
            split at hc
            · simp at hc
            · split at hc
              · simp only [Prod.mk.injEq, true_and] at hc
                subst hc
                rfl
              · split at hc
                · simp at hc
                · rw [rdP_cs n _ _ _ hc]
                  show (if nmA (tl (opn s)) then upN (tl (opn s)) s.ns.length fun p => { p with nm := bs (hd (tl (opn s))).t } else tl (opn s)).cs = _
                  split <;> rfl
  | n + 1, some i, s, s', h => by
    unfold rdP at h
    split at h
    · simp only [Prod.mk.injEq, true_and] at h
      subst h
      rfl
    · cases hc : rdP n none s with
      | mk b s1 =>
        rw [hc] at h
        cases b with
        | false => simp at h
        | true =>
          simp only at h
          rw [rdP_cs n _ _ _ h]
          show s1.cs = _
          exact rdP_cs n _ _ _ hc
set_option maxRecDepth 100000 in
set_option maxHeartbeats 8000000 in
theorem all_any {B r : Nat} {vn vc : Value} {s : Rs} (w : World) (h : Rq B w r vn vc s) (hv : Iv s) (hc : s.cs.length = 0) : Calls Try.prog 13 #[.pointer (some ⟨r, 0, none⟩)] w fun e w' => e = .returned (.bool (rdA s).1) ∧ Mp B w w' r (rdA s).2 := by
  have HPC : Hid _ := (both_any (2 * s.ws.length)).1 B r vn vc s w h hv (Nat.le_refl _)
  obtain ⟨R, hR⟩ : ∃ R, rdA s = R := ⟨_, rfl⟩
  rw [hR]
  unfold rdA at hR
  cases hq : rdP (2 * s.ws.length) none s with
  | mk b s1 =>
    rw [hq] at HPC hR
    have HS1 : Hid ((b = true → rdC s1.ws.length s1 = R ∧ s1.ns.length ≤ 32 ∧ s1.cs.length ≤ 16) ∧ (b = false → R = (false, s1))) := by
      cases b with
      | false => exact ⟨fun h => by simp at h, fun _ => hR.symm⟩
      | true =>
        refine ⟨fun _ => ⟨hR, ((rdP_dn _).1 _ _ hq hv).1.iv.nl, ?_⟩, fun h => by simp at h⟩
        rw [rdP_cs _ _ _ _ hq, hc]
        omega
    clear h hv hc hR hq
    go_enter Try.func13, Try.ntmps13
    go_upto_region 2 with (go_at_call 25; refine Calls.mono HPC.out ?_; rintro e w2 ⟨rfl, hk⟩; have HK : Hid (Mp B w w2 r s1) := hk; clear hk)
    go_loopg [3] (if b then s1.ws.length + 1 else 0) (fun gm v3 wr => ∃ (b : Bool) (n : Nat) (s' : Rs), v3 = .bool b ∧ Hid (gm = if b then n + 1 else 0) ∧ Hid ((b = true → rdC n s' = R ∧ s'.ws.length ≤ n ∧ s'.ns.length ≤ 32 ∧ s'.cs.length ≤ 16) ∧ (b = false → R = (false, s'))) ∧ Hid (Mp B w wr r s'))
    case atStart => exact ⟨b, s1.ws.length, s1, rfl, rfl, ⟨fun hb => ⟨(HS1.out.1 hb).1, Nat.le_refl _, (HS1.out.1 hb).2⟩, HS1.out.2⟩, HK⟩
    case round =>
      clear HS1 HK HPC
      obtain ⟨b, n, s', rfl, HG, HS, HM⟩ := hrel
      obtain ⟨vn, vc, hr⟩ := HM.out.rq
      have HR : Hid (Rq B wr r vn vc s') := hr
      obtain ⟨g, o, m, cp, k0, _, _, _, hm, hn, _⟩ := hr.open
      clear hr
      cases b with
      | false =>
        have hR := HS.out.2 rfl
        subst hR
        clear hm hn
        go_wp2_with fail
        go_ret
        exact ⟨rfl, HM.out⟩
      | true =>
        obtain ⟨hR, hle, hl1, hl2⟩ := HS.out.1 rfl
        obtain ⟨n, rfl⟩ : ∃ k, n = k + 1 := ⟨n - 1, by omega⟩
        unfold rdC at hR
        by_cases h1 : s'.ws.length ≤ 1
        · rw [if_pos h1] at hR
          subst hR
          have d1 : decide ((1 : Int) < (m : Int)) = false := by rw [decide_eq_false_iff_not]; omega
          have d2 : decide (1 < m) = false := by rw [decide_eq_false_iff_not]; omega
          clear h1 hm hn hle hl1 hl2
          go_wp2_with fail
          go_ret
          exact ⟨rfl, HM.out⟩
        · rw [if_neg h1] at hR
          have d1 : decide ((1 : Int) < (m : Int)) = true := by rw [decide_eq_true_eq]; omega
          have d2 : decide (1 < m) = true := by rw [decide_eq_true_eq]; omega
          have HC : Hid _ := cond_any wr HR.out hl1 hl2
          have HLE : Hid (s'.ws.length ≤ n + 1 ∧ 0 < s'.ws.length ∧ s'.ns.length ≤ 32 ∧ s'.cs.length ≤ 16) := ⟨hle, by omega, hl1, hl2⟩
          clear h1 hm hn hle hl1 hl2 HS
          cases hq : cnd s' with
          | mk b2 s2 =>
            rw [hq] at HC hR
            have HS2 : Hid ((b2 = true → rdC n s2 = R ∧ s2.ws.length ≤ n ∧ s2.ns.length ≤ 32 ∧ s2.cs.length ≤ 16) ∧ (b2 = false → R = (false, s2))) := by
              cases b2 with
              | false => exact ⟨fun h => by simp at h, fun _ => hR.symm⟩
              | true =>
                obtain ⟨q1, q2, q3, q4⟩ := cnd_more hq HLE.out.2.1
                refine ⟨fun _ => ⟨hR, by have := HLE.out.1; omega, by rw [q2]; exact HLE.out.2.2.1, by have := HLE.out.2.2.2; omega⟩, fun h => by simp at h⟩
            clear hq hR
            go_wp2_with (go_at_call 26; refine Calls.mono HC.out ?_; rintro e w5 ⟨rfl, hk⟩; have HK5 : Hid (Mp B w w5 r s2) := HM.out.step hk; clear hk)
            go_roundg (if b2 then n + 1 else 0)
            case measure => have := HG.out; simp only [if_true] at this; split <;> omega
            case rel => exact ⟨b2, n, s2, rfl, rfl, HS2, HK5⟩
end Go.Proofs.Ythfijmabagjdkaa.Qy
