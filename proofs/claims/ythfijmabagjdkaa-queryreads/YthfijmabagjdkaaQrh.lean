import Derived.Test.YthfijmabagjdkaaQrg
namespace Go.Proofs.Ythfijmabagjdkaa.Qy
open Go.RowKit Go.Maps

/-- The reader, and a condition in a block of its own. -/
structure Cb (B : Nat) (W : World) (r cb : Nat) (vn vc : Value) (s : Rs) (c : Cd) : Prop where
  rq : Rq B W r vn vc s
  bk : W.heap[cb]? = some (.cells #[.bool c.nt, .string c.a, .string c.b, .string c.tx] 48 (0, 0))
  ne : vc.ownBlock ≠ some cb
  lt : B ≤ cb
theorem Cb.far {B : Nat} {W : World} {r cb : Nat} {vn vc : Value} {s : Rs} {c : Cd} (h : Cb B W r cb vn vc s c) : cb ≠ r := by
  obtain ⟨vl, h1, _⟩ := h.rq.blk
  rintro rfl
  have h2 := h.bk
  rw [h1] at h2
  cases h2
theorem Cb.kp {B : Nat} {w w' : World} {r cb : Nat} {vn vc : Value} {s s' : Rs} {c : Cd} (h : Cb B w r cb vn vc s c) (k : Kp B w w' r vn vc s') : Cb B w' r cb vn vc s' c :=
  ⟨k.1, (k.2.block cb (lt_of_heap h.bk) (fun e => h.far (by injection e))).trans h.bk, h.ne, h.lt⟩
theorem Cb.set {B : Nat} {W : World} {r cb : Nat} {vn vc : Value} {s : Rs} {c : Cd} (h : Cb B W r cb vn vc s c) (j : Nat) (x : Value) (c' : Cd) (hx : (#[Value.bool c.nt, .string c.a, .string c.b, .string c.tx] : Array Value).setIfInBounds j x = #[.bool c'.nt, .string c'.a, .string c'.b, .string c'.tx]) : Cb B (W.setCell ⟨cb, j, none⟩ x) r cb vn vc s c' := by
  obtain ⟨vl, h1, h2⟩ := h.rq.blk
  have hb : Below B W (W.setCell ⟨cb, j, none⟩ x) := Below.setCell (Below.refl _ _) h.lt _
  exact ⟨⟨h.rq.lt, ⟨vl, by rw [heap_far (fun e => h.far e.symm)]; exact h1, h2.up hb⟩, (row_off h.bk h.rq.ns (by decide)).1, h.rq.cs.kept grown_set (.inr h.ne), h.rq.wk⟩, by rw [blk_set _ h.bk, hx], h.ne, h.lt⟩
theorem Cb.up {B : Nat} {W W' : World} {r cb : Nat} {vn vc : Value} {s : Rs} {c : Cd} (h : Cb B W r cb vn vc s c) (hb : Below W.heap.size W W') : Cb B W' r cb vn vc s c := h.kp ((Kp.refl h.rq).up hb)
/-- A name put into the condition. -/
theorem Cb.name {B : Nat} {w w' : World} {r cb j : Nat} {vn vc : Value} {s s1 : Rs} {c : Cd} (h : Cb B w r cb vn vc s c) (k : Cnp B w w' r vn vc ⟨cb, j, none⟩ s true) (hq : cnm s true = (true, s1)) (c' : Cd) (hx : (#[Value.bool c.nt, .string c.a, .string c.b, .string c.tx] : Array Value).setIfInBounds j (.string (bs (hd s).t)) = #[.bool c'.nt, .string c'.a, .string c'.b, .string c'.tx]) : Cb B w' r cb vn vc s1 c' ∧ Below B w w' := by
  unfold Cnp at k
  rw [hq] at k
  obtain ⟨W2, vl, b2, l2, wk2, rfl, rfl⟩ := k
  have h2 := (h.up b2).set j (.string (bs (hd s).t)) c' hx
  have hbl : Below B W2 (W2.setCell ⟨cb, j, none⟩ (.string (bs (hd s).t))) := Below.setCell (Below.refl _ _) h.lt _
  have h3 := h2.kp ((Kp.refl h2.rq).set0 (l2.up hbl) wk2)
  exact ⟨h3, Below.setCell ((b2.mono h.rq.size.1).trans hbl) h.rq.lt _⟩
set_option maxRecDepth 100000 in
set_option maxHeartbeats 8000000 in
theorem other_any {B r cb : Nat} {vn vc : Value} {s : Rs} (nt : Bool) (a : ByteArray) (w : World) (h : Cb B w r cb vn vc s ⟨nt, a, ⟨#[]⟩, ⟨#[]⟩⟩) (hl : s.ns.length ≤ 32) : Calls Try.prog 50 #[.pointer (some ⟨r, 0, none⟩), .pointer (some ⟨cb, 0, none⟩)] w fun e w' => e = .returned (.bool (oth s).1) ∧ Cb B w' r cb vn vc (oth s).2.1 ⟨nt, a, (oth s).2.2.1, (oth s).2.2.2⟩ ∧ Below B w w' := by
  have HH : Hid (Cb B w r cb vn vc s ⟨nt, a, ⟨#[]⟩, ⟨#[]⟩⟩) := h
  have HB0 : Hid (B ≤ w.heap.size) := h.rq.size.1
  obtain ⟨g, o, m, cp, k0, _, _, _, _, hn, hcp, c0, c1, _, _, ht⟩ := h.rq.open
  have d1 : (0 : Int) < (m : Int) := by omega
  have d0 : 0 < m := hn
  by_cases hk : (hd s).k = 2
  · have e1 : oth s = (true, tl s, ⟨#[]⟩, bs (hd s).t) := by unfold oth; rw [if_pos hk]
    rw [e1]
    have HT : Hid _ := ht (by omega)
    rw [hk] at c0
    have t3 : w.cell? ⟨cb, 3, none⟩ = some (.string ⟨#[]⟩) := rcell h.bk 3 _ rfl
    have f3 := Lib.frozen_of_heap h.bk 3
    clear h hl ht hk e1 hn
    go_enter Try.func50, Try.ntmps50
    go_upto_region 4 with fail
    obtain ⟨W2, hW2⟩ : ∃ W2, W2 = w.setCell ⟨cb, 3, none⟩ (.string ⟨(hd s).t.toArray⟩) := ⟨_, rfl⟩
    have HC2 : Hid (Cb B W2 r cb vn vc s ⟨nt, a, ⟨#[]⟩, bs (hd s).t⟩) := by rw [hW2]; exact HH.out.set 3 _ ⟨nt, a, ⟨#[]⟩, bs (hd s).t⟩ rfl
    have HB2 : Hid (Below B w W2) := by rw [hW2]; exact Below.setCell (Below.refl _ _) HH.out.lt _
    have HLw : Hid (Lw B W2 (.slice (some ⟨g, o + 4, none⟩) (m - 1) (cp - 1)) (tl s).ws) := HT.out.2.2.up HB2.out
    have j0 : W2.cell? ⟨r, 0, none⟩ = some (.slice (some ⟨g, o, none⟩) m cp) := by rw [hW2]; exact cell_keep k0 (fun e => HH.out.far e.symm)
    rw [← hW2]
    have f0 := HC2.out.rq.froz 0
    have d2 : (1 : Int) ≤ (m : Int) := by omega
    have d3 : 1 ≤ m := by omega
    have d4 : ¬ cp = 1 := by have := HT.out.1; omega
    clear hW2 k0 c0 c1 t3 f3
    go_wp2_with fail
    go_ret
    exact ⟨rfl, HC2.out.kp ((Kp.refl HC2.out.rq).set0 HLw.out HT.out.2.1), Below.setCell HB2.out HC2.out.rq.lt _⟩
  · have HM : Hid _ := must_any [64] w h.rq
    have d5 : ((hd s).k == 2) = false := by simpa using hk
    obtain ⟨R, hR⟩ : ∃ R, oth s = R := ⟨_, rfl⟩
    rw [hR]
    unfold oth at hR
    rw [if_neg hk] at hR
    have HL : Hid (s.ns.length ≤ 32) := hl
    clear h hl ht hk hn hcp
    cases hq : mst s [64] with
    | mk b s1 =>
      rw [hq] at HM hR
      cases b with
      | false =>
        simp only at hR
        subst hR
        clear hq
        go_enter Try.func50, Try.ntmps50
        go_wp2_with (go_at_call 48; refine Calls.mono HM.out ?_; rintro e w2 ⟨rfl, hk⟩; have HK : Hid (Kp B w w2 r vn vc s1) := hk; clear hk)
        go_ret
        exact ⟨rfl, HH.out.kp HK.out, HK.out.bel HB0.out⟩
      | true =>
        simp only at hR
        have HS1 : Hid (s1 = tl s) := by
          unfold mst at hq
          split at hq
          · simp only [Prod.mk.injEq, true_and] at hq; exact hq.symm
          · simp at hq
        have HCT : Hid (∀ w2, Cb B w2 r cb vn vc s1 ⟨nt, a, ⟨#[]⟩, ⟨#[]⟩⟩ → Calls Try.prog 49 #[.pointer (some ⟨r, 0, none⟩), .pointer (some ⟨cb, 2, none⟩), .bool true] w2 fun e w' => e = .returned (.bool (cnm s1 true).1) ∧ Cnp B w2 w' r vn vc ⟨cb, 2, none⟩ s1 true) := fun w2 h2 =>
          captureName_any (old := .string ⟨#[]⟩) true w2 h2.rq (by have := HL.out; rw [HS1.out]; show s.ns.length ≤ _; omega) h2.far h2.bk rfl
        clear hq
        cases hq2 : cnm s1 true with
        | mk b s2 =>
          rw [hq2] at HCT hR
          cases b with
          | false =>
            simp only at hR HCT
            subst hR
            have HQ2 : Hid (cnm s1 true = (false, s2)) := hq2
            clear hq2
            go_enter Try.func50, Try.ntmps50
            go_wp2_with first | (go_at_call 48; refine Calls.mono HM.out ?_; rintro e w2 ⟨rfl, hk⟩; have HK : Hid (Kp B w w2 r vn vc s1) := hk; clear hk) | (go_at_call 49; refine Calls.mono (HCT.out _ (HH.out.kp HK.out)) ?_; rintro e w3 ⟨rfl, hk⟩; have HK3 : Hid (Kp B w w3 r vn vc s2) := (by unfold Cnp at hk; rw [HQ2.out] at hk; exact HK.out.trans hk); clear hk)
            go_ret
            exact ⟨rfl, HH.out.kp HK3.out, HK3.out.bel HB0.out⟩
          | true =>
            simp only at hR HCT
            subst hR
            have HQ2 : Hid (cnm s1 true = (true, s2)) := hq2
            clear hq2
            go_enter Try.func50, Try.ntmps50
            go_wp2_with first | (go_at_call 48; refine Calls.mono HM.out ?_; rintro e w2 ⟨rfl, hk⟩; have HK : Hid (Kp B w w2 r vn vc s1) := hk; clear hk) | (go_at_call 49; refine Calls.mono (HCT.out _ (HH.out.kp HK.out)) ?_; rintro e w3 ⟨rfl, hk⟩; have HK3 : Hid (Cb B w3 r cb vn vc s2 ⟨nt, a, bs (hd s1).t, ⟨#[]⟩⟩ ∧ Below B w2 w3) := (HH.out.kp HK.out).name hk HQ2.out ⟨nt, a, bs (hd s1).t, ⟨#[]⟩⟩ rfl; clear hk)
            go_ret
            exact ⟨rfl, HK3.out.1, (HK.out.bel HB0.out).trans HK3.out.2⟩
end Go.Proofs.Ythfijmabagjdkaa.Qy
