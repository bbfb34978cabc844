import Derived.Test.YthfijmabagjdkaaQrd
import Derived.Test.YthfijmabagjdkaaQrp
namespace Go.Proofs.Ythfijmabagjdkaa.Qy
open Go.RowKit Go.Maps

set_option maxRecDepth 100000 in
set_option maxHeartbeats 8000000 in
theorem capture_any {B r : Nat} {vn vc : Value} {s : Rs} (i : Nat) (w : World) (h : Rq B w r vn vc s) (hl : s.ns.length ≤ 1000000000000000) (hi : i < s.ns.length) : Calls Try.prog 46 #[.pointer (some ⟨r, 0, none⟩), .int .i64 (i : Int)] w fun e w' => e = .returned (.bool (cpt s i).1) ∧ Mp B w w' r (cpt s i).2 := by
  have HC : Hid _ := takes_any [64] w h
  have HR : Hid (Rq B w r vn vc s) := h
  have HB0 : Hid (B ≤ w.heap.size) := h.size.1
  cases hA : se s 5 [64] with
  | false =>
    have e1 : cpt s i = (true, s) := by unfold cpt; rw [hA]; rfl
    have e2 : tk s [64] = s := by unfold tk; rw [hA]; rfl
    rw [e1]
    rw [hA, e2] at HC
    clear h hl hi hA e1 e2
    go_enter Try.func46, Try.ntmps46
    go_wp2_with (go_at_call 58; refine Calls.mono HC.out ?_; rintro e w2 ⟨rfl, hk⟩; have HK : Hid _ := hk; clear hk)
    go_ret
    exact ⟨rfl, HK.out.mp HB0.out⟩
  | true =>
    have e2 : tk s [64] = tl s := by unfold tk; rw [hA]; rfl
    rw [hA, e2] at HC
    obtain ⟨g, c, rfl, hg, _, hc, _⟩ := h.row i hi
    obtain ⟨n, hn⟩ : ∃ n, s.ns.length = n := ⟨_, rfl⟩
    rw [hn] at HC HR hi hc hl
    have HN : Hid (s.ns.length = n) := hn
    have HI : Hid (i < n) := hi
    have HL : Hid (n ≤ 1000000000000000) := hl
    have HG : Hid (B ≤ g) := hg
    have HCT : Hid (∀ w2, Rq B w2 r (.slice (some ⟨g, 0, none⟩) n c) vc (tl s) → Calls Try.prog 49 #[.pointer (some ⟨r, 0, none⟩), .pointer (some ⟨g, i * 5 + 3, none⟩), .bool false] w2 fun e w' => e = .returned (.bool (cnm (tl s) false).1) ∧ Cnp B w2 w' r (.slice (some ⟨g, 0, none⟩) n c) vc ⟨g, i * 5 + 3, none⟩ (tl s) false) := fun w2 h2 => by
      obtain ⟨g', c', e, _, ⟨cur, hcur⟩, _, _, _, _, q3, _, _, hgr⟩ := h2.row i (by show i < s.ns.length; rw [HN.out]; exact HI.out)
      obtain ⟨e1, e2, e3⟩ := Value.slice.inj e
      have e4 := Option.some.inj e1
      injection e4 with e5
      subst e5
      refine captureName_any (old := .string (s.ns.getD i pz).cp) false w2 h2 (by show s.ns.length ≤ _; rw [HN.out]; exact HL.out) hgr hcur ?_
      rw [Lib.cell_of_heap hcur] at q3
      exact q3
    have d1 : (i : Int) < (n : Int) := by omega
    have hcpt : cpt s i = match cnm (tl s) false with
      | (true, s1) => (true, upN s1 i fun p => { p with cp := bs (hd (tl s)).t })
      | (false, s1) => (false, s1) := by unfold cpt; rw [hA]; rfl
    unfold Cnp at HCT
    cases hq : cnm (tl s) false with
    | mk b s1 =>
      rw [hq] at HCT hcpt
      cases b with
      | false =>
        simp only at hcpt HCT
        rw [hcpt]
        clear h hl hi hA e2 hg hc hn hq hcpt
        go_enter Try.func46, Try.ntmps46
        go_wp2_with first | (go_at_call 58; refine Calls.mono HC.out ?_; rintro e w2 ⟨rfl, hk⟩; have HK : Hid _ := hk; obtain ⟨_, _, _, _, _, k1, _⟩ := hk.1.open; clear hk) | (go_at_call 49; refine Calls.mono (HCT.out _ HK.out.1) ?_; rintro e w3 ⟨rfl, hk⟩; have HK3 : Hid _ := HK.out.trans hk; clear hk)
        go_ret
        exact ⟨rfl, HK3.out.mp HB0.out⟩
      | true =>
        simp only at hcpt HCT
        rw [hcpt]
        clear h hl hi hA e2 hg hc hn hcpt
        go_enter Try.func46, Try.ntmps46
        go_wp2_with first | (go_at_call 58; refine Calls.mono HC.out ?_; rintro e w2 ⟨rfl, hk⟩; have HK : Hid _ := hk; obtain ⟨_, _, _, _, _, k1, _⟩ := hk.1.open; clear hk) | (go_at_call 49; refine Calls.mono (HCT.out _ HK.out.1) ?_; rintro e w3 ⟨rfl, hk⟩; have HK3 : Hid _ := hk; clear hk)
        go_ret
        obtain ⟨W2, vl, b2, l2, wk2, rfl, rfl⟩ := HK3.out
        have hr2 := HK.out.1.up b2
        have hr3 := hr2.setN i 3 (.string (bs (hd (tl s)).t)) (fun p => { p with cp := bs (hd (tl s)).t }) (by show i < s.ns.length; rw [HN.out]; exact HI.out) (by omega) rfl
        have hbl : Below B W2 (W2.setCell ⟨g, i * 5 + 3, none⟩ (.string (bs (hd (tl s)).t))) := Below.setCell (Below.refl _ _) HG.out _
        have hr4 := hr3.set0 (l2.up hbl) wk2
        refine ⟨rfl, ⟨_, _, hr4⟩, ?_⟩
        have hb1 := HK.out.bel HB0.out
        have hs2 := HK.out.1.size.1
        exact Below.setCell ((hb1.trans (b2.mono hs2)).trans hbl) hr3.lt _
/-- A node's name is read. -/
def nmS (s : Rs) (i : Nat) : Bool × Rs := if (hd s).k ≠ 1 then (false, fl s 200) else (true, tl (if nmA s then upN s i fun p => { p with nm := bs (hd s).t } else s))
set_option maxRecDepth 100000 in
set_option maxHeartbeats 8000000 in
theorem name_any {B r : Nat} {vn vc : Value} {s : Rs} (i : Nat) (w : World) (h : Rq B w r vn vc s) (hi : i < s.ns.length) : Calls Try.prog 56 #[.pointer (some ⟨r, 0, none⟩), .int .i64 (i : Int)] w fun e w' => e = .returned (.bool (nmS s i).1) ∧ Mp B w w' r (nmS s i).2 := by
  have HC : Hid _ := nameAhead_any w h
  have HR : Hid (Rq B w r vn vc s) := h
  have HB0 : Hid (B ≤ w.heap.size) := h.size.1
  obtain ⟨g, o, n, cp, k0, k1, k2, k3, _, hn, hcp, c0, c1, c2, c3, ht⟩ := h.open
  have d1 : (0 : Int) < (n : Int) := by omega
  by_cases hk : (hd s).k = 1
  · have HK1 : Hid ((hd s).k = 1) := hk
    have HT : Hid _ := ht (by omega)
    have e1 : nmS s i = (true, tl (if nmA s then upN s i fun p => { p with nm := bs (hd s).t } else s)) := by unfold nmS; rw [if_neg (by omega)]
    rw [e1]
    rw [hk] at c0
    have f0 := h.froz 0
    have d2 : (1 : Int) ≤ (n : Int) := by omega
    have d3 : 1 ≤ n := by omega
    have d4 : ¬ cp = 1 := by have := HT.out.1; omega
    cases hA : nmA s with
    | false =>
      rw [hA] at HC
      rw [if_neg (by decide)]
      clear h hi ht hk e1 hA k1 k2 k3 c1 c2 c3 hn
      go_enter Try.func56, Try.ntmps56
      go_wp2_with (go_at_call 55; refine Calls.mono HC.out ?_; rintro e w2 ⟨rfl, rfl⟩)
      go_ret
      exact ⟨rfl, ((Kp.refl HR.out).set0 HT.out.2.2 HT.out.2.1).mp HB0.out⟩
    | true =>
      rw [hA] at HC
      rw [if_pos rfl]
      obtain ⟨g2, cc, rfl, hg, ⟨cur, hcur⟩, hc, q0, _, _, _, _, qf, hgr⟩ := h.row i hi
      obtain ⟨m, hm⟩ : ∃ m, s.ns.length = m := ⟨_, rfl⟩
      rw [hm] at HR hi hc k1
      have HM : Hid (s.ns.length = m ∧ i < m ∧ B ≤ g2 ∧ g2 ≠ r) := ⟨hm, hi, hg, hgr⟩
      have qf0 := qf (i * 5)
      have b1 : (i : Int) < (m : Int) := by omega
      have b2 : i < m := hi
      clear h ht hk e1 hA k2 k3 c2 c3 hn hcur hm hgr hg qf hc
      go_enter Try.func56, Try.ntmps56
      go_upto_region 4 with (go_at_call 55; refine Calls.mono HC.out ?_; rintro e w2 ⟨rfl, rfl⟩)
      have j0 : w.drew.cell? ⟨r, 0, none⟩ = some (.slice (some ⟨g, o, none⟩) n cp) := k0
      have j1 : w.drew.cell? ⟨r, 1, none⟩ = some (.slice (some ⟨g2, 0, none⟩) m cc) := k1
      have j2 : w.drew.cell? ⟨g, o + 1, none⟩ = some (.string ⟨(hd s).t.toArray⟩) := c1
      have j3 : w.drew.cell? ⟨g2, i * 5, none⟩ = some (.string (s.ns.getD i pz).nm) := q0
      have j4 : w.drew.frozen? ⟨g2, i * 5, none⟩ = false := qf0
      go_region
      obtain ⟨W4, hW4⟩ : ∃ W4, W4 = (w.setCell ⟨g2, i * 5, none⟩ (.string ⟨(hd s).t.toArray⟩)).drew := ⟨_, rfl⟩
      have HR4 : Hid (Rq B W4 r (.slice (some ⟨g2, 0, none⟩) m cc) vc (upN s i fun p => { p with nm := bs (hd s).t })) := by rw [hW4]; exact (HR.out.setN i 0 (.string ⟨(hd s).t.toArray⟩) (fun p => { p with nm := bs (hd s).t }) (by rw [HM.out.1]; exact HM.out.2.1) (by omega) rfl).drew
      have HB4 : Hid (Below B w W4) := by rw [hW4]; exact Below.drew (Below.setCell (Below.refl _ _) HM.out.2.2.1 _)
      rw [← hW4]
      clear hW4 j0 j1 j2 j3 j4 k0 k1 c0 c1 q0 qf0 f0 d1 d2 d3 d4 HT hcp
      obtain ⟨g, o, n, cp, k0, _, _, _, _, hn, hcp, _, _, _, _, ht⟩ := HR4.out.open
      have HT : Hid _ := ht (by show (hd s).k ≠ 0; rw [HK1.out]; decide)
      have f0 := HR4.out.froz 0
      have d2 : (1 : Int) ≤ (n : Int) := by omega
      have d3 : 1 ≤ n := by omega
      have d4 : ¬ cp = 1 := by have := HT.out.1; omega
      clear ht hn
      go_wp2_with fail
      go_ret
      exact ⟨rfl, ⟨_, _, HR4.out.set0 HT.out.2.2 HT.out.2.1⟩, Below.setCell HB4.out HR4.out.lt _⟩
  · have e1 : nmS s i = (false, fl s 200) := by unfold nmS; rw [if_pos hk]
    rw [e1]
    have d5 : ((hd s).k == 1) = false := by simpa using hk
    clear h hi ht hk e1 k1 k2 k3 c1 c2 c3 hn
    go_enter Try.func56, Try.ntmps56
    go_wp2_with (go_at_call 44; refine (fail_any 200 _ HR.out).mono ?_; rintro e w3 ⟨rfl, hk⟩; have HK3 : Hid _ := hk; clear hk)
    go_ret
    exact ⟨rfl, HK3.out.mp HB0.out⟩
end Go.Proofs.Ythfijmabagjdkaa.Qy
