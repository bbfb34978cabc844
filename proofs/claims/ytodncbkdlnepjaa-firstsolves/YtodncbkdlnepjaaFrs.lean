import Derived.Test.YtodncbkdlnepjaaFrr
namespace Go.Proofs.Ytodncbkdlnepjaa
open Go.RowKit Go.Maps

theorem grown_below {w w' : World} {r : Option Nat} (h : Below w.heap.size w w') : w.grownBy w' r := ⟨h.os, h.tape, h.output, h.size, fun k hk _ => h.block k hk⟩
theorem below_grown {w0 w w' : World} {b : Nat} (h : Below w0.heap.size w0 w) (hb : w0.heap.size ≤ b) (hg : w.grownBy w' (some b)) : Below w0.heap.size w0 w' := h.grown hg h.size (fun k e => by cases e; exact hb)
/-- How many are not marked. -/
def un (Nk : Nat) (Q : Nat → Bool) : Nat := (List.range Nk).countP fun j => !Q j
theorem un_lt {Nk : Nat} {Q R : Nat → Bool} (h : ble Q R) {x : Nat} (hx : x < Nk) (h0 : Q x = false) (h1 : R x = true) : un Nk R < un Nk Q := by
  unfold un
  refine countP_lt (List.range Nk) (fun j _ hj => ?_) x (List.mem_range.2 hx) (by rw [h1]; rfl) (by rw [h0]; rfl)
  cases e : Q j with
  | false => rfl
  | true => rw [h j e] at hj; cases hj
theorem mrk_up (Q : Nat → Bool) (x : Nat) : ble Q (mrk Q x) := fun z h => by unfold mrk; rw [h]; rfl
theorem mrk_self (Q : Nat → Bool) (x : Nat) : mrk Q x x = true := by unfold mrk; rw [decide_eq_true rfl, Bool.or_true]
theorem mrk_ne (Q : Nat → Bool) {x z : Nat} (h : z ≠ x) : mrk Q x z = Q z := by unfold mrk; rw [decide_eq_false h, Bool.or_false]
theorem ble.trans {a b c : Nat → Bool} (h : ble a b) (k : ble b c) : ble a c := fun x hx => k x (h x hx)
/-- The search, under way in a row. -/
structure Lp (nl : Nat → Bool) (nT : Nat) (P : List Pd) (l : List Rf) (Q : Nat → Bool) (i : Nat) (R : Nat → Bool) : Prop where
  up : ble Q R
  pre : ∀ R', ble R R' → lin nl R' (syl (l.drop i)) → lin nl R' (syl l)
  cl : ∀ p ∈ P, 0 ≤ p.1 → R (nT + p.1.toNat) = true → Q (nT + p.1.toNat) = false → lin nl R (syl p.2.2)
  re : ∀ z, R z = true → Q z = true ∨ Rch nl nT P (syl l) z
  re2 : ∀ z, Rch nl nT P (syl (l.drop i)) z → Rch nl nT P (syl l) z
/-- The search, under way in the productions of a symbol. -/
structure Li (nl : Nat → Bool) (nT : Nat) (P : List Pd) (l : List Rf) (Q R : Nat → Bool) (x j : Nat) (S : Nat → Bool) : Prop where
  up : ble (mrk R x) S
  cl : ∀ p ∈ P, 0 ≤ p.1 → S (nT + p.1.toNat) = true → Q (nT + p.1.toNat) = false → nT + p.1.toNat ≠ x → lin nl S (syl p.2.2)
  cx : ∀ p ∈ P.take j, 0 ≤ p.1 → nT + p.1.toNat = x → lin nl S (syl p.2.2)
  re : ∀ z, S z = true → Q z = true ∨ Rch nl nT P (syl l) z
theorem Lp.start (nl : Nat → Bool) (nT : Nat) (P : List Pd) (l : List Rf) (Q : Nat → Bool) : Lp nl nT P l Q 0 Q :=
  ⟨fun _ h => h, fun _ _ h => (by rw [List.drop_zero] at h; exact h), fun p _ _ h k => (by rw [h] at k; cases k), fun _ h => Or.inl h, fun _ h => (by rw [List.drop_zero] at h; exact h)⟩
theorem Lp.next {nl : Nat → Bool} {nT : Nat} {P : List Pd} {l : List Rf} {Q R : Nat → Bool} {i x : Nat} (h : Lp nl nT P l Q i R) (hd : syl (l.drop i) = x :: syl (l.drop (i + 1))) (hx : R x = true) (hn : nl x = true) : Lp nl nT P l Q (i + 1) R :=
  ⟨h.up, fun R' hR k => h.pre R' hR (by rw [hd]; exact ⟨hR x hx, fun _ => k⟩), h.cl, h.re, fun z k => h.re2 z (by rw [hd]; exact Rch.skip hn k)⟩
theorem Lp.done {nl : Nat → Bool} {nT : Nat} {P : List Pd} {l : List Rf} {Q R : Nat → Bool} {i x : Nat} (h : Lp nl nT P l Q i R) (hd : syl (l.drop i) = x :: syl (l.drop (i + 1))) (hx : R x = true) (hn : nl x = false) : Ld nl nT P (syl l) Q R :=
  ⟨h.up, h.pre R (fun _ h => h) (by rw [hd]; exact ⟨hx, fun k => (by rw [hn] at k; cases k)⟩), h.cl, h.re⟩
theorem Lp.all {nl : Nat → Bool} {nT : Nat} {P : List Pd} {l : List Rf} {Q R : Nat → Bool} (h : Lp nl nT P l Q l.length R) : Ld nl nT P (syl l) Q R :=
  ⟨h.up, h.pre R (fun _ h => h) (by rw [List.drop_length]; trivial), h.cl, h.re⟩
theorem Lp.mark {nl : Nat → Bool} {nT : Nat} {P : List Pd} {l : List Rf} {Q R : Nat → Bool} {i x : Nat} (h : Lp nl nT P l Q i R) (hd : syl (l.drop i) = x :: syl (l.drop (i + 1))) : Li nl nT P l Q R x 0 (mrk R x) :=
  ⟨fun _ h => h, fun p hp h0 h1 h2 h3 => lin_mono (mrk_up R x) _ (h.cl p hp h0 (by rw [mrk_ne R h3] at h1; exact h1) h2), fun p hp => (by cases hp), fun z hz => by
    by_cases e : z = x
    · subst e
      exact Or.inr (h.re2 _ (by rw [hd]; exact Rch.here _ _))
    · rw [mrk_ne R e] at hz
      exact h.re z hz⟩
theorem Li.skip {nl : Nat → Bool} {nT : Nat} {P : List Pd} {l : List Rf} {Q R S : Nat → Bool} {x j : Nat} (h : Li nl nT P l Q R x j S) (hj : j < P.length) (hx : ¬ (0 ≤ (P.getD j pfd).1 ∧ nT + (P.getD j pfd).1.toNat = x)) : Li nl nT P l Q R x (j + 1) S :=
  ⟨h.up, h.cl, fun p hp h0 h1 => by
    rw [take_getD P pfd j hj, List.mem_append, List.mem_singleton] at hp
    rcases hp with hp | rfl
    · exact h.cx p hp h0 h1
    · exact absurd ⟨h0, h1⟩ hx, h.re⟩
theorem Li.call {nl : Nat → Bool} {nT : Nat} {P : List Pd} {l : List Rf} {Q R S U : Nat → Bool} {x i j : Nat} (h : Li nl nT P l Q R x j S) (hp : Lp nl nT P l Q i R) (hd : syl (l.drop i) = x :: syl (l.drop (i + 1))) (hj : j < P.length) (h0 : 0 ≤ (P.getD j pfd).1) (hx : nT + (P.getD j pfd).1.toNat = x) (k : Ld nl nT P (syl (P.getD j pfd).2.2) S U) : Li nl nT P l Q R x (j + 1) U :=
  ⟨h.up.trans k.up, fun p hp h0 h1 h2 h3 => by
    cases e : S (nT + p.1.toNat) with
    | true => exact lin_mono k.up _ (h.cl p hp h0 e h2 h3)
    | false => exact k.cl p hp h0 h1 e, fun p hp h0 h1 => by
    rw [take_getD P pfd j hj, List.mem_append, List.mem_singleton] at hp
    rcases hp with hp | rfl
    · exact lin_mono k.up _ (h.cx p hp h0 h1)
    · exact k.row, fun z hz => by
    rcases k.re z hz with e | e
    · exact h.re z e
    · refine Or.inr (hp.re2 z ?_)
      rw [hd, ← hx]
      exact Rch.down (mem_getD hj pfd) h0 e⟩
theorem Li.done {nl : Nat → Bool} {nT : Nat} {P : List Pd} {l : List Rf} {Q R S : Nat → Bool} {x i : Nat} (h : Li nl nT P l Q R x P.length S) (hp : Lp nl nT P l Q i R) : Lp nl nT P l Q i S :=
  ⟨hp.up.trans ((mrk_up R x).trans h.up), fun R' hR k => hp.pre R' (((mrk_up R x).trans h.up).trans hR) k, fun p hp h0 h1 h2 => by
    by_cases e : nT + p.1.toNat = x
    · exact h.cx p (by rw [List.take_length]; exact hp) h0 e
    · exact h.cl p hp h0 h1 h2 e, h.re, hp.re2⟩
theorem Li.at {nl : Nat → Bool} {nT : Nat} {P : List Pd} {l : List Rf} {Q R S : Nat → Bool} {x j : Nat} (h : Li nl nT P l Q R x j S) : S x = true := h.up x (mrk_self R x)

set_option maxRecDepth 100000 in
set_option maxHeartbeats 16000000 in
theorem leads_any {v0 v1 v2 vn : Value} {nT nS Nk : Nat} {P : List Pd} {nl : Nat → Bool} (w0 : World) (hg : Gm w0 v0 v1 v2 nT nS P) (hz : Gz nT nS P) (hs : snd nT nS P = true) (hn : Bq w0 vn Nk nl) (hK : nT + nS = Nk) (b : Nat) (hb : w0.heap.size ≤ b) : ∀ (N : Nat) (w : World) (v : Value) (l : List Rf) (Q : Nat → Bool), Below w0.heap.size w0 w → w.heap[b]? = some (.cells (qC Nk Q).toArray 4 (0, 0)) → Rw w0 v l.length (flat rf l) → l.length * 40 + 4096 ≤ 140737488355328 → wth Nk l = true → un Nk Q < N →
    Calls Try.prog 44 #[.agg #[v0, v1, v2], vn, v, .slice (some ⟨b, 0, none⟩) Nk Nk] w fun e w' => ∃ R, e = .returned (.slice (some ⟨b, 0, none⟩) Nk Nk) ∧ w'.heap[b]? = some (.cells (qC Nk R).toArray 4 (0, 0)) ∧ Ld nl nT P (syl l) Q R ∧ w.grownBy w' (some b) := by
  intro N
  induction N with
  | zero => intro w v l Q _ _ _ _ _ h; exact absurd h (Nat.not_lt_zero _)
  | succ N ih =>
  intro w v l Q hbw hq hr hl hw hN
  have IH : Hid (∀ (w : World) (v : Value) (l : List Rf) (Q : Nat → Bool), Below w0.heap.size w0 w → w.heap[b]? = some (.cells (qC Nk Q).toArray 4 (0, 0)) → Rw w0 v l.length (flat rf l) → l.length * 40 + 4096 ≤ 140737488355328 → wth Nk l = true → un Nk Q < N → Calls Try.prog 44 #[.agg #[v0, v1, v2], vn, v, .slice (some ⟨b, 0, none⟩) Nk Nk] w fun e w' => ∃ R, e = .returned (.slice (some ⟨b, 0, none⟩) Nk Nk) ∧ w'.heap[b]? = some (.cells (qC Nk R).toArray 4 (0, 0)) ∧ Ld nl nT P (syl l) Q R ∧ w.grownBy w' (some b)) := ih
  clear ih
  have HG : Hid (Gm w0 v0 v1 v2 nT nS P) := hg
  have HZ : Hid (Gz nT nS P) := hz
  have HSM : Hid _ := snd_mem hs
  have HK : Hid (nT + nS = Nk) := hK
  have HNB : Hid (Bq w0 vn Nk nl) := hn
  have HB : Hid (w0.heap.size ≤ b) := hb
  have HBW0 : Hid (Below w0.heap.size w0 w) := hbw
  have HQ : Hid (w.heap[b]? = some (.cells (qC Nk Q).toArray 4 (0, 0))) := hq
  have HV : Hid (Rw w0 v l.length (flat rf l)) := hr
  have HL : Hid (l.length * 40 + 4096 ≤ 140737488355328) := hl
  have HWT : Hid (wth Nk l = true) := hw
  have HUN : Hid (un Nk Q < N + 1) := hN
  obtain ⟨a0, c0, a1, c1, a2, c2, rfl, rfl, rfl⟩ := hg.form
  obtain ⟨an, cn, rfl⟩ := hn.form
  obtain ⟨a, c, rfl⟩ := hr.form
  have hkk : 0 < Nk := by have := (snd_mem hs).1; omega
  obtain ⟨gn, on, rfl, hcn⟩ := hn.get hkk
  have HCN : Hid (∀ j, j < Nk → w0.cell? ⟨gn, on + j, none⟩ = some (.bool (nl j))) := hcn
  have HKL : Hid (Nk ≤ 192) := by have := (snd_mem hs).1; show Nk ≤ 192; omega
  clear hg hz hs hn hK hb hbw hq hr hl hw hN hkk hcn
  obtain ⟨n, hnn⟩ : ∃ n, P.length = n := ⟨_, rfl⟩
  have HNN : Hid (P.length = n) := hnn
  rw [hnn] at HG IH ⊢
  clear hnn
  obtain ⟨na, hna⟩ : ∃ na, l.length = na := ⟨_, rfl⟩
  have HNA : Hid (l.length = na) := hna
  rw [hna] at HV ⊢
  clear hna
  obtain ⟨W1, hW1⟩ : ∃ W1, W1 = w.alloc (.cells #[.slice a0 nT c0, .slice a1 nS c1, .slice a2 n c2] 26) := ⟨_, rfl⟩
  have HX : Hid (W1.heap[w.heap.size]? = some (.cells #[.slice a0 nT c0, .slice a1 nS c1, .slice a2 n c2] 26 (0, 0))) := by rw [hW1]; exact heap_new w _
  have HB1 : Hid (Below w.heap.size w W1) := by rw [hW1]; exact bel_up _ _
  go_enter Try.func44, Try.ntmps44
  go_upto_region 1 with fail
  rw [← hW1]
  clear hW1
  have HGBB : Hid (w.heap.size ≠ b) := by have := lt_of_heap HQ.out; show _ ≠ b; omega
  obtain ⟨gb, hgb⟩ : ∃ gb, w.heap.size = gb := ⟨_, rfl⟩
  have HGB : Hid (w.heap.size = gb) := hgb
  rw [hgb] at HX HGBB ⊢
  clear hgb
  have HQ1 : Hid (W1.heap[b]? = some (.cells (qC Nk Q).toArray 4 (0, 0))) := (HB1.out.block _ (lt_of_heap HQ.out)).trans HQ.out
  have HCC : Hid (∀ W : World, W.heap[gb]? = some (.cells #[.slice a0 nT c0, .slice a1 nS c1, .slice a2 n c2] 26 (0, 0)) → W.cell? ⟨gb, 0, none⟩ = some (.slice a0 nT c0) ∧ W.cell? ⟨gb, 1, none⟩ = some (.slice a1 nS c1) ∧ W.cell? ⟨gb, 2, none⟩ = some (.slice a2 n c2)) := fun W hW => ⟨rcell hW 0 _ rfl, rcell hW 1 _ rfl, rcell hW 2 _ rfl⟩
  have HG1 : Hid (w.grownBy W1 (some b)) := grown_below HB1.out
  clear HB1
  go_upto_region 2 with fail
  go_loopg [3, 9] na (fun gm v3 v9 wr => ∃ i : Nat, v9 = .int .i64 (i : Int) ∧ v3 = .slice (some ⟨b, 0, none⟩) Nk Nk ∧ ∃ R : Nat → Bool, Hid (w.grownBy wr (some b)) ∧ Hid (i ≤ na ∧ gm = na - i) ∧ Hid (wr.heap[gb]? = some (.cells #[.slice a0 nT c0, .slice a1 nS c1, .slice a2 n c2] 26 (0, 0))) ∧ Hid (wr.heap[b]? = some (.cells (qC Nk R).toArray 4 (0, 0))) ∧ Hid (Lp nl nT P l Q i R))
  case atStart => exact ⟨0, rfl, rfl, Q, HG1, ⟨Nat.zero_le _, rfl⟩, HX, HQ1, Lp.start nl nT P l Q⟩
  case round =>
    clear HX HQ1 HG1
    obtain ⟨i, rfl, rfl, R, HGR, HI, HX, HR, HLP⟩ := hrel
    have HBW : Hid (Below w0.heap.size w0 wr) := below_grown HBW0.out HB.out HGR.out
    by_cases hi : i < na
    · obtain ⟨g, o, cap, e0, hc⟩ := HV.out.place (by omega)
      obtain ⟨rfl, -, rfl⟩ := Value.slice.inj e0
      have hil : i < l.length := by have := HNA.out; omega
      obtain ⟨q0, -, -⟩ := rf_get l i hil
      have k0 := below_cell HBW.out (hc _ _ q0)
      have hxw := wth_mem HWT.out _ (mem_getD hil rfd)
      have hdr : syl (l.drop i) = (l.getD i rfd).1.toNat :: syl (l.drop (i + 1)) := by
        rw [List.drop_eq_getElem_cons hil, List.getD_eq_getElem?_getD, List.getElem?_eq_getElem hil]; rfl
      obtain ⟨x, hx⟩ : ∃ x, l.getD i rfd = x := ⟨_, rfl⟩
      rw [hx] at k0 hxw hdr
      obtain ⟨xs, xf, xz⟩ := x
      dsimp only at k0 hxw hdr
      obtain ⟨x, hxn⟩ : ∃ xn : Nat, xs = (xn : Int) := ⟨xs.toNat, by omega⟩
      subst hxn
      rw [Int.toNat_natCast] at hdr
      have HDR : Hid (syl (l.drop i) = x :: syl (l.drop (i + 1))) := hdr
      have HXK : Hid (x < Nk) := by show x < Nk; omega
      have e1 : decide ((i : Int) < (na : Int)) = true := by rw [decide_eq_true_eq]; omega
      have e2 : decide (i < na) = true := by rw [decide_eq_true_eq]; omega
      have e5 : (i : Int) < (na : Int) := by omega
      have e6 : i < na := hi
      have e7 : (x : Int) < (Nk : Int) := by have := HXK.out; omega
      have e8 : x < Nk := HXK.out
      have HIL : Hid (i < na) := hi
      have hwr := w64n i (by have := HL.out; have := HNA.out; have := HIL.out; omega)
      have s1 := rcell HR.out x _ (by rw [List.getElem?_toArray]; exact qC_get R HXK.out)
      clear e0 hc hx q0 hil hi hxw hdr
      cases hsx : R x with
      | true =>
        rw [hsx] at s1
        have HSX : Hid (R x = true) := hsx
        clear hsx
        have k1 := below_cell HBW.out (HCN.out x HXK.out)
        cases hv : nl x with
        | false =>
          rw [hv] at k1
          have HVV : Hid (nl x = false) := hv
          clear hv
          go_wp2_with fail
          go_ret
          exact ⟨R, rfl, HR.out, HLP.out.done HDR.out HSX.out HVV.out, HGR.out⟩
        | true =>
          rw [hv] at k1
          have HVV : Hid (nl x = true) := hv
          clear hv
          go_wp2_with fail
          go_roundg (na - (i + 1))
          case measure => have := HI.out; have := HIL.out; omega
          case rel => exact ⟨i + 1, by first | rfl | (rw [show (i : Int) + 1 = ((i + 1 : Nat) : Int) by omega]), rfl, R, HGR, ⟨HIL.out, rfl⟩, HX, HR, HLP.out.next HDR.out HSX.out HVV.out⟩
      | false =>
        rw [hsx] at s1
        have HSX : Hid (R x = false) := hsx
        clear hsx
        have f1 : wr.frozen? ⟨b, x, none⟩ = false := Lib.frozen_of_heap HR.out x
        go_upto_region 8 with fail
        clear s1 f1 k0 e1 e2 e5 e6
        obtain ⟨V, hV⟩ : ∃ V, V = wr.setCell ⟨b, x, none⟩ (.bool true) := ⟨_, rfl⟩
        rw [← hV]
        have HRV : Hid (V.heap[b]? = some (.cells (qC Nk (mrk R x)).toArray 4 (0, 0))) := by
          show _ = _
          rw [hV, blk_set _ HR.out, List.setIfInBounds_toArray, qC_set R HXK.out]
        have HXV : Hid (V.heap[gb]? = some (.cells #[.slice a0 nT c0, .slice a1 nS c1, .slice a2 n c2] 26 (0, 0))) := by rw [hV]; exact (Below.heap_setCell wr ⟨b, x, none⟩ _ gb HGBB.out).trans HX.out
        have HGV : Hid (w.grownBy V (some b)) := by rw [hV]; exact HGR.out.trans grown_set
        have HLI : Hid (Li nl nT P l Q R x 0 (mrk R x)) := HLP.out.mark HDR.out
        have HQX : Hid (Q x = false) := by
          cases e : Q x with
          | false => rfl
          | true => exact absurd (HLP.out.up x e) (by rw [HSX.out]; decide)
        clear hV HR HX HGR HBW
        obtain ⟨D, hD⟩ : ∃ D : Int, (x : Int) - (nT : Int) = D := ⟨_, rfl⟩
        have HD : Hid ((x : Int) - (nT : Int) = D) := hD
        have hsub : IntKind.i64.wrap ((x : Int) - (nT : Int)) = D := by rw [IntKind.wrap_i64]; have := HXK.out; have := HKL.out; have := HSM.out.1; omega
        clear hD
        go_loopg [3, 11] n (fun gm v3 v11 wr => ∃ j : Nat, v11 = .int .i64 (j : Int) ∧ v3 = .slice (some ⟨b, 0, none⟩) Nk Nk ∧ ∃ S : Nat → Bool, Hid (w.grownBy wr (some b)) ∧ Hid (j ≤ n ∧ gm = n - j) ∧ Hid (wr.heap[gb]? = some (.cells #[.slice a0 nT c0, .slice a1 nS c1, .slice a2 n c2] 26 (0, 0))) ∧ Hid (wr.heap[b]? = some (.cells (qC Nk S).toArray 4 (0, 0))) ∧ Hid (Li nl nT P l Q R x j S))
        case atStart => exact ⟨0, rfl, rfl, mrk R x, HGV, ⟨Nat.zero_le _, rfl⟩, HXV, HRV, HLI⟩
        case round =>
          clear HGV HXV HRV HLI
          obtain ⟨j, rfl, rfl, S, HGR, HJ, HX, HR, HLI⟩ := hrel
          have HBW : Hid (Below w0.heap.size w0 wr) := below_grown HBW0.out HB.out HGR.out
          obtain ⟨p0, p1, p2⟩ := HCC.out wr HX.out
          by_cases hj : j < n
          · have HJL : Hid (j < n) := hj
            have HJP : Hid (j < P.length) := by have := HNN.out; show j < P.length; omega
            have HMP : Hid (P.getD j pfd ∈ P) := mem_getD HJP.out pfd
            have HRX : Hid (Rw w0 (P.getD j pfd).2.1 (P.getD j pfd).2.2.length (flat rf (P.getD j pfd).2.2)) := HG.out.r _ HMP.out
            have HPW : Hid _ := HSM.out.2 _ HMP.out
            have HPZ : Hid _ := HZ.out.r _ HMP.out
            have hpp := HG.out.p
            rw [HNN.out] at hpp
            obtain ⟨g3, o3, cap3, e0, hc⟩ := hpp.place (by omega)
            obtain ⟨rfl, -, rfl⟩ := Value.slice.inj e0
            obtain ⟨q0, q1⟩ := pf_get P j HJP.out
            have k0 := hc _ _ q0
            have k1 := hc _ _ q1
            have HSK : Hid (¬ (0 ≤ (P.getD j pfd).1 ∧ nT + (P.getD j pfd).1.toNat = x) → Li nl nT P l Q R x (j + 1) S) := HLI.out.skip HJP.out
            have HCL : Hid (∀ U, 0 ≤ (P.getD j pfd).1 → nT + (P.getD j pfd).1.toNat = x → Ld nl nT P (syl (P.getD j pfd).2.2) S U → Li nl nT P l Q R x (j + 1) U) := fun U h0 hx k => HLI.out.call HLP.out HDR.out HJP.out h0 hx k
            clear HMP hpp
            obtain ⟨y, hy⟩ : ∃ y, P.getD j pfd = y := ⟨_, rfl⟩
            rw [hy] at k0 k1 HRX HPW HPZ HSK HCL
            obtain ⟨ys, yv, yl⟩ := y
            dsimp only at k0 k1 HRX HPW HPZ HSK HCL
            rw [← Nat.add_assoc] at k1
            obtain ⟨ax, cx, rfl⟩ := HRX.out.form
            have HC0 : Hid (∀ W, Below w0.heap.size w0 W → W.cell? ⟨g3, o3 + j * 2, none⟩ = some (.int .i64 ys) ∧ W.cell? ⟨g3, o3 + j * 2 + 1, none⟩ = some (.slice ax yl.length cx)) := fun W hW => ⟨below_cell hW k0, below_cell hW k1⟩
            have e1 : decide ((j : Int) < (n : Int)) = true := by rw [decide_eq_true_eq]; omega
            have e2 : decide (j < n) = true := by rw [decide_eq_true_eq]; omega
            have e5 : (j : Int) < (n : Int) := by omega
            have e6 : j < n := hj
            have hwj := w64n j (by have := HZ.out.p; have := HNN.out; have := HJL.out; omega)
            clear e0 hc hy q0 q1 hj k0 k1
            go_upto_region 10 with fail
            clear p0 p1 p2
            obtain ⟨WD, hWD⟩ : ∃ WD, wr.drew = WD := ⟨_, rfl⟩
            have BD : Hid (Below wr.heap.size wr WD) := by rw [← hWD]; exact Below.drew (Below.refl _ _)
            have HBD : Hid (Below w0.heap.size w0 WD) := below_trans HBW.out BD.out
            have HXD : Hid (WD.heap[gb]? = some (.cells #[.slice a0 nT c0, .slice a1 nS c1, .slice (some ⟨g3, o3, none⟩) n c2] 26 (0, 0))) := (BD.out.block _ (lt_of_heap HX.out)).trans HX.out
            have HRD : Hid (WD.heap[b]? = some (.cells (qC Nk S).toArray 4 (0, 0))) := (BD.out.block _ (lt_of_heap HR.out)).trans HR.out
            have HGD : Hid (w.grownBy WD (some b)) := HGR.out.trans (grown_below BD.out)
            have HS : Hid (WD.cell? ⟨g3, o3 + j * 2, none⟩ = some (.int .i64 ys) ∧ WD.cell? ⟨gb, 0, none⟩ = some (.slice a0 nT c0) ∧ WD.cell? ⟨gb, 2, none⟩ = some (.slice (some ⟨g3, o3, none⟩) n c2)) := ⟨(HC0.out WD HBD.out).1, (HCC.out WD HXD.out).1, (HCC.out WD HXD.out).2.2⟩
            by_cases hneg : ys < 0
            · have d1 : decide (0 ≤ ys) = false := decide_eq_false (by omega)
              have HNE : Hid (ys < 0) := hneg
              clear hneg
              refine wp_region_noPanic ?_
              refine wp_region_held_drew (S := fun W => W.cell? ⟨g3, o3 + j * 2, none⟩ = some (.int .i64 ys) ∧ W.cell? ⟨gb, 0, none⟩ = some (.slice a0 nT c0) ∧ W.cell? ⟨gb, 2, none⟩ = some (.slice (some ⟨g3, o3, none⟩) n c2)) (by kernel_rfl) (by rw [hWD]; exact HS.out) (fun hHeld => ?_)
              rw [hWD] at hHeld ⊢
              clear hWD
              refine wpAnyH_take (i := 0) (oi := { dst := _, op := _, type := _, pos := _, after := _, guard := _ }) (v := ?_) rfl (by kernel_rfl) (by kernel_rfl) (by kernel_rfl) (fun _ _ _ h => h) (Or.inl ⟨by rfl, ?_⟩) (by assumption) ?_
              rotate_left
              · intro W hSw
                (try dsimp only at hSw)
                go_simp
                (try with_reducible rfl)
              try simp only [Act.put, List.setIfInBounds_toArray, List.set_cons_zero, List.set_cons_succ]
              refine wpAnyH_take (i := 1) (oi := { dst := _, op := _, type := _, pos := _, after := _, guard := _ }) (v := ?_) rfl (by kernel_rfl) (by kernel_rfl) (by kernel_rfl) (fun _ _ _ h => h) (Or.inl ⟨by rfl, ?_⟩) (by assumption) ?_
              rotate_left
              · intro W hSw
                (try dsimp only at hSw)
                go_simp
                (try with_reducible rfl)
              try simp only [Act.put, List.setIfInBounds_toArray, List.set_cons_zero, List.set_cons_succ]
              refine wpAnyH_take (i := 2) (oi := { dst := _, op := _, type := _, pos := _, after := _, guard := _ }) (v := ?_) rfl (by kernel_rfl) (by kernel_rfl) (by kernel_rfl) (fun _ _ _ h => h) (Or.inl ⟨by rfl, ?_⟩) (by assumption) ?_
              rotate_left
              · intro W hSw
                (try dsimp only at hSw)
                go_simp
                (try with_reducible rfl)
              try simp only [Act.put, List.setIfInBounds_toArray, List.set_cons_zero, List.set_cons_succ]
              refine wpAnyH_take (i := 3) (oi := { dst := _, op := _, type := _, pos := _, after := _, guard := _ }) (v := ?_) rfl (by kernel_rfl) (by kernel_rfl) (by kernel_rfl) (fun _ _ _ h => h) (Or.inl ⟨by rfl, ?_⟩) (by assumption) ?_
              rotate_left
              · intro W hSw
                (try dsimp only at hSw)
                go_simp
                (try with_reducible rfl)
              try simp only [Act.put, List.setIfInBounds_toArray, List.set_cons_zero, List.set_cons_succ]
              refine wpAnyH_take (i := 4) (oi := { dst := _, op := _, type := _, pos := _, after := _, guard := _ }) (v := ?_) rfl (by kernel_rfl) (by kernel_rfl) (by kernel_rfl) (fun _ _ _ h => h) (Or.inl ⟨by rfl, ?_⟩) (by assumption) ?_
              rotate_left
              · intro W hSw
                (try dsimp only at hSw)
                go_simp
                (try with_reducible rfl)
              try simp only [Act.put, List.setIfInBounds_toArray, List.set_cons_zero, List.set_cons_succ]
              refine wpAnyH_take (i := 5) (oi := { dst := _, op := _, type := _, pos := _, after := _, guard := _ }) (v := ?_) rfl (by kernel_rfl) (by kernel_rfl) (by kernel_rfl) (fun _ _ _ h => h) (Or.inl ⟨by rfl, ?_⟩) (by assumption) ?_
              rotate_left
              · intro W hSw
                (try dsimp only at hSw)
                go_simp
                (try with_reducible rfl)
              try simp only [Act.put, List.setIfInBounds_toArray, List.set_cons_zero, List.set_cons_succ]
              refine wpAnyH_take (i := 6) (oi := { dst := _, op := _, type := _, pos := _, after := _, guard := _ }) (v := ?_) rfl (by kernel_rfl) (by kernel_rfl) (by kernel_rfl) (fun _ _ _ h => h) (Or.inl ⟨by rfl, ?_⟩) (by assumption) ?_
              rotate_left
              · intro W hSw
                (try dsimp only at hSw)
                go_simp
                (try with_reducible rfl)
              try simp only [Act.put, List.setIfInBounds_toArray, List.set_cons_zero, List.set_cons_succ]
              refine wpAnyH_take (i := 7) (oi := { dst := _, op := _, type := _, pos := _, after := _, guard := _ }) (v := ?_) rfl (by kernel_rfl) (by kernel_rfl) (by kernel_rfl) (fun _ _ _ h => h) (Or.inl ⟨by rfl, ?_⟩) (by assumption) ?_
              rotate_left
              · intro W hSw
                (try dsimp only at hSw)
                go_simp
                (try with_reducible rfl)
              try simp only [Act.put, List.setIfInBounds_toArray, List.set_cons_zero, List.set_cons_succ]
              refine wpAnyH_take (i := 8) (oi := { dst := _, op := _, type := _, pos := _, after := _, guard := _ }) rfl (by kernel_rfl) (by kernel_rfl) (by kernel_rfl) (fun _ _ _ h => h) (Or.inr ⟨by rfl, rfl⟩) (by assumption) ?_
              try simp only [Act.put, List.setIfInBounds_toArray, List.set_cons_zero, List.set_cons_succ]
              refine wpAnyH_take (i := 9) (oi := { dst := _, op := _, type := _, pos := _, after := _, guard := _ }) rfl (by kernel_rfl) (by kernel_rfl) (by kernel_rfl) (fun _ _ _ h => h) (Or.inr ⟨by rfl, rfl⟩) (by assumption) ?_
              try simp only [Act.put, List.setIfInBounds_toArray, List.set_cons_zero, List.set_cons_succ]
              refine wpAnyH_take (i := 10) (oi := { dst := _, op := _, type := _, pos := _, after := _, guard := _ }) rfl (by kernel_rfl) (by kernel_rfl) (by kernel_rfl) (fun _ _ _ h => h) (Or.inr ⟨by rfl, rfl⟩) (by assumption) ?_
              try simp only [Act.put, List.setIfInBounds_toArray, List.set_cons_zero, List.set_cons_succ]
              refine wpAnyH_take (i := 11) (oi := { dst := _, op := _, type := _, pos := _, after := _, guard := _ }) rfl (by kernel_rfl) (by kernel_rfl) (by kernel_rfl) (fun _ _ _ h => h) (Or.inr ⟨by rfl, rfl⟩) (by assumption) ?_
              try simp only [Act.put, List.setIfInBounds_toArray, List.set_cons_zero, List.set_cons_succ]
              refine wpAnyH_take (i := 12) (oi := { dst := _, op := _, type := _, pos := _, after := _, guard := _ }) rfl (by kernel_rfl) (by kernel_rfl) (by kernel_rfl) (fun _ _ _ h => h) (Or.inr ⟨by rfl, rfl⟩) (by assumption) ?_
              try simp only [Act.put, List.setIfInBounds_toArray, List.set_cons_zero, List.set_cons_succ]
              refine wpAnyH_take (i := 13) (oi := { dst := _, op := _, type := _, pos := _, after := _, guard := _ }) rfl (by kernel_rfl) (by kernel_rfl) (by kernel_rfl) (fun _ _ _ h => h) (Or.inr ⟨by rfl, rfl⟩) (by assumption) ?_
              try simp only [Act.put, List.setIfInBounds_toArray, List.set_cons_zero, List.set_cons_succ]
              refine wpAnyH_take (i := 14) (oi := { dst := _, op := _, type := _, pos := _, after := _, guard := _ }) rfl (by kernel_rfl) (by kernel_rfl) (by kernel_rfl) (fun _ _ _ h => h) (Or.inr ⟨by rfl, rfl⟩) (by assumption) ?_
              try simp only [Act.put, List.setIfInBounds_toArray, List.set_cons_zero, List.set_cons_succ]
              refine wpAnyH_take (i := 15) (oi := { dst := _, op := _, type := _, pos := _, after := _, guard := _ }) rfl (by kernel_rfl) (by kernel_rfl) (by kernel_rfl) (fun _ _ _ h => h) (Or.inr ⟨by rfl, rfl⟩) (by assumption) ?_
              try simp only [Act.put, List.setIfInBounds_toArray, List.set_cons_zero, List.set_cons_succ]
              refine wpAnyH_take (i := 16) (oi := { dst := _, op := _, type := _, pos := _, after := _, guard := _ }) rfl (by kernel_rfl) (by kernel_rfl) (by kernel_rfl) (fun _ _ _ h => h) (Or.inr ⟨by rfl, rfl⟩) (by assumption) ?_
              try simp only [Act.put, List.setIfInBounds_toArray, List.set_cons_zero, List.set_cons_succ]
              refine wpAnyH_take (i := 17) (oi := { dst := _, op := _, type := _, pos := _, after := _, guard := _ }) rfl (by kernel_rfl) (by kernel_rfl) (by kernel_rfl) (fun _ _ _ h => h) (Or.inr ⟨by rfl, rfl⟩) (by assumption) ?_
              try simp only [Act.put, List.setIfInBounds_toArray, List.set_cons_zero, List.set_cons_succ]
              refine wpAnyH_take (i := 18) (oi := { dst := _, op := _, type := _, pos := _, after := _, guard := _ }) rfl (by kernel_rfl) (by kernel_rfl) (by kernel_rfl) (fun _ _ _ h => h) (Or.inr ⟨by rfl, rfl⟩) (by assumption) ?_
              try simp only [Act.put, List.setIfInBounds_toArray, List.set_cons_zero, List.set_cons_succ]
              refine wpAnyH_take (i := 19) (oi := { dst := _, op := _, type := _, pos := _, after := _, guard := _ }) rfl (by kernel_rfl) (by kernel_rfl) (by kernel_rfl) (fun _ _ _ h => h) (Or.inr ⟨by rfl, rfl⟩) (by assumption) ?_
              try simp only [Act.put, List.setIfInBounds_toArray, List.set_cons_zero, List.set_cons_succ]
              refine wpAnyH_take (i := 20) (oi := { dst := _, op := _, type := _, pos := _, after := _, guard := _ }) (v := ?_) rfl (by kernel_rfl) (by kernel_rfl) (by kernel_rfl) (fun _ _ _ h => h) (Or.inl ⟨by rfl, ?_⟩) (by assumption) ?_
              rotate_left
              · intro W hSw
                (try dsimp only at hSw)
                go_simp
                (try with_reducible rfl)
              try simp only [Act.put, List.setIfInBounds_toArray, List.set_cons_zero, List.set_cons_succ]
              refine wpAnyH_done (by kernel_rfl) ?_ _
              refine NoPanic.normal ?_
              clear hHeld
              go_wp2_with fail
              go_roundg (n - (j + 1))
              case measure => have := HJ.out; have := HJL.out; omega
              case rel => exact ⟨j + 1, by first | rfl | (rw [show (j : Int) + 1 = ((j + 1 : Nat) : Int) by omega]), rfl, S, HGD, ⟨HJL.out, rfl⟩, HXD, HRD, HSK.out (fun h => by have := HNE.out; omega)⟩
            · have d1 : decide (0 ≤ ys) = true := decide_eq_true (by omega)
              obtain ⟨y, hy⟩ : ∃ y : Nat, ys = (y : Int) := ⟨ys.toNat, by omega⟩
              subst hy
              clear hneg
              rw [Int.toNat_natCast] at HSK HCL
              by_cases hxy : nT + y = x
              rotate_left
              · have d3 : ((y : Int) == D) = false := by rw [beq_eq_false_iff_ne]; have := HD.out; omega
                have d3' : ¬ ((y : Int) = D) := by have := HD.out; omega
                have HXY : Hid (¬ nT + y = x) := hxy
                clear hxy
                refine wp_region_noPanic ?_
                refine wp_region_held_drew (S := fun W => W.cell? ⟨g3, o3 + j * 2, none⟩ = some (.int .i64 (y : Int)) ∧ W.cell? ⟨gb, 0, none⟩ = some (.slice a0 nT c0) ∧ W.cell? ⟨gb, 2, none⟩ = some (.slice (some ⟨g3, o3, none⟩) n c2)) (by kernel_rfl) (by rw [hWD]; exact HS.out) (fun hHeld => ?_)
                rw [hWD] at hHeld ⊢
                clear hWD
                refine wpAnyH_take (i := 0) (oi := { dst := _, op := _, type := _, pos := _, after := _, guard := _ }) (v := ?_) rfl (by kernel_rfl) (by kernel_rfl) (by kernel_rfl) (fun _ _ _ h => h) (Or.inl ⟨by rfl, ?_⟩) (by assumption) ?_
                rotate_left
                · intro W hSw
                  (try dsimp only at hSw)
                  go_simp
                  (try with_reducible rfl)
                try simp only [Act.put, List.setIfInBounds_toArray, List.set_cons_zero, List.set_cons_succ]
                refine wpAnyH_take (i := 1) (oi := { dst := _, op := _, type := _, pos := _, after := _, guard := _ }) (v := ?_) rfl (by kernel_rfl) (by kernel_rfl) (by kernel_rfl) (fun _ _ _ h => h) (Or.inl ⟨by rfl, ?_⟩) (by assumption) ?_
                rotate_left
                · intro W hSw
                  (try dsimp only at hSw)
                  go_simp
                  (try with_reducible rfl)
                try simp only [Act.put, List.setIfInBounds_toArray, List.set_cons_zero, List.set_cons_succ]
                refine wpAnyH_take (i := 2) (oi := { dst := _, op := _, type := _, pos := _, after := _, guard := _ }) (v := ?_) rfl (by kernel_rfl) (by kernel_rfl) (by kernel_rfl) (fun _ _ _ h => h) (Or.inl ⟨by rfl, ?_⟩) (by assumption) ?_
                rotate_left
                · intro W hSw
                  (try dsimp only at hSw)
                  go_simp
                  (try with_reducible rfl)
                try simp only [Act.put, List.setIfInBounds_toArray, List.set_cons_zero, List.set_cons_succ]
                refine wpAnyH_take (i := 3) (oi := { dst := _, op := _, type := _, pos := _, after := _, guard := _ }) (v := ?_) rfl (by kernel_rfl) (by kernel_rfl) (by kernel_rfl) (fun _ _ _ h => h) (Or.inl ⟨by rfl, ?_⟩) (by assumption) ?_
                rotate_left
                · intro W hSw
                  (try dsimp only at hSw)
                  go_simp
                  (try with_reducible rfl)
                try simp only [Act.put, List.setIfInBounds_toArray, List.set_cons_zero, List.set_cons_succ]
                refine wpAnyH_take (i := 4) (oi := { dst := _, op := _, type := _, pos := _, after := _, guard := _ }) (v := ?_) rfl (by kernel_rfl) (by kernel_rfl) (by kernel_rfl) (fun _ _ _ h => h) (Or.inl ⟨by rfl, ?_⟩) (by assumption) ?_
                rotate_left
                · intro W hSw
                  (try dsimp only at hSw)
                  go_simp
                  (try with_reducible rfl)
                try simp only [Act.put, List.setIfInBounds_toArray, List.set_cons_zero, List.set_cons_succ]
                refine wpAnyH_take (i := 5) (oi := { dst := _, op := _, type := _, pos := _, after := _, guard := _ }) (v := ?_) rfl (by kernel_rfl) (by kernel_rfl) (by kernel_rfl) (fun _ _ _ h => h) (Or.inl ⟨by rfl, ?_⟩) (by assumption) ?_
                rotate_left
                · intro W hSw
                  (try dsimp only at hSw)
                  go_simp
                  (try with_reducible rfl)
                try simp only [Act.put, List.setIfInBounds_toArray, List.set_cons_zero, List.set_cons_succ]
                refine wpAnyH_take (i := 6) (oi := { dst := _, op := _, type := _, pos := _, after := _, guard := _ }) (v := ?_) rfl (by kernel_rfl) (by kernel_rfl) (by kernel_rfl) (fun _ _ _ h => h) (Or.inl ⟨by rfl, ?_⟩) (by assumption) ?_
                rotate_left
                · intro W hSw
                  (try dsimp only at hSw)
                  go_simp
                  (try with_reducible rfl)
                try simp only [Act.put, List.setIfInBounds_toArray, List.set_cons_zero, List.set_cons_succ]
                refine wpAnyH_take (i := 7) (oi := { dst := _, op := _, type := _, pos := _, after := _, guard := _ }) (v := ?_) rfl (by kernel_rfl) (by kernel_rfl) (by kernel_rfl) (fun _ _ _ h => h) (Or.inl ⟨by rfl, ?_⟩) (by assumption) ?_
                rotate_left
                · intro W hSw
                  (try dsimp only at hSw)
                  go_simp
                  (try with_reducible rfl)
                try simp only [Act.put, List.setIfInBounds_toArray, List.set_cons_zero, List.set_cons_succ]
                refine wpAnyH_take (i := 8) (oi := { dst := _, op := _, type := _, pos := _, after := _, guard := _ }) (v := ?_) rfl (by kernel_rfl) (by kernel_rfl) (by kernel_rfl) (fun _ _ _ h => h) (Or.inl ⟨by rfl, ?_⟩) (by assumption) ?_
                rotate_left
                · intro W hSw
                  (try dsimp only at hSw)
                  go_simp
                  (try with_reducible rfl)
                try simp only [Act.put, List.setIfInBounds_toArray, List.set_cons_zero, List.set_cons_succ]
                refine wpAnyH_take (i := 9) (oi := { dst := _, op := _, type := _, pos := _, after := _, guard := _ }) (v := ?_) rfl (by kernel_rfl) (by kernel_rfl) (by kernel_rfl) (fun _ _ _ h => h) (Or.inl ⟨by rfl, ?_⟩) (by assumption) ?_
                rotate_left
                · intro W hSw
                  (try dsimp only at hSw)
                  go_simp
                  (try with_reducible rfl)
                try simp only [Act.put, List.setIfInBounds_toArray, List.set_cons_zero, List.set_cons_succ]
                refine wpAnyH_take (i := 10) (oi := { dst := _, op := _, type := _, pos := _, after := _, guard := _ }) (v := ?_) rfl (by kernel_rfl) (by kernel_rfl) (by kernel_rfl) (fun _ _ _ h => h) (Or.inl ⟨by rfl, ?_⟩) (by assumption) ?_
                rotate_left
                · intro W hSw
                  (try dsimp only at hSw)
                  go_simp
                  (try with_reducible rfl)
                try simp only [Act.put, List.setIfInBounds_toArray, List.set_cons_zero, List.set_cons_succ]
                refine wpAnyH_take (i := 11) (oi := { dst := _, op := _, type := _, pos := _, after := _, guard := _ }) (v := ?_) rfl (by kernel_rfl) (by kernel_rfl) (by kernel_rfl) (fun _ _ _ h => h) (Or.inl ⟨by rfl, ?_⟩) (by assumption) ?_
                rotate_left
                · intro W hSw
                  (try dsimp only at hSw)
                  go_simp
                  (try with_reducible rfl)
                try simp only [Act.put, List.setIfInBounds_toArray, List.set_cons_zero, List.set_cons_succ]
                refine wpAnyH_take (i := 12) (oi := { dst := _, op := _, type := _, pos := _, after := _, guard := _ }) (v := ?_) rfl (by kernel_rfl) (by kernel_rfl) (by kernel_rfl) (fun _ _ _ h => h) (Or.inl ⟨by rfl, ?_⟩) (by assumption) ?_
                rotate_left
                · intro W hSw
                  (try dsimp only at hSw)
                  go_simp
                  (try with_reducible rfl)
                try simp only [Act.put, List.setIfInBounds_toArray, List.set_cons_zero, List.set_cons_succ]
                refine wpAnyH_take (i := 13) (oi := { dst := _, op := _, type := _, pos := _, after := _, guard := _ }) (v := ?_) rfl (by kernel_rfl) (by kernel_rfl) (by kernel_rfl) (fun _ _ _ h => h) (Or.inl ⟨by rfl, ?_⟩) (by assumption) ?_
                rotate_left
                · intro W hSw
                  (try dsimp only at hSw)
                  go_simp
                  (try with_reducible rfl)
                try simp only [Act.put, List.setIfInBounds_toArray, List.set_cons_zero, List.set_cons_succ]
                refine wpAnyH_take (i := 14) (oi := { dst := _, op := _, type := _, pos := _, after := _, guard := _ }) (v := ?_) rfl (by kernel_rfl) (by kernel_rfl) (by kernel_rfl) (fun _ _ _ h => h) (Or.inl ⟨by rfl, ?_⟩) (by assumption) ?_
                rotate_left
                · intro W hSw
                  (try dsimp only at hSw)
                  go_simp
                  (try with_reducible rfl)
                try simp only [Act.put, List.setIfInBounds_toArray, List.set_cons_zero, List.set_cons_succ]
                refine wpAnyH_take (i := 15) (oi := { dst := _, op := _, type := _, pos := _, after := _, guard := _ }) (v := ?_) rfl (by kernel_rfl) (by kernel_rfl) (by kernel_rfl) (fun _ _ _ h => h) (Or.inl ⟨by rfl, ?_⟩) (by assumption) ?_
                rotate_left
                · intro W hSw
                  (try dsimp only at hSw)
                  go_simp
                  (try with_reducible rfl)
                try simp only [Act.put, List.setIfInBounds_toArray, List.set_cons_zero, List.set_cons_succ]
                refine wpAnyH_take (i := 16) (oi := { dst := _, op := _, type := _, pos := _, after := _, guard := _ }) (v := ?_) rfl (by kernel_rfl) (by kernel_rfl) (by kernel_rfl) (fun _ _ _ h => h) (Or.inl ⟨by rfl, ?_⟩) (by assumption) ?_
                rotate_left
                · intro W hSw
                  (try dsimp only at hSw)
                  go_simp
                  (try with_reducible rfl)
                try simp only [Act.put, List.setIfInBounds_toArray, List.set_cons_zero, List.set_cons_succ]
                refine wpAnyH_take (i := 17) (oi := { dst := _, op := _, type := _, pos := _, after := _, guard := _ }) (v := ?_) rfl (by kernel_rfl) (by kernel_rfl) (by kernel_rfl) (fun _ _ _ h => h) (Or.inl ⟨by rfl, ?_⟩) (by assumption) ?_
                rotate_left
                · intro W hSw
                  (try dsimp only at hSw)
                  go_simp
                  (try with_reducible rfl)
                try simp only [Act.put, List.setIfInBounds_toArray, List.set_cons_zero, List.set_cons_succ]
                refine wpAnyH_take (i := 18) (oi := { dst := _, op := _, type := _, pos := _, after := _, guard := _ }) (v := ?_) rfl (by kernel_rfl) (by kernel_rfl) (by kernel_rfl) (fun _ _ _ h => h) (Or.inl ⟨by rfl, ?_⟩) (by assumption) ?_
                rotate_left
                · intro W hSw
                  (try dsimp only at hSw)
                  go_simp
                  (try with_reducible rfl)
                try simp only [Act.put, List.setIfInBounds_toArray, List.set_cons_zero, List.set_cons_succ]
                refine wpAnyH_take (i := 19) (oi := { dst := _, op := _, type := _, pos := _, after := _, guard := _ }) (v := ?_) rfl (by kernel_rfl) (by kernel_rfl) (by kernel_rfl) (fun _ _ _ h => h) (Or.inl ⟨by rfl, ?_⟩) (by assumption) ?_
                rotate_left
                · intro W hSw
                  (try dsimp only at hSw)
                  go_simp
                  (try with_reducible rfl)
                try simp only [Act.put, List.setIfInBounds_toArray, List.set_cons_zero, List.set_cons_succ]
                refine wpAnyH_take (i := 20) (oi := { dst := _, op := _, type := _, pos := _, after := _, guard := _ }) (v := ?_) rfl (by kernel_rfl) (by kernel_rfl) (by kernel_rfl) (fun _ _ _ h => h) (Or.inl ⟨by rfl, ?_⟩) (by assumption) ?_
                rotate_left
                · intro W hSw
                  (try dsimp only at hSw)
                  go_simp
                  (try with_reducible rfl)
                try simp only [Act.put, List.setIfInBounds_toArray, List.set_cons_zero, List.set_cons_succ]
                refine wpAnyH_done (by kernel_rfl) ?_ _
                refine NoPanic.normal ?_
                clear hHeld
                go_wp2_with fail
                go_roundg (n - (j + 1))
                case measure => have := HJ.out; have := HJL.out; omega
                case rel => exact ⟨j + 1, by first | rfl | (rw [show (j : Int) + 1 = ((j + 1 : Nat) : Int) by omega]), rfl, S, HGD, ⟨HJL.out, rfl⟩, HXD, HRD, HSK.out (fun h => by have := HXY.out; omega)⟩
              have d3 : ((y : Int) == D) = true := by rw [beq_iff_eq]; have := HD.out; omega
              have HXY : Hid (nT + y = x) := hxy
              clear hxy
              obtain rfl : D = (y : Int) := by have := HD.out; have := HXY.out; omega
              refine wp_region_noPanic ?_
              refine wp_region_held_drew (S := fun W => W.cell? ⟨g3, o3 + j * 2, none⟩ = some (.int .i64 (y : Int)) ∧ W.cell? ⟨gb, 0, none⟩ = some (.slice a0 nT c0) ∧ W.cell? ⟨gb, 2, none⟩ = some (.slice (some ⟨g3, o3, none⟩) n c2)) (by kernel_rfl) (by rw [hWD]; exact HS.out) (fun hHeld => ?_)
              rw [hWD] at hHeld ⊢
              clear hWD
              refine wpAnyH_take (i := 0) (oi := { dst := _, op := _, type := _, pos := _, after := _, guard := _ }) (v := ?_) rfl (by kernel_rfl) (by kernel_rfl) (by kernel_rfl) (fun _ _ _ h => h) (Or.inl ⟨by rfl, ?_⟩) (by assumption) ?_
              rotate_left
              · intro W hSw
                (try dsimp only at hSw)
                go_simp
                (try with_reducible rfl)
              try simp only [Act.put, List.setIfInBounds_toArray, List.set_cons_zero, List.set_cons_succ]
              refine wpAnyH_take (i := 1) (oi := { dst := _, op := _, type := _, pos := _, after := _, guard := _ }) (v := ?_) rfl (by kernel_rfl) (by kernel_rfl) (by kernel_rfl) (fun _ _ _ h => h) (Or.inl ⟨by rfl, ?_⟩) (by assumption) ?_
              rotate_left
              · intro W hSw
                (try dsimp only at hSw)
                go_simp
                (try with_reducible rfl)
              try simp only [Act.put, List.setIfInBounds_toArray, List.set_cons_zero, List.set_cons_succ]
              refine wpAnyH_take (i := 2) (oi := { dst := _, op := _, type := _, pos := _, after := _, guard := _ }) (v := ?_) rfl (by kernel_rfl) (by kernel_rfl) (by kernel_rfl) (fun _ _ _ h => h) (Or.inl ⟨by rfl, ?_⟩) (by assumption) ?_
              rotate_left
              · intro W hSw
                (try dsimp only at hSw)
                go_simp
                (try with_reducible rfl)
              try simp only [Act.put, List.setIfInBounds_toArray, List.set_cons_zero, List.set_cons_succ]
              refine wpAnyH_take (i := 3) (oi := { dst := _, op := _, type := _, pos := _, after := _, guard := _ }) (v := ?_) rfl (by kernel_rfl) (by kernel_rfl) (by kernel_rfl) (fun _ _ _ h => h) (Or.inl ⟨by rfl, ?_⟩) (by assumption) ?_
              rotate_left
              · intro W hSw
                (try dsimp only at hSw)
                go_simp
                (try with_reducible rfl)
              try simp only [Act.put, List.setIfInBounds_toArray, List.set_cons_zero, List.set_cons_succ]
              refine wpAnyH_take (i := 4) (oi := { dst := _, op := _, type := _, pos := _, after := _, guard := _ }) (v := ?_) rfl (by kernel_rfl) (by kernel_rfl) (by kernel_rfl) (fun _ _ _ h => h) (Or.inl ⟨by rfl, ?_⟩) (by assumption) ?_
              rotate_left
              · intro W hSw
                (try dsimp only at hSw)
                go_simp
                (try with_reducible rfl)
              try simp only [Act.put, List.setIfInBounds_toArray, List.set_cons_zero, List.set_cons_succ]
              refine wpAnyH_take (i := 5) (oi := { dst := _, op := _, type := _, pos := _, after := _, guard := _ }) (v := ?_) rfl (by kernel_rfl) (by kernel_rfl) (by kernel_rfl) (fun _ _ _ h => h) (Or.inl ⟨by rfl, ?_⟩) (by assumption) ?_
              rotate_left
              · intro W hSw
                (try dsimp only at hSw)
                go_simp
                (try with_reducible rfl)
              try simp only [Act.put, List.setIfInBounds_toArray, List.set_cons_zero, List.set_cons_succ]
              refine wpAnyH_take (i := 6) (oi := { dst := _, op := _, type := _, pos := _, after := _, guard := _ }) (v := ?_) rfl (by kernel_rfl) (by kernel_rfl) (by kernel_rfl) (fun _ _ _ h => h) (Or.inl ⟨by rfl, ?_⟩) (by assumption) ?_
              rotate_left
              · intro W hSw
                (try dsimp only at hSw)
                go_simp
                (try with_reducible rfl)
              try simp only [Act.put, List.setIfInBounds_toArray, List.set_cons_zero, List.set_cons_succ]
              refine wpAnyH_take (i := 7) (oi := { dst := _, op := _, type := _, pos := _, after := _, guard := _ }) (v := ?_) rfl (by kernel_rfl) (by kernel_rfl) (by kernel_rfl) (fun _ _ _ h => h) (Or.inl ⟨by rfl, ?_⟩) (by assumption) ?_
              rotate_left
              · intro W hSw
                (try dsimp only at hSw)
                go_simp
                (try with_reducible rfl)
              try simp only [Act.put, List.setIfInBounds_toArray, List.set_cons_zero, List.set_cons_succ]
              refine wpAnyH_take (i := 8) (oi := { dst := _, op := _, type := _, pos := _, after := _, guard := _ }) (v := ?_) rfl (by kernel_rfl) (by kernel_rfl) (by kernel_rfl) (fun _ _ _ h => h) (Or.inl ⟨by rfl, ?_⟩) (by assumption) ?_
              rotate_left
              · intro W hSw
                (try dsimp only at hSw)
                go_simp
                (try with_reducible rfl)
              try simp only [Act.put, List.setIfInBounds_toArray, List.set_cons_zero, List.set_cons_succ]
              refine wpAnyH_take (i := 9) (oi := { dst := _, op := _, type := _, pos := _, after := _, guard := _ }) (v := ?_) rfl (by kernel_rfl) (by kernel_rfl) (by kernel_rfl) (fun _ _ _ h => h) (Or.inl ⟨by rfl, ?_⟩) (by assumption) ?_
              rotate_left
              · intro W hSw
                (try dsimp only at hSw)
                go_simp
                (try with_reducible rfl)
              try simp only [Act.put, List.setIfInBounds_toArray, List.set_cons_zero, List.set_cons_succ]
              refine wpAnyH_take (i := 10) (oi := { dst := _, op := _, type := _, pos := _, after := _, guard := _ }) (v := ?_) rfl (by kernel_rfl) (by kernel_rfl) (by kernel_rfl) (fun _ _ _ h => h) (Or.inl ⟨by rfl, ?_⟩) (by assumption) ?_
              rotate_left
              · intro W hSw
                (try dsimp only at hSw)
                go_simp
                (try with_reducible rfl)
              try simp only [Act.put, List.setIfInBounds_toArray, List.set_cons_zero, List.set_cons_succ]
              refine wpAnyH_take (i := 11) (oi := { dst := _, op := _, type := _, pos := _, after := _, guard := _ }) (v := ?_) rfl (by kernel_rfl) (by kernel_rfl) (by kernel_rfl) (fun _ _ _ h => h) (Or.inl ⟨by rfl, ?_⟩) (by assumption) ?_
              rotate_left
              · intro W hSw
                (try dsimp only at hSw)
                go_simp
                (try with_reducible rfl)
              try simp only [Act.put, List.setIfInBounds_toArray, List.set_cons_zero, List.set_cons_succ]
              refine wpAnyH_take (i := 12) (oi := { dst := _, op := _, type := _, pos := _, after := _, guard := _ }) (v := ?_) rfl (by kernel_rfl) (by kernel_rfl) (by kernel_rfl) (fun _ _ _ h => h) (Or.inl ⟨by rfl, ?_⟩) (by assumption) ?_
              rotate_left
              · intro W hSw
                (try dsimp only at hSw)
                go_simp
                (try with_reducible rfl)
              try simp only [Act.put, List.setIfInBounds_toArray, List.set_cons_zero, List.set_cons_succ]
              refine wpAnyH_take (i := 13) (oi := { dst := _, op := _, type := _, pos := _, after := _, guard := _ }) (v := ?_) rfl (by kernel_rfl) (by kernel_rfl) (by kernel_rfl) (fun _ _ _ h => h) (Or.inl ⟨by rfl, ?_⟩) (by assumption) ?_
              rotate_left
              · intro W hSw
                (try dsimp only at hSw)
                go_simp
                (try with_reducible rfl)
              try simp only [Act.put, List.setIfInBounds_toArray, List.set_cons_zero, List.set_cons_succ]
              refine wpAnyH_take (i := 14) (oi := { dst := _, op := _, type := _, pos := _, after := _, guard := _ }) (v := ?_) rfl (by kernel_rfl) (by kernel_rfl) (by kernel_rfl) (fun _ _ _ h => h) (Or.inl ⟨by rfl, ?_⟩) (by assumption) ?_
              rotate_left
              · intro W hSw
                (try dsimp only at hSw)
                go_simp
                (try with_reducible rfl)
              try simp only [Act.put, List.setIfInBounds_toArray, List.set_cons_zero, List.set_cons_succ]
              refine wpAnyH_take (i := 15) (oi := { dst := _, op := _, type := _, pos := _, after := _, guard := _ }) (v := ?_) rfl (by kernel_rfl) (by kernel_rfl) (by kernel_rfl) (fun _ _ _ h => h) (Or.inl ⟨by rfl, ?_⟩) (by assumption) ?_
              rotate_left
              · intro W hSw
                (try dsimp only at hSw)
                go_simp
                (try with_reducible rfl)
              try simp only [Act.put, List.setIfInBounds_toArray, List.set_cons_zero, List.set_cons_succ]
              refine wpAnyH_take (i := 16) (oi := { dst := _, op := _, type := _, pos := _, after := _, guard := _ }) (v := ?_) rfl (by kernel_rfl) (by kernel_rfl) (by kernel_rfl) (fun _ _ _ h => h) (Or.inl ⟨by rfl, ?_⟩) (by assumption) ?_
              rotate_left
              · intro W hSw
                (try dsimp only at hSw)
                go_simp
                (try with_reducible rfl)
              try simp only [Act.put, List.setIfInBounds_toArray, List.set_cons_zero, List.set_cons_succ]
              refine wpAnyH_take (i := 17) (oi := { dst := _, op := _, type := _, pos := _, after := _, guard := _ }) (v := ?_) rfl (by kernel_rfl) (by kernel_rfl) (by kernel_rfl) (fun _ _ _ h => h) (Or.inl ⟨by rfl, ?_⟩) (by assumption) ?_
              rotate_left
              · intro W hSw
                (try dsimp only at hSw)
                go_simp
                (try with_reducible rfl)
              try simp only [Act.put, List.setIfInBounds_toArray, List.set_cons_zero, List.set_cons_succ]
              refine wpAnyH_take (i := 18) (oi := { dst := _, op := _, type := _, pos := _, after := _, guard := _ }) (v := ?_) rfl (by kernel_rfl) (by kernel_rfl) (by kernel_rfl) (fun _ _ _ h => h) (Or.inl ⟨by rfl, ?_⟩) (by assumption) ?_
              rotate_left
              · intro W hSw
                (try dsimp only at hSw)
                go_simp
                (try with_reducible rfl)
              try simp only [Act.put, List.setIfInBounds_toArray, List.set_cons_zero, List.set_cons_succ]
              refine wpAnyH_take (i := 19) (oi := { dst := _, op := _, type := _, pos := _, after := _, guard := _ }) (v := ?_) rfl (by kernel_rfl) (by kernel_rfl) (by kernel_rfl) (fun _ _ _ h => h) (Or.inl ⟨by rfl, ?_⟩) (by assumption) ?_
              rotate_left
              · intro W hSw
                (try dsimp only at hSw)
                go_simp
                (try with_reducible rfl)
              try simp only [Act.put, List.setIfInBounds_toArray, List.set_cons_zero, List.set_cons_succ]
              refine wpAnyH_take (i := 20) (oi := { dst := _, op := _, type := _, pos := _, after := _, guard := _ }) (v := ?_) rfl (by kernel_rfl) (by kernel_rfl) (by kernel_rfl) (fun _ _ _ h => h) (Or.inl ⟨by rfl, ?_⟩) (by assumption) ?_
              rotate_left
              · intro W hSw
                (try dsimp only at hSw)
                go_simp
                (try with_reducible rfl)
              try simp only [Act.put, List.setIfInBounds_toArray, List.set_cons_zero, List.set_cons_succ]
              refine wpAnyH_done (by kernel_rfl) ?_ _
              refine NoPanic.normal ?_
              clear hHeld
              go_upto_region 11 with fail
              clear hsub d1 d3 HS HGR HX HR
              obtain ⟨WE, hWE⟩ : ∃ WE, WD.drew = WE := ⟨_, rfl⟩
              have BE : Hid (Below WD.heap.size WD WE) := by rw [← hWE]; exact Below.drew (Below.refl _ _)
              have HBE : Hid (Below w0.heap.size w0 WE) := below_trans HBD.out BE.out
              have HXE : Hid (WE.heap[gb]? = some (.cells #[.slice a0 nT c0, .slice a1 nS c1, .slice (some ⟨g3, o3, none⟩) n c2] 26 (0, 0))) := (BE.out.block _ (lt_of_heap HXD.out)).trans HXD.out
              have HRE : Hid (WE.heap[b]? = some (.cells (qC Nk S).toArray 4 (0, 0))) := (BE.out.block _ (lt_of_heap HRD.out)).trans HRD.out
              have HGE : Hid (w.grownBy WE (some b)) := HGD.out.trans (grown_below BE.out)
              have HWX : Hid (wth Nk yl = true) := by have := HPW.out.2.2; rw [HK.out] at this; exact this
              have HUS : Hid (un Nk S < N) := by
                have h1 := un_lt (Q := Q) (R := S) (HLP.out.up.trans ((mrk_up R x).trans HLI.out.up)) HXK.out HQX.out HLI.out.at
                have h2 := HUN.out
                show _ < _
                omega
              refine wp_region_noPanic ?_
              refine wp_region_held_drew (S := fun W => W.cell? ⟨g3, o3 + j * 2 + 1, none⟩ = some (.slice ax yl.length cx) ∧ W.cell? ⟨gb, 0, none⟩ = some (.slice a0 nT c0) ∧ W.cell? ⟨gb, 1, none⟩ = some (.slice a1 nS c1) ∧ W.cell? ⟨gb, 2, none⟩ = some (.slice (some ⟨g3, o3, none⟩) n c2)) (by kernel_rfl) (by rw [hWE]; exact ⟨(HC0.out WE HBE.out).2, HCC.out WE HXE.out⟩) (fun hHeld => ?_)
              rw [hWE] at hHeld ⊢
              clear hWE
              refine wpAnyH_take (i := 0) (oi := { dst := _, op := _, type := _, pos := _, after := _, guard := _ }) (v := ?_) rfl (by kernel_rfl) (by kernel_rfl) (by kernel_rfl) (fun _ _ _ h => h) (Or.inl ⟨by rfl, ?_⟩) (by assumption) ?_
              rotate_left
              · intro W hSw
                (try dsimp only at hSw)
                go_simp
                (try with_reducible rfl)
              try simp only [Act.put, List.setIfInBounds_toArray, List.set_cons_zero, List.set_cons_succ]
              refine wpAnyH_take (i := 1) (oi := { dst := _, op := _, type := _, pos := _, after := _, guard := _ }) (v := ?_) rfl (by kernel_rfl) (by kernel_rfl) (by kernel_rfl) (fun _ _ _ h => h) (Or.inl ⟨by rfl, ?_⟩) (by assumption) ?_
              rotate_left
              · intro W hSw
                (try dsimp only at hSw)
                go_simp
                (try with_reducible rfl)
              try simp only [Act.put, List.setIfInBounds_toArray, List.set_cons_zero, List.set_cons_succ]
              refine wpAnyH_take (i := 2) (oi := { dst := _, op := _, type := _, pos := _, after := _, guard := _ }) (v := ?_) rfl (by kernel_rfl) (by kernel_rfl) (by kernel_rfl) (fun _ _ _ h => h) (Or.inl ⟨by rfl, ?_⟩) (by assumption) ?_
              rotate_left
              · intro W hSw
                (try dsimp only at hSw)
                go_simp
                (try with_reducible rfl)
              try simp only [Act.put, List.setIfInBounds_toArray, List.set_cons_zero, List.set_cons_succ]
              refine wpAnyH_take (i := 3) (oi := { dst := _, op := _, type := _, pos := _, after := _, guard := _ }) (v := ?_) rfl (by kernel_rfl) (by kernel_rfl) (by kernel_rfl) (fun _ _ _ h => h) (Or.inl ⟨by rfl, ?_⟩) (by assumption) ?_
              rotate_left
              · intro W hSw
                (try dsimp only at hSw)
                go_simp
                (try with_reducible rfl)
              try simp only [Act.put, List.setIfInBounds_toArray, List.set_cons_zero, List.set_cons_succ]
              refine wpAnyH_take (i := 4) (oi := { dst := _, op := _, type := _, pos := _, after := _, guard := _ }) (v := ?_) rfl (by kernel_rfl) (by kernel_rfl) (by kernel_rfl) (fun _ _ _ h => h) (Or.inl ⟨by rfl, ?_⟩) (by assumption) ?_
              rotate_left
              · intro W hSw
                (try dsimp only at hSw)
                go_simp
                (try with_reducible rfl)
              try simp only [Act.put, List.setIfInBounds_toArray, List.set_cons_zero, List.set_cons_succ]
              refine wpAnyH_take (i := 5) (oi := { dst := _, op := _, type := _, pos := _, after := _, guard := _ }) (v := ?_) rfl (by kernel_rfl) (by kernel_rfl) (by kernel_rfl) (fun _ _ _ h => h) (Or.inl ⟨by rfl, ?_⟩) (by assumption) ?_
              rotate_left
              · intro W hSw
                (try dsimp only at hSw)
                go_simp
                (try with_reducible rfl)
              try simp only [Act.put, List.setIfInBounds_toArray, List.set_cons_zero, List.set_cons_succ]
              refine wpAnyH_take (i := 6) (oi := { dst := _, op := _, type := _, pos := _, after := _, guard := _ }) (v := ?_) rfl (by kernel_rfl) (by kernel_rfl) (by kernel_rfl) (fun _ _ _ h => h) (Or.inl ⟨by rfl, ?_⟩) (by assumption) ?_
              rotate_left
              · intro W hSw
                (try dsimp only at hSw)
                go_simp
                (try with_reducible rfl)
              try simp only [Act.put, List.setIfInBounds_toArray, List.set_cons_zero, List.set_cons_succ]
              refine wpAnyH_take (i := 7) (oi := { dst := _, op := _, type := _, pos := _, after := _, guard := _ }) (v := ?_) rfl (by kernel_rfl) (by kernel_rfl) (by kernel_rfl) (fun _ _ _ h => h) (Or.inl ⟨by rfl, ?_⟩) (by assumption) ?_
              rotate_left
              · intro W hSw
                (try dsimp only at hSw)
                go_simp
                (try with_reducible rfl)
              try simp only [Act.put, List.setIfInBounds_toArray, List.set_cons_zero, List.set_cons_succ]
              refine wpAnyH_take (i := 8) (oi := { dst := _, op := _, type := _, pos := _, after := _, guard := _ }) (v := ?_) rfl (by kernel_rfl) (by kernel_rfl) (by kernel_rfl) (fun _ _ _ h => h) (Or.inl ⟨by rfl, ?_⟩) (by assumption) ?_
              rotate_left
              · intro W hSw
                (try dsimp only at hSw)
                go_simp
                (try with_reducible rfl)
              try simp only [Act.put, List.setIfInBounds_toArray, List.set_cons_zero, List.set_cons_succ]
              refine wpAnyH_ready (rs := [9]) (by kernel_rfl) (by simp) ?_
              refine AllReadyH.cons (o := { dst := _, op := _, type := _, pos := _, after := _, guard := _ }) rfl (fun K hK => ?_) AllReadyH.nil
              go_simp
              go_at_call 44
              refine (IH.out WE _ yl S HBE.out HRE.out HRX.out HPZ.out HWX.out HUS.out).mono ?_
              rintro e Z1 ⟨U, rfl, hu1, hu2, hz1⟩
              have HGZ : Hid (WE.grownBy Z1 (some b)) := hz1
              have HRZ : Hid (Z1.heap[b]? = some (.cells (qC Nk U).toArray 4 (0, 0))) := hu1
              have HLD : Hid (Ld nl nT P (syl yl) S U) := hu2
              have HBZ : Hid (Below w0.heap.size w0 Z1) := below_grown HBE.out HB.out hz1
              have HXZ : Hid (Z1.heap[gb]? = some (.cells #[.slice a0 nT c0, .slice a1 nS c1, .slice (some ⟨g3, o3, none⟩) n c2] 26 (0, 0))) := (hz1.block _ (lt_of_heap HXE.out) (fun e => HGBB.out (by cases e; rfl))).trans HXE.out
              clear hu1 hu2 hz1
              refine hK.out _ _ ?_ (fun hHeld => ?_)
              · exact ⟨(HC0.out Z1 HBZ.out).2, HCC.out Z1 HXZ.out⟩
              clear hK K
              try simp only [Act.put, List.setIfInBounds_toArray, List.set_cons_zero, List.set_cons_succ]
              refine wpAnyH_take (i := 10) (oi := { dst := _, op := _, type := _, pos := _, after := _, guard := _ }) (v := ?_) rfl (by kernel_rfl) (by kernel_rfl) (by kernel_rfl) (fun _ _ _ h => h) (Or.inl ⟨by rfl, ?_⟩) (by assumption) ?_
              rotate_left
              · intro W hSw
                (try dsimp only at hSw)
                go_simp
                (try with_reducible rfl)
              try simp only [Act.put, List.setIfInBounds_toArray, List.set_cons_zero, List.set_cons_succ]
              refine wpAnyH_done (by kernel_rfl) ?_ _
              refine NoPanic.normal ?_
              clear hHeld
              go_wp2_with fail
              go_roundg (n - (j + 1))
              case measure => have := HJ.out; have := HJL.out; omega
              case rel => exact ⟨j + 1, by first | rfl | (rw [show (j : Int) + 1 = ((j + 1 : Nat) : Int) by omega]), rfl, U, HGE.out.trans HGZ.out, ⟨HJL.out, rfl⟩, HXZ, HRZ, HCL.out U (by omega) HXY.out HLD.out⟩
          · have e1 : decide ((j : Int) < (n : Int)) = false := by rw [decide_eq_false_iff_not]; omega
            have e2 : decide (j < n) = false := by rw [decide_eq_false_iff_not]; omega
            have HJN : Hid (j = P.length) := by have := HJ.out; have := HNN.out; show j = P.length; omega
            have HLN : Hid (Lp nl nT P l Q i S) := (by have h9 := HLI.out; rw [HJN.out] at h9; exact h9.done HLP.out)
            have HSS : Hid (S x = true) := HLI.out.at
            clear hj
            have k1 := below_cell HBW.out (HCN.out x HXK.out)
            cases hv : nl x with
            | false =>
              rw [hv] at k1
              have HVV : Hid (nl x = false) := hv
              clear hv
              go_wp2_with fail
              go_ret
              exact ⟨S, rfl, HR.out, HLN.out.done HDR.out HSS.out HVV.out, HGR.out⟩
            | true =>
              rw [hv] at k1
              have HVV : Hid (nl x = true) := hv
              clear hv
              go_wp2_with fail
              go_roundg (na - (i + 1))
              case measure => have := HI.out; have := HIL.out; omega
              case rel => exact ⟨i + 1, by first | rfl | (rw [show (i : Int) + 1 = ((i + 1 : Nat) : Int) by omega]), rfl, S, HGR, ⟨HIL.out, rfl⟩, HX, HR, HLN.out.next HDR.out HSS.out HVV.out⟩
    · have e1 : decide ((i : Int) < (na : Int)) = false := by rw [decide_eq_false_iff_not]; omega
      have e2 : decide (i < na) = false := by rw [decide_eq_false_iff_not]; omega
      have HIN : Hid (i = l.length) := by have := HI.out; have := HNA.out; show i = l.length; omega
      clear hi
      go_wp2_with fail
      go_ret
      exact ⟨R, rfl, HR.out, (by have h9 := HLP.out; rw [HIN.out] at h9; exact h9.all), HGR.out⟩
end Go.Proofs.Ytodncbkdlnepjaa
