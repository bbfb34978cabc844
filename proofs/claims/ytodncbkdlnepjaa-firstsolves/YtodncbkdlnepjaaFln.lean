import Derived.Test.YtodncbkdlnepjaaFdl
namespace Go.Proofs.Ytodncbkdlnepjaa
open Go.RowKit Go.Maps

/-- What is said of each symbol, as two lists in memory. -/
def Bl (W : World) (v : Value) (k : Nat) (T : Ss) : Prop := Rw W v k ((List.range k).map fun j => .bool (T j).2)
def Tl (W : World) (v : Value) (k : Nat) (T : Ss) : Prop := Rw W v k ((List.range k).map fun j => .int .u64 ((T j).1 : Int))
theorem rng_get {α : Type} (f : Nat → α) (k j : Nat) (h : j < k) : ((List.range k).map f)[j]? = some (f j) := by
  rw [List.getElem?_map, List.getElem?_range h]; rfl
theorem Bl.up {W W' : World} {v : Value} {k : Nat} {T : Ss} (h : Bl W v k T) (hb : Below W.heap.size W W') : Bl W' v k T := Rw.up h hb
theorem Tl.up {W W' : World} {v : Value} {k : Nat} {T : Ss} (h : Tl W v k T) (hb : Below W.heap.size W W') : Tl W' v k T := Rw.up h hb
theorem Bl.form {W : World} {v : Value} {k : Nat} {T : Ss} (h : Bl W v k T) : ∃ a c, v = .slice a k c := Rw.form h
theorem Tl.form {W : World} {v : Value} {k : Nat} {T : Ss} (h : Tl W v k T) : ∃ a c, v = .slice a k c := Rw.form h
theorem Bl.get {W : World} {a : Option Addr} {c k : Nat} {T : Ss} (h : Bl W (.slice a k c) k T) (hk : 0 < k) : ∃ g o, a = some ⟨g, o, none⟩ ∧ ∀ j, j < k → W.cell? ⟨g, o + j, none⟩ = some (.bool (T j).2) := by
  obtain ⟨g, o, cap, e0, hc⟩ := Rw.place h hk
  obtain ⟨rfl, -, rfl⟩ := Value.slice.inj e0
  exact ⟨g, o, rfl, fun j hj => hc j _ (rng_get _ _ _ hj)⟩
theorem Tl.get {W : World} {a : Option Addr} {c k : Nat} {T : Ss} (h : Tl W (.slice a k c) k T) (hk : 0 < k) : ∃ g o, a = some ⟨g, o, none⟩ ∧ ∀ j, j < k → W.cell? ⟨g, o + j, none⟩ = some (.int .u64 ((T j).1 : Int)) := by
  obtain ⟨g, o, cap, e0, hc⟩ := Rw.place h hk
  obtain ⟨rfl, -, rfl⟩ := Value.slice.inj e0
  exact ⟨g, o, rfl, fun j hj => hc j _ (rng_get _ _ _ hj)⟩
/-- What is said is closed under the productions. -/
def Cl (nT : Nat) (P : List Pd) (T : Ss) : Prop := (∀ t, t < nT → (T t).1.testBit t = true) ∧ ∀ p ∈ P, 0 ≤ p.1 → le2 (alg T (syl p.2.2)) (T (nT + p.1.toNat))
theorem fk_cl {nT : Nat} {P : List Pd} {S : Ss} (h : Fk nT (P.map pq) S) : Cl nT P S :=
  ⟨fun t ht => by rw [h.tok t ht]; exact Nat.testBit_two_pow_self, fun p hp h0 => fk_prod h hp h0⟩
theorem fk_least {nT : Nat} {P : List Pd} {S T : Ss} (h : Fk nT (P.map pq) S) (hT : Cl nT P T) : Leq S T := by
  obtain ⟨U, hU⟩ : ∃ U : Ss, U = fun x => if x < nT then ((T x).1, false) else T x := ⟨_, rfl⟩
  have hlo : ∀ x, x < nT → U x = ((T x).1, false) := fun x hx => by rw [hU]; exact if_pos hx
  have hhi : ∀ x, nT ≤ x → U x = T x := fun x hx => by rw [hU]; exact if_neg (by omega)
  have hUT : Leq U T := fun x => by
    rcases Nat.lt_or_ge x nT with hx | hx
    · rw [hlo x hx]; exact ⟨Nat.or_self _, fun h => by cases h⟩
    · rw [hhi x hx]; exact ⟨Nat.or_self _, id⟩
  refine Leq.trans (h.least U (fun p hp => ?_) (fun x => ?_)) hUT
  · obtain ⟨q, hq, h0, rfl⟩ := prd_mem.1 hp
    obtain ⟨r, hr, rfl⟩ := List.mem_map.1 hq
    intro x
    by_cases hx : x = nT + r.1.toNat
    · have e0 : stp U (nT + (pq r).1.toNat, opn nT [] (pq r).2) x = ((U x).1 ||| (alg U (opn nT [] (syl r.2.2))).1, (U x).2 || (alg U (opn nT [] (syl r.2.2))).2) := by unfold stp; exact if_pos hx
      rw [e0]
      have e1 := alg_opn U nT (fun y hy => by rw [hlo y hy]) (syl r.2.2)
      rw [e1]
      have e2 := alg_mono hUT (syl r.2.2)
      have e3 := hT.2 r hr h0
      rw [← hx, ← hhi x (by omega)] at e3
      have e4 : le2 (alg U (syl r.2.2)) (U x) := le2.trans e2 e3
      refine ⟨or_le_lub (Nat.or_self _) e4.1, fun e => ?_⟩
      dsimp only at e
      rw [Bool.or_eq_true] at e
      exact e.elim id e4.2
    · have e0 : stp U (nT + (pq r).1.toNat, opn nT [] (pq r).2) x = U x := by unfold stp; exact if_neg hx
      rw [e0]
      exact ⟨Nat.or_self _, id⟩
  · unfold bar
    split
    · rename_i hx
      rw [hlo x hx]
      refine ⟨?_, fun h => by cases h⟩
      refine Nat.eq_of_testBit_eq fun i => ?_
      dsimp only
      rw [Nat.testBit_or, Nat.testBit_two_pow]
      by_cases e : x = i
      · subst e; rw [hT.1 x hx]; simp
      · rw [decide_eq_false e, Bool.false_or]
    · exact ⟨Nat.zero_or _, fun h => by cases h⟩

set_option maxRecDepth 100000 in
set_option maxHeartbeats 8000000 in
theorem lalong_any {vn vf v : Value} {k : Nat} {T : Ss} {l : List Rf} (w : World) (hn : Bl w vn k T) (hf : Tl w vf k T) (hT : ∀ x, (T x).1 < 2 ^ 64) (hr : Rw w v l.length (flat rf l)) (hl : l.length ≤ 4611686018427387904) (hw : wth k l = true) :
    Calls Try.prog 33 #[vn, vf, v] w fun e w' => e = .returned (.tuple #[.int .u64 ((alg T (syl l)).1 : Int), .bool (alg T (syl l)).2]) ∧ Below w.heap.size w w' := by
  have HN : Hid (Bl w vn k T) := hn
  have HF : Hid (Tl w vf k T) := hf
  have HT : Hid _ := hT
  have HV : Hid (Rw w v l.length (flat rf l)) := hr
  have HL : Hid _ := hl
  have HWT : Hid _ := hw
  obtain ⟨an, cn, rfl⟩ := hn.form
  obtain ⟨af, cf, rfl⟩ := hf.form
  obtain ⟨a, c, rfl⟩ := hr.form
  clear hn hf hT hr hl hw
  obtain ⟨n, hnn⟩ : ∃ n, l.length = n := ⟨_, rfl⟩
  have HNN : Hid (l.length = n) := hnn
  rw [hnn] at HV HL ⊢
  clear hnn
  go_enter Try.func33, Try.ntmps33
  go_upto_region 3 with fail
  go_loopg [8, 9] n (fun gm v8 v9 wr => ∃ i : Nat, v9 = .int .i64 (i : Int) ∧ ∃ acc : Nat, v8 = .int .u64 (acc : Int) ∧ Hid (Below w.heap.size w wr) ∧ Hid (i ≤ n ∧ gm = n - i) ∧ Hid (acc < 2 ^ 64 ∧ acc ||| (alg T (syl (l.drop i))).1 = (alg T (syl l)).1 ∧ (alg T (syl (l.drop i))).2 = (alg T (syl l)).2))
  case atStart => exact ⟨0, rfl, 0, rfl, Below.refl _ _, ⟨Nat.zero_le _, rfl⟩, ⟨by decide, by rw [List.drop_zero, Nat.zero_or], by rw [List.drop_zero]⟩⟩
  case round =>
    obtain ⟨i, rfl, acc, rfl, HBW, HI, HA⟩ := hrel
    by_cases hi : i < n
    · obtain ⟨g, o, cap, e0, hc⟩ := HV.out.place (by omega)
      obtain ⟨rfl, -, rfl⟩ := Value.slice.inj e0
      have hil : i < l.length := by have := HNN.out; omega
      obtain ⟨q0, -, -⟩ := rf_get l i hil
      have k0 := below_cell HBW.out (hc _ _ q0)
      have hxw := wth_mem HWT.out _ (mem_getD hil rfd)
      have hdr : syl (l.drop i) = (l.getD i rfd).1.toNat :: syl (l.drop (i + 1)) := by
        rw [List.drop_eq_getElem_cons hil, List.getD_eq_getElem?_getD, List.getElem?_eq_getElem hil]; rfl
      obtain ⟨x, hx⟩ : ∃ x, l.getD i rfd = x := ⟨_, rfl⟩
      rw [hx] at k0 hxw hdr
      obtain ⟨xs, xf, xz⟩ := x
      dsimp only at k0 hxw hdr
      obtain ⟨xn, hxn⟩ : ∃ xn : Nat, xs = (xn : Int) := ⟨xs.toNat, by omega⟩
      subst hxn
      rw [Int.toNat_natCast] at hdr
      have HDR : Hid (syl (l.drop i) = xn :: syl (l.drop (i + 1))) := hdr
      have HXK : Hid (xn < k) := by show xn < k; omega
      obtain ⟨gn, on, rfl, hcn⟩ := HN.out.get (by have := HXK.out; omega)
      obtain ⟨gf, off, rfl, hcf⟩ := HF.out.get (by have := HXK.out; omega)
      have k1 := below_cell HBW.out (hcn xn HXK.out)
      have k2 := below_cell HBW.out (hcf xn HXK.out)
      have hor := u64_or acc (T xn).1 HA.out.1 (HT.out xn)
      have e1 : decide ((i : Int) < (n : Int)) = true := by rw [decide_eq_true_eq]; omega
      have e2 : decide (i < n) = true := by rw [decide_eq_true_eq]; omega
      have e5 : (i : Int) < (n : Int) := by omega
      have e6 : i < n := hi
      have e7 : (xn : Int) < (k : Int) := by have := HXK.out; omega
      have e8 : xn < k := HXK.out
      have HIL : Hid (i < n) := hi
      have hwr := w64n i (by have := HL.out; have := HIL.out; omega)
      clear e0 hc hx q0 hil hi hxw hdr hcn hcf
      cases hv : (T xn).2 with
      | false =>
        rw [hv] at k1
        have HVV : Hid ((T xn).2 = false) := hv
        clear hv
        go_wp2_with fail
        go_ret2
        refine ⟨?_, HBW.out⟩
        have h9 := HA.out.2
        rw [HDR.out, alg_no T xn _ HVV.out] at h9
        rw [← h9.1, ← h9.2]
        rfl
      | true =>
        rw [hv] at k1
        have HVV : Hid ((T xn).2 = true) := hv
        clear hv
        go_wp2_with fail
        go_roundg (n - (i + 1))
        case measure => have := HI.out; have := HIL.out; omega
        case rel => exact ⟨i + 1, by first | rfl | (rw [show (i : Int) + 1 = ((i + 1 : Nat) : Int) by omega]), acc ||| (T xn).1, rfl, HBW, ⟨HIL.out, rfl⟩, by
          have h9 := HA.out
          rw [HDR.out, alg_yes T xn _ HVV.out] at h9
          dsimp only at h9
          exact ⟨Nat.or_lt_two_pow h9.1 (HT.out xn), by rw [Nat.or_assoc]; exact h9.2.1, h9.2.2⟩⟩
    · have e1 : decide ((i : Int) < (n : Int)) = false := by rw [decide_eq_false_iff_not]; omega
      have e2 : decide (i < n) = false := by rw [decide_eq_false_iff_not]; omega
      have HIN : Hid (i = n) := by have := HI.out; show i = n; omega
      clear hi
      go_wp2_with fail
      go_ret2
      refine ⟨?_, HBW.out⟩
      have h9 := HA.out.2
      rw [HIN.out, ← HNN.out, List.drop_length] at h9
      have e : alg T (syl []) = (0, true) := rfl
      rw [e, Nat.or_zero] at h9
      rw [← h9.1, ← h9.2]
      rfl
end Go.Proofs.Ytodncbkdlnepjaa
