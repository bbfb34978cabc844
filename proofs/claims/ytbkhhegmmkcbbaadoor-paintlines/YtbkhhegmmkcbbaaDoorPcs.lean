import Derived.Test.YtbkhhegmmkcbbaaDoorPbz
namespace Go.Proofs.YtbkhhegmmkcbbaaDoor
open Go.RowKit Go.Maps

/-- The class that the innermost painted node gives. -/
def clr (L : List Pa) (T : List Nd) : List Int → ByteArray
  | [] => ⟨#[]⟩
  | x :: r => match fs L (T.getD x.toNat ndd).nm with
    | some k => (L.getD k paz).cl
    | none => clr L T r
def cls (L : List Pa) (T : List Nd) (z : Int) : ByteArray := if z < 0 then ⟨#[]⟩ else clr L T (pat T z).reverse
theorem pth_mem (t : List Nd) (z : Int) : ∀ (f a k : Nat) (o : List Int), Fo (kds t) → a ≤ t.length → k ≤ rA (kds t) a → (∀ x ∈ o, ∃ b : Nat, x = (b : Int) ∧ b < t.length) → ∀ x ∈ pth t z f a k o, ∃ b : Nat, x = (b : Int) ∧ b < t.length
  | 0, a, k, o, _, _, _, h => h
  | f + 1, a, k, o, hF, ha, hk, h => by
    unfold pth
    by_cases h0 : k = 0
    · rw [if_pos h0]; exact h
    · rw [if_neg h0]
      have hal : a < t.length := by have h2 := hF.le a; rw [kds_len] at h2; omega
      obtain ⟨s1, s2, s3, s4⟩ := hF.step a (by rw [kds_len]; exact hal)
      have hE := hF.elt a (by rw [kds_len]; exact hal)
      rw [kds_len] at hE
      split
      · refine pth_mem t z f (a + 1) _ _ hF hal s3 (fun x hx => ?_)
        rcases List.mem_append.1 hx with h1 | h1
        · exact h x h1
        · rw [List.mem_singleton] at h1
          exact ⟨a, h1, hal⟩
      · exact pth_mem t z f _ _ _ hF hE.2.1 (by omega) h
theorem pat_mem (t : List Nd) (z : Int) : ∀ x ∈ pat t z, ∃ b : Nat, x = (b : Int) ∧ b < t.length := by
  unfold pat
  split
  · intro x hx; cases hx
  · next r hr => exact pth_mem t z _ 0 r [] ⟨r, hr⟩ (Nat.zero_le _) (by rw [Fo.top hr]; exact Nat.le_refl _) (fun x hx => by cases hx)
theorem pth_small' {t : List Nd} (z : Int) : (pat t z).length ≤ t.length := by
  unfold pat
  split
  · exact Nat.zero_le _
  · next r hr =>
    have h1 := pth_small z ⟨r, hr⟩ (t.length + 1) 0 r (by omega) (Nat.zero_le _) (by rw [Fo.top hr]; exact Nat.le_refl _)
    omega
theorem fs_lt {L : List Pa} {t : ByteArray} {k : Nat} (h : fs L t = some k) : k < L.length := by
  unfold fs at h
  rw [List.findIdx?_eq_some_iff_findIdx_eq] at h
  exact h.1
theorem clr_step (L : List Pa) (T : List Nd) (l : List Int) (j : Nat) (h : j < l.length) : clr L T (l.take (j + 1)).reverse = match fs L (T.getD (l.getD j 0).toNat ndd).nm with
    | some k => (L.getD k paz).cl
    | none => clr L T (l.take j).reverse := by
  have e1 : l.take (j + 1) = l.take j ++ [l.getD j 0] := by
    rw [List.take_add_one, List.getElem?_eq_getElem h]
    simp only [List.getD_eq_getElem?_getD, List.getElem?_eq_getElem h]
    rfl
  rw [e1, List.reverse_append]
  rfl
/-- What comes in is within reach. -/
structure Zp (L : List Pa) (T : List Nd) : Prop where
  ll : L.length * 32 ≤ 140737488355328
  tl : Sm T
  ln : ∀ x ∈ L, x.nm.size ≤ maxLen ∧ x.cl.size ≤ 140737488355328
  tn : ∀ x ∈ T, x.nm.size ≤ maxLen
theorem mem_getD {α : Type} (l : List α) (d : α) (i : Nat) (h : i < l.length) : l.getD i d ∈ l := by
  rw [List.getD_eq_getElem?_getD, List.getElem?_eq_getElem h]; exact List.getElem_mem h
set_option maxRecDepth 100000 in
theorem clone_any (s : ByteArray) (w : World) (h : s.size ≤ 140737488355328) : Calls Tryd.prog 18 #[.string s] w fun e w' => e = .returned (.string s) ∧ Below w.heap.size w w' := by
  go_enter Tryd.func18, Tryd.ntmps18
  go_wp2_with (go_at_call 28; refine (Tryd.stringslite_Clone s w (by omega)).mono ?_; rintro ee w1 ⟨rfl, hb1⟩; have HB1 : Hid (Below w.heap.size w w1) := hb1; clear hb1)
  go_ret
  exact ⟨rfl, HB1.out⟩
set_option maxRecDepth 100000 in
set_option maxHeartbeats 8000000 in
theorem class_any {v u : Value} {L : List Pa} {T : List Nd} (w : World) (h : Pl w v L) (hT : Ns w u T) (hz : Zp L T) (z : Int) : Calls Tryd.prog 10 #[.agg (lgA v), u, .int .i64 z] w fun e w' => e = .returned (.string (cls L T z)) ∧ Below w.heap.size w w' := by
  have HP : Hid (Pl w v L) := h
  have HT : Hid (Ns w u T) := hT
  have HZ : Hid (Zp L T) := hz
  obtain ⟨a, cap, rfl⟩ := h.form
  obtain ⟨a2, cap2, rfl⟩ := hT.form
  obtain ⟨R, hR⟩ : ∃ R, cls L T z = R := ⟨_, rfl⟩
  rw [hR]
  unfold cls at hR
  obtain ⟨W1, hW1⟩ : ∃ W1, W1 = w.alloc (.cells (lgA (.slice a L.length cap)) 46) := ⟨_, rfl⟩
  have HB1 : Hid (Below w.heap.size w W1) := by rw [hW1]; exact bel_up _ _
  have HH1 : Hid (W1.heap[w.heap.size]? = some (.cells (lgA (.slice a L.length cap)) 46 (0, 0))) := by rw [hW1]; exact heap_new w _
  have hkey : (lgA (.slice a L.length cap))[8]? = some (.slice a L.length cap) := rfl
  have c8 := rcell HH1.out 8 _ hkey
  unfold lgA at hW1 ⊢
  obtain ⟨n, hn⟩ : ∃ n, L.length = n := ⟨_, rfl⟩
  obtain ⟨m, hm⟩ : ∃ m, T.length = m := ⟨_, rfl⟩
  have HN : Hid (L.length = n) := hn
  have HM : Hid (T.length = m) := hm
  rw [hn] at HP hW1 c8 HH1 ⊢
  rw [hm] at HT ⊢
  obtain ⟨lb, hlb⟩ : ∃ lb, w.heap.size = lb := ⟨_, rfl⟩
  have HLB : Hid (w.heap.size = lb) := hlb
  rw [hlb] at c8 HH1
  clear h hT hz hkey hn hm
  by_cases h0 : z < 0
  · rw [if_pos h0] at hR
    subst hR
    have d1 : decide (z < 0) = true := by rw [decide_eq_true_eq]; exact h0
    clear h0
    go_enter Tryd.func10, Tryd.ntmps10
    go_upto_region 1 with fail
    rw [← hW1]
    clear hW1 hlb
    go_wp2_with fail
    go_ret
    exact ⟨rfl, HB1.out⟩
  · rw [if_neg h0] at hR
    have d1 : decide (z < 0) = false := by rw [decide_eq_false_iff_not]; exact h0
    have HR : Hid (clr L T (pat T z).reverse = R) := hR
    have HBN : Hid _ := byName_any W1 (HP.out.up HB1.out) HZ.out.ll (fun x hx => (HZ.out.ln x hx).1)
    clear h0 hR
    go_enter Tryd.func10, Tryd.ntmps10
    go_upto_region 1 with fail
    rw [← hW1]
    clear hW1
    go_upto_region 4 with (go_at_call 16; refine Calls.mono HBN.out ?_; rintro e w2 ⟨b, q, rfl, hm2, hb2⟩; have HM2 : Hid (Mq w2 b q (fs L)) := hm2; have HB2 : Hid (Below w.heap.size w w2) := below_trans HB1.out hb2; have HC8 : Hid (∀ W, Below w2.heap.size w2 W → W.cell? ⟨lb, 8, none⟩ = some (.slice a n cap)) := (fun W hW => below_cell hW (below_cell hb2 c8)); clear hm2 hb2)
    have HPT : Hid _ := path_any w2 (HT.out.up HB2.out) HZ.out.tl z
    have HPM : Hid (∀ x ∈ pat T z, ∃ b : Nat, x = (b : Int) ∧ b < T.length) := pat_mem T z
    have HPS : Hid ((pat T z).length ≤ m) := by have h9 := @pth_small' T z; rw [HM.out] at h9; exact h9
    obtain ⟨pt, hpt⟩ : ∃ pt, pat T z = pt := ⟨_, rfl⟩
    rw [hpt] at HPT HPM HPS HR
    obtain ⟨k, hk⟩ : ∃ k, pt.length = k := ⟨_, rfl⟩
    rw [hk] at HPT HPS
    have HK : Hid (pt.length = k) := hk
    have HMZ : Hid (m * 72 + 4096 ≤ 140737488355328) := by have h9 := HZ.out.tl; unfold Sm at h9; rw [HM.out] at h9; exact h9
    have hwk : IntKind.i64.wrap ((k : Int) - 1) = (k : Int) - 1 := by have := HPS.out; have := HMZ.out; rw [IntKind.wrap_i64]; omega
    clear hpt hk c8
    go_upto_region 6 with (go_at_call 17; refine Calls.mono HPT.out ?_; rintro e w3 ⟨v3, rfl, ho3, hb3⟩; obtain ⟨pa, pc, rfl⟩ := row_shape ho3; have HO3 : Hid (w3.ownsRow w2.heap.size 3 1 (.slice pa k pc) k (iC pt)) := ho3; have HB3 : Hid (Below w2.heap.size w2 w3) := hb3; clear ho3 hb3)
    clear hwk
    go_loopg [9] k (fun gm v9 wr => ∃ j : Nat, v9 = .int .i64 ((j : Int) - 1) ∧ Hid (j ≤ k ∧ gm = j) ∧ Hid (clr L T (pt.take j).reverse = R) ∧ w3 = wr)
    case atStart => exact ⟨k, rfl, ⟨Nat.le_refl _, rfl⟩, by rw [List.take_of_length_le (by rw [HK.out]; exact Nat.le_refl _)]; exact HR, rfl⟩
    case round =>
      obtain ⟨j, rfl, HJ, HC, hw9⟩ := hrel
      subst hw9
      cases j with
      | zero =>
        have d2 : decide ((0 : Int) ≤ ((0 : Nat) : Int) - 1) = false := by decide
        have HE : Hid (R = ⟨#[]⟩) := HC.out.symm
        go_wp2_with fail
        go_ret
        exact ⟨by rw [HE.out]; rfl, below_trans HB2.out HB3.out⟩
      | succ j =>
        have hjk : j < k := by have := HJ.out; omega
        have HJK : Hid (j < k) := hjk
        have ej : (((j + 1 : Nat) : Int) - 1) = (j : Int) := by omega
        rw [ej]
        have d2 : decide ((0 : Int) ≤ (j : Int)) = true := by rw [decide_eq_true_eq]; omega
        have d3 : (j : Int) < (k : Int) := by omega
        obtain ⟨ax, hax, hal⟩ := HPM.out _ (mem_getD pt 0 j (by rw [HK.out]; exact hjk))
        have hC := HC.out
        rw [clr_step L T pt j (by rw [HK.out]; exact hjk), hax, Int.toNat_natCast] at hC
        have d4 : (ax : Int) < (m : Int) := by have := HM.out; omega
        have d5 : ax < m := by have := HM.out; omega
        have hrow := (row_rw HO3.out (by decide)).place (by omega)
        obtain ⟨g, o, cc, epa, hcell⟩ := hrow
        obtain ⟨e4, -, e5⟩ := Value.slice.inj epa
        subst e4
        clear e5 epa
        have p0 := hcell j _ (iC_get pt j (by rw [HK.out]; exact hjk))
        rw [hax] at p0
        obtain ⟨g2, o2, rfl, hq⟩ := HT.out.seven ax hal
        obtain ⟨q0, -⟩ := hq w3 (below_trans HB2.out HB3.out)
        have HTN : Hid ((T.getD ax ndd).nm.size ≤ maxLen) := HZ.out.tn _ (mem_getD T ndd ax hal)
        obtain ⟨y, hy⟩ : ∃ y, T.getD ax ndd = y := ⟨_, rfl⟩
        rw [hy] at q0 hC HTN
        have HLK : Hid _ := (HM2.out.up HB3.out).look HTN.out
        have c8 := HC8.out w3 HB3.out
        have hwj : IntKind.i64.wrap ((j : Int) - 1) = (j : Int) - 1 := by have := HPS.out; have := HMZ.out; rw [IntKind.wrap_i64]; omega
        clear hjk ej hax hal hcell hq hy
        cases hF : fs L y.nm with
        | none =>
          rw [hF] at hC HLK
          have HC2 : Hid (clr L T (pt.take j).reverse = R) := hC
          clear hF hC
          go_wp2_with (refine wpList_look rfl (.tmp 28) (.tmp 36) 65 rfl _ _ _ rfl rfl HLK.out ?_)
          go_roundg j
          case measure => have := HJ.out; omega
          case rel => exact ⟨j, rfl, ⟨Nat.le_of_lt HJK.out, rfl⟩, HC2, rfl⟩
        | some f =>
          rw [hF] at hC HLK
          have hfl := fs_lt hF
          have HC2 : Hid ((L.getD f paz).cl = R) := hC
          obtain ⟨g3, o3, rfl, hl⟩ := HP.out.two f hfl
          obtain ⟨-, l1⟩ := hl w3 (below_trans HB2.out HB3.out)
          rw [HC2.out] at l1
          have HCL : Hid (R.size ≤ 140737488355328) := by rw [← HC2.out]; exact (HZ.out.ln _ (mem_getD L paz f hfl)).2
          have d6 : (f : Int) < (n : Int) := by have := HN.out; omega
          have d7 : f < n := by have := HN.out; omega
          clear hF hC hfl hl hwj
          go_wp2_with first | (refine wpList_look rfl (.tmp 28) (.tmp 36) 65 rfl _ _ _ rfl rfl HLK.out ?_) | (go_at_call 18; refine Calls.mono (clone_any R _ HCL.out) ?_; rintro e w5 ⟨rfl, hb5⟩; have HB5 : Hid (Below w3.heap.size w3 w5) := hb5; clear hb5)
          go_ret
          exact ⟨rfl, below_trans (below_trans HB2.out HB3.out) HB5.out⟩
end Go.Proofs.YtbkhhegmmkcbbaaDoor
