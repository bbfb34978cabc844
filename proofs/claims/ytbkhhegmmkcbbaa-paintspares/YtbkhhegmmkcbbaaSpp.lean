import Derived.Test.YtbkhhegmmkcbbaaApa
import Derived.Test.YtbkhhegmmkcbbaaSax
namespace Go.Proofs.Ytbkhhegmmkcbbaa
open Go.RowKit Go.Maps

theorem snf_one' (x : Sn) : ∀ u ∈ snf x, u.oneCell' = true := snf_one x
theorem cap_fit3 (n : Nat) (h : n ≤ 3909374677000) : Builtin.nextslicecap (n + 1) n * 32 ≤ 281474976710656 := by
  have key : Builtin.nextslicecap (n + 1) n ≤ n + (n + 768) / 4 + 1 := by
    unfold Builtin.nextslicecap
    split
    · omega
    · split
      · omega
      · rw [growBy_four]
        split
        · omega
        · split
          · omega
          · omega
  omega
/-! Lists of lists that are written over, then made longer. -/
def spP (i : Nat) : Sn := ⟨-9, 1000 + (i : Int), ⟨#[]⟩⟩
def apP (i : Nat) : Sn := ⟨-8, 500000 + (i : Int), ⟨#[]⟩⟩
theorem eq_spP (i : Nat) (W : World) : (Op.equalIn 10000 46 (.agg #[.int .i64 (-9), .int .i64 (1000 + (i : Int)), .string ⟨#[]⟩]) (.agg #[.int .i64 (-9), .int .i64 (1000 + (i : Int)), .string ⟨#[]⟩])).run Try.prog W = .ok true W := by
  go_simp
theorem eq_apP (i : Nat) (W : World) : (Op.equalIn 10000 46 (.agg #[.int .i64 (-8), .int .i64 (500000 + (i : Int)), .string ⟨#[]⟩]) (.agg #[.int .i64 (-8), .int .i64 (500000 + (i : Int)), .string ⟨#[]⟩])).run Try.prog W = .ok true W := by
  go_simp
theorem infoRP : (Try.prog.info? 43).map (fun i => (i.zero, i.size, i.bytes)) = some (some (.slice none 0 0), 1, 24) := by kernel_rfl
theorem szP : (Try.prog.info? 46).map (·.size) = some 3 := by kernel_rfl
theorem row_thereP {W : World} {B g n cap k : Nat} {s : List (Sn)} (h : W.ownsRow B 46 3 (.slice (some ⟨g, 0, none⟩) n cap) n (flat snf s)) (hi : k < s.length) : W.there g (k * 3) 3 := fun j hj => by
  obtain ⟨_, cur, hgh⟩ := row_tag h g rfl
  refine ⟨?_, Lib.frozen_of_heap hgh _⟩
  have hl : k * 3 + j < (flat snf s).length := by rw [flat_len snf_len]; omega
  rw [row_at h (k * 3 + j) _ (List.getElem?_eq_getElem hl)]
  rfl
def vsl (a : Nat → Option Addr) (n c : Nat → Nat) : Nat → Value := fun j => .slice (a j) (n j) (c j)
theorem Fm.congrP {B : Nat} {W : World} {v : Nat → Value} {n : Nat → Nat} {X Y : Nat → List (Sn)} (h : Fm snf 46 3 B W v n X) (he : ∀ j, j < 4 → X j = Y j) : Fm snf 46 3 B W v n Y :=
  ⟨fun j hj => by rw [← he j hj]; exact h.row j hj, fun j hj => by rw [← he j hj]; exact h.len j hj, h.ap⟩
theorem take_put' {α : Type} (l : List α) (k : Nat) (e : α) (h : k < l.length) : (l.set k e).take (k + 1) = l.take k ++ [e] := by
  rw [List.take_set, List.take_add_one, List.getElem?_eq_getElem h]
  rw [List.set_append_right _ _ (by rw [List.length_take]; omega)]
  rw [List.length_take, Nat.min_eq_left (by omega)]
  simp
theorem list4P {W : World} {lb : Nat} {a : Nat → Option Addr} {n c : Nat → Nat} (h : W.heap[lb]? = some (.cells #[vsl a n c 0, vsl a n c 1, vsl a n c 2, vsl a n c 3] 43 (0, 0))) (i : Nat) (hi : i < 4) : W.cell? ⟨lb, i, none⟩ = some (.slice (a i) (n i) (c i)) := by
  rcases (by omega : i = 0 ∨ i = 1 ∨ i = 2 ∨ i = 3) with rfl | rfl | rfl | rfl
  · exact rcell h 0 _ rfl
  · exact rcell h 1 _ rfl
  · exact rcell h 2 _ rfl
  · exact rcell h 3 _ rfl
set_option maxRecDepth 100000 in
set_option maxHeartbeats 16000000 in
theorem apart_any (w : World) (B lb : Nat) (a : Nat → Option Addr) (n c : Nat → Nat) (X : Nat → List (Sn)) (h : Fm snf 46 3 B w (vsl a n c) n X) (hl : w.heap[lb]? = some (.cells #[vsl a n c 0, vsl a n c 1, vsl a n c 2, vsl a n c 3] 43 (0, 0))) (hn : ∀ j, j < 4 → n j ≤ 3909374676424) (hB : B ≤ w.heap.size) : Calls Try.prog 12 #[.slice (some ⟨lb, 0, none⟩) 4 4] w fun e w' => e = .returned (.bool true) ∧ Oth (vsl a n c) w w' := by
  obtain ⟨iF, hiF, hx0, hx1, hx2⟩ := info_parts infoSn
  obtain ⟨iR, hiR, hy0, hy1, hy2⟩ := info_parts infoRP
  have HFM : Hid (Fm snf 46 3 B w (vsl a n c) n X) := h
  have HL : Hid (w.heap[lb]? = some (.cells #[vsl a n c 0, vsl a n c 1, vsl a n c 2, vsl a n c 3] 43 (0, 0))) := hl
  have HN : Hid (∀ j, j < 4 → n j ≤ 3909374676424) := hn
  have HBB : Hid (B ≤ w.heap.size) := hB
  clear h hl hn hB
  go_enter Try.func12, Try.ntmps12
  go_upto_region 2 with fail
  go_loopg [3] 4 (fun gm v3 wr => ∃ (i : Nat) (X' : Nat → List (Sn)), v3 = .int .i64 (i : Int) ∧ Hid (i ≤ 4 ∧ gm = 4 - i) ∧ Hid (Fm snf 46 3 B wr (vsl a n c) n X') ∧ Hid (∀ j, j < i → X' j = List.replicate (n j) (spP j)) ∧ Hid (Oth (vsl a n c) w wr) ∧ Hid (wr.heap[lb]? = some (.cells #[vsl a n c 0, vsl a n c 1, vsl a n c 2, vsl a n c 3] 43 (0, 0))))
  case atStart => exact ⟨0, X, rfl, ⟨Nat.zero_le _, rfl⟩, HFM, fun j hj => absurd hj (Nat.not_lt_zero _), Oth.refl _ _, HL⟩
  case round =>
    obtain ⟨i, X1, rfl, HI, HX, HS, HO, HLB⟩ := hrel
    obtain ⟨wa, hwa⟩ : ∃ wa, wa = wr := ⟨_, rfl⟩
    rw [← hwa] at HX HO HLB ⊢
    clear hwa
    by_cases hi : i < 4
    · have e1 : decide ((i : Int) < 4) = true := by rw [decide_eq_true_eq]; omega
      have b1 : (i : Int) < 4 := by omega
      have b2 : i < 4 := hi
      have b3 : (0 : Int) ≤ (i : Int) := by omega
      have HIL : Hid (i < 4) := hi
      have hwi := w64n i (by omega)
      clear hi
      go_upto_region 5 with fail
      go_loopg [4] (n i) (fun gm v4 wr => ∃ (k : Nat) (X' : Nat → List (Sn)), v4 = .int .i64 (k : Int) ∧ Hid (k ≤ n i ∧ gm = n i - k) ∧ Hid (Fm snf 46 3 B wr (vsl a n c) n X') ∧ Hid (∀ j, j < i → X' j = List.replicate (n j) (spP j)) ∧ Hid ((X' i).take k = List.replicate k (spP i)) ∧ Hid (Oth (vsl a n c) w wr) ∧ Hid (wr.heap[lb]? = some (.cells #[vsl a n c 0, vsl a n c 1, vsl a n c 2, vsl a n c 3] 43 (0, 0))))
      case atStart => exact ⟨0, X1, rfl, ⟨Nat.zero_le _, rfl⟩, HX, HS, rfl, HO, HLB⟩
      case round =>
        clear HX HS HO HLB
        obtain ⟨k, X2, rfl, HK, HX, HS, HT, HO, HLB⟩ := hrel
        obtain ⟨wb, hwb⟩ : ∃ wb, wb = wr := ⟨_, rfl⟩
        rw [← hwb] at HX HO HLB ⊢
        clear hwb
        have hc := list4P HLB.out i b2
        have hwk := w64n k (by have := HN.out i b2; have := HK.out; omega)
        by_cases hk : k < n i
        · have d1 : decide ((k : Int) < (n i : Int)) = true := by rw [decide_eq_true_eq]; omega
          have d2 : decide (k < n i) = true := decide_eq_true hk
          have b4 : (k : Int) < (n i : Int) := by omega
          have b5 : (0 : Int) ≤ (k : Int) := by omega
          have HKL : Hid (k < n i) := hk
          have hw1 : IntKind.i64.wrap (1000 + (i : Int)) = 1000 + (i : Int) := by rw [IntKind.wrap_i64]; omega
          obtain ⟨g, hag⟩ : ∃ g, a i = some ⟨g, 0, none⟩ := by
            obtain ⟨g, cap, e0, -⟩ := row_form (HX.out.row i b2) (by omega)
            exact ⟨g, (Value.slice.inj e0).1⟩
          rw [hag] at hc
          have HPUT : Hid _ := HX.out.put snf_len b2 (by show Value.slice _ _ _ = _; rw [hag]) hk (spP i)
          have HTH : Hid (wb.there g (k * 3) 3) := by
            have hr : wb.ownsRow B 46 3 (.slice (a i) (n i) (c i)) (n i) (flat snf (X2 i)) := HX.out.row i b2
            rw [hag] at hr
            exact row_thereP hr (by rw [HX.out.len i b2]; exact hk)
          clear hk
          go_wp2_with (refine wpList_store_mid rfl 46 _ _ rfl g (k * 3) #[.int .i64 (-9), .int .i64 (1000 + (i : Int)), .string ⟨#[]⟩] rfl rfl HTH.out szP (all_oneCell_toArray (snf_one (spP i))) ?_; obtain ⟨wc, hwc⟩ : ∃ wc, wb.setCells g (k * 3) (snf (spP i)) = wc := ⟨_, rfl⟩; have HP : Hid (Fm snf 46 3 B wc (vsl a n c) n (upd X2 i ((X2 i).set k (spP i))) ∧ wb.grownBy wc (vsl a n c i).ownBlock) := (by have h7 := HPUT.out; rw [hwc] at h7; exact h7); refine (show wpList _ _ _ _ _ (wb.setCells g (k * 3) (snf (spP i))) from ?_); rw [hwc]; clear hwc HPUT HTH)
          go_roundg (n i - (k + 1))
          case measure => have := HK.out; have := HKL.out; omega
          case rel =>
            have hbi : (vsl a n c i).ownBlock = some g := by show (Value.slice _ _ _).ownBlock = _; rw [hag]; rfl
            have hlb : g ≠ lb := fun e9 => by
              obtain ⟨_, cur, h9⟩ := row_tag (HX.out.row i b2) g hbi
              rw [e9, HLB.out] at h9
              cases h9
            refine ⟨k + 1, _, by simp, ⟨HKL.out, rfl⟩, HP.out.1, fun j hj => ?_, ?_, HO.out.step HP.out.2 (fun b _ hb => ⟨i, b2, hb⟩), ?_⟩
            · show upd X2 i _ j = _
              rw [upd_ne _ _ (by omega)]
              exact HS.out j hj
            · show List.take (k + 1) (upd X2 i _ i) = _
              rw [upd_self, take_put' _ _ _ (by rw [HX.out.len i b2]; exact HKL.out), HT.out, List.replicate_succ']
            · show wc.heap[lb]? = _
              rw [HP.out.2.block lb (lt_of_heap HLB.out) (by rw [hbi]; exact fun e9 => hlb (Option.some.inj e9).symm)]
              exact HLB.out
        · have d1 : decide ((k : Int) < (n i : Int)) = false := by rw [decide_eq_false_iff_not]; omega
          have d2 : decide (k < n i) = false := decide_eq_false hk
          have hkn : k = n i := by have := HK.out; omega
          clear hk
          go_wp2_with fail
          go_roundg (4 - (i + 1))
          case measure => have := HI.out; have := HIL.out; omega
          case rel =>
            refine ⟨i + 1, X2, by simp, ⟨HIL.out, rfl⟩, HX, fun j hj => ?_, HO, HLB⟩
            rcases Nat.lt_succ_iff_lt_or_eq.1 hj with h1 | rfl
            · exact HS.out j h1
            · have h9 := HT.out
              rw [hkn, List.take_of_length_le (by rw [HX.out.len j b2]; exact Nat.le_refl _)] at h9
              exact h9
    · have e1 : decide ((i : Int) < 4) = false := by rw [decide_eq_false_iff_not]; omega
      have hi4 : i = 4 := by have := HI.out; omega
      subst hi4
      clear hi
      have HX0 : Hid (Fm snf 46 3 B wa (vsl a n c) n (fun j => List.replicate (n j) (spP j))) := Fm.congrP HX.out HS.out
      obtain ⟨N, hNn⟩ : ∃ N, wa.heap.size = N := ⟨_, rfl⟩
      have HNN : Hid (wa.heap.size = N) := hNn
      have HWN : Hid (w.heap.size ≤ N) := by have := HO.out.size; rw [← hNn]; exact this
      have HLN : Hid (lb < N) := by rw [← hNn]; exact lt_of_heap HLB.out
      have HG0 : Hid (Fg snf 46 3 B N wa (vsl a n c) (vsl a n c) n (fun _ => 0) (fun j => List.replicate (n j) (spP j)) (fun _ => [])) := Fg.start HX0.out (fun j hj g hg => by rw [← hNn]; exact ((HX0.out.row j hj).lt g hg).2)
      clear hNn HX HS HX0
      go_upto_region 10 with fail
      obtain ⟨X0, hX0⟩ : ∃ X0 : Nat → List (Sn), (fun j => List.replicate (n j) (spP j)) = X0 := ⟨_, rfl⟩
      have HX0 : Hid (∀ j, X0 j = List.replicate (n j) (spP j)) := fun j => by rw [← hX0]
      rw [hX0] at HG0
      clear hX0 HI
      go_loopg [5, 6] 4 (fun gm v5 v6 wr => ∃ (i : Nat) (u : Nat → Value) (m : Nat → Nat) (Z : Nat → List (Sn)), v6 = .int .i64 (i : Int) ∧ Hid (i ≤ 4 ∧ gm = 4 - i) ∧ Hid (Fg snf 46 3 B N wr (vsl a n c) u n m X0 Z) ∧ Hid (∀ j, j < i → m j = 70 ∧ Z j = List.replicate 70 (apP j)) ∧ Hid (∀ j, i ≤ j → u j = vsl a n c j ∧ m j = 0 ∧ Z j = []) ∧ Hid (wr.ownsRow N 43 1 v5 i ((List.range i).map u)) ∧ Hid (Oth (vsl a n c) w wr ∧ N ≤ wr.heap.size ∧ wr.heap[lb]? = some (.cells #[vsl a n c 0, vsl a n c 1, vsl a n c 2, vsl a n c 3] 43 (0, 0))))
      case atStart => exact ⟨0, vsl a n c, fun _ => 0, fun _ => [], rfl, ⟨Nat.zero_le _, rfl⟩, HG0, fun j hj => absurd hj (Nat.not_lt_zero _), fun j _ => ⟨rfl, rfl, rfl⟩, World.ownsRow_nil _ _ _ _, HO.out, Nat.le_of_eq HNN.out.symm, HLB.out⟩
      case round =>
        clear HG0 HO HLB HNN e1
        obtain ⟨i, u, m, Z, rfl, HI, HG, HS, HR, HV, HO⟩ := hrel
        obtain ⟨wb, hwb⟩ : ∃ wb, wb = wr := ⟨_, rfl⟩
        rw [← hwb] at HG HV HO ⊢
        clear hwb
        obtain ⟨a5, q5, rfl⟩ := row_shape HV.out
        by_cases hi : i < 4
        · have e1 : decide ((i : Int) < 4) = true := by rw [decide_eq_true_eq]; omega
          have b1 : (i : Int) < 4 := by omega
          have b2 : i < 4 := hi
          have b3 : (0 : Int) ≤ (i : Int) := by omega
          have HIL : Hid (i < 4) := hi
          have hwi := w64n i (by omega)
          have hc := list4P HO.out.2.2 i b2
          clear hi
          have HUI : Hid (u i = .slice (a i) (n i) (c i)) := (HR.out i (Nat.le_refl _)).1
          go_upto_region 14 with fail
          clear hc
          go_loopg [7, 8] 70 (fun gm v7 v8 wr => ∃ (k : Nat) (u' : Nat → Value) (m' : Nat → Nat) (Z' : Nat → List (Sn)), v7 = u' i ∧ v8 = .int .i64 (k : Int) ∧ Hid (k ≤ 70 ∧ gm = 70 - k) ∧ Hid (Fg snf 46 3 B N wr (vsl a n c) u' n m' X0 Z') ∧ Hid (∀ j, j < i → m' j = 70 ∧ Z' j = List.replicate 70 (apP j)) ∧ Hid (∀ j, i < j → u' j = vsl a n c j ∧ m' j = 0 ∧ Z' j = []) ∧ Hid (m' i = k ∧ Z' i = List.replicate k (apP i)) ∧ Hid (wr.ownsRow N 43 1 (.slice a5 i q5) i ((List.range i).map u')) ∧ Hid (Oth (vsl a n c) w wr ∧ N ≤ wr.heap.size ∧ wr.heap[lb]? = some (.cells #[vsl a n c 0, vsl a n c 1, vsl a n c 2, vsl a n c 3] 43 (0, 0))))
          case atStart => exact ⟨0, u, m, Z, HUI.out.symm, rfl, ⟨Nat.zero_le _, rfl⟩, HG, HS, fun j hj => HR.out j (Nat.le_of_lt hj), (HR.out i (Nat.le_refl _)).2, HV, HO⟩
          case round =>
            clear HG HS HR HV HO HUI
            obtain ⟨k, u', m', Z', rfl, rfl, HK, HG, HS, HR, HM, HV, HO⟩ := hrel
            obtain ⟨wc, hwc⟩ : ∃ wc, wc = wr := ⟨_, rfl⟩
            rw [← hwc] at HG HV HO ⊢
            clear hwc
            obtain ⟨ur, hur⟩ : ∃ ur, u' i = ur := ⟨_, rfl⟩
            have HUR : Hid (u' i = ur) := hur
            rw [hur]
            clear hur
            have hwk := w64n k (by have := HK.out; omega)
            by_cases hk : k < 70
            · have d1 : decide ((k : Int) < 70) = true := by rw [decide_eq_true_eq]; omega
              have b4 : (k : Int) < 70 := by omega
              have HKL : Hid (k < 70) := hk
              have hw1 : IntKind.i64.wrap (500000 + (i : Int)) = 500000 + (i : Int) := by rw [IntKind.wrap_i64]; omega
              have HRW : Hid (wc.ownsRow B 46 3 ur (n i + k) (flat snf (X0 i) ++ flat snf (Z' i))) := by have h9 := HG.out.row i b2; rw [HUR.out, HM.out.1] at h9; exact h9
              have HMX : Hid (n i + k + 1 ≤ maxLen ∧ Builtin.nextslicecap (n i + k + 1) (n i + k) * 32 ≤ 281474976710656) := ⟨by have := HN.out i b2; have := HK.out; unfold maxLen; omega, by have h7 := cap_fit3 (n i + k) (by have := HN.out i b2; have := HK.out; omega); omega⟩
              have HSB : Hid (B ≤ wc.heap.size + 1) := by have := HBB.out; have := HO.out.1.size; show _ ≤ _; omega
              obtain ⟨xs, hxs⟩ : ∃ xs, flat snf (X0 i) ++ flat snf (Z' i) = xs := ⟨_, rfl⟩
              have HXS : Hid (flat snf (X0 i) ++ flat snf (Z' i) = xs) := hxs
              rw [hxs] at HRW
              clear hk hxs
              go_wp2_with (at_builtin; refine wpList_append_still _ rfl _ _ 43 rfl B 46 iF _ 3 32 Try.underlying43 hiF hx0 hx1 hx2 rfl ur (n i + k) xs rfl (row_up HRW.out (bel_up _ _)) ⟨wc.heap.size, 0, none⟩ 1 [.int .i64 (-8), .int .i64 (500000 + (i : Int)), .string ⟨#[]⟩] rfl rfl (World.news_of_block (heap_new _ _)) (fun u hu => snf_one (apP i) u hu) HMX.out.1 HMX.out.2 (by have := HSB.out; simp; omega) ?_; intro v7 w7 ho7 hg7 hx7 hs7; have HAP : Hid (w7.ownsRow B 46 3 v7 (n i + k + 1) (xs ++ snf (apP i)) ∧ (wc.alloc (.cells #[.int .i64 (-8), .int .i64 (500000 + (i : Int)), .string ⟨#[]⟩] 46)).grownBy w7 ur.ownBlock ∧ (v7.ownBlock = ur.ownBlock ∨ v7.ownBlock = some (wc.heap.size + 1)) ∧ w7.ownsRow B 46 3 ur (n i + k) xs) := ⟨ho7, hg7, (by rw [World.size_alloc] at hx7; exact hx7), hs7⟩; clear ho7 hg7 hx7 hs7)
              go_roundg (70 - (k + 1))
              case measure => have := HK.out; have := HKL.out; omega
              case rel =>
                obtain ⟨p1, p2, p3, p4⟩ := HAP.out
                have hG1 := HG.out.up (bel_up wc (.cells #[.int .i64 (-8), .int .i64 (500000 + (i : Int)), .string ⟨#[]⟩] 46))
                have hG2 := Fg.app (by decide) hG1 (by rw [World.size_alloc]; have := HO.out.2.1; omega) b2 (x := v7) (apP i) (by rw [HM.out.1, HXS.out]; exact p1) (by rw [HUR.out]; exact p2) (by rw [HUR.out, World.size_alloc]; exact p3) (by rw [HUR.out, HM.out.1, HXS.out]; exact p4)
                have hul := HG.out.row i b2
                rw [HUR.out] at hul
                have hul1 := row_up hul (bel_up wc (.cells #[.int .i64 (-8), .int .i64 (500000 + (i : Int)), .string ⟨#[]⟩] 46))
                have hlv := row_up HV.out (bel_up wc (.cells #[.int .i64 (-8), .int .i64 (500000 + (i : Int)), .string ⟨#[]⟩] 46))
                have hmap : (List.range i).map (upd u' i v7) = (List.range i).map u' := by
                  refine List.map_congr_left (fun j hj => ?_)
                  rw [List.mem_range] at hj
                  exact upd_ne _ _ (by omega)
                have hlb2 : (wc.alloc (.cells #[.int .i64 (-8), .int .i64 (500000 + (i : Int)), .string ⟨#[]⟩] 46)).heap[lb]? = some (.cells #[vsl a n c 0, vsl a n c 1, vsl a n c 2, vsl a n c 3] 43 (0, 0)) := by
                  rw [(bel_up wc _).block lb (lt_of_heap HO.out.2.2)]; exact HO.out.2.2
                have hO1 : Oth (vsl a n c) w (wc.alloc (.cells #[.int .i64 (-8), .int .i64 (500000 + (i : Int)), .string ⟨#[]⟩] 46)) := HO.out.1.step (grown_of_below (bel_up _ _)) (fun b _ hb => by cases hb)
                refine ⟨k + 1, upd u' i v7, upd m' i (m' i + 1), upd Z' i (Z' i ++ [apP i]), (upd_self _ _ _).symm, by simp, ⟨HKL.out, rfl⟩, hG2, fun j hj => ?_, fun j hj => ?_, ⟨?_, ?_⟩, ?_, hO1.step p2 (fun b hb e9 => ?_), ?_, ?_⟩
                · rw [upd_ne _ _ (by omega), upd_ne _ _ (by omega)]; exact HS.out j hj
                · rw [upd_ne _ _ (by omega), upd_ne _ _ (by omega), upd_ne _ _ (by omega)]; exact HR.out j hj
                · rw [upd_self, HM.out.1]
                · rw [upd_self, HM.out.2, List.replicate_succ']
                · show World.ownsRow _ _ _ _ _ _ _
                  rw [hmap]
                  exact hlv.kept p2 (tag_ne hlv hul1 (by decide))
                · rw [← HUR.out] at e9
                  rcases HG.out.was i b2 b e9 with h1 | h1
                  · exact ⟨i, b2, h1⟩
                  · have := HWN.out; omega
                · have := p2.size; rw [World.size_alloc] at this; have := HO.out.2.1; omega
                · rw [p2.block lb (lt_of_heap hlb2) (fun e9 => tag_ne_blk hul1 hlb2 (by decide) e9.symm)]
                  exact hlb2
            · have d1 : decide ((k : Int) < 70) = false := by rw [decide_eq_false_iff_not]; omega
              have hkn : k = 70 := by have := HK.out; omega
              subst hkn
              clear hk
              have HMX : Hid (i + 1 ≤ maxLen ∧ (i + 1) * 24 ≤ 140737488355328) := by show _ ∧ _; unfold maxLen; omega
              have HLT : Hid (lb < N ∧ N ≤ wc.heap.size) := ⟨HLN.out, HO.out.2.1⟩
              obtain ⟨ua, uc, hsl⟩ := row_shape (HG.out.row i b2)
              rw [HUR.out, HM.out.1] at hsl
              subst hsl
              have hz70 : IntKind.i64.wrap ((n i : Int) + 70) = (n i : Int) + 70 := by have := HN.out i b2; rw [IntKind.wrap_i64]; omega
              go_wp2_with (at_builtin; refine wpList_append_own_at _ rfl _ _ 51 rfl N 43 iR _ 1 24 Try.underlying51 hiR hy0 hy1 hy2 rfl (by decide) (.slice a5 i q5) i ((List.range i).map u') rfl (row_up HV.out (bel_up _ _)) ⟨wc.heap.size, 0, none⟩ 1 1 [.slice ua (n i + 70) uc] rfl rfl (World.news_of_block (heap_new _ _)) (fun u hu => by rw [List.mem_singleton.1 hu]; rfl) HMX.out.1 HMX.out.2 (by have := HLT.out; simp; omega) ?_; intro v8 w8 ho8 hg8 _ _; have HAP : Hid (w8.ownsRow N 43 1 v8 (i + 1) ((List.range i).map u' ++ [.slice ua (n i + 70) uc]) ∧ (wc.alloc (.cells #[.slice ua (n i + 70) uc] 43)).grownBy w8 (Value.slice a5 i q5).ownBlock) := ⟨ho8, hg8⟩; clear ho8 hg8)
              go_roundg (4 - (i + 1))
              case measure => have := HI.out; have := HIL.out; omega
              case rel =>
                obtain ⟨p1, p2⟩ := HAP.out
                have hb1 : Below wc.heap.size wc (wc.alloc (.cells #[.slice ua (n i + 70) uc] 43)) := bel_up wc _
                have hlv := row_up HV.out hb1
                have hG2 := (HG.out.up hb1).far p2 hlv rfl (by decide)
                have hO1 : Oth (vsl a n c) w (wc.alloc (.cells #[.slice ua (n i + 70) uc] 43)) := HO.out.1.step (grown_of_below hb1) (fun b _ hb => by cases hb)
                have hlb2 : (wc.alloc (.cells #[.slice ua (n i + 70) uc] 43)).heap[lb]? = some (.cells #[vsl a n c 0, vsl a n c 1, vsl a n c 2, vsl a n c 3] 43 (0, 0)) := by
                  rw [hb1.block lb (lt_of_heap HO.out.2.2)]; exact HO.out.2.2
                refine ⟨i + 1, u', m', Z', by simp, ⟨HIL.out, rfl⟩, hG2, fun j hj => ?_, fun j hj => HR.out j (by omega), ?_, hO1.step p2 (fun b hb e9 => ?_), ?_, ?_⟩
                · rcases Nat.lt_succ_iff_lt_or_eq.1 hj with h1 | rfl
                  · exact HS.out j h1
                  · exact HM.out
                · show World.ownsRow _ _ _ _ _ _ _
                  rw [List.range_succ, List.map_append, List.map_cons, List.map_nil, HUR.out]
                  exact p1
                · have h3 := (hlv.lt b e9).1
                  have := HWN.out; omega
                · have := p2.size; have := hb1.size; have := HO.out.2.1; omega
                · rw [p2.block lb (lt_of_heap hlb2) (fun e9 => by have h3 := (hlv.lt lb e9.symm).1; have := HLN.out; omega)]
                  exact hlb2
        · have e1 : decide ((i : Int) < 4) = false := by rw [decide_eq_false_iff_not]; omega
          have hi4 : i = 4 := by have := HI.out; omega
          subst hi4
          clear hi
          have HM4 : Hid (∀ j, j < 4 → m j = 70 ∧ Z j = List.replicate 70 (apP j)) := HS.out
          clear HS HR HI
          obtain ⟨gl, cl, e0, -⟩ := row_form HV.out (by decide)
          obtain ⟨rfl, -, rfl⟩ := Value.slice.inj e0
          clear e0
          have HCU : Hid (∀ j, j < 4 → ∀ W, Below wb.heap.size wb W → W.cell? ⟨gl, j, none⟩ = some (u j)) := fun j hj W hW => below_cell hW (row_at HV.out j _ (by rw [List.getElem?_map, List.getElem?_range hj]; rfl))
          have HCV : Hid (∀ j, j < 4 → ∀ W, Below wb.heap.size wb W → W.cell? ⟨lb, j, none⟩ = some (.slice (a j) (n j) (c j))) := fun j hj W hW => below_cell hW (list4P HO.out.2.2 j hj)
          go_upto_region 19 with fail
          go_loopg [9] 4 (fun gm v9 wr => ∃ i : Nat, v9 = .int .i64 (i : Int) ∧ Hid (i ≤ 4 ∧ gm = 4 - i) ∧ Hid (Below wb.heap.size wb wr))
          case atStart => exact ⟨0, rfl, ⟨Nat.zero_le _, rfl⟩, Below.refl _ _⟩
          case round =>
            clear e1
            obtain ⟨i, rfl, HI, HC⟩ := hrel
            obtain ⟨wc, hwc⟩ : ∃ wc, wc = wr := ⟨_, rfl⟩
            rw [← hwc] at HC ⊢
            clear hwc
            by_cases hi : i < 4
            · have e1 : decide ((i : Int) < 4) = true := by rw [decide_eq_true_eq]; omega
              have b1 : (i : Int) < 4 := by omega
              have b2 : i < 4 := hi
              have b3 : (0 : Int) ≤ (i : Int) := by omega
              have HIL : Hid (i < 4) := hi
              have hwi := w64n i (by omega)
              clear hi
              obtain ⟨gu, cu, hu, -⟩ := row_form (HG.out.row i b2) (by rw [(HM4.out i b2).1]; omega)
              obtain ⟨p, hp⟩ : ∃ p, n i + 70 = p := ⟨_, rfl⟩
              have HP : Hid (n i + 70 = p) := hp
              rw [(HM4.out i b2).1, hp] at hu
              have HCI : Hid (∀ W, Below wb.heap.size wb W → W.cell? ⟨gl, i, none⟩ = some (.slice (some ⟨gu, 0, none⟩) p cu)) := fun W hW => by rw [HCU.out i b2 W hW, hu]
              have HUR : Hid (wb.ownsRow B 46 3 (.slice (some ⟨gu, 0, none⟩) p cu) p (flat snf (X0 i ++ Z i))) := by have h9 := HG.out.row i b2; rw [(HM4.out i b2).1, hp, hu, ← flat_app] at h9; exact h9
              have hwp : p < 9223372036854775807 := by have := HN.out i b2; omega
              clear hu hp
              go_upto_region 22 with fail
              go_loopg [10] p (fun gm v10 wr => ∃ k : Nat, v10 = .int .i64 (k : Int) ∧ Hid (k ≤ p ∧ gm = p - k) ∧ Hid (Below wb.heap.size wb wr))
              case atStart => exact ⟨0, rfl, ⟨Nat.zero_le _, rfl⟩, HC⟩
              case round =>
                clear HC
                obtain ⟨k, rfl, HK, HC⟩ := hrel
                obtain ⟨wd, hwd⟩ : ∃ wd, wd = wr := ⟨_, rfl⟩
                rw [← hwd] at HC ⊢
                clear hwd
                have hcg := HCI.out wd HC.out
                by_cases hk : k < p
                · have d1 : decide ((k : Int) < (p : Int)) = true := by rw [decide_eq_true_eq]; omega
                  have d2 : decide (k < p) = true := decide_eq_true hk
                  have b4 : (k : Int) < (p : Int) := by omega
                  have b5 : (0 : Int) ≤ (k : Int) := by omega
                  have b6 : k < p := hk
                  have HKL : Hid (k < p) := hk
                  have hwk := w64n k (by omega)
                  have hw1 : IntKind.i64.wrap (1000 + (i : Int)) = 1000 + (i : Int) := by rw [IntKind.wrap_i64]; omega
                  have hw2 : IntKind.i64.wrap (500000 + (i : Int)) = 500000 + (i : Int) := by rw [IntKind.wrap_i64]; omega
                  have hE1 := eq_spP i
                  have hE2 := eq_apP i
                  have HD : Hid (Below wb.heap.size wb wd.drew) := HC.out.drew
                  have HXL : Hid ((X0 i).length = n i ∧ (Z i).length = 70) := ⟨HG.out.old.len i b2, by rw [HG.out.len i b2]; exact (HM4.out i b2).1⟩
                  have HUC : Hid (∀ (x : Sn), (X0 i ++ Z i).getD k snz = x → ∀ W, Below wb.heap.size wb W → ∀ j u, (snf x)[j]? = some u → W.cell? ⟨gu, k * 3 + j, none⟩ = some u) := fun x hx W hW j u hu => below_cell hW (row_at HUR.out _ _ (by rw [flat_get snf_len snz _ k j (by rw [List.length_append, HXL.out.1, HXL.out.2, HP.out]; exact b6) (by have := (List.getElem?_eq_some_iff.1 hu).1; rwa [snf_len] at this), hx]; exact hu))
                  clear hk
                  go_upto_region 24 with fail
                  clear hcg
                  by_cases hkn : k < n i
                  · have d3 : decide ((k : Int) < (n i : Int)) = true := by rw [decide_eq_true_eq]; omega
                    have d4 : decide (k < n i) = true := decide_eq_true hkn
                    have d5 : decide ((n i : Int) ≤ (k : Int)) = false := by rw [decide_eq_false_iff_not]; omega
                    have d6 : decide (n i ≤ k) = false := by rw [decide_eq_false_iff_not]; omega
                    have b7 : (k : Int) < (n i : Int) := by omega
                    obtain ⟨gv, cv, hv, -⟩ := row_form (HG.out.old.row i b2) (by omega)
                    have hv2 : a i = some ⟨gv, 0, none⟩ := (Value.slice.inj hv).1
                    have HCL : Hid (∀ W, Below wb.heap.size wb W → W.cell? ⟨lb, i, none⟩ = some (.slice (some ⟨gv, 0, none⟩) (n i) (c i))) := fun W hW => by rw [HCV.out i b2 W hW, hv2]
                    have HVR : Hid (wb.ownsRow B 46 3 (.slice (some ⟨gv, 0, none⟩) (n i) (c i)) (n i) (flat snf (X0 i))) := by
                      have h9 : wb.ownsRow B 46 3 (.slice (a i) (n i) (c i)) (n i) (flat snf (X0 i)) := HG.out.old.row i b2
                      rw [hv2] at h9
                      exact h9
                    have HUK0 : Hid (∀ W, Below wb.heap.size wb W → ∀ j u, (snf (spP i))[j]? = some u → W.cell? ⟨gu, k * 3 + j, none⟩ = some u) := HUC.out (spP i) (by
                      rw [List.getD_eq_getElem?_getD, List.getElem?_append_left (by rw [HXL.out.1]; exact hkn), HX0.out i, List.getElem?_replicate_of_lt hkn]; rfl)
                    have HVK0 : Hid (∀ W, Below wb.heap.size wb W → ∀ j u, (snf (spP i))[j]? = some u → W.cell? ⟨gv, k * 3 + j, none⟩ = some u) := fun W hW j u hu => below_cell hW (row_at HVR.out _ _ (by
                      rw [flat_get snf_len snz _ k j (by rw [HXL.out.1]; exact hkn) (by have := (List.getElem?_eq_some_iff.1 hu).1; rwa [snf_len] at this), HX0.out i, List.getD_eq_getElem?_getD, List.getElem?_replicate_of_lt hkn]; exact hu))
                    have HUK : Hid (∀ W, Below wb.heap.size wb W → W.cell? ⟨gu, k * 3, none⟩ = some (.int .i64 (-9)) ∧ W.cell? ⟨gu, k * 3 + 1, none⟩ = some (.int .i64 (1000 + (i : Int))) ∧ W.cell? ⟨gu, k * 3 + 2, none⟩ = some (.string ⟨#[]⟩)) := fun W hW => ⟨HUK0.out W hW 0 _ rfl, HUK0.out W hW 1 _ rfl, HUK0.out W hW 2 _ rfl⟩
                    have HVK : Hid (∀ W, Below wb.heap.size wb W → W.cell? ⟨gv, k * 3, none⟩ = some (.int .i64 (-9)) ∧ W.cell? ⟨gv, k * 3 + 1, none⟩ = some (.int .i64 (1000 + (i : Int))) ∧ W.cell? ⟨gv, k * 3 + 2, none⟩ = some (.string ⟨#[]⟩)) := fun W hW => ⟨HVK0.out W hW 0 _ rfl, HVK0.out W hW 1 _ rfl, HVK0.out W hW 2 _ rfl⟩
                    clear hkn hv hv2
                    refine wp_region_noPanic ?_
                    refine wp_region_held_drew (S := fun W => Below wb.heap.size wb W) (by kernel_rfl) HD.out (fun hHeld => ?_)
                    refine wpAnyH_take (i := 0) (oi := { dst := _, op := _, type := _, pos := _, after := _, guard := _ }) (v := ?_) rfl (by kernel_rfl) (by kernel_rfl) (by kernel_rfl) (fun _ _ _ h => h) (Or.inl ⟨by rfl, ?_⟩) (by assumption) ?_
                    rotate_left
                    · intro W hSw
                      (try dsimp only at hSw)
                      go_simp
                      (try with_reducible rfl)
                    try simp only [Act.put, List.setIfInBounds_toArray, List.set_cons_zero, List.set_cons_succ]
                    refine wpAnyH_take (i := 1) (oi := { dst := _, op := _, type := _, pos := _, after := _, guard := _ }) (v := ?_) rfl (by kernel_rfl) (by kernel_rfl) (by kernel_rfl) (fun _ _ _ h => h) (Or.inl ⟨by rfl, ?_⟩) (by assumption) ?_
                    rotate_left
                    · intro W hSw
                      (try dsimp only at hSw)
                      go_simp
                      (try with_reducible rfl)
                    try simp only [Act.put, List.setIfInBounds_toArray, List.set_cons_zero, List.set_cons_succ]
                    refine wpAnyH_take (i := 2) (oi := { dst := _, op := _, type := _, pos := _, after := _, guard := _ }) (v := ?_) rfl (by kernel_rfl) (by kernel_rfl) (by kernel_rfl) (fun _ _ _ h => h) (Or.inl ⟨by rfl, ?_⟩) (by assumption) ?_
                    rotate_left
                    · intro W hSw
                      (try dsimp only at hSw)
                      go_simp
                      (try with_reducible rfl)
                    try simp only [Act.put, List.setIfInBounds_toArray, List.set_cons_zero, List.set_cons_succ]
                    refine wpAnyH_take (i := 3) (oi := { dst := _, op := _, type := _, pos := _, after := _, guard := _ }) (v := ?_) rfl (by kernel_rfl) (by kernel_rfl) (by kernel_rfl) (fun _ _ _ h => h) (Or.inl ⟨by rfl, ?_⟩) (by assumption) ?_
                    rotate_left
                    · intro W hSw
                      (try dsimp only at hSw)
                      go_simp
                      (try with_reducible rfl)
                    try simp only [Act.put, List.setIfInBounds_toArray, List.set_cons_zero, List.set_cons_succ]
                    refine wpAnyH_take (i := 4) (oi := { dst := _, op := _, type := _, pos := _, after := _, guard := _ }) (v := ?_) rfl (by kernel_rfl) (by kernel_rfl) (by kernel_rfl) (fun _ _ _ h => h) (Or.inl ⟨by rfl, ?_⟩) (by assumption) ?_
                    rotate_left
                    · intro W hSw
                      (try dsimp only at hSw)
                      have s0 := HCL.out W hSw
                      go_simp
                      (try with_reducible rfl)
                    try simp only [Act.put, List.setIfInBounds_toArray, List.set_cons_zero, List.set_cons_succ]
                    refine wpAnyH_take (i := 5) (oi := { dst := _, op := _, type := _, pos := _, after := _, guard := _ }) (v := ?_) rfl (by kernel_rfl) (by kernel_rfl) (by kernel_rfl) (fun _ _ _ h => h) (Or.inl ⟨by rfl, ?_⟩) (by assumption) ?_
                    rotate_left
                    · intro W hSw
                      (try dsimp only at hSw)
                      go_simp
                      (try with_reducible rfl)
                    try simp only [Act.put, List.setIfInBounds_toArray, List.set_cons_zero, List.set_cons_succ]
                    refine wpAnyH_take (i := 6) (oi := { dst := _, op := _, type := _, pos := _, after := _, guard := _ }) (v := ?_) rfl (by kernel_rfl) (by kernel_rfl) (by kernel_rfl) (fun _ _ _ h => h) (Or.inl ⟨by rfl, ?_⟩) (by assumption) ?_
                    rotate_left
                    · intro W hSw
                      (try dsimp only at hSw)
                      go_simp
                      (try with_reducible rfl)
                    try simp only [Act.put, List.setIfInBounds_toArray, List.set_cons_zero, List.set_cons_succ]
                    refine wpAnyH_take (i := 7) (oi := { dst := _, op := _, type := _, pos := _, after := _, guard := _ }) (v := ?_) rfl (by kernel_rfl) (by kernel_rfl) (by kernel_rfl) (fun _ _ _ h => h) (Or.inl ⟨by rfl, ?_⟩) (by assumption) ?_
                    rotate_left
                    · intro W hSw
                      (try dsimp only at hSw)
                      go_simp
                      (try with_reducible rfl)
                    try simp only [Act.put, List.setIfInBounds_toArray, List.set_cons_zero, List.set_cons_succ]
                    refine wpAnyH_take (i := 8) (oi := { dst := _, op := _, type := _, pos := _, after := _, guard := _ }) (v := ?_) rfl (by kernel_rfl) (by kernel_rfl) (by kernel_rfl) (fun _ _ _ h => h) (Or.inl ⟨by rfl, ?_⟩) (by assumption) ?_
                    rotate_left
                    · intro W hSw
                      (try dsimp only at hSw)
                      go_simp
                      (try with_reducible rfl)
                    try simp only [Act.put, List.setIfInBounds_toArray, List.set_cons_zero, List.set_cons_succ]
                    refine wpAnyH_take (i := 9) (oi := { dst := _, op := _, type := _, pos := _, after := _, guard := _ }) (v := ?_) rfl (by kernel_rfl) (by kernel_rfl) (by kernel_rfl) (fun _ _ _ h => h) (Or.inl ⟨by rfl, ?_⟩) (by assumption) ?_
                    rotate_left
                    · intro W hSw
                      (try dsimp only at hSw)
                      go_simp
                      (try with_reducible rfl)
                    try simp only [Act.put, List.setIfInBounds_toArray, List.set_cons_zero, List.set_cons_succ]
                    refine wpAnyH_take (i := 10) (oi := { dst := _, op := _, type := _, pos := _, after := _, guard := _ }) (v := ?_) rfl (by kernel_rfl) (by kernel_rfl) (by kernel_rfl) (fun _ _ _ h => h) (Or.inl ⟨by rfl, ?_⟩) (by assumption) ?_
                    rotate_left
                    · intro W hSw
                      (try dsimp only at hSw)
                      go_simp
                      (try with_reducible rfl)
                    try simp only [Act.put, List.setIfInBounds_toArray, List.set_cons_zero, List.set_cons_succ]
                    refine wpAnyH_take (i := 11) (oi := { dst := _, op := _, type := _, pos := _, after := _, guard := _ }) (v := ?_) rfl (by kernel_rfl) (by kernel_rfl) (by kernel_rfl) (fun _ _ _ h => h) (Or.inl ⟨by rfl, ?_⟩) (by assumption) ?_
                    rotate_left
                    · intro W hSw
                      (try dsimp only at hSw)
                      have s0 := HCL.out W hSw
                      go_simp
                      (try with_reducible rfl)
                    try simp only [Act.put, List.setIfInBounds_toArray, List.set_cons_zero, List.set_cons_succ]
                    refine wpAnyH_take (i := 12) (oi := { dst := _, op := _, type := _, pos := _, after := _, guard := _ }) (v := ?_) rfl (by kernel_rfl) (by kernel_rfl) (by kernel_rfl) (fun _ _ _ h => h) (Or.inl ⟨by rfl, ?_⟩) (by assumption) ?_
                    rotate_left
                    · intro W hSw
                      (try dsimp only at hSw)
                      go_simp
                      (try with_reducible rfl)
                    try simp only [Act.put, List.setIfInBounds_toArray, List.set_cons_zero, List.set_cons_succ]
                    refine wpAnyH_take (i := 13) (oi := { dst := _, op := _, type := _, pos := _, after := _, guard := _ }) (v := ?_) rfl (by kernel_rfl) (by kernel_rfl) (by kernel_rfl) (fun _ _ _ h => h) (Or.inl ⟨by rfl, ?_⟩) (by assumption) ?_
                    rotate_left
                    · intro W hSw
                      (try dsimp only at hSw)
                      go_simp
                      (try with_reducible rfl)
                    try simp only [Act.put, List.setIfInBounds_toArray, List.set_cons_zero, List.set_cons_succ]
                    refine wpAnyH_take (i := 14) (oi := { dst := _, op := _, type := _, pos := _, after := _, guard := _ }) (v := ?_) rfl (by kernel_rfl) (by kernel_rfl) (by kernel_rfl) (fun _ _ _ h => h) (Or.inl ⟨by rfl, ?_⟩) (by assumption) ?_
                    rotate_left
                    · intro W hSw
                      (try dsimp only at hSw)
                      obtain ⟨s0, s1, s2⟩ := HVK.out W hSw
                      go_simp
                      (try with_reducible rfl)
                    try simp only [Act.put, List.setIfInBounds_toArray, List.set_cons_zero, List.set_cons_succ]
                    refine wpAnyH_take (i := 15) (oi := { dst := _, op := _, type := _, pos := _, after := _, guard := _ }) (v := ?_) rfl (by kernel_rfl) (by kernel_rfl) (by kernel_rfl) (fun _ _ _ h => h) (Or.inl ⟨by rfl, ?_⟩) (by assumption) ?_
                    rotate_left
                    · intro W hSw
                      (try dsimp only at hSw)
                      go_simp
                      (try with_reducible rfl)
                    try simp only [Act.put, List.setIfInBounds_toArray, List.set_cons_zero, List.set_cons_succ]
                    refine wpAnyH_take (i := 16) (oi := { dst := _, op := _, type := _, pos := _, after := _, guard := _ }) (v := ?_) rfl (by kernel_rfl) (by kernel_rfl) (by kernel_rfl) (fun _ _ _ h => h) (Or.inl ⟨by rfl, ?_⟩) (by assumption) ?_
                    rotate_left
                    · intro W hSw
                      (try dsimp only at hSw)
                      go_simp
                      (try with_reducible rfl)
                    try simp only [Act.put, List.setIfInBounds_toArray, List.set_cons_zero, List.set_cons_succ]
                    refine wpAnyH_take (i := 17) (oi := { dst := _, op := _, type := _, pos := _, after := _, guard := _ }) (v := ?_) rfl (by kernel_rfl) (by kernel_rfl) (by kernel_rfl) (fun _ _ _ h => h) (Or.inl ⟨by rfl, ?_⟩) (by assumption) ?_
                    rotate_left
                    · intro W hSw
                      (try dsimp only at hSw)
                      go_simp
                      (try with_reducible rfl)
                    try simp only [Act.put, List.setIfInBounds_toArray, List.set_cons_zero, List.set_cons_succ]
                    refine wpAnyH_take (i := 18) (oi := { dst := _, op := _, type := _, pos := _, after := _, guard := _ }) (v := ?_) rfl (by kernel_rfl) (by kernel_rfl) (by kernel_rfl) (fun _ _ _ h => h) (Or.inl ⟨by rfl, ?_⟩) (by assumption) ?_
                    rotate_left
                    · intro W hSw
                      (try dsimp only at hSw)
                      go_simp
                      (try with_reducible rfl)
                    try simp only [Act.put, List.setIfInBounds_toArray, List.set_cons_zero, List.set_cons_succ]
                    refine wpAnyH_take (i := 19) (oi := { dst := _, op := _, type := _, pos := _, after := _, guard := _ }) (v := ?_) rfl (by kernel_rfl) (by kernel_rfl) (by kernel_rfl) (fun _ _ _ h => h) (Or.inl ⟨by rfl, ?_⟩) (by assumption) ?_
                    rotate_left
                    · intro W hSw
                      (try dsimp only at hSw)
                      go_simp
                      (try with_reducible rfl)
                    try simp only [Act.put, List.setIfInBounds_toArray, List.set_cons_zero, List.set_cons_succ]
                    refine wpAnyH_take (i := 20) (oi := { dst := _, op := _, type := _, pos := _, after := _, guard := _ }) (v := ?_) rfl (by kernel_rfl) (by kernel_rfl) (by kernel_rfl) (fun _ _ _ h => h) (Or.inl ⟨by rfl, ?_⟩) (by assumption) ?_
                    rotate_left
                    · intro W hSw
                      (try dsimp only at hSw)
                      go_simp
                      (try with_reducible rfl)
                    try simp only [Act.put, List.setIfInBounds_toArray, List.set_cons_zero, List.set_cons_succ]
                    refine wpAnyH_take (i := 21) (oi := { dst := _, op := _, type := _, pos := _, after := _, guard := _ }) (v := ?_) rfl (by kernel_rfl) (by kernel_rfl) (by kernel_rfl) (fun _ _ _ h => h) (Or.inl ⟨by rfl, ?_⟩) (by assumption) ?_
                    rotate_left
                    · intro W hSw
                      (try dsimp only at hSw)
                      go_simp
                      (try with_reducible rfl)
                    try simp only [Act.put, List.setIfInBounds_toArray, List.set_cons_zero, List.set_cons_succ]
                    refine wpAnyH_take (i := 22) (oi := { dst := _, op := _, type := _, pos := _, after := _, guard := _ }) (v := ?_) rfl (by kernel_rfl) (by kernel_rfl) (by kernel_rfl) (fun _ _ _ h => h) (Or.inl ⟨by rfl, ?_⟩) (by assumption) ?_
                    rotate_left
                    · intro W hSw
                      (try dsimp only at hSw)
                      go_simp
                      (try with_reducible rfl)
                    try simp only [Act.put, List.setIfInBounds_toArray, List.set_cons_zero, List.set_cons_succ]
                    refine wpAnyH_take (i := 23) (oi := { dst := _, op := _, type := _, pos := _, after := _, guard := _ }) (v := ?_) rfl (by kernel_rfl) (by kernel_rfl) (by kernel_rfl) (fun _ _ _ h => h) (Or.inl ⟨by rfl, ?_⟩) (by assumption) ?_
                    rotate_left
                    · intro W hSw
                      (try dsimp only at hSw)
                      have s0 := HCI.out W hSw
                      go_simp
                      (try with_reducible rfl)
                    try simp only [Act.put, List.setIfInBounds_toArray, List.set_cons_zero, List.set_cons_succ]
                    refine wpAnyH_take (i := 24) (oi := { dst := _, op := _, type := _, pos := _, after := _, guard := _ }) (v := ?_) rfl (by kernel_rfl) (by kernel_rfl) (by kernel_rfl) (fun _ _ _ h => h) (Or.inl ⟨by rfl, ?_⟩) (by assumption) ?_
                    rotate_left
                    · intro W hSw
                      (try dsimp only at hSw)
                      go_simp
                      (try with_reducible rfl)
                    try simp only [Act.put, List.setIfInBounds_toArray, List.set_cons_zero, List.set_cons_succ]
                    refine wpAnyH_take (i := 25) (oi := { dst := _, op := _, type := _, pos := _, after := _, guard := _ }) (v := ?_) rfl (by kernel_rfl) (by kernel_rfl) (by kernel_rfl) (fun _ _ _ h => h) (Or.inl ⟨by rfl, ?_⟩) (by assumption) ?_
                    rotate_left
                    · intro W hSw
                      (try dsimp only at hSw)
                      go_simp
                      (try with_reducible rfl)
                    try simp only [Act.put, List.setIfInBounds_toArray, List.set_cons_zero, List.set_cons_succ]
                    refine wpAnyH_take (i := 26) (oi := { dst := _, op := _, type := _, pos := _, after := _, guard := _ }) (v := ?_) rfl (by kernel_rfl) (by kernel_rfl) (by kernel_rfl) (fun _ _ _ h => h) (Or.inl ⟨by rfl, ?_⟩) (by assumption) ?_
                    rotate_left
                    · intro W hSw
                      (try dsimp only at hSw)
                      obtain ⟨s0, s1, s2⟩ := HUK.out W hSw
                      go_simp
                      (try with_reducible rfl)
                    try simp only [Act.put, List.setIfInBounds_toArray, List.set_cons_zero, List.set_cons_succ]
                    refine wpAnyH_take (i := 27) (oi := { dst := _, op := _, type := _, pos := _, after := _, guard := _ }) (v := ?_) rfl (by kernel_rfl) (by kernel_rfl) (by kernel_rfl) (fun _ _ _ h => h) (Or.inl ⟨by rfl, ?_⟩) (by assumption) ?_
                    rotate_left
                    · intro W hSw
                      (try dsimp only at hSw)
                      go_simp
                      (try with_reducible rfl)
                    try simp only [Act.put, List.setIfInBounds_toArray, List.set_cons_zero, List.set_cons_succ]
                    refine wpAnyH_take (i := 28) (oi := { dst := _, op := _, type := _, pos := _, after := _, guard := _ }) (v := ?_) rfl (by kernel_rfl) (by kernel_rfl) (by kernel_rfl) (fun _ _ _ h => h) (Or.inl ⟨by rfl, ?_⟩) (by assumption) ?_
                    rotate_left
                    · intro W hSw
                      (try dsimp only at hSw)
                      go_simp
                      (try with_reducible rfl)
                    try simp only [Act.put, List.setIfInBounds_toArray, List.set_cons_zero, List.set_cons_succ]
                    refine wpAnyH_take (i := 29) (oi := { dst := _, op := _, type := _, pos := _, after := _, guard := _ }) (v := ?_) rfl (by kernel_rfl) (by kernel_rfl) (by kernel_rfl) (fun _ _ _ h => h) (Or.inl ⟨by rfl, ?_⟩) (by assumption) ?_
                    rotate_left
                    · intro W hSw
                      (try dsimp only at hSw)
                      go_simp
                      (try with_reducible rfl)
                    try simp only [Act.put, List.setIfInBounds_toArray, List.set_cons_zero, List.set_cons_succ]
                    refine wpAnyH_take (i := 30) (oi := { dst := _, op := _, type := _, pos := _, after := _, guard := _ }) (v := ?_) rfl (by kernel_rfl) (by kernel_rfl) (by kernel_rfl) (fun _ _ _ h => h) (Or.inl ⟨by rfl, ?_⟩) (by assumption) ?_
                    rotate_left
                    · intro W hSw
                      (try dsimp only at hSw)
                      have s0 := HCL.out W hSw
                      go_simp
                      (try with_reducible rfl)
                    try simp only [Act.put, List.setIfInBounds_toArray, List.set_cons_zero, List.set_cons_succ]
                    refine wpAnyH_take (i := 31) (oi := { dst := _, op := _, type := _, pos := _, after := _, guard := _ }) (v := ?_) rfl (by kernel_rfl) (by kernel_rfl) (by kernel_rfl) (fun _ _ _ h => h) (Or.inl ⟨by rfl, ?_⟩) (by assumption) ?_
                    rotate_left
                    · intro W hSw
                      (try dsimp only at hSw)
                      go_simp
                      (try with_reducible rfl)
                    try simp only [Act.put, List.setIfInBounds_toArray, List.set_cons_zero, List.set_cons_succ]
                    refine wpAnyH_take (i := 32) (oi := { dst := _, op := _, type := _, pos := _, after := _, guard := _ }) (v := ?_) rfl (by kernel_rfl) (by kernel_rfl) (by kernel_rfl) (fun _ _ _ h => h) (Or.inl ⟨by rfl, ?_⟩) (by assumption) ?_
                    rotate_left
                    · intro W hSw
                      (try dsimp only at hSw)
                      go_simp
                      (try with_reducible rfl)
                    try simp only [Act.put, List.setIfInBounds_toArray, List.set_cons_zero, List.set_cons_succ]
                    refine wpAnyH_take (i := 33) (oi := { dst := _, op := _, type := _, pos := _, after := _, guard := _ }) (v := ?_) rfl (by kernel_rfl) (by kernel_rfl) (by kernel_rfl) (fun _ _ _ h => h) (Or.inl ⟨by rfl, ?_⟩) (by assumption) ?_
                    rotate_left
                    · intro W hSw
                      (try dsimp only at hSw)
                      obtain ⟨s0, s1, s2⟩ := HVK.out W hSw
                      go_simp
                      (try with_reducible rfl)
                    try simp only [Act.put, List.setIfInBounds_toArray, List.set_cons_zero, List.set_cons_succ]
                    refine wpAnyH_take (i := 34) (oi := { dst := _, op := _, type := _, pos := _, after := _, guard := _ }) (v := ?_) rfl (by kernel_rfl) (by kernel_rfl) (by kernel_rfl) (fun _ _ _ h => h) (Or.inl ⟨by rfl, ?_⟩) (by assumption) ?_
                    rotate_left
                    · intro W hSw
                      (try dsimp only at hSw)
                      go_simp
                      (try with_reducible rfl)
                    try simp only [Act.put, List.setIfInBounds_toArray, List.set_cons_zero, List.set_cons_succ]
                    refine wpAnyH_take (i := 35) (oi := { dst := _, op := _, type := _, pos := _, after := _, guard := _ }) (v := ?_) rfl (by kernel_rfl) (by kernel_rfl) (by kernel_rfl) (fun _ _ _ h => h) (Or.inl ⟨by rfl, ?_⟩) (by assumption) ?_
                    rotate_left
                    · intro W hSw
                      (try dsimp only at hSw)
                      go_simp
                      (try with_reducible rfl)
                    try simp only [Act.put, List.setIfInBounds_toArray, List.set_cons_zero, List.set_cons_succ]
                    refine wpAnyH_take (i := 36) (oi := { dst := _, op := _, type := _, pos := _, after := _, guard := _ }) (v := ?_) rfl (by kernel_rfl) (by kernel_rfl) (by kernel_rfl) (fun _ _ _ h => h) (Or.inl ⟨by rfl, ?_⟩) (by assumption) ?_
                    rotate_left
                    · intro W hSw
                      (try dsimp only at hSw)
                      go_simp
                      (try with_reducible rfl)
                    try simp only [Act.put, List.setIfInBounds_toArray, List.set_cons_zero, List.set_cons_succ]
                    refine wpAnyH_take (i := 37) (oi := { dst := _, op := _, type := _, pos := _, after := _, guard := _ }) (v := ?_) rfl (by kernel_rfl) (by kernel_rfl) (by kernel_rfl) (fun _ _ _ h => h) (Or.inl ⟨by rfl, ?_⟩) (by assumption) ?_
                    rotate_left
                    · intro W hSw
                      (try dsimp only at hSw)
                      go_simp
                      (try with_reducible rfl)
                    try simp only [Act.put, List.setIfInBounds_toArray, List.set_cons_zero, List.set_cons_succ]
                    refine wpAnyH_take (i := 38) (oi := { dst := _, op := _, type := _, pos := _, after := _, guard := _ }) (v := ?_) rfl (by kernel_rfl) (by kernel_rfl) (by kernel_rfl) (fun _ _ _ h => h) (Or.inl ⟨by rfl, ?_⟩) (by assumption) ?_
                    rotate_left
                    · intro W hSw
                      (try dsimp only at hSw)
                      go_simp
                      (try with_reducible rfl)
                    try simp only [Act.put, List.setIfInBounds_toArray, List.set_cons_zero, List.set_cons_succ]
                    refine wpAnyH_take (i := 39) (oi := { dst := _, op := _, type := _, pos := _, after := _, guard := _ }) (v := ?_) rfl (by kernel_rfl) (by kernel_rfl) (by kernel_rfl) (fun _ _ _ h => h) (Or.inl ⟨by rfl, ?_⟩) (by assumption) ?_
                    rotate_left
                    · intro W hSw
                      (try dsimp only at hSw)
                      go_simp
                      (try with_reducible rfl)
                    try simp only [Act.put, List.setIfInBounds_toArray, List.set_cons_zero, List.set_cons_succ]
                    refine wpAnyH_take (i := 40) (oi := { dst := _, op := _, type := _, pos := _, after := _, guard := _ }) (v := ?_) rfl (by kernel_rfl) (by kernel_rfl) (by kernel_rfl) (fun _ _ _ h => h) (Or.inl ⟨by rfl, ?_⟩) (by assumption) ?_
                    rotate_left
                    · intro W hSw
                      (try dsimp only at hSw)
                      go_simp
                      (try with_reducible rfl)
                    try simp only [Act.put, List.setIfInBounds_toArray, List.set_cons_zero, List.set_cons_succ]
                    refine wpAnyH_take (i := 41) (oi := { dst := _, op := _, type := _, pos := _, after := _, guard := _ }) (v := ?_) rfl (by kernel_rfl) (by kernel_rfl) (by kernel_rfl) (fun _ _ _ h => h) (Or.inl ⟨by rfl, ?_⟩) (by assumption) ?_
                    rotate_left
                    · intro W hSw
                      (try dsimp only at hSw)
                      go_simp
                      (try with_reducible rfl)
                    try simp only [Act.put, List.setIfInBounds_toArray, List.set_cons_zero, List.set_cons_succ]
                    refine wpAnyH_take (i := 42) (oi := { dst := _, op := _, type := _, pos := _, after := _, guard := _ }) (v := ?_) rfl (by kernel_rfl) (by kernel_rfl) (by kernel_rfl) (fun _ _ _ h => h) (Or.inl ⟨by rfl, ?_⟩) (by assumption) ?_
                    rotate_left
                    · intro W hSw
                      (try dsimp only at hSw)
                      have s0 := HCL.out W hSw
                      go_simp
                      (try with_reducible rfl)
                    try simp only [Act.put, List.setIfInBounds_toArray, List.set_cons_zero, List.set_cons_succ]
                    refine wpAnyH_take (i := 43) (oi := { dst := _, op := _, type := _, pos := _, after := _, guard := _ }) (v := ?_) rfl (by kernel_rfl) (by kernel_rfl) (by kernel_rfl) (fun _ _ _ h => h) (Or.inl ⟨by rfl, ?_⟩) (by assumption) ?_
                    rotate_left
                    · intro W hSw
                      (try dsimp only at hSw)
                      go_simp
                      (try with_reducible rfl)
                    try simp only [Act.put, List.setIfInBounds_toArray, List.set_cons_zero, List.set_cons_succ]
                    refine wpAnyH_take (i := 44) (oi := { dst := _, op := _, type := _, pos := _, after := _, guard := _ }) (v := ?_) rfl (by kernel_rfl) (by kernel_rfl) (by kernel_rfl) (fun _ _ _ h => h) (Or.inl ⟨by rfl, ?_⟩) (by assumption) ?_
                    rotate_left
                    · intro W hSw
                      (try dsimp only at hSw)
                      go_simp
                      (try with_reducible rfl)
                    try simp only [Act.put, List.setIfInBounds_toArray, List.set_cons_zero, List.set_cons_succ]
                    refine wpAnyH_take (i := 45) (oi := { dst := _, op := _, type := _, pos := _, after := _, guard := _ }) (v := ?_) rfl (by kernel_rfl) (by kernel_rfl) (by kernel_rfl) (fun _ _ _ h => h) (Or.inl ⟨by rfl, ?_⟩) (by assumption) ?_
                    rotate_left
                    · intro W hSw
                      (try dsimp only at hSw)
                      go_simp
                      (try with_reducible rfl)
                    try simp only [Act.put, List.setIfInBounds_toArray, List.set_cons_zero, List.set_cons_succ]
                    refine wpAnyH_take (i := 46) (oi := { dst := _, op := _, type := _, pos := _, after := _, guard := _ }) rfl (by kernel_rfl) (by kernel_rfl) (by kernel_rfl) (fun _ _ _ h => h) (Or.inr ⟨by rfl, rfl⟩) (by assumption) ?_
                    try simp only [Act.put, List.setIfInBounds_toArray, List.set_cons_zero, List.set_cons_succ]
                    refine wpAnyH_take (i := 47) (oi := { dst := _, op := _, type := _, pos := _, after := _, guard := _ }) rfl (by kernel_rfl) (by kernel_rfl) (by kernel_rfl) (fun _ _ _ h => h) (Or.inr ⟨by rfl, rfl⟩) (by assumption) ?_
                    try simp only [Act.put, List.setIfInBounds_toArray, List.set_cons_zero, List.set_cons_succ]
                    refine wpAnyH_take (i := 48) (oi := { dst := _, op := _, type := _, pos := _, after := _, guard := _ }) rfl (by kernel_rfl) (by kernel_rfl) (by kernel_rfl) (fun _ _ _ h => h) (Or.inr ⟨by rfl, rfl⟩) (by assumption) ?_
                    try simp only [Act.put, List.setIfInBounds_toArray, List.set_cons_zero, List.set_cons_succ]
                    refine wpAnyH_take (i := 49) (oi := { dst := _, op := _, type := _, pos := _, after := _, guard := _ }) rfl (by kernel_rfl) (by kernel_rfl) (by kernel_rfl) (fun _ _ _ h => h) (Or.inr ⟨by rfl, rfl⟩) (by assumption) ?_
                    try simp only [Act.put, List.setIfInBounds_toArray, List.set_cons_zero, List.set_cons_succ]
                    refine wpAnyH_take (i := 50) (oi := { dst := _, op := _, type := _, pos := _, after := _, guard := _ }) rfl (by kernel_rfl) (by kernel_rfl) (by kernel_rfl) (fun _ _ _ h => h) (Or.inr ⟨by rfl, rfl⟩) (by assumption) ?_
                    try simp only [Act.put, List.setIfInBounds_toArray, List.set_cons_zero, List.set_cons_succ]
                    refine wpAnyH_take (i := 51) (oi := { dst := _, op := _, type := _, pos := _, after := _, guard := _ }) rfl (by kernel_rfl) (by kernel_rfl) (by kernel_rfl) (fun _ _ _ h => h) (Or.inr ⟨by rfl, rfl⟩) (by assumption) ?_
                    try simp only [Act.put, List.setIfInBounds_toArray, List.set_cons_zero, List.set_cons_succ]
                    refine wpAnyH_take (i := 52) (oi := { dst := _, op := _, type := _, pos := _, after := _, guard := _ }) rfl (by kernel_rfl) (by kernel_rfl) (by kernel_rfl) (fun _ _ _ h => h) (Or.inr ⟨by rfl, rfl⟩) (by assumption) ?_
                    try simp only [Act.put, List.setIfInBounds_toArray, List.set_cons_zero, List.set_cons_succ]
                    refine wpAnyH_take (i := 53) (oi := { dst := _, op := _, type := _, pos := _, after := _, guard := _ }) rfl (by kernel_rfl) (by kernel_rfl) (by kernel_rfl) (fun _ _ _ h => h) (Or.inr ⟨by rfl, rfl⟩) (by assumption) ?_
                    try simp only [Act.put, List.setIfInBounds_toArray, List.set_cons_zero, List.set_cons_succ]
                    refine wpAnyH_take (i := 54) (oi := { dst := _, op := _, type := _, pos := _, after := _, guard := _ }) rfl (by kernel_rfl) (by kernel_rfl) (by kernel_rfl) (fun _ _ _ h => h) (Or.inr ⟨by rfl, rfl⟩) (by assumption) ?_
                    try simp only [Act.put, List.setIfInBounds_toArray, List.set_cons_zero, List.set_cons_succ]
                    refine wpAnyH_take (i := 55) (oi := { dst := _, op := _, type := _, pos := _, after := _, guard := _ }) rfl (by kernel_rfl) (by kernel_rfl) (by kernel_rfl) (fun _ _ _ h => h) (Or.inr ⟨by rfl, rfl⟩) (by assumption) ?_
                    try simp only [Act.put, List.setIfInBounds_toArray, List.set_cons_zero, List.set_cons_succ]
                    refine wpAnyH_take (i := 56) (oi := { dst := _, op := _, type := _, pos := _, after := _, guard := _ }) rfl (by kernel_rfl) (by kernel_rfl) (by kernel_rfl) (fun _ _ _ h => h) (Or.inr ⟨by rfl, rfl⟩) (by assumption) ?_
                    try simp only [Act.put, List.setIfInBounds_toArray, List.set_cons_zero, List.set_cons_succ]
                    refine wpAnyH_take (i := 57) (oi := { dst := _, op := _, type := _, pos := _, after := _, guard := _ }) (v := ?_) rfl (by kernel_rfl) (by kernel_rfl) (by kernel_rfl) (fun _ _ _ h => h) (Or.inl ⟨by rfl, ?_⟩) (by assumption) ?_
                    rotate_left
                    · intro W hSw
                      (try dsimp only at hSw)
                      go_simp
                      (try with_reducible rfl)
                    try simp only [Act.put, List.setIfInBounds_toArray, List.set_cons_zero, List.set_cons_succ]
                    refine wpAnyH_take (i := 58) (oi := { dst := _, op := _, type := _, pos := _, after := _, guard := _ }) (v := ?_) rfl (by kernel_rfl) (by kernel_rfl) (by kernel_rfl) (fun _ _ _ h => h) (Or.inl ⟨by rfl, ?_⟩) (by assumption) ?_
                    rotate_left
                    · intro W hSw
                      (try dsimp only at hSw)
                      go_simp
                      (try with_reducible rfl)
                    try simp only [Act.put, List.setIfInBounds_toArray, List.set_cons_zero, List.set_cons_succ]
                    refine wpAnyH_done (by kernel_rfl) ?_ _
                    refine NoPanic.normal ?_
                    go_wp2_with fail
                    go_roundg (p - (k + 1))
                    case measure => have := HK.out; have := HKL.out; omega
                    case rel => exact ⟨k + 1, by simp, ⟨HKL.out, rfl⟩, HC.out.drew⟩
                  · have d3 : decide ((k : Int) < (n i : Int)) = false := by rw [decide_eq_false_iff_not]; omega
                    have d4 : decide (k < n i) = false := decide_eq_false hkn
                    have d5 : decide ((n i : Int) ≤ (k : Int)) = true := by rw [decide_eq_true_eq]; omega
                    have d6 : decide (n i ≤ k) = true := by rw [decide_eq_true_eq]; omega
                    have HCL : Hid (∀ W, Below wb.heap.size wb W → W.cell? ⟨lb, i, none⟩ = some (.slice (a i) (n i) (c i))) := fun W hW => HCV.out i b2 W hW
                    have HUK0 : Hid (∀ W, Below wb.heap.size wb W → ∀ j u, (snf (apP i))[j]? = some u → W.cell? ⟨gu, k * 3 + j, none⟩ = some u) := HUC.out (apP i) (by
                      have hp := HP.out
                      rw [List.getD_eq_getElem?_getD, List.getElem?_append_right (by rw [HXL.out.1]; omega), (HM4.out i b2).2, List.getElem?_replicate_of_lt (by rw [HXL.out.1]; omega)]; rfl)
                    have HUK : Hid (∀ W, Below wb.heap.size wb W → W.cell? ⟨gu, k * 3, none⟩ = some (.int .i64 (-8)) ∧ W.cell? ⟨gu, k * 3 + 1, none⟩ = some (.int .i64 (500000 + (i : Int))) ∧ W.cell? ⟨gu, k * 3 + 2, none⟩ = some (.string ⟨#[]⟩)) := fun W hW => ⟨HUK0.out W hW 0 _ rfl, HUK0.out W hW 1 _ rfl, HUK0.out W hW 2 _ rfl⟩
                    clear hkn
                    refine wp_region_noPanic ?_
                    refine wp_region_held_drew (S := fun W => Below wb.heap.size wb W) (by kernel_rfl) HD.out (fun hHeld => ?_)
                    refine wpAnyH_take (i := 0) (oi := { dst := _, op := _, type := _, pos := _, after := _, guard := _ }) (v := ?_) rfl (by kernel_rfl) (by kernel_rfl) (by kernel_rfl) (fun _ _ _ h => h) (Or.inl ⟨by rfl, ?_⟩) (by assumption) ?_
                    rotate_left
                    · intro W hSw
                      (try dsimp only at hSw)
                      go_simp
                      (try with_reducible rfl)
                    try simp only [Act.put, List.setIfInBounds_toArray, List.set_cons_zero, List.set_cons_succ]
                    refine wpAnyH_take (i := 1) (oi := { dst := _, op := _, type := _, pos := _, after := _, guard := _ }) (v := ?_) rfl (by kernel_rfl) (by kernel_rfl) (by kernel_rfl) (fun _ _ _ h => h) (Or.inl ⟨by rfl, ?_⟩) (by assumption) ?_
                    rotate_left
                    · intro W hSw
                      (try dsimp only at hSw)
                      go_simp
                      (try with_reducible rfl)
                    try simp only [Act.put, List.setIfInBounds_toArray, List.set_cons_zero, List.set_cons_succ]
                    refine wpAnyH_take (i := 2) (oi := { dst := _, op := _, type := _, pos := _, after := _, guard := _ }) (v := ?_) rfl (by kernel_rfl) (by kernel_rfl) (by kernel_rfl) (fun _ _ _ h => h) (Or.inl ⟨by rfl, ?_⟩) (by assumption) ?_
                    rotate_left
                    · intro W hSw
                      (try dsimp only at hSw)
                      go_simp
                      (try with_reducible rfl)
                    try simp only [Act.put, List.setIfInBounds_toArray, List.set_cons_zero, List.set_cons_succ]
                    refine wpAnyH_take (i := 3) (oi := { dst := _, op := _, type := _, pos := _, after := _, guard := _ }) (v := ?_) rfl (by kernel_rfl) (by kernel_rfl) (by kernel_rfl) (fun _ _ _ h => h) (Or.inl ⟨by rfl, ?_⟩) (by assumption) ?_
                    rotate_left
                    · intro W hSw
                      (try dsimp only at hSw)
                      go_simp
                      (try with_reducible rfl)
                    try simp only [Act.put, List.setIfInBounds_toArray, List.set_cons_zero, List.set_cons_succ]
                    refine wpAnyH_take (i := 4) (oi := { dst := _, op := _, type := _, pos := _, after := _, guard := _ }) (v := ?_) rfl (by kernel_rfl) (by kernel_rfl) (by kernel_rfl) (fun _ _ _ h => h) (Or.inl ⟨by rfl, ?_⟩) (by assumption) ?_
                    rotate_left
                    · intro W hSw
                      (try dsimp only at hSw)
                      have s0 := HCL.out W hSw
                      go_simp
                      (try with_reducible rfl)
                    try simp only [Act.put, List.setIfInBounds_toArray, List.set_cons_zero, List.set_cons_succ]
                    refine wpAnyH_take (i := 5) (oi := { dst := _, op := _, type := _, pos := _, after := _, guard := _ }) (v := ?_) rfl (by kernel_rfl) (by kernel_rfl) (by kernel_rfl) (fun _ _ _ h => h) (Or.inl ⟨by rfl, ?_⟩) (by assumption) ?_
                    rotate_left
                    · intro W hSw
                      (try dsimp only at hSw)
                      go_simp
                      (try with_reducible rfl)
                    try simp only [Act.put, List.setIfInBounds_toArray, List.set_cons_zero, List.set_cons_succ]
                    refine wpAnyH_take (i := 6) (oi := { dst := _, op := _, type := _, pos := _, after := _, guard := _ }) (v := ?_) rfl (by kernel_rfl) (by kernel_rfl) (by kernel_rfl) (fun _ _ _ h => h) (Or.inl ⟨by rfl, ?_⟩) (by assumption) ?_
                    rotate_left
                    · intro W hSw
                      (try dsimp only at hSw)
                      go_simp
                      (try with_reducible rfl)
                    try simp only [Act.put, List.setIfInBounds_toArray, List.set_cons_zero, List.set_cons_succ]
                    refine wpAnyH_take (i := 7) (oi := { dst := _, op := _, type := _, pos := _, after := _, guard := _ }) (v := ?_) rfl (by kernel_rfl) (by kernel_rfl) (by kernel_rfl) (fun _ _ _ h => h) (Or.inl ⟨by rfl, ?_⟩) (by assumption) ?_
                    rotate_left
                    · intro W hSw
                      (try dsimp only at hSw)
                      go_simp
                      (try with_reducible rfl)
                    try simp only [Act.put, List.setIfInBounds_toArray, List.set_cons_zero, List.set_cons_succ]
                    refine wpAnyH_take (i := 8) (oi := { dst := _, op := _, type := _, pos := _, after := _, guard := _ }) rfl (by kernel_rfl) (by kernel_rfl) (by kernel_rfl) (fun _ _ _ h => h) (Or.inr ⟨by rfl, rfl⟩) (by assumption) ?_
                    try simp only [Act.put, List.setIfInBounds_toArray, List.set_cons_zero, List.set_cons_succ]
                    refine wpAnyH_take (i := 9) (oi := { dst := _, op := _, type := _, pos := _, after := _, guard := _ }) rfl (by kernel_rfl) (by kernel_rfl) (by kernel_rfl) (fun _ _ _ h => h) (Or.inr ⟨by rfl, rfl⟩) (by assumption) ?_
                    try simp only [Act.put, List.setIfInBounds_toArray, List.set_cons_zero, List.set_cons_succ]
                    refine wpAnyH_take (i := 10) (oi := { dst := _, op := _, type := _, pos := _, after := _, guard := _ }) rfl (by kernel_rfl) (by kernel_rfl) (by kernel_rfl) (fun _ _ _ h => h) (Or.inr ⟨by rfl, rfl⟩) (by assumption) ?_
                    try simp only [Act.put, List.setIfInBounds_toArray, List.set_cons_zero, List.set_cons_succ]
                    refine wpAnyH_take (i := 11) (oi := { dst := _, op := _, type := _, pos := _, after := _, guard := _ }) rfl (by kernel_rfl) (by kernel_rfl) (by kernel_rfl) (fun _ _ _ h => h) (Or.inr ⟨by rfl, rfl⟩) (by assumption) ?_
                    try simp only [Act.put, List.setIfInBounds_toArray, List.set_cons_zero, List.set_cons_succ]
                    refine wpAnyH_take (i := 12) (oi := { dst := _, op := _, type := _, pos := _, after := _, guard := _ }) rfl (by kernel_rfl) (by kernel_rfl) (by kernel_rfl) (fun _ _ _ h => h) (Or.inr ⟨by rfl, rfl⟩) (by assumption) ?_
                    try simp only [Act.put, List.setIfInBounds_toArray, List.set_cons_zero, List.set_cons_succ]
                    refine wpAnyH_take (i := 13) (oi := { dst := _, op := _, type := _, pos := _, after := _, guard := _ }) rfl (by kernel_rfl) (by kernel_rfl) (by kernel_rfl) (fun _ _ _ h => h) (Or.inr ⟨by rfl, rfl⟩) (by assumption) ?_
                    try simp only [Act.put, List.setIfInBounds_toArray, List.set_cons_zero, List.set_cons_succ]
                    refine wpAnyH_take (i := 14) (oi := { dst := _, op := _, type := _, pos := _, after := _, guard := _ }) rfl (by kernel_rfl) (by kernel_rfl) (by kernel_rfl) (fun _ _ _ h => h) (Or.inr ⟨by rfl, rfl⟩) (by assumption) ?_
                    try simp only [Act.put, List.setIfInBounds_toArray, List.set_cons_zero, List.set_cons_succ]
                    refine wpAnyH_take (i := 15) (oi := { dst := _, op := _, type := _, pos := _, after := _, guard := _ }) rfl (by kernel_rfl) (by kernel_rfl) (by kernel_rfl) (fun _ _ _ h => h) (Or.inr ⟨by rfl, rfl⟩) (by assumption) ?_
                    try simp only [Act.put, List.setIfInBounds_toArray, List.set_cons_zero, List.set_cons_succ]
                    refine wpAnyH_take (i := 16) (oi := { dst := _, op := _, type := _, pos := _, after := _, guard := _ }) rfl (by kernel_rfl) (by kernel_rfl) (by kernel_rfl) (fun _ _ _ h => h) (Or.inr ⟨by rfl, rfl⟩) (by assumption) ?_
                    try simp only [Act.put, List.setIfInBounds_toArray, List.set_cons_zero, List.set_cons_succ]
                    refine wpAnyH_take (i := 17) (oi := { dst := _, op := _, type := _, pos := _, after := _, guard := _ }) rfl (by kernel_rfl) (by kernel_rfl) (by kernel_rfl) (fun _ _ _ h => h) (Or.inr ⟨by rfl, rfl⟩) (by assumption) ?_
                    try simp only [Act.put, List.setIfInBounds_toArray, List.set_cons_zero, List.set_cons_succ]
                    refine wpAnyH_take (i := 18) (oi := { dst := _, op := _, type := _, pos := _, after := _, guard := _ }) rfl (by kernel_rfl) (by kernel_rfl) (by kernel_rfl) (fun _ _ _ h => h) (Or.inr ⟨by rfl, rfl⟩) (by assumption) ?_
                    try simp only [Act.put, List.setIfInBounds_toArray, List.set_cons_zero, List.set_cons_succ]
                    refine wpAnyH_take (i := 19) (oi := { dst := _, op := _, type := _, pos := _, after := _, guard := _ }) rfl (by kernel_rfl) (by kernel_rfl) (by kernel_rfl) (fun _ _ _ h => h) (Or.inr ⟨by rfl, rfl⟩) (by assumption) ?_
                    try simp only [Act.put, List.setIfInBounds_toArray, List.set_cons_zero, List.set_cons_succ]
                    refine wpAnyH_take (i := 20) (oi := { dst := _, op := _, type := _, pos := _, after := _, guard := _ }) rfl (by kernel_rfl) (by kernel_rfl) (by kernel_rfl) (fun _ _ _ h => h) (Or.inr ⟨by rfl, rfl⟩) (by assumption) ?_
                    try simp only [Act.put, List.setIfInBounds_toArray, List.set_cons_zero, List.set_cons_succ]
                    refine wpAnyH_take (i := 21) (oi := { dst := _, op := _, type := _, pos := _, after := _, guard := _ }) rfl (by kernel_rfl) (by kernel_rfl) (by kernel_rfl) (fun _ _ _ h => h) (Or.inr ⟨by rfl, rfl⟩) (by assumption) ?_
                    try simp only [Act.put, List.setIfInBounds_toArray, List.set_cons_zero, List.set_cons_succ]
                    refine wpAnyH_take (i := 22) (oi := { dst := _, op := _, type := _, pos := _, after := _, guard := _ }) rfl (by kernel_rfl) (by kernel_rfl) (by kernel_rfl) (fun _ _ _ h => h) (Or.inr ⟨by rfl, rfl⟩) (by assumption) ?_
                    try simp only [Act.put, List.setIfInBounds_toArray, List.set_cons_zero, List.set_cons_succ]
                    refine wpAnyH_take (i := 23) (oi := { dst := _, op := _, type := _, pos := _, after := _, guard := _ }) rfl (by kernel_rfl) (by kernel_rfl) (by kernel_rfl) (fun _ _ _ h => h) (Or.inr ⟨by rfl, rfl⟩) (by assumption) ?_
                    try simp only [Act.put, List.setIfInBounds_toArray, List.set_cons_zero, List.set_cons_succ]
                    refine wpAnyH_take (i := 24) (oi := { dst := _, op := _, type := _, pos := _, after := _, guard := _ }) rfl (by kernel_rfl) (by kernel_rfl) (by kernel_rfl) (fun _ _ _ h => h) (Or.inr ⟨by rfl, rfl⟩) (by assumption) ?_
                    try simp only [Act.put, List.setIfInBounds_toArray, List.set_cons_zero, List.set_cons_succ]
                    refine wpAnyH_take (i := 25) (oi := { dst := _, op := _, type := _, pos := _, after := _, guard := _ }) rfl (by kernel_rfl) (by kernel_rfl) (by kernel_rfl) (fun _ _ _ h => h) (Or.inr ⟨by rfl, rfl⟩) (by assumption) ?_
                    try simp only [Act.put, List.setIfInBounds_toArray, List.set_cons_zero, List.set_cons_succ]
                    refine wpAnyH_take (i := 26) (oi := { dst := _, op := _, type := _, pos := _, after := _, guard := _ }) rfl (by kernel_rfl) (by kernel_rfl) (by kernel_rfl) (fun _ _ _ h => h) (Or.inr ⟨by rfl, rfl⟩) (by assumption) ?_
                    try simp only [Act.put, List.setIfInBounds_toArray, List.set_cons_zero, List.set_cons_succ]
                    refine wpAnyH_take (i := 27) (oi := { dst := _, op := _, type := _, pos := _, after := _, guard := _ }) rfl (by kernel_rfl) (by kernel_rfl) (by kernel_rfl) (fun _ _ _ h => h) (Or.inr ⟨by rfl, rfl⟩) (by assumption) ?_
                    try simp only [Act.put, List.setIfInBounds_toArray, List.set_cons_zero, List.set_cons_succ]
                    refine wpAnyH_take (i := 28) (oi := { dst := _, op := _, type := _, pos := _, after := _, guard := _ }) rfl (by kernel_rfl) (by kernel_rfl) (by kernel_rfl) (fun _ _ _ h => h) (Or.inr ⟨by rfl, rfl⟩) (by assumption) ?_
                    try simp only [Act.put, List.setIfInBounds_toArray, List.set_cons_zero, List.set_cons_succ]
                    refine wpAnyH_take (i := 29) (oi := { dst := _, op := _, type := _, pos := _, after := _, guard := _ }) rfl (by kernel_rfl) (by kernel_rfl) (by kernel_rfl) (fun _ _ _ h => h) (Or.inr ⟨by rfl, rfl⟩) (by assumption) ?_
                    try simp only [Act.put, List.setIfInBounds_toArray, List.set_cons_zero, List.set_cons_succ]
                    refine wpAnyH_take (i := 30) (oi := { dst := _, op := _, type := _, pos := _, after := _, guard := _ }) rfl (by kernel_rfl) (by kernel_rfl) (by kernel_rfl) (fun _ _ _ h => h) (Or.inr ⟨by rfl, rfl⟩) (by assumption) ?_
                    try simp only [Act.put, List.setIfInBounds_toArray, List.set_cons_zero, List.set_cons_succ]
                    refine wpAnyH_take (i := 31) (oi := { dst := _, op := _, type := _, pos := _, after := _, guard := _ }) rfl (by kernel_rfl) (by kernel_rfl) (by kernel_rfl) (fun _ _ _ h => h) (Or.inr ⟨by rfl, rfl⟩) (by assumption) ?_
                    try simp only [Act.put, List.setIfInBounds_toArray, List.set_cons_zero, List.set_cons_succ]
                    refine wpAnyH_take (i := 32) (oi := { dst := _, op := _, type := _, pos := _, after := _, guard := _ }) rfl (by kernel_rfl) (by kernel_rfl) (by kernel_rfl) (fun _ _ _ h => h) (Or.inr ⟨by rfl, rfl⟩) (by assumption) ?_
                    try simp only [Act.put, List.setIfInBounds_toArray, List.set_cons_zero, List.set_cons_succ]
                    refine wpAnyH_take (i := 33) (oi := { dst := _, op := _, type := _, pos := _, after := _, guard := _ }) rfl (by kernel_rfl) (by kernel_rfl) (by kernel_rfl) (fun _ _ _ h => h) (Or.inr ⟨by rfl, rfl⟩) (by assumption) ?_
                    try simp only [Act.put, List.setIfInBounds_toArray, List.set_cons_zero, List.set_cons_succ]
                    refine wpAnyH_take (i := 34) (oi := { dst := _, op := _, type := _, pos := _, after := _, guard := _ }) rfl (by kernel_rfl) (by kernel_rfl) (by kernel_rfl) (fun _ _ _ h => h) (Or.inr ⟨by rfl, rfl⟩) (by assumption) ?_
                    try simp only [Act.put, List.setIfInBounds_toArray, List.set_cons_zero, List.set_cons_succ]
                    refine wpAnyH_take (i := 35) (oi := { dst := _, op := _, type := _, pos := _, after := _, guard := _ }) rfl (by kernel_rfl) (by kernel_rfl) (by kernel_rfl) (fun _ _ _ h => h) (Or.inr ⟨by rfl, rfl⟩) (by assumption) ?_
                    try simp only [Act.put, List.setIfInBounds_toArray, List.set_cons_zero, List.set_cons_succ]
                    refine wpAnyH_take (i := 36) (oi := { dst := _, op := _, type := _, pos := _, after := _, guard := _ }) (v := ?_) rfl (by kernel_rfl) (by kernel_rfl) (by kernel_rfl) (fun _ _ _ h => h) (Or.inl ⟨by rfl, ?_⟩) (by assumption) ?_
                    rotate_left
                    · intro W hSw
                      (try dsimp only at hSw)
                      go_simp
                      (try with_reducible rfl)
                    try simp only [Act.put, List.setIfInBounds_toArray, List.set_cons_zero, List.set_cons_succ]
                    refine wpAnyH_take (i := 37) (oi := { dst := _, op := _, type := _, pos := _, after := _, guard := _ }) (v := ?_) rfl (by kernel_rfl) (by kernel_rfl) (by kernel_rfl) (fun _ _ _ h => h) (Or.inl ⟨by rfl, ?_⟩) (by assumption) ?_
                    rotate_left
                    · intro W hSw
                      (try dsimp only at hSw)
                      go_simp
                      (try with_reducible rfl)
                    try simp only [Act.put, List.setIfInBounds_toArray, List.set_cons_zero, List.set_cons_succ]
                    refine wpAnyH_take (i := 38) (oi := { dst := _, op := _, type := _, pos := _, after := _, guard := _ }) (v := ?_) rfl (by kernel_rfl) (by kernel_rfl) (by kernel_rfl) (fun _ _ _ h => h) (Or.inl ⟨by rfl, ?_⟩) (by assumption) ?_
                    rotate_left
                    · intro W hSw
                      (try dsimp only at hSw)
                      go_simp
                      (try with_reducible rfl)
                    try simp only [Act.put, List.setIfInBounds_toArray, List.set_cons_zero, List.set_cons_succ]
                    refine wpAnyH_take (i := 39) (oi := { dst := _, op := _, type := _, pos := _, after := _, guard := _ }) (v := ?_) rfl (by kernel_rfl) (by kernel_rfl) (by kernel_rfl) (fun _ _ _ h => h) (Or.inl ⟨by rfl, ?_⟩) (by assumption) ?_
                    rotate_left
                    · intro W hSw
                      (try dsimp only at hSw)
                      go_simp
                      (try with_reducible rfl)
                    try simp only [Act.put, List.setIfInBounds_toArray, List.set_cons_zero, List.set_cons_succ]
                    refine wpAnyH_take (i := 40) (oi := { dst := _, op := _, type := _, pos := _, after := _, guard := _ }) (v := ?_) rfl (by kernel_rfl) (by kernel_rfl) (by kernel_rfl) (fun _ _ _ h => h) (Or.inl ⟨by rfl, ?_⟩) (by assumption) ?_
                    rotate_left
                    · intro W hSw
                      (try dsimp only at hSw)
                      go_simp
                      (try with_reducible rfl)
                    try simp only [Act.put, List.setIfInBounds_toArray, List.set_cons_zero, List.set_cons_succ]
                    refine wpAnyH_take (i := 41) (oi := { dst := _, op := _, type := _, pos := _, after := _, guard := _ }) (v := ?_) rfl (by kernel_rfl) (by kernel_rfl) (by kernel_rfl) (fun _ _ _ h => h) (Or.inl ⟨by rfl, ?_⟩) (by assumption) ?_
                    rotate_left
                    · intro W hSw
                      (try dsimp only at hSw)
                      go_simp
                      (try with_reducible rfl)
                    try simp only [Act.put, List.setIfInBounds_toArray, List.set_cons_zero, List.set_cons_succ]
                    refine wpAnyH_take (i := 42) (oi := { dst := _, op := _, type := _, pos := _, after := _, guard := _ }) (v := ?_) rfl (by kernel_rfl) (by kernel_rfl) (by kernel_rfl) (fun _ _ _ h => h) (Or.inl ⟨by rfl, ?_⟩) (by assumption) ?_
                    rotate_left
                    · intro W hSw
                      (try dsimp only at hSw)
                      have s0 := HCL.out W hSw
                      go_simp
                      (try with_reducible rfl)
                    try simp only [Act.put, List.setIfInBounds_toArray, List.set_cons_zero, List.set_cons_succ]
                    refine wpAnyH_take (i := 43) (oi := { dst := _, op := _, type := _, pos := _, after := _, guard := _ }) (v := ?_) rfl (by kernel_rfl) (by kernel_rfl) (by kernel_rfl) (fun _ _ _ h => h) (Or.inl ⟨by rfl, ?_⟩) (by assumption) ?_
                    rotate_left
                    · intro W hSw
                      (try dsimp only at hSw)
                      go_simp
                      (try with_reducible rfl)
                    try simp only [Act.put, List.setIfInBounds_toArray, List.set_cons_zero, List.set_cons_succ]
                    refine wpAnyH_take (i := 44) (oi := { dst := _, op := _, type := _, pos := _, after := _, guard := _ }) (v := ?_) rfl (by kernel_rfl) (by kernel_rfl) (by kernel_rfl) (fun _ _ _ h => h) (Or.inl ⟨by rfl, ?_⟩) (by assumption) ?_
                    rotate_left
                    · intro W hSw
                      (try dsimp only at hSw)
                      go_simp
                      (try with_reducible rfl)
                    try simp only [Act.put, List.setIfInBounds_toArray, List.set_cons_zero, List.set_cons_succ]
                    refine wpAnyH_take (i := 45) (oi := { dst := _, op := _, type := _, pos := _, after := _, guard := _ }) (v := ?_) rfl (by kernel_rfl) (by kernel_rfl) (by kernel_rfl) (fun _ _ _ h => h) (Or.inl ⟨by rfl, ?_⟩) (by assumption) ?_
                    rotate_left
                    · intro W hSw
                      (try dsimp only at hSw)
                      go_simp
                      (try with_reducible rfl)
                    try simp only [Act.put, List.setIfInBounds_toArray, List.set_cons_zero, List.set_cons_succ]
                    refine wpAnyH_take (i := 46) (oi := { dst := _, op := _, type := _, pos := _, after := _, guard := _ }) (v := ?_) rfl (by kernel_rfl) (by kernel_rfl) (by kernel_rfl) (fun _ _ _ h => h) (Or.inl ⟨by rfl, ?_⟩) (by assumption) ?_
                    rotate_left
                    · intro W hSw
                      (try dsimp only at hSw)
                      go_simp
                      (try with_reducible rfl)
                    try simp only [Act.put, List.setIfInBounds_toArray, List.set_cons_zero, List.set_cons_succ]
                    refine wpAnyH_take (i := 47) (oi := { dst := _, op := _, type := _, pos := _, after := _, guard := _ }) (v := ?_) rfl (by kernel_rfl) (by kernel_rfl) (by kernel_rfl) (fun _ _ _ h => h) (Or.inl ⟨by rfl, ?_⟩) (by assumption) ?_
                    rotate_left
                    · intro W hSw
                      (try dsimp only at hSw)
                      go_simp
                      (try with_reducible rfl)
                    try simp only [Act.put, List.setIfInBounds_toArray, List.set_cons_zero, List.set_cons_succ]
                    refine wpAnyH_take (i := 48) (oi := { dst := _, op := _, type := _, pos := _, after := _, guard := _ }) (v := ?_) rfl (by kernel_rfl) (by kernel_rfl) (by kernel_rfl) (fun _ _ _ h => h) (Or.inl ⟨by rfl, ?_⟩) (by assumption) ?_
                    rotate_left
                    · intro W hSw
                      (try dsimp only at hSw)
                      go_simp
                      (try with_reducible rfl)
                    try simp only [Act.put, List.setIfInBounds_toArray, List.set_cons_zero, List.set_cons_succ]
                    refine wpAnyH_take (i := 49) (oi := { dst := _, op := _, type := _, pos := _, after := _, guard := _ }) (v := ?_) rfl (by kernel_rfl) (by kernel_rfl) (by kernel_rfl) (fun _ _ _ h => h) (Or.inl ⟨by rfl, ?_⟩) (by assumption) ?_
                    rotate_left
                    · intro W hSw
                      (try dsimp only at hSw)
                      have s0 := HCI.out W hSw
                      go_simp
                      (try with_reducible rfl)
                    try simp only [Act.put, List.setIfInBounds_toArray, List.set_cons_zero, List.set_cons_succ]
                    refine wpAnyH_take (i := 50) (oi := { dst := _, op := _, type := _, pos := _, after := _, guard := _ }) (v := ?_) rfl (by kernel_rfl) (by kernel_rfl) (by kernel_rfl) (fun _ _ _ h => h) (Or.inl ⟨by rfl, ?_⟩) (by assumption) ?_
                    rotate_left
                    · intro W hSw
                      (try dsimp only at hSw)
                      go_simp
                      (try with_reducible rfl)
                    try simp only [Act.put, List.setIfInBounds_toArray, List.set_cons_zero, List.set_cons_succ]
                    refine wpAnyH_take (i := 51) (oi := { dst := _, op := _, type := _, pos := _, after := _, guard := _ }) (v := ?_) rfl (by kernel_rfl) (by kernel_rfl) (by kernel_rfl) (fun _ _ _ h => h) (Or.inl ⟨by rfl, ?_⟩) (by assumption) ?_
                    rotate_left
                    · intro W hSw
                      (try dsimp only at hSw)
                      go_simp
                      (try with_reducible rfl)
                    try simp only [Act.put, List.setIfInBounds_toArray, List.set_cons_zero, List.set_cons_succ]
                    refine wpAnyH_take (i := 52) (oi := { dst := _, op := _, type := _, pos := _, after := _, guard := _ }) (v := ?_) rfl (by kernel_rfl) (by kernel_rfl) (by kernel_rfl) (fun _ _ _ h => h) (Or.inl ⟨by rfl, ?_⟩) (by assumption) ?_
                    rotate_left
                    · intro W hSw
                      (try dsimp only at hSw)
                      obtain ⟨s0, s1, s2⟩ := HUK.out W hSw
                      go_simp
                      (try with_reducible rfl)
                    try simp only [Act.put, List.setIfInBounds_toArray, List.set_cons_zero, List.set_cons_succ]
                    refine wpAnyH_take (i := 53) (oi := { dst := _, op := _, type := _, pos := _, after := _, guard := _ }) (v := ?_) rfl (by kernel_rfl) (by kernel_rfl) (by kernel_rfl) (fun _ _ _ h => h) (Or.inl ⟨by rfl, ?_⟩) (by assumption) ?_
                    rotate_left
                    · intro W hSw
                      (try dsimp only at hSw)
                      go_simp
                      (try with_reducible rfl)
                    try simp only [Act.put, List.setIfInBounds_toArray, List.set_cons_zero, List.set_cons_succ]
                    refine wpAnyH_take (i := 54) (oi := { dst := _, op := _, type := _, pos := _, after := _, guard := _ }) (v := ?_) rfl (by kernel_rfl) (by kernel_rfl) (by kernel_rfl) (fun _ _ _ h => h) (Or.inl ⟨by rfl, ?_⟩) (by assumption) ?_
                    rotate_left
                    · intro W hSw
                      (try dsimp only at hSw)
                      go_simp
                      (try with_reducible rfl)
                    try simp only [Act.put, List.setIfInBounds_toArray, List.set_cons_zero, List.set_cons_succ]
                    refine wpAnyH_take (i := 55) (oi := { dst := _, op := _, type := _, pos := _, after := _, guard := _ }) (v := ?_) rfl (by kernel_rfl) (by kernel_rfl) (by kernel_rfl) (fun _ _ _ h => h) (Or.inl ⟨by rfl, ?_⟩) (by assumption) ?_
                    rotate_left
                    · intro W hSw
                      (try dsimp only at hSw)
                      go_simp
                      (try with_reducible rfl)
                    try simp only [Act.put, List.setIfInBounds_toArray, List.set_cons_zero, List.set_cons_succ]
                    refine wpAnyH_take (i := 56) (oi := { dst := _, op := _, type := _, pos := _, after := _, guard := _ }) (v := ?_) rfl (by kernel_rfl) (by kernel_rfl) (by kernel_rfl) (fun _ _ _ h => h) (Or.inl ⟨by rfl, ?_⟩) (by assumption) ?_
                    rotate_left
                    · intro W hSw
                      (try dsimp only at hSw)
                      go_simp
                      (try with_reducible rfl)
                    try simp only [Act.put, List.setIfInBounds_toArray, List.set_cons_zero, List.set_cons_succ]
                    refine wpAnyH_take (i := 57) (oi := { dst := _, op := _, type := _, pos := _, after := _, guard := _ }) (v := ?_) rfl (by kernel_rfl) (by kernel_rfl) (by kernel_rfl) (fun _ _ _ h => h) (Or.inl ⟨by rfl, ?_⟩) (by assumption) ?_
                    rotate_left
                    · intro W hSw
                      (try dsimp only at hSw)
                      go_simp
                      (try with_reducible rfl)
                    try simp only [Act.put, List.setIfInBounds_toArray, List.set_cons_zero, List.set_cons_succ]
                    refine wpAnyH_take (i := 58) (oi := { dst := _, op := _, type := _, pos := _, after := _, guard := _ }) (v := ?_) rfl (by kernel_rfl) (by kernel_rfl) (by kernel_rfl) (fun _ _ _ h => h) (Or.inl ⟨by rfl, ?_⟩) (by assumption) ?_
                    rotate_left
                    · intro W hSw
                      (try dsimp only at hSw)
                      go_simp
                      (try with_reducible rfl)
                    try simp only [Act.put, List.setIfInBounds_toArray, List.set_cons_zero, List.set_cons_succ]
                    refine wpAnyH_done (by kernel_rfl) ?_ _
                    refine NoPanic.normal ?_
                    go_wp2_with fail
                    go_roundg (p - (k + 1))
                    case measure => have := HK.out; have := HKL.out; omega
                    case rel => exact ⟨k + 1, by simp, ⟨HKL.out, rfl⟩, HC.out.drew⟩
                · have d1 : decide ((k : Int) < (p : Int)) = false := by rw [decide_eq_false_iff_not]; omega
                  have d2 : decide (k < p) = false := decide_eq_false hk
                  clear hk
                  go_wp2_with fail
                  go_roundg (4 - (i + 1))
                  case measure => have := HI.out; have := HIL.out; omega
                  case rel => exact ⟨i + 1, by simp, ⟨HIL.out, rfl⟩, HC⟩
            · have e1 : decide ((i : Int) < 4) = false := by rw [decide_eq_false_iff_not]; omega
              clear hi
              go_wp2_with fail
              go_ret
              exact ⟨rfl, HO.out.1.step (grown_of_below HC.out) (fun b _ hb => by cases hb)⟩
end Go.Proofs.Ytbkhhegmmkcbbaa
