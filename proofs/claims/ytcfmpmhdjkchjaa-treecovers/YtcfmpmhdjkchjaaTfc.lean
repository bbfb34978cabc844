import Derived.Test.YtcfmpmhdjkchjaaTfb
import Derived.Test.YtcfmpmhdjkchjaaTqs
namespace Go.Proofs.Ytcfmpmhdjkchjaa
open Go.RowKit Go.Maps

def LiE (t : List Nd) (a b : Nat) (w w' : World) (e : Ending) : Prop := ∃ v', e = .returned v' ∧ w'.ownsRow w.heap.size 33 7 v' (seg t a b).length (flat nf (seg t a b)) ∧ Below w.heap.size w w'
set_option maxRecDepth 100000 in
set_option maxHeartbeats 8000000 in
theorem list_any {P : Nat → Prop} {w0 : World} {t : List Nd} (hs : t.length * 72 + 4096 ≤ 140737488355328) (hf : Fo (kds t)) : ∀ (N a k : Nat) (v : Value) (w : World), t.length - a < N → a ≤ t.length → k ≤ rA (kds t) a → FrM P w0 t v a k → Below w0.heap.size w0 w →
    Calls Try.prog 71 #[v] w fun e w' => LiE t a (wA (kds t) a k) w w' e := by
  obtain ⟨iN, hiN, hx0, hx1, hx2⟩ := info_parts infoNd
  intro N
  induction N with
  | zero => intro a k v w h; omega
  | succ N ih =>
    intro a k v w hN ha hk h hb
    have HIH : Hid (∀ (a k : Nat) (v : Value) (w : World), t.length - a < N → a ≤ t.length → k ≤ rA (kds t) a → FrM P w0 t v a k → Below w0.heap.size w0 w → Calls Try.prog 71 #[v] w fun e w' => LiE t a (wA (kds t) a k) w w' e) := ih
    have HM : Hid (FrM P w0 t v a k) := h
    have HBB : Hid (Below w0.heap.size w0 w) := hb
    have HF : Hid (Fo (kds t)) := hf
    have HA : Hid (t.length - a < N + 1 ∧ a ≤ t.length ∧ k ≤ rA (kds t) a ∧ k ≤ t.length) := ⟨hN, ha, hk, by have := hf.le a; rw [kds_len] at this; omega⟩
    have HS : Hid (t.length * 72 + 4096 ≤ 140737488355328) := hs
    obtain ⟨av, cap, rfl⟩ := h.form
    clear h hs ih hN ha hk hf hb
    go_enter Try.func71, Try.ntmps71
    go_upto_region 3 with fail
    go_loopg [3, 4] k (fun gm v3 v4 wr => ∃ (i m : Nat), v4 = .int .i64 (i : Int) ∧ Hid (i ≤ k ∧ gm = k - i) ∧ Hid (m = (seg t a (wA (kds t) a i)).length) ∧ Hid (wr.ownsRow w.heap.size 33 7 v3 m (flat nf (seg t a (wA (kds t) a i)))) ∧ Hid (Below w.heap.size w wr))
    case atStart => exact ⟨0, 0, rfl, ⟨Nat.zero_le _, rfl⟩, by rw [wA_zero, seg_self]; exact rfl, by rw [wA_zero, seg_self]; exact World.ownsRow_nil _ _ _ _, Below.refl _ _⟩
    case round =>
      obtain ⟨i, m, rfl, HI, HMM, HO, HB⟩ := hrel
      obtain ⟨ra, rc, hrv⟩ := row_shape HO.out
      subst hrv
      have HW : Hid (Below w0.heap.size w0 wr) := below_trans HBB.out HB.out
      by_cases hi : i < k
      · have e1 : decide ((i : Int) < (k : Int)) = true := by rw [decide_eq_true_eq]; omega
        have e2 : decide (i < k) = true := by rw [decide_eq_true_eq]; omega
        have b1 : (i : Int) < (k : Int) := by omega
        have b2 : i < k := hi
        have HIK : Hid (i < k) := hi
        obtain ⟨g, o, aa, nn, cc, rfl, hT, hC⟩ := HM.out.nine i hi
        have hlt : wA (kds t) a i < (kds t).length := HF.out.lt a i (by rw [kds_len]; exact HA.out.2.1) (by have := HA.out; omega)
        have hst := HF.out.step _ hlt
        have hel := HF.out.elt _ hlt
        have hen := (HF.out.end a i (by rw [kds_len]; exact HA.out.2.1) (by have := HA.out; omega)).2.2
        have hnx := HF.out.next a i (by have := HA.out; omega)
        have heq := HF.out.eq _ hlt
        have hkk := hT.kids
        obtain ⟨_, _, hve⟩ := hkk.form
        obtain ⟨-, hnn, -⟩ := Value.slice.inj hve
        rw [kds_len] at hlt hel
        have HCL : Hid (∀ W, Below w0.heap.size w0 W → Calls Try.prog 71 #[.slice aa nn cc] W fun e w' => LiE t (wA (kds t) a i + 1) (eA (kds t) (wA (kds t) a i)) W w' e) := fun W hW => by
          rw [heq]
          exact HIH.out _ _ _ W (by have := HA.out; omega) (by omega) hst.2.2.1 hkk hW
        have HSG : Hid (seg t a (wA (kds t) a (i + 1)) = (seg t a (wA (kds t) a i) ++ [t.getD (wA (kds t) a i) ndd]) ++ seg t (wA (kds t) a i + 1) (eA (kds t) (wA (kds t) a i))) := by
          show _ = _
          rw [hnx, List.append_assoc, ← seg_one t _ hlt, seg_app _ _ _ _ (by omega) (by omega), seg_app _ _ _ _ (by omega) (by omega)]
        have HLN : Hid (m + 1 + (seg t (wA (kds t) a i + 1) (eA (kds t) (wA (kds t) a i))).length ≤ t.length) := by
          rw [HMM.out, seg_len _ _ _ (by omega), seg_len _ _ _ (by omega)]
          show _ ≤ _; omega
        have HKD : Hid ((t.getD (wA (kds t) a i) ndd).kd = (nn : Int)) := by show _ = _; rw [← kds_get, hst.2.1, hnn]
        obtain ⟨b, hb⟩ : ∃ b, wA (kds t) a i = b := ⟨_, rfl⟩
        rw [hb] at hC HCL HSG HLN HKD HO HMM
        obtain ⟨X, hX⟩ : ∃ X, t.getD b ndd = X := ⟨_, rfl⟩
        rw [hX] at hC HSG HKD
        obtain ⟨S, hS⟩ : ∃ S, seg t a b = S := ⟨_, rfl⟩
        rw [hS] at HSG HO HMM
        obtain ⟨R, hR⟩ : ∃ R, seg t (b + 1) (eA (kds t) b) = R := ⟨_, rfl⟩
        rw [hR] at HSG HLN
        have HRR : Hid (seg t (b + 1) (eA (kds t) b) = R) := hR
        have HC : Hid _ := hC
        clear hC hT hb hX hS hR hlt hst hel hen hnx heq hkk hve hnn
        obtain ⟨q0, q1, q2, q3, q4, q5, q6, q7, q8⟩ := HC.out wr HW.out
        have hwi := w64n i (by have := HS.out; have := HA.out; omega)
        clear hi
        go_upto_region 6 with fail
        clear q0 q1 q2 q3 q4 q5 q6 q7 q8
        obtain ⟨kb, hkb⟩ : ∃ kb, wr.heap.size = kb := ⟨_, rfl⟩
        obtain ⟨W3, hW3⟩ : ∃ W3, W3 = wr.alloc (.cells #[.string X.nm, .bool X.nd, .string X.fd, .int .i64 X.fr, .int .i64 X.tt, .int .i64 X.kd, .int .i64 X.lf] 33) := ⟨_, rfl⟩
        have HB3 : Hid (Below wr.heap.size wr W3) := by rw [hW3]; exact bel_up _ _
        have HX3 : Hid (W3.heap[kb]? = some (.cells #[.string X.nm, .bool X.nd, .string X.fd, .int .i64 X.fr, .int .i64 X.tt, .int .i64 X.kd, .int .i64 X.lf] 33 (0, 0))) := by rw [hW3, ← hkb]; exact heap_new _ _
        have HKB : Hid (wr.heap.size ≤ kb) := by rw [← hkb]; exact Nat.le_refl _
        rw [hkb, ← hW3]
        clear hW3 hkb
        obtain ⟨q0, q1, q2, q3, q4, q5, q6, q7, q8⟩ := HC.out W3 (below_trans HW.out HB3.out)
        have x5 := rcell HX3.out 5 _ rfl
        have ff := fun j => Lib.frozen_of_heap HX3.out j
        go_upto_region 7 with fail
        clear q0 q1 q2 q3 q4 q5 q6 q7 q8 x5 ff
        obtain ⟨W5, hW5⟩ : ∃ W5, W5 = W3.setCell ⟨kb, 5, none⟩ (.int .i64 (nn : Int)) := ⟨_, rfl⟩
        have HB5 : Hid (Below wr.heap.size wr W5) := by rw [hW5]; exact bel_put HB3.out HKB.out
        have HX5 : Hid (W5.heap[kb]? = some (.cells #[.string X.nm, .bool X.nd, .string X.fd, .int .i64 X.fr, .int .i64 X.tt, .int .i64 (nn : Int), .int .i64 X.lf] 33 (0, 0))) := by rw [hW5]; exact blk_set (k := 5) (.int .i64 (nn : Int)) HX3.out
        rw [← hW5]
        clear hW5
        have x0 := rcell HX5.out 0 _ rfl
        have x1 := rcell HX5.out 1 _ rfl
        have x2 := rcell HX5.out 2 _ rfl
        have x3 := rcell HX5.out 3 _ rfl
        have x4 := rcell HX5.out 4 _ rfl
        have x5 := rcell HX5.out 5 _ rfl
        have x6 := rcell HX5.out 6 _ rfl
        have HROW : Hid ((W5.alloc (.cells #[.string X.nm, .bool X.nd, .string X.fd, .int .i64 X.fr, .int .i64 X.tt, .int .i64 (nn : Int), .int .i64 X.lf] 33)).ownsRow w.heap.size 33 7 (.slice ra m rc) m (flat nf S)) := (row_up HO.out HB5.out).alloc _
        have HSB : Hid (w.heap.size ≤ W5.heap.size) := Nat.le_trans HB.out.size HB5.out.size
        have HMX : Hid (m + 1 ≤ maxLen ∧ (m + 1) * 72 ≤ 140737488355328) := by have := HLN.out; have := HS.out; show _ ∧ _; unfold maxLen; omega
        have HXN : Hid (nf X = [.string X.nm, .bool X.nd, .string X.fd, .int .i64 X.fr, .int .i64 X.tt, .int .i64 (nn : Int), .int .i64 X.lf]) := by show nf X = _; unfold nf; rw [HKD.out]
        go_upto_region 8 with (at_builtin; refine wpList_append_own_at _ rfl _ _ 22 rfl w.heap.size 33 iN _ 7 72 Try.underlying22 hiN hx0 hx1 hx2 rfl (by decide) _ _ _ rfl HROW.out ⟨W5.heap.size, 0, none⟩ 1 1 (nf X) rfl rfl (by rw [HXN.out]; exact World.news_of_block (heap_new _ _)) (nf_one X) HMX.out.1 HMX.out.2 (by have := HSB.out; simp; omega) ?_; intro v6 w6 ho6 hg6 _ ha6; have HB6 : Hid (Below w.heap.size w w6) := bel_app (below_trans HB.out HB5.out) HSB.out (row_up HO.out HB5.out) hg6; have HO6 : Hid (w6.ownsRow w.heap.size 33 7 v6 (m + 1) (flat nf (S ++ [X]))) := (by rw [flat_app]; have h9 : flat nf [X] = nf X := List.append_nil _; rw [h9]; exact ho6); obtain ⟨qa, qc, rfl⟩ := row_shape ho6; clear ho6 hg6 ha6)
        clear x0 x1 x2 x3 x4 x5 x6
        have HW6 : Hid (Below w0.heap.size w0 w6) := below_trans HBB.out HB6.out
        obtain ⟨q0, q1, q2, q3, q4, q5, q6, q7, q8⟩ := HC.out w6 HW6.out
        go_upto_region 9 with (go_at_call 71; refine Calls.mono (HCL.out _ HW6.out) ?_; rintro ee W7 ⟨v7, rfl, ho7, hb7⟩; rw [HRR.out] at ho7; have HO7 : Hid (W7.ownsRow w6.heap.size 33 7 v7 R.length (flat nf R)) := ho7; have HB67 : Hid (Below w6.heap.size w6 W7) := hb7; obtain ⟨za, zc, rfl⟩ := row_shape ho7; clear ho7 hb7)
        clear q0 q1 q2 q3 q4 q5 q6 q7 q8
        obtain ⟨gg, gc, hge, -, -, -⟩ := row_form HO6.out (by omega)
        obtain ⟨rfl, -, rfl⟩ := Value.slice.inj hge
        have HO67 : Hid (W7.ownsRow w.heap.size 33 7 (.slice (some ⟨gg, 0, none⟩) (m + 1) qc) (m + 1) (flat nf (S ++ [X]))) := row_up HO6.out HB67.out
        have HRW : Hid (Rw W7 (.slice za R.length zc) R.length (flat nf R)) := row_rw HO7.out (by decide)
        have HMY : Hid (m + 1 + R.length ≤ maxLen ∧ (m + 1 + R.length) * 72 ≤ 140737488355328) := by have := HLN.out; have := HS.out; show _ ∧ _; unfold maxLen; omega
        have HB7 : Hid (Below w.heap.size w W7) := below_trans HB6.out HB67.out
        clear hge
        go_wp2_with (at_builtin; refine wpList_push _ rfl _ _ 22 rfl w.heap.size 33 iN _ 7 72 Try.underlying22 hiN hx0 hx1 hx2 rfl (by decide) gg (m + 1) qc (flat nf (S ++ [X])) rfl HO67.out _ R.length (flat nf R) rfl HRW.out (flat_len nf_len R) (flat_one nf_one R) HMY.out.1 HMY.out.2 HB7.out.size ?_; intro g8 c8 w8 ho8 hg8; have HB8 : Hid (Below w.heap.size w w8) := HB7.out.grown hg8 HB7.out.size (fun r hr => by cases hr; exact (row_tag HO67.out gg rfl).1); have HO8 : Hid (w8.ownsRow w.heap.size 33 7 (.slice (some ⟨g8, 0, none⟩) (m + 1 + R.length) c8) (m + 1 + R.length) (flat nf ((S ++ [X]) ++ R))) := (by rw [flat_app nf (S ++ [X]) R]; exact ho8); clear ho8 hg8)
        go_roundg (k - (i + 1))
        case measure => have := HI.out; have := HIK.out; omega
        case rel => exact ⟨i + 1, m + 1 + R.length, by first | rfl | (rw [show (i : Int) + 1 = ((i + 1 : Nat) : Int) by omega]), ⟨HIK.out, rfl⟩, by rw [HSG.out, List.length_append, List.length_append, HMM.out]; exact rfl, by rw [HSG.out]; exact HO8.out, HB8⟩
      · have e1 : decide ((i : Int) < (k : Int)) = false := by rw [decide_eq_false_iff_not]; omega
        have e2 : decide (i < k) = false := by rw [decide_eq_false_iff_not]; omega
        have e3 : i = k := by have := HI.out; omega
        subst e3
        clear hi
        go_wp2_with fail
        go_ret
        exact ⟨_, rfl, by rw [← HMM.out]; exact HO.out, HB.out⟩
set_option maxRecDepth 100000 in
set_option maxHeartbeats 8000000 in
theorem rsize_any {v : Value} {t : List Nd} (hs : t.length * 72 + 4096 ≤ 140737488355328) (w : World) (h : Ns w v t) (z : Int) :
    Calls Try.prog 60 #[v, .int .i64 z] w fun e w' => e = .returned (.int .i64 (siz t z)) ∧ Below w.heap.size w w' := by
  have HFO : Hid _ := rforest_any hs w h
  have HS : Hid (t.length * 72 + 4096 ≤ 140737488355328) := hs
  obtain ⟨av, cap, rfl⟩ := h.form
  clear h hs
  go_enter Try.func60, Try.ntmps60
  go_upto_region 2 with (go_at_call 41; refine Calls.mono HFO.out ?_; rintro ee W4 ⟨ad, k, cp, bb, rfl, hmf, hbb, hb4⟩; have HM : Hid (Mf w.heap.size W4 t ad k cp) := hmf; have HBB : Hid (bb = (rt (kds t)).isSome) := hbb; have HB4 : Hid (Below w.heap.size w W4) := hb4; clear hmf hbb hb4)
  go_upto_region 3 with (go_at_call 44; refine Calls.mono (rfindx_any HS.out HM.out z _ (Below.refl _ _)) ?_; rintro ee W5 ⟨y, ya, yn, yc, c, pp, b2, rfl, hr, hb5⟩; unfold tA; have HR : Hid (Rfx w.heap.size W4 t z y (.slice ya yn yc) c pp b2) := hr; have HB45 : Hid (Below W4.heap.size W4 W5) := hb5; have HB5 : Hid (Below w.heap.size w W5) := below_trans HB4.out hb5; clear hr hb5)
  obtain ⟨kb, hkb⟩ : ∃ kb, W5.heap.size = kb := ⟨_, rfl⟩
  obtain ⟨W6, hW6⟩ : ∃ W6, W6 = W5.alloc (.cells #[.string y.nm, .bool y.nd, .string y.fd, .int .i64 y.fr, .int .i64 y.tt, .int .i64 y.kd, .int .i64 y.lf, .slice ya yn yc, .int .i64 c] 91) := ⟨_, rfl⟩
  have HB6 : Hid (Below w.heap.size w W6) := by rw [hW6]; exact below_trans HB5.out (bel_up _ _)
  have HB46 : Hid (Below W4.heap.size W4 W6) := by rw [hW6]; exact below_trans HB45.out (bel_up _ _)
  have HK6 : Hid (W6.heap[kb]? = some (.cells #[.string y.nm, .bool y.nd, .string y.fd, .int .i64 y.fr, .int .i64 y.tt, .int .i64 y.kd, .int .i64 y.lf, .slice ya yn yc, .int .i64 c] 91 (0, 0))) := by rw [hW6, ← hkb]; exact heap_new _ _
  rw [hkb, ← hW6]
  clear hW6 hkb
  rcases HR.out with ⟨rfl, hf, c', hl, rfl, rfl, rfl, htr, rfl⟩ | ⟨rfl, hst, rfl, hv, rfl, rfl⟩
  · have HE : Hid (siz t (c' : Int) = ((eA (kds t) c' - c' : Nat) : Int) ∧ eA (kds t) c' ≤ t.length) := by
      have h7 := hf.elt c' (by rw [kds_len]; exact hl)
      rw [kds_len] at h7
      refine ⟨?_, h7.2.1⟩
      unfold siz; rw [std_of hl hf]
      rw [if_pos rfl]
      show (eA (kds t) c' : Int) - (c' : Int) = _
      omega
    have HLI : Hid (Calls Try.prog 71 #[.slice (some ⟨W6.heap.size, 0, none⟩) 1 1] (W6.alloc (.cells #[.string (t.getD c' ndd).nm, .bool (t.getD c' ndd).nd, .string (t.getD c' ndd).fd, .int .i64 (t.getD c' ndd).fr, .int .i64 (t.getD c' ndd).tt, .int .i64 (t.getD c' ndd).kd, .int .i64 (t.getD c' ndd).lf, .slice ya yn yc, .int .i64 (c' : Int)] 91)) fun e w' => LiE t c' (eA (kds t) c') (W6.alloc (.cells #[.string (t.getD c' ndd).nm, .bool (t.getD c' ndd).nd, .string (t.getD c' ndd).fd, .int .i64 (t.getD c' ndd).fr, .int .i64 (t.getD c' ndd).tt, .int .i64 (t.getD c' ndd).kd, .int .i64 (t.getD c' ndd).lf, .slice ya yn yc, .int .i64 (c' : Int)] 91)) w' e) := by
      have hT2 := (htr.up HB46.out).up (bel_up W6 (.cells #[.string (t.getD c' ndd).nm, .bool (t.getD c' ndd).nd, .string (t.getD c' ndd).fd, .int .i64 (t.getD c' ndd).fr, .int .i64 (t.getD c' ndd).tt, .int .i64 (t.getD c' ndd).kd, .int .i64 (t.getD c' ndd).lf, .slice ya yn yc, .int .i64 (c' : Int)] 91))
      have hl1 := World.ownsRow_lit (base := w.heap.size) (e := 91) (size := 9) W6 #[.string (t.getD c' ndd).nm, .bool (t.getD c' ndd).nd, .string (t.getD c' ndd).fd, .int .i64 (t.getD c' ndd).fr, .int .i64 (t.getD c' ndd).tt, .int .i64 (t.getD c' ndd).kd, .int .i64 (t.getD c' ndd).lf, .slice ya yn yc, .int .i64 (c' : Int)] 1 HB6.out.size (by decide) rfl
      exact list_any (P := fun g => w.heap.size ≤ g) HS.out hf (t.length + 1) c' 1 _ _ (by omega) (by omega) (hf.pos c' (by rw [kds_len]; exact hl)) ⟨[(c', .slice ya yn yc)], by show [c'] = _; unfold pls; simp [wA_zero], row_rwp hl1 (by decide), fun q hq => by cases List.mem_singleton.1 hq; exact hT2⟩ (Below.refl _ _)
    obtain ⟨X, hX⟩ : ∃ X, t.getD c' ndd = X := ⟨_, rfl⟩
    rw [hX] at HK6 HLI ⊢
    clear hX hf hl htr HR
    have k0 := rcell HK6.out 0 _ rfl
    have k1 := rcell HK6.out 1 _ rfl
    have k2 := rcell HK6.out 2 _ rfl
    have k3 := rcell HK6.out 3 _ rfl
    have k4 := rcell HK6.out 4 _ rfl
    have k5 := rcell HK6.out 5 _ rfl
    have k6 := rcell HK6.out 6 _ rfl
    have k7 := rcell HK6.out 7 _ rfl
    have k8 := rcell HK6.out 8 _ rfl
    go_wp2_with (go_at_call 71; refine Calls.mono HLI.out ?_; rintro ee W7 ⟨v7, rfl, ho7, hb7⟩; have HO7 : Hid _ := ho7; have HB7 : Hid (Below w.heap.size w W7) := below_trans (below_trans HB6.out (bel_up _ _)) hb7; obtain ⟨qa, qc, rfl⟩ := row_shape ho7; clear ho7 hb7)
    go_ret
    exact ⟨ret_int (by rw [HE.out.1, seg_len _ _ _ HE.out.2]), HB7.out⟩
  · have HE : Hid (siz t z = 0) := by show _ = _; unfold siz; rw [hst]; rfl
    clear hst HR
    go_wp2_with fail
    go_ret
    exact ⟨ret_int HE.out.symm, HB6.out⟩
end Go.Proofs.Ytcfmpmhdjkchjaa
