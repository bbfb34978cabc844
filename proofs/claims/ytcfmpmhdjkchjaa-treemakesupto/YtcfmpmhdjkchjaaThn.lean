import Derived.Test.YtcfmpmhdjkchjaaTho
import Derived.Test.YtcfmpmhdjkchjaaThy
namespace Go.Proofs.Ytcfmpmhdjkchjaa
open Go.RowKit Go.Maps

theorem tkn_sm (Te : List Td) (z lf fr tt : Int) : Sm (tkn Te z lf fr tt) := by
  unfold tkn Sm
  split
  · show (0 : Nat) * 72 + 4096 ≤ 140737488355328; omega
  · show (1 : Nat) * 72 + 4096 ≤ 140737488355328; omega
theorem Kd.snoc {M : List (Value × List Nd)} {r : Value} {t : List Nd} (h : Kd M) (hn : ∀ x ∈ M, x.1.ownBlock ≠ r.ownBlock) : Kd (M ++ [(r, t)]) := by
  have g1 : ∀ i, i < M.length → (M ++ [(r, t)]).getD i krd = M.getD i krd := fun i hi => by
    rw [List.getD_eq_getElem?_getD, List.getD_eq_getElem?_getD, List.getElem?_append_left hi]
  have g2 : (M ++ [(r, t)]).getD M.length krd = (r, t) := by
    rw [List.getD_eq_getElem?_getD, List.getElem?_append_right (Nat.le_refl _), Nat.sub_self]; rfl
  intro i j hi hj hij
  rw [List.length_append] at hi hj
  have hi' : i < M.length + 1 := hi
  have hj' : j < M.length + 1 := hj
  by_cases h1 : i < M.length
  · rw [g1 i h1]
    by_cases h2 : j < M.length
    · rw [g1 j h2]; exact h i j h1 h2 hij
    · rw [show j = M.length by omega, g2]; exact hn _ (getD_mem M krd i h1)
  · rw [show i = M.length by omega, g2]
    rw [g1 j (by omega)]
    exact (hn _ (getD_mem M krd j (by omega))).symm
theorem Kmy.kept {B : Nat} {W W' : World} {v : Value} {L : List (Value × List Nd)} {row : Option Nat} (h : Kmy B W v L) (hg : W.grownBy W' row) (hne : ∀ r, row = some r → ∃ cur, W.heap[r]? = some (.cells cur 3 (0, 0))) : Kmy B W' v L := by
  obtain ⟨g, cap, e, h1, h2, h3⟩ := h
  refine ⟨g, cap, e, h1, h2.kept hg (.inr ?_), fun x hx => (h3 x hx).kept hg ?_⟩
  · cases row with
    | none => exact fun h => by cases h
    | some r =>
      obtain ⟨cur, hc⟩ := hne r rfl
      exact tag_ne_blk h2 hc (by decide)
  · obtain ⟨g1, cur1, f1, _, f2⟩ := (h3 x hx).blk
    rw [f1]
    cases row with
    | none => exact fun h => by cases h
    | some r =>
      obtain ⟨cur, hc⟩ := hne r rfl
      intro h7
      cases h7
      rw [f2] at hc
      cases hc
set_option maxRecDepth 100000 in
set_option maxHeartbeats 16000000 in
/-- The law TreeMakes. -/
theorem treeMakes_any {v0 v1 v2 vk ve : Value} {Te : List Td} {Sy : List Sd} {P : List Pd} {L : List (Value × List Nd)} {es : List Int} (u : Nat → Value) (z lf fr tt y q : Int) (w : World) (hg : Gx w v0 v1 v2 Te Sy P) (hgs : Gs Te Sy P) (hri : ∀ x ∈ P, ∀ r ∈ x.2.2, r.1 ≤ 9223372036854775807) (hk : Kr w vk L) (he : Is w ve es) (hsz0 : rom (L.map Prod.snd) ≤ 1073741824) (hsq : ∀ x ∈ L, x.2.length ≤ 1048576) (hes : es.length < 1073741824) (hnm : ∀ x ∈ L, ∀ y ∈ x.2, y.nm.size ≤ 1073741824) :
    Calls Try.prog 7 #[lgv u v0 v1 v2, .int .i64 z, .int .i64 lf, .int .i64 fr, .int .i64 tt, .int .i64 y, .int .i64 q, vk, ve] w fun e w' => e = .returned (.bool true) ∧ Below w.heap.size w w' := by
  obtain ⟨iN, hiN, hx0, hx1, hx2⟩ := info_parts infoSn
  obtain ⟨i3, hi3, hy0, hy1, hy2⟩ := info_parts info3
  have HK : Hid (Kr w vk L) := hk
  have HE : Hid (Is w ve es) := he
  have HSQ : Hid (∀ x ∈ L, x.2.length ≤ 1048576) := hsq
  have HRO : Hid (rom (L.map Prod.snd) ≤ 1073741824) := hsz0
  have HNM : Hid (∀ x ∈ L, ∀ y ∈ x.2, y.nm.size ≤ 1073741824) := hnm
  have hnb : L.length < 1073741824 := by have h7 := rom_ge (L.map Prod.snd); rw [List.length_map] at h7; omega
  have HAB : Hid (∀ W, Below w.heap.size w W → Calls Try.prog 32 #[vk] W fun e w' => ∃ b, e = .returned (.bool b) ∧ Below W.heap.size W w') := fun W hb => anyBeyond_any W (hk.up hb) (by omega) (fun x hx => by have := hsq x hx; show _ ≤ _; omega)
  have HT1 : Hid (∀ W, Below w.heap.size w W → Calls Try.prog 33 #[lgv u v0 v1 v2, .int .i64 z, .int .i64 lf, .int .i64 fr, .int .i64 tt] W fun e w' => ∃ v', e = .returned v' ∧ w'.ownsRow W.heap.size 33 7 v' (tkn Te z lf fr tt).length (flat nf (tkn Te z lf fr tt)) ∧ Below W.heap.size W w') := fun W hb => token_any u W (hg.up hb) z lf fr tt
  have HT2 : Hid (∀ W, Below w.heap.size w W → Calls Try.prog 34 #[lgv u v0 v1 v2, .int .i64 z, .int .i64 lf, .int .i64 fr, .int .i64 tt] W fun e w' => ∃ v', e = .returned v' ∧ w'.ownsRow W.heap.size 33 7 v' (tkn Te z lf fr tt).length (flat nf (tkn Te z lf fr tt)) ∧ Below W.heap.size W w') := fun W hb => rtoken_any u W (hg.up hb) z lf fr tt
  have HTS0 : Hid (Sm (tkn Te z lf fr tt)) := tkn_sm _ _ _ _ _
  obtain ⟨R, hR⟩ : ∃ R, tkn Te z lf fr tt = R := ⟨_, rfl⟩
  rw [hR] at HT1 HT2 HTS0
  have HTS : Hid (Sm R) := HTS0
  have HSH : Hid (∀ (B : Nat) (W : World) (xk xe xl : Value) (M M' : List (Value × List Nd)), Below w.heap.size w W → Kmy B W xk M → Kr W xl M' → M.map Prod.snd = M'.map Prod.snd → M.map (fun x => x.2.length) = L.map (fun x => x.2.length) → Emy B W xe es → Calls Try.prog 36 #[lgv u v0 v1 v2, .int .i64 y, .int .i64 q, xk, xe, xl, ve] W fun e w' => e = .returned (.bool true) ∧ Below W.heap.size W w') := fun B W xk xe xl M M' hb h1 h2 h3 h4 h5 => shows_any u y q W (hg.up hb) hgs hri h1 h2 h3 h5 (Rw.up he hb) (by rw [rom_lens M L h4]; exact hsz0) (fun x hx => by
    have h6 : x.2 ∈ M'.map Prod.snd := List.mem_map.2 ⟨x, hx, rfl⟩
    rw [← h3] at h6
    obtain ⟨y, hy, e⟩ := List.mem_map.1 h6
    rw [← e]; exact max_lens h4 hsq y hy) (by omega)
  obtain ⟨a0, c0, a1, c1, a2, c2, rfl, rfl, rfl⟩ := hg.form
  obtain ⟨ka, kc, rfl⟩ := hk.t.form
  obtain ⟨ea, ec, rfl⟩ := Rw.form he
  clear hg hgs hri hk he hsz0 hR HTS0 hsq hnm
  obtain ⟨n0, h0⟩ : ∃ n, Te.length = n := ⟨_, rfl⟩
  obtain ⟨n1, h1⟩ : ∃ n, Sy.length = n := ⟨_, rfl⟩
  obtain ⟨n2, h2⟩ : ∃ n, P.length = n := ⟨_, rfl⟩
  rw [h0, h1, h2] at HT1 HT2 HSH ⊢
  clear h0 h1 h2
  unfold lgv at HT1 HT2 HSH ⊢
  obtain ⟨n, hn⟩ : ∃ n, L.length = n := ⟨_, rfl⟩
  obtain ⟨m, hm⟩ : ∃ m, es.length = m := ⟨_, rfl⟩
  rw [hn] at HK HAB hnb ⊢
  rw [hm] at HE HSH hes ⊢
  have HN : Hid (L.length = n) := hn
  have HM : Hid (es.length = m) := hm
  have HNB : Hid (n < 1073741824) := hnb
  have HES : Hid (m < 1073741824) := hes
  clear hn hm hnb hes
  obtain ⟨W1, hW1⟩ : ∃ W1, W1 = w.alloc (.cells #[u 0, u 1, .slice a0 n0 c0, .slice a1 n1 c1, .slice a2 n2 c2, u 5, u 6, u 7, u 8, u 9, u 10, u 11] 52) := ⟨_, rfl⟩
  have HB1 : Hid (Below w.heap.size w W1) := by rw [hW1]; exact bel_up _ _
  have HX1 : Hid (W1.heap[w.heap.size]? = some (.cells #[u 0, u 1, .slice a0 n0 c0, .slice a1 n1 c1, .slice a2 n2 c2, u 5, u 6, u 7, u 8, u 9, u 10, u 11] 52 (0, 0))) := by rw [hW1]; exact heap_new _ _
  go_enter Try.func7, Try.ntmps7
  go_upto_region 1 with fail
  rw [← hW1]
  clear hW1
  have x0 := rcell HX1.out 0 _ rfl; have x1 := rcell HX1.out 1 _ rfl; have x2 := rcell HX1.out 2 _ rfl; have x3 := rcell HX1.out 3 _ rfl; have x4 := rcell HX1.out 4 _ rfl; have x5 := rcell HX1.out 5 _ rfl; have x6 := rcell HX1.out 6 _ rfl; have x7 := rcell HX1.out 7 _ rfl; have x8 := rcell HX1.out 8 _ rfl; have x9 := rcell HX1.out 9 _ rfl; have x10 := rcell HX1.out 10 _ rfl; have x11 := rcell HX1.out 11 _ rfl
  clear x0 x1 x2 x3 x4 x5 x6 x7 x8 x9 x10 x11
  go_upto_if 29 with (go_at_call 32; refine Calls.mono (HAB.out _ HB1.out) ?_; rintro ee W2 ⟨bb, rfl, hb1⟩; have HB2 : Hid (Below w.heap.size w W2) := below_trans HB1.out hb1; have HX2 : Hid (W2.heap[w.heap.size]? = some (.cells #[u 0, u 1, .slice a0 n0 c0, .slice a1 n1 c1, .slice a2 n2 c2, u 5, u 6, u 7, u 8, u 9, u 10, u 11] 52 (0, 0))) := (by rw [hb1.block _ (lt_of_heap HX1.out)]; exact HX1.out); clear hb1)
  clear HX1 HB1 HAB
  cases bb with
  | true =>
    go_wp2_with fail
    go_ret
    exact ⟨rfl, HB2.out⟩
  | false =>
    go_upto_region 3 with fail
    have x0 := rcell HX2.out 0 _ rfl; have x1 := rcell HX2.out 1 _ rfl; have x2 := rcell HX2.out 2 _ rfl; have x3 := rcell HX2.out 3 _ rfl; have x4 := rcell HX2.out 4 _ rfl; have x5 := rcell HX2.out 5 _ rfl; have x6 := rcell HX2.out 6 _ rfl; have x7 := rcell HX2.out 7 _ rfl; have x8 := rcell HX2.out 8 _ rfl; have x9 := rcell HX2.out 9 _ rfl; have x10 := rcell HX2.out 10 _ rfl; have x11 := rcell HX2.out 11 _ rfl
    go_upto_region 4 with (go_at_call 33; refine Calls.mono (HT1.out _ HB2.out) ?_; rintro ee W3 ⟨r1, rfl, ho1, hb1⟩; have HO3 : Hid (W3.ownsRow w.heap.size 33 7 r1 R.length (flat nf R)) := row_base ho1 HB2.out.size; have HB3 : Hid (Below w.heap.size w W3) := below_trans HB2.out hb1; have HX3 : Hid (W3.heap[w.heap.size]? = some (.cells #[u 0, u 1, .slice a0 n0 c0, .slice a1 n1 c1, .slice a2 n2 c2, u 5, u 6, u 7, u 8, u 9, u 10, u 11] 52 (0, 0))) := (by rw [hb1.block _ (lt_of_heap HX2.out)]; exact HX2.out); have HUW3 : Hid (Below W2.heap.size W2 W3) := hb1; obtain ⟨xa, xc, rfl⟩ := row_shape ho1; clear ho1 hb1)
    clear x0 x1 x2 x3 x4 x5 x6 x7 x8 x9 x10 x11
    have x0 := rcell HX3.out 0 _ rfl; have x1 := rcell HX3.out 1 _ rfl; have x2 := rcell HX3.out 2 _ rfl; have x3 := rcell HX3.out 3 _ rfl; have x4 := rcell HX3.out 4 _ rfl; have x5 := rcell HX3.out 5 _ rfl; have x6 := rcell HX3.out 6 _ rfl; have x7 := rcell HX3.out 7 _ rfl; have x8 := rcell HX3.out 8 _ rfl; have x9 := rcell HX3.out 9 _ rfl; have x10 := rcell HX3.out 10 _ rfl; have x11 := rcell HX3.out 11 _ rfl
    go_upto_region 5 with (go_at_call 34; refine Calls.mono (HT2.out _ HB3.out) ?_; rintro ee W4 ⟨r1, rfl, ho1, hb1⟩; have HO4 : Hid (W4.ownsRow w.heap.size 33 7 r1 R.length (flat nf R)) := row_base ho1 HB3.out.size; have HB4 : Hid (Below w.heap.size w W4) := below_trans HB3.out hb1; have HX4 : Hid (W4.heap[w.heap.size]? = some (.cells #[u 0, u 1, .slice a0 n0 c0, .slice a1 n1 c1, .slice a2 n2 c2, u 5, u 6, u 7, u 8, u 9, u 10, u 11] 52 (0, 0))) := (by rw [hb1.block _ (lt_of_heap HX3.out)]; exact HX3.out); have HUW4 : Hid (Below W3.heap.size W3 W4) := hb1; obtain ⟨ya, yc, rfl⟩ := row_shape ho1; clear ho1 hb1)
    clear x0 x1 x2 x3 x4 x5 x6 x7 x8 x9 x10 x11
    have HO34 : Hid (W4.ownsRow w.heap.size 33 7 (.slice xa R.length xc) R.length (flat nf R)) := row_up HO3.out HUW4.out
    go_upto_region 6 with (go_at_call 35; refine Calls.mono (same_any HTS.out W4 (row_rw HO34.out (by decide)) (row_rw HO4.out (by decide))) ?_; rintro ee W5 ⟨rfl, hb3⟩; have HB5 : Hid (Below w.heap.size w W5) := below_trans HB4.out hb3; have HX5 : Hid (W5.heap[w.heap.size]? = some (.cells #[u 0, u 1, .slice a0 n0 c0, .slice a1 n1 c1, .slice a2 n2 c2, u 5, u 6, u 7, u 8, u 9, u 10, u 11] 52 (0, 0))) := (by rw [hb3.block _ (lt_of_heap HX4.out)]; exact HX4.out); rw [decide_eq_true rfl]; clear hb3)
    clear HO3 HO34 HO4 HUW3 HUW4 HX2 HX3 HX4 HB2 HB3 HB4 HT1 HT2 HTS
    go_upto_region 10 with fail
    go_loopg [22, 23] n (fun gm v22 v23 wr => ∃ (i : Nat) (M : List (Value × List Nd)), v23 = .int .i64 (i : Int) ∧ Hid (gm = n - i ∧ i ≤ n) ∧ Hid (M.length = i) ∧ Hid (M.map Prod.snd = (L.map Prod.snd).take i) ∧ Hid (wr.ownsRow w.heap.size 22 1 v22 i (M.map Prod.fst)) ∧ Hid (∀ x ∈ M, Rmy w.heap.size wr x.1 x.2) ∧ Hid (Kd M) ∧ Hid (wr.heap[w.heap.size]? = some (.cells #[u 0, u 1, .slice a0 n0 c0, .slice a1 n1 c1, .slice a2 n2 c2, u 5, u 6, u 7, u 8, u 9, u 10, u 11] 52 (0, 0))) ∧ Hid (Below w.heap.size w wr))
    case atStart => exact ⟨0, [], rfl, ⟨rfl, Nat.zero_le _⟩, rfl, rfl, World.ownsRow_nil _ _ _ _, (fun x hx => by cases hx), (fun i j hi _ _ => by cases hi), HX5, HB5⟩
    case round =>
      clear HX5 HB5
      obtain ⟨i, M, rfl, HI, HML, HMS, HO, HMR, HKD, HXR, HBW⟩ := hrel
      by_cases hi : i < n
      · have e1 : decide ((i : Int) < (n : Int)) = true := by rw [decide_eq_true_eq]; omega
        have e2 : decide (i < n) = true := by rw [decide_eq_true_eq]; omega
        have e3 : (i : Int) < (n : Int) := by omega
        have HIM : Hid (i < n) := hi
        have hil : i < L.length := by have := HN.out; omega
        obtain ⟨g, o, b, c, rfl, q0, q1, q2⟩ := (HK.out.up HBW.out).at i hil
        have hsm : (L.getD i krd).2.length ≤ 1048576 := HSQ.out _ (getD_mem L krd i hil)
        have HSN : Hid ((L.map Prod.snd).take (i + 1) = (L.map Prod.snd).take i ++ [(L.getD i krd).2]) := by
          show _ = _
          rw [take_getD (L.map Prod.snd) [] i (by rw [List.length_map]; exact hil), snd_getD L i]
        obtain ⟨t, ht⟩ : ∃ t, (L.getD i krd).2 = t := ⟨_, rfl⟩
        rw [ht] at q1 q2 hsm HSN
        have HTW : Hid _ := roomy_any (by omega) wr q2
        obtain ⟨mt, hm⟩ : ∃ m, t.length = m := ⟨_, rfl⟩
        rw [hm] at q1 HTW
        have HMM : Hid (t.length = mt) := hm
        have hwi := w64n i (by have := HNB.out; omega)
        have HFIT : Hid (i + 1 ≤ maxLen ∧ Builtin.nextslicecap (i + 1) i * 24 ≤ 281474976710656) := ⟨by have := HNB.out; unfold maxLen; omega, by have h7 := cap_fit i (by have := HNB.out; omega); omega⟩
        obtain ⟨oa, oc, hv⟩ := row_shape HO.out
        subst hv
        clear hil q0 q2 ht hm hi hsm
        go_upto_region 13 with (go_at_call 10; refine Calls.mono HTW.out ?_; rintro ee V4 ⟨r, rfl, ho4, hb4⟩; have HR4 : Hid (Rmy wr.heap.size V4 r t) := ho4; have HU4 : Hid (Below wr.heap.size wr V4) := hb4; have HB4 : Hid (Below w.heap.size w V4) := below_trans HBW.out hb4; obtain ⟨rg, rc, rfl, _, _⟩ := ho4; rw [HMM.out] at HR4 ⊢; clear hb4)
        have HO4 : Hid (V4.ownsRow w.heap.size 22 1 (.slice oa i oc) i (M.map Prod.fst)) := row_up HO.out HU4.out
        have HM4 : Hid (∀ x ∈ M ++ [((.slice (some ⟨rg, 0, none⟩) mt rc), t)], Rmy w.heap.size V4 x.1 x.2) := fun x hx => by
          rcases List.mem_append.1 hx with hx | hx
          · exact (HMR.out x hx).up HU4.out
          · cases List.mem_singleton.1 hx; exact HR4.out.base HBW.out.size
        have HD4 : Hid (Kd (M ++ [((.slice (some ⟨rg, 0, none⟩) mt rc), t)])) := HKD.out.snoc fun x hx e => by
          obtain ⟨g1, cur1, f1, _, f2⟩ := (HMR.out x hx).blk
          obtain ⟨g2, cur2, f3, f4, _⟩ := HR4.out.blk
          rw [f1, f3] at e
          cases e
          have := lt_of_heap f2
          omega
        have HX4 : Hid (V4.heap[w.heap.size]? = some (.cells #[u 0, u 1, .slice a0 n0 c0, .slice a1 n1 c1, .slice a2 n2 c2, u 5, u 6, u 7, u 8, u 9, u 10, u 11] 52 (0, 0))) := by rw [HU4.out.block _ (lt_of_heap HXR.out)]; exact HXR.out
        clear HR4 HTW
        have HR5 : Hid ((V4.alloc (.cells #[.slice (some ⟨rg, 0, none⟩) mt rc] 22)).ownsRow w.heap.size 22 1 (.slice oa i oc) i (M.map Prod.fst)) := row_up HO4.out (bel_up _ _)
        have HB5 : Hid (Below w.heap.size w (V4.alloc (.cells #[.slice (some ⟨rg, 0, none⟩) mt rc] 22))) := below_trans HB4.out (bel_up _ _)
        have HM5 : Hid (∀ x ∈ M ++ [((.slice (some ⟨rg, 0, none⟩) mt rc), t)], Rmy w.heap.size (V4.alloc (.cells #[.slice (some ⟨rg, 0, none⟩) mt rc] 22)) x.1 x.2) := fun x hx => (HM4.out x hx).up (bel_up _ _)
        have HX5 : Hid ((V4.alloc (.cells #[.slice (some ⟨rg, 0, none⟩) mt rc] 22)).heap[w.heap.size]? = some (.cells #[u 0, u 1, .slice a0 n0 c0, .slice a1 n1 c1, .slice a2 n2 c2, u 5, u 6, u 7, u 8, u 9, u 10, u 11] 52 (0, 0))) := by rw [(bel_up V4 _).block _ (lt_of_heap HX4.out)]; exact HX4.out
        have HCW : Hid (∀ j u, ([(.slice (some ⟨rg, 0, none⟩) mt rc)] : List Value)[j]? = some u → (V4.alloc (.cells #[.slice (some ⟨rg, 0, none⟩) mt rc] 22)).cell? (Addr.add ⟨V4.heap.size, 0, none⟩ j) = some u) := World.news_of_block (heap_new _ _)
        clear HO4 HM4 HX4
        go_wp2_with (at_builtin; refine wpList_append_one _ rfl _ _ 68 rfl w.heap.size 22 iN _ 1 24 Try.underlying68 hiN hx0 hx1 hx2 rfl (.slice oa i oc) i (M.map Prod.fst) rfl HR5.out ⟨V4.heap.size, 0, none⟩ 1 [(.slice (some ⟨rg, 0, none⟩) mt rc)] rfl rfl HCW.out (fun u hu => by cases List.mem_singleton.1 hu; rfl) HFIT.out.1 HFIT.out.2 HB5.out.size ?_; intro v6 w6 ho6 hg6 _; have HO6 : Hid (w6.ownsRow w.heap.size 22 1 v6 (i + 1) (M.map Prod.fst ++ [(.slice (some ⟨rg, 0, none⟩) mt rc)])) := ho6; have HB6 : Hid (Below w.heap.size w w6) := HB5.out.grown hg6 HB5.out.size (fun r hr => (row_tag HR5.out r hr).1); have HM6 : Hid (∀ x ∈ M ++ [((.slice (some ⟨rg, 0, none⟩) mt rc), t)], Rmy w.heap.size w6 x.1 x.2) := (fun x hx => (HM5.out x hx).kept hg6 (by obtain ⟨g1, cur1, f1, _, f2⟩ := (HM5.out x hx).blk; rw [f1]; exact (tag_ne_blk HR5.out f2 (by decide)).symm)); have HX6 : Hid (w6.heap[w.heap.size]? = some (.cells #[u 0, u 1, .slice a0 n0 c0, .slice a1 n1 c1, .slice a2 n2 c2, u 5, u 6, u 7, u 8, u 9, u 10, u 11] 52 (0, 0))) := (by rw [hg6.block _ (lt_of_heap HX5.out) (tag_ne_blk HR5.out HX5.out (by decide)).symm]; exact HX5.out); obtain ⟨ra, rc2, rfl⟩ := row_shape ho6; clear ho6 hg6)
        go_roundg (n - (i + 1))
        case measure => have := HI.out.1; have := HIM.out; omega
        case rel => exact ⟨i + 1, M ++ [((.slice (some ⟨rg, 0, none⟩) mt rc), t)], by first | rfl | (rw [show (i : Int) + 1 = ((i + 1 : Nat) : Int) by omega]), ⟨rfl, HIM.out⟩, by show _ = _; rw [List.length_append, HML.out]; rfl, by show _ = _; rw [List.map_append, HMS.out, HSN.out]; rfl, by rw [List.map_append]; exact HO6.out, HM6, HD4, HX6, HB6⟩
      · have e1 : decide ((i : Int) < (n : Int)) = false := by rw [decide_eq_false_iff_not]; omega
        have e2 : decide (i < n) = false := by rw [decide_eq_false_iff_not]; omega
        have hin : n = i := by have := HI.out.2; omega
        subst hin
        have HMS2 : Hid (M.map Prod.snd = L.map Prod.snd) := by
          have h1 := HMS.out
          rw [List.take_of_length_le (by rw [List.length_map, HN.out]; omega)] at h1
          exact h1
        obtain ⟨oa, oc, hv⟩ := row_shape HO.out
        subst hv
        clear hi HMS HI
        go_upto_region 14 with fail
        clear e1 e2
        have HFA : Hid (n + 2 ≤ maxLen ∧ (n + 2) * 24 ≤ 140737488355328) := by have := HNB.out; show _ ∧ _; unfold maxLen; omega
        have HR5 : Hid ((wr.alloc (.cells #[.slice none 0 0, .slice none 0 0] 22)).ownsRow w.heap.size 22 1 (.slice oa n oc) n (M.map Prod.fst)) := row_up HO.out (bel_up _ _)
        have HB5 : Hid (Below w.heap.size w (wr.alloc (.cells #[.slice none 0 0, .slice none 0 0] 22))) := below_trans HBW.out (bel_up _ _)
        have HM5 : Hid (∀ x ∈ M, Rmy w.heap.size (wr.alloc (.cells #[.slice none 0 0, .slice none 0 0] 22)) x.1 x.2) := fun x hx => (HMR.out x hx).up (bel_up _ _)
        have HX5 : Hid ((wr.alloc (.cells #[.slice none 0 0, .slice none 0 0] 22)).heap[w.heap.size]? = some (.cells #[u 0, u 1, .slice a0 n0 c0, .slice a1 n1 c1, .slice a2 n2 c2, u 5, u 6, u 7, u 8, u 9, u 10, u 11] 52 (0, 0))) := by rw [(bel_up wr _).block _ (lt_of_heap HXR.out)]; exact HXR.out
        have HCW : Hid (∀ j u, ([.slice none 0 0, .slice none 0 0] : List Value)[j]? = some u → (wr.alloc (.cells #[.slice none 0 0, .slice none 0 0] 22)).cell? (Addr.add ⟨wr.heap.size, 0, none⟩ j) = some u) := World.news_of_block (heap_new _ _)
        clear HO HMR HXR
        go_upto_region 15 with (at_builtin; refine wpList_append_own_at _ rfl _ _ 68 rfl w.heap.size 22 iN _ 1 24 Try.underlying68 hiN hx0 hx1 hx2 rfl (by decide) (.slice oa n oc) n (M.map Prod.fst) rfl HR5.out ⟨wr.heap.size, 0, none⟩ 2 2 [.slice none 0 0, .slice none 0 0] rfl rfl HCW.out (fun u hu => by simp at hu; rw [hu]; rfl) HFA.out.1 HFA.out.2 HB5.out.size ?_; intro v6 w6 ho6 hg6 _ _; obtain ⟨kg, kc6, hv6, _, hc6, _⟩ := row_form ho6 (by omega); subst hv6; have HO6 : Hid (w6.ownsRow w.heap.size 22 1 (.slice (some ⟨kg, 0, none⟩) (n + 2) kc6) (n + 2) (M.map Prod.fst ++ [.slice none 0 0, .slice none 0 0])) := ho6; have HB6 : Hid (Below w.heap.size w w6) := HB5.out.grown hg6 HB5.out.size (fun r hr => (row_tag HR5.out r hr).1); have HM6 : Hid (∀ x ∈ M, Rmy w.heap.size w6 x.1 x.2) := (fun x hx => (HM5.out x hx).kept hg6 (by obtain ⟨g1, cur1, f1, _, f2⟩ := (HM5.out x hx).blk; rw [f1]; exact (tag_ne_blk HR5.out f2 (by decide)).symm)); have HX6 : Hid (w6.heap[w.heap.size]? = some (.cells #[u 0, u 1, .slice a0 n0 c0, .slice a1 n1 c1, .slice a2 n2 c2, u 5, u 6, u 7, u 8, u 9, u 10, u 11] 52 (0, 0))) := (by rw [hg6.block _ (lt_of_heap HX5.out) (tag_ne_blk HR5.out HX5.out (by decide)).symm]; exact HX5.out); have HC6 : Hid (n + 2 ≤ kc6) := hc6; have b1 : n ≤ kc6 := (by omega); have b2 : (n : Int) ≤ (kc6 : Int) := (by omega); have b3 : (0 : Int) ≤ (n : Int) := (by omega); clear ho6 hg6 hc6)
        clear b1 b2 b3 HR5 HB5 HM5 HX5 HCW HBW HFA
        have HKM : Hid (Kmy w.heap.size w6 (.slice (some ⟨kg, 0, none⟩) n kc6) M) := ⟨kg, kc6, by rw [HML.out], by rw [HML.out]; exact HC6.out, by rw [HML.out]; exact HO6.out, HM6.out⟩
        clear HO6 HM6
        have HFB : Hid (m ≤ maxLen ∧ m * 8 ≤ 140737488355328 ∧ m + 2 ≤ maxLen ∧ (m + 2) * 8 ≤ 140737488355328) := by have := HES.out; show _ ∧ _; unfold maxLen; omega
        have HE6 : Hid (Rw w6 (.slice ea m ec) m (iC es)) := by have h7 := Rw.up HE.out HB6.out; rw [HM.out] at h7; exact h7
        go_upto_region 17 with (at_builtin; refine wpList_copy _ rfl _ _ 23 rfl w.heap.size 3 i3 _ 1 8 Try.underlying23 hi3 hy0 hy1 hy2 rfl (by decide) (.slice ea m ec) m (iC es) rfl rfl HE6.out (by rw [iC_len, HM.out]) (iC_one es) HFB.out.1 HFB.out.2.1 HB6.out.size ?_; intro v7 w7 ho7 hg7; have HO7 : Hid (w7.ownsRow w.heap.size 3 1 v7 m (iC es)) := ho7; have HU7 : Hid (Below w6.heap.size w6 w7) := (Below.refl _ _).grown hg7 (Nat.le_refl _) (fun r e' => by cases e'); obtain ⟨pa, pc, rfl⟩ := row_shape ho7; clear ho7 hg7)
        have HX7 : Hid ((w7.alloc (.cells #[.int .i64 (-71), .int .i64 (-72)] 3)).heap[w.heap.size]? = some (.cells #[u 0, u 1, .slice a0 n0 c0, .slice a1 n1 c1, .slice a2 n2 c2, u 5, u 6, u 7, u 8, u 9, u 10, u 11] 52 (0, 0))) := by rw [(below_trans HU7.out (bel_up w7 _)).block _ (lt_of_heap HX6.out)]; exact HX6.out
        have HB7 : Hid (Below w.heap.size w (w7.alloc (.cells #[.int .i64 (-71), .int .i64 (-72)] 3))) := below_trans HB6.out (below_trans HU7.out (bel_up _ _))
        have HK7 : Hid (Kmy w.heap.size (w7.alloc (.cells #[.int .i64 (-71), .int .i64 (-72)] 3)) (.slice (some ⟨kg, 0, none⟩) n kc6) M) := HKM.out.up (below_trans HU7.out (bel_up _ _))
        have HR7 : Hid ((w7.alloc (.cells #[.int .i64 (-71), .int .i64 (-72)] 3)).ownsRow w.heap.size 3 1 (.slice pa m pc) m (iC es)) := row_up HO7.out (bel_up _ _)
        have HCW : Hid (∀ j u, ([.int .i64 (-71), .int .i64 (-72)] : List Value)[j]? = some u → (w7.alloc (.cells #[.int .i64 (-71), .int .i64 (-72)] 3)).cell? (Addr.add ⟨w7.heap.size, 0, none⟩ j) = some u) := World.news_of_block (heap_new _ _)
        clear HO7 HKM HX6 HB6 HU7 HE6
        go_upto_region 18 with (at_builtin; refine wpList_append_own_at _ rfl _ _ 23 rfl w.heap.size 3 i3 _ 1 8 Try.underlying23 hi3 hy0 hy1 hy2 rfl (by decide) (.slice pa m pc) m (iC es) rfl HR7.out ⟨w7.heap.size, 0, none⟩ 2 2 [.int .i64 (-71), .int .i64 (-72)] rfl rfl HCW.out (fun u hu => by rcases List.mem_cons.1 hu with hu | hu; rw [hu]; rfl; rw [List.mem_singleton.1 hu]; rfl) HFB.out.2.2.1 HFB.out.2.2.2 HB7.out.size ?_; intro v8 w8 ho8 hg8 _ _; obtain ⟨eg, ec8, hv8, _, hc8, _⟩ := row_form ho8 (by omega); subst hv8; have HO8 : Hid (w8.ownsRow w.heap.size 3 1 (.slice (some ⟨eg, 0, none⟩) (m + 2) ec8) (m + 2) (iC es ++ [.int .i64 (-71), .int .i64 (-72)])) := ho8; have HB8 : Hid (Below w.heap.size w w8) := HB7.out.grown hg8 HB7.out.size (fun r hr => (row_tag HR7.out r hr).1); have HK8 : Hid (Kmy w.heap.size w8 (.slice (some ⟨kg, 0, none⟩) n kc6) M) := HK7.out.kept hg8 (fun r hr => (row_tag HR7.out r hr).2); have HX8 : Hid (w8.heap[w.heap.size]? = some (.cells #[u 0, u 1, .slice a0 n0 c0, .slice a1 n1 c1, .slice a2 n2 c2, u 5, u 6, u 7, u 8, u 9, u 10, u 11] 52 (0, 0))) := (by rw [hg8.block _ (lt_of_heap HX7.out) (tag_ne_blk HR7.out HX7.out (by decide)).symm]; exact HX7.out); have HC8 : Hid (m + 2 ≤ ec8) := hc8; have b1 : m ≤ ec8 := (by omega); have b2 : (m : Int) ≤ (ec8 : Int) := (by omega); have b3 : (0 : Int) ≤ (m : Int) := (by omega); clear ho8 hg8 hc8)
        clear b1 b2 b3 HR7 HB7 HK7 HX7 HCW HFB
        have HE8 : Hid (Emy w.heap.size w8 (.slice (some ⟨eg, 0, none⟩) m ec8) es) := ⟨eg, ec8, by rw [HM.out], by rw [HM.out]; exact HC8.out, by rw [HM.out]; have h7 := HO8.out; unfold iC at h7 ⊢; rw [List.map_append]; exact h7⟩
        have HMN : Hid (M.map (fun x => x.2.length) = L.map (fun x => x.2.length)) := by have h7 := congrArg (List.map List.length) HMS2.out; rw [List.map_map, List.map_map] at h7; exact h7
        clear HO8
        have x0 := rcell HX8.out 0 _ rfl; have x1 := rcell HX8.out 1 _ rfl; have x2 := rcell HX8.out 2 _ rfl; have x3 := rcell HX8.out 3 _ rfl; have x4 := rcell HX8.out 4 _ rfl; have x5 := rcell HX8.out 5 _ rfl; have x6 := rcell HX8.out 6 _ rfl; have x7 := rcell HX8.out 7 _ rfl; have x8 := rcell HX8.out 8 _ rfl; have x9 := rcell HX8.out 9 _ rfl; have x10 := rcell HX8.out 10 _ rfl; have x11 := rcell HX8.out 11 _ rfl
        go_upto_region 20 with (go_at_call 36; refine Calls.mono (HSH.out _ w8 _ _ _ M L HB8.out HK8.out (HK.out.up HB8.out) HMS2.out HMN.out HE8.out) ?_; rintro ee w9 ⟨rfl, hb9⟩; have HU9 : Hid (Below w8.heap.size w8 w9) := hb9; clear hb9)
        clear x0 x1 x2 x3 x4 x5 x6 x7 x8 x9 x10 x11
        have HX9 : Hid (w9.heap[w.heap.size]? = some (.cells #[u 0, u 1, .slice a0 n0 c0, .slice a1 n1 c1, .slice a2 n2 c2, u 5, u 6, u 7, u 8, u 9, u 10, u 11] 52 (0, 0))) := by rw [HU9.out.block _ (lt_of_heap HX8.out)]; exact HX8.out
        have HB9 : Hid (Below w.heap.size w w9) := below_trans HB8.out HU9.out
        have HK9 : Hid (Kmy w.heap.size w9 (.slice (some ⟨kg, 0, none⟩) n kc6) M) := HK8.out.up HU9.out
        have HE9 : Hid (Emy w.heap.size w9 (.slice (some ⟨eg, 0, none⟩) m ec8) es) := HE8.out.up HU9.out
        clear HX8 HB8 HK8 HE8 HU9
        go_upto_region 21 with fail
        go_loopg [26] n (fun gm v26 wr => ∃ (i : Nat) (N : List (Value × List Nd)), v26 = .int .i64 (i : Int) ∧ Hid (gm = n - i ∧ i ≤ n) ∧ Hid (N.map (fun x => x.2.length) = L.map (fun x => x.2.length)) ∧ Hid (Kmy w.heap.size wr (.slice (some ⟨kg, 0, none⟩) n kc6) N) ∧ Hid (Kd N) ∧ Hid (Emy w.heap.size wr (.slice (some ⟨eg, 0, none⟩) m ec8) es) ∧ Hid (wr.heap[w.heap.size]? = some (.cells #[u 0, u 1, .slice a0 n0 c0, .slice a1 n1 c1, .slice a2 n2 c2, u 5, u 6, u 7, u 8, u 9, u 10, u 11] 52 (0, 0))) ∧ Hid (Below w.heap.size w wr) ∧ Hid (∀ k, i ≤ k → k < L.length → (N.getD k krd).2 = (L.getD k krd).2))
        case atStart => exact ⟨0, M, rfl, ⟨rfl, Nat.zero_le _⟩, HMN, HK9, HKD, HE9, HX9, HB9, fun k _ hk => by rw [← snd_getD M k, ← snd_getD L k, HMS2.out]⟩
        case round =>
          clear HMN HK9 HKD HE9 HX9 HB9 HMS2 HML
          obtain ⟨i, N, rfl, HI, HLN, HKN, HDN, HEN, HXN, HBW, HF⟩ := hrel
          have HNL : Hid (N.length = n) := by have h7 := len_lens HLN.out; rw [HN.out] at h7; exact h7
          by_cases hi : i < n
          · have e1 : decide ((i : Int) < (n : Int)) = true := by rw [decide_eq_true_eq]; omega
            have e2 : decide (i < n) = true := by rw [decide_eq_true_eq]; omega
            have e3 : (i : Int) < (n : Int) := by omega
            have HIM : Hid (i < n) := hi
            have hil : i < N.length := by have := HNL.out; omega
            obtain ⟨t, ht⟩ : ∃ t, (N.getD i krd).2 = t := ⟨_, rfl⟩
            have hLt : (L.getD i krd).2 = t := by rw [← ht]; exact (HF.out i (Nat.le_refl _) (by have := HN.out; omega)).symm
            have HNT : Hid (∀ p, p < t.length → (t.getD p ndd).nm.size ≤ 1073741824) := fun p hp => HNM.out _ (getD_mem L krd i (by have := HN.out; omega)) _ (by rw [hLt]; exact getD_mem t ndd p hp)
            have HTL : Hid (t.length ≤ 1048576) := by have h7 := HSQ.out _ (getD_mem L krd i (by have := HN.out; omega)); rw [hLt] at h7; exact h7
            obtain ⟨g, cg, hrv, _, _⟩ : Rmy w.heap.size wr (N.getD i krd).1 (N.getD i krd).2 := by obtain ⟨_, _, _, _, _, h3⟩ := HKN.out; exact h3 _ (getD_mem N krd i hil)
            rw [ht] at hrv
            obtain ⟨tl, htl⟩ : ∃ tl, t.length = tl := ⟨_, rfl⟩
            rw [htl] at hrv
            have HIV : Hid (Iv w #[u 0, u 1, .slice a0 n0 c0, .slice a1 n1 c1, .slice a2 n2 c2, u 5, u 6, u 7, u 8, u 9, u 10, u 11] es L kg n kc6 (.slice (some ⟨eg, 0, none⟩) m ec8) i 0 (.slice (some ⟨g, 0, none⟩) tl cg) t wr N) := ⟨HLN.out, HKN.out, HDN.out, HEN.out, HXN.out, HBW.out, hil, hrv, by rw [ht], fun p _ hp => by rw [ht], fun k hk hkl => HF.out k (by omega) hkl⟩
            have HTT : Hid (t.length = tl) := htl
            have hwi := w64n i (by have := HNB.out; omega)
            clear hi hil ht hLt hrv htl HLN HKN HDN HEN HXN HBW HF HNL
            go_upto_region 24 with fail
            go_loopg [27] tl (fun gm v27 wr => ∃ (j : Nat) (N : List (Value × List Nd)), v27 = .int .i64 (j : Int) ∧ Hid (gm = tl - j ∧ j ≤ tl) ∧ Hid (Iv w #[u 0, u 1, .slice a0 n0 c0, .slice a1 n1 c1, .slice a2 n2 c2, u 5, u 6, u 7, u 8, u 9, u 10, u 11] es L kg n kc6 (.slice (some ⟨eg, 0, none⟩) m ec8) i j (.slice (some ⟨g, 0, none⟩) tl cg) t wr N))
            case atStart => exact ⟨0, N, rfl, ⟨rfl, Nat.zero_le _⟩, HIV⟩
            case round =>
              clear HIV
              obtain ⟨j, N, rfl, HJ, HIV⟩ := hrel
              have p0 := HIV.out.cell0
              by_cases hj : j < tl
              · have e4 : decide ((j : Int) < (tl : Int)) = true := by rw [decide_eq_true_eq]; omega
                have e5 : decide (j < tl) = true := by rw [decide_eq_true_eq]; omega
                have e6 : (j : Int) < (tl : Int) := by omega
                have HJM : Hid (j < tl) := hj
                obtain ⟨x, hx⟩ : ∃ x, t.getD j ndd = x := ⟨_, rfl⟩
                have HNX : Hid ((N.getD i krd).2.getD j ndd = x) := by rw [← hx]; exact HIV.out.o j (Nat.le_refl _) (by rw [HTT.out]; exact hj)
                have HXS : Hid (x.nm.size ≤ 1073741824) := by rw [← hx]; exact HNT.out j (by rw [HTT.out]; exact hj)
                have HJT : Hid (j < t.length) := by rw [HTT.out]; exact hj
                obtain ⟨nq, _, hsa⟩ := saddY x.nm ⟨#[113]⟩ _ _ rfl rfl (by have h7 := HXS.out; rw [Array.length_toList]; have h8 : x.nm.data.size = x.nm.size := rfl; rw [h8]; show _ + 1 ≤ _; omega)
                have hwj := w64n j (by have := HTL.out; have := HTT.out; omega)
                clear hx hj
                go_upto_region 26 with fail
                refine wp_region_noPanic ?_
                have HY00 : Hid (Below wr.heap.size wr wr.drew) := Below.drew (Below.refl _ _)
                refine wp_region_held_drew (S := fun W => W.cell? ⟨kg, i, none⟩ = some (.slice (some ⟨g, 0, none⟩) tl cg)) (by kernel_rfl) (HIV.out.up HY00.out).cell0 (fun hHeld => ?_)
                obtain ⟨Y0, hWD⟩ : ∃ WD, wr.drew = WD := ⟨_, rfl⟩
                rw [hWD] at hHeld HY00 ⊢
                clear hWD
                refine wpAnyH_take (i := 0) (oi := { dst := _, op := _, type := _, pos := _, after := _, guard := _ }) (v := ?_) rfl (by kernel_rfl) (by kernel_rfl) (by kernel_rfl) (fun _ _ _ h => h) (Or.inl ⟨by rfl, ?_⟩) (by assumption) ?_
                rotate_left
                · intro W hSw
                  (try dsimp only at hSw)
                  go_simp
                  (try with_reducible rfl)
                try simp only [Act.put, List.setIfInBounds_toArray, List.set_cons_zero, List.set_cons_succ]
                refine wpAnyH_take (i := 1) (oi := { dst := _, op := _, type := _, pos := _, after := _, guard := _ }) (v := ?_) rfl (by kernel_rfl) (by kernel_rfl) (by kernel_rfl) (fun _ _ _ h => h) (Or.inl ⟨by rfl, ?_⟩) (by assumption) ?_
                rotate_left
                · intro W hSw
                  (try dsimp only at hSw)
                  go_simp
                  (try with_reducible rfl)
                try simp only [Act.put, List.setIfInBounds_toArray, List.set_cons_zero, List.set_cons_succ]
                refine wpAnyH_take (i := 2) (oi := { dst := _, op := _, type := _, pos := _, after := _, guard := _ }) (v := ?_) rfl (by kernel_rfl) (by kernel_rfl) (by kernel_rfl) (fun _ _ _ h => h) (Or.inl ⟨by rfl, ?_⟩) (by assumption) ?_
                rotate_left
                · intro W hSw
                  (try dsimp only at hSw)
                  go_simp
                  (try with_reducible rfl)
                try simp only [Act.put, List.setIfInBounds_toArray, List.set_cons_zero, List.set_cons_succ]
                refine wpAnyH_take (i := 3) (oi := { dst := _, op := _, type := _, pos := _, after := _, guard := _ }) (v := ?_) rfl (by kernel_rfl) (by kernel_rfl) (by kernel_rfl) (fun _ _ _ h => h) (Or.inl ⟨by rfl, ?_⟩) (by assumption) ?_
                rotate_left
                · intro W hSw
                  (try dsimp only at hSw)
                  have z0 := hSw
                  go_simp
                  (try with_reducible rfl)
                try simp only [Act.put, List.setIfInBounds_toArray, List.set_cons_zero, List.set_cons_succ]
                refine wpAnyH_take (i := 4) (oi := { dst := _, op := _, type := _, pos := _, after := _, guard := _ }) (v := ?_) rfl (by kernel_rfl) (by kernel_rfl) (by kernel_rfl) (fun _ _ _ h => h) (Or.inl ⟨by rfl, ?_⟩) (by assumption) ?_
                rotate_left
                · intro W hSw
                  (try dsimp only at hSw)
                  go_simp
                  (try with_reducible rfl)
                try simp only [Act.put, List.setIfInBounds_toArray, List.set_cons_zero, List.set_cons_succ]
                refine wpAnyH_take (i := 5) (oi := { dst := _, op := _, type := _, pos := _, after := _, guard := _ }) (v := ?_) rfl (by kernel_rfl) (by kernel_rfl) (by kernel_rfl) (fun _ _ _ h => h) (Or.inl ⟨by rfl, ?_⟩) (by assumption) ?_
                rotate_left
                · intro W hSw
                  (try dsimp only at hSw)
                  go_simp
                  (try with_reducible rfl)
                try simp only [Act.put, List.setIfInBounds_toArray, List.set_cons_zero, List.set_cons_succ]
                refine wpAnyH_take (i := 6) (oi := { dst := _, op := _, type := _, pos := _, after := _, guard := _ }) (v := ?_) rfl (by kernel_rfl) (by kernel_rfl) (by kernel_rfl) (fun _ _ _ h => h) (Or.inl ⟨by rfl, ?_⟩) (by assumption) ?_
                rotate_left
                · intro W hSw
                  (try dsimp only at hSw)
                  go_simp
                  (try with_reducible rfl)
                try simp only [Act.put, List.setIfInBounds_toArray, List.set_cons_zero, List.set_cons_succ]
                refine wpAnyH_take (i := 7) (oi := { dst := _, op := _, type := _, pos := _, after := _, guard := _ }) (v := ?_) rfl (by kernel_rfl) (by kernel_rfl) (by kernel_rfl) (fun _ _ _ h => h) (Or.inl ⟨by rfl, ?_⟩) (by assumption) ?_
                rotate_left
                · intro W hSw
                  (try dsimp only at hSw)
                  go_simp
                  (try with_reducible rfl)
                try simp only [Act.put, List.setIfInBounds_toArray, List.set_cons_zero, List.set_cons_succ]
                refine wpAnyH_take (i := 8) (oi := { dst := _, op := _, type := _, pos := _, after := _, guard := _ }) (v := ?_) rfl (by kernel_rfl) (by kernel_rfl) (by kernel_rfl) (fun _ _ _ h => h) (Or.inl ⟨by rfl, ?_⟩) (by assumption) ?_
                rotate_left
                · intro W hSw
                  (try dsimp only at hSw)
                  have z0 := hSw
                  go_simp
                  (try with_reducible rfl)
                try simp only [Act.put, List.setIfInBounds_toArray, List.set_cons_zero, List.set_cons_succ]
                refine wpAnyH_take (i := 9) (oi := { dst := _, op := _, type := _, pos := _, after := _, guard := _ }) (v := ?_) rfl (by kernel_rfl) (by kernel_rfl) (by kernel_rfl) (fun _ _ _ h => h) (Or.inl ⟨by rfl, ?_⟩) (by assumption) ?_
                rotate_left
                · intro W hSw
                  (try dsimp only at hSw)
                  go_simp
                  (try with_reducible rfl)
                try simp only [Act.put, List.setIfInBounds_toArray, List.set_cons_zero, List.set_cons_succ]
                refine wpAnyH_take (i := 10) (oi := { dst := _, op := _, type := _, pos := _, after := _, guard := _ }) (v := ?_) rfl (by kernel_rfl) (by kernel_rfl) (by kernel_rfl) (fun _ _ _ h => h) (Or.inl ⟨by rfl, ?_⟩) (by assumption) ?_
                rotate_left
                · intro W hSw
                  (try dsimp only at hSw)
                  go_simp
                  (try with_reducible rfl)
                try simp only [Act.put, List.setIfInBounds_toArray, List.set_cons_zero, List.set_cons_succ]
                refine wpAnyH_take (i := 11) (oi := { dst := _, op := _, type := _, pos := _, after := _, guard := _ }) (v := ?_) rfl (by kernel_rfl) (by kernel_rfl) (by kernel_rfl) (fun _ _ _ h => h) (Or.inl ⟨by rfl, ?_⟩) (by assumption) ?_
                rotate_left
                · intro W hSw
                  (try dsimp only at hSw)
                  go_simp
                  (try with_reducible rfl)
                try simp only [Act.put, List.setIfInBounds_toArray, List.set_cons_zero, List.set_cons_succ]
                refine wpAnyH_ready (rs := [12]) (by kernel_rfl) (by simp) ?_
                refine AllReadyH.cons (o := { dst := _, op := _, type := _, pos := _, after := _, guard := _ }) rfl (fun K hK => ?_) AllReadyH.nil
                have zz : Y0.cell? ⟨g, j * 7, none⟩ = some (.string x.nm) := ((HIV.out.up HY00.out).cells HJT.out HNX.out).2.1
                go_simp
                clear zz
                refine hK.out _ _ ?_ (fun hHeld => ?_)
                · exact (HIV.out.up HY00.out).cell0
                clear hK K
                try simp only [Act.put, List.setIfInBounds_toArray, List.set_cons_zero, List.set_cons_succ]
                refine wpAnyH_take (i := 13) (oi := { dst := _, op := _, type := _, pos := _, after := _, guard := _ }) (v := ?_) rfl (by kernel_rfl) (by kernel_rfl) (by kernel_rfl) (fun _ _ _ h => h) (Or.inl ⟨by rfl, ?_⟩) (by assumption) ?_
                rotate_left
                · intro W hSw
                  (try dsimp only at hSw)
                  have sa := hsa W
                  go_simp
                  (try with_reducible rfl)
                try simp only [Act.put, List.setIfInBounds_toArray, List.set_cons_zero, List.set_cons_succ]
                refine wpAnyH_take (i := 14) (oi := { dst := _, op := _, type := _, pos := _, after := _, guard := _ }) (v := ?_) rfl (by kernel_rfl) (by kernel_rfl) (by kernel_rfl) (fun _ _ _ h => h) (Or.inl ⟨by rfl, ?_⟩) (by assumption) ?_
                rotate_left
                · intro W hSw
                  (try dsimp only at hSw)
                  go_simp
                  (try with_reducible rfl)
                try simp only [Act.put, List.setIfInBounds_toArray, List.set_cons_zero, List.set_cons_succ]
                refine wpAnyH_take (i := 15) (oi := { dst := _, op := _, type := _, pos := _, after := _, guard := _ }) (v := ?_) rfl (by kernel_rfl) (by kernel_rfl) (by kernel_rfl) (fun _ _ _ h => h) (Or.inl ⟨by rfl, ?_⟩) (by assumption) ?_
                rotate_left
                · intro W hSw
                  (try dsimp only at hSw)
                  go_simp
                  (try with_reducible rfl)
                try simp only [Act.put, List.setIfInBounds_toArray, List.set_cons_zero, List.set_cons_succ]
                refine wpAnyH_ready (rs := [16]) (by kernel_rfl) (by simp) ?_
                refine AllReadyH.cons (o := { dst := _, op := _, type := _, pos := _, after := _, guard := _ }) rfl (fun K hK => ?_) AllReadyH.nil
                have zz : Y0.cell? ⟨g, j * 7, none⟩ = some (.string x.nm) := ((HIV.out.up HY00.out).cells HJT.out HNX.out).2.1
                have zf := ((HIV.out.up HY00.out).cells HJT.out HNX.out).2.2.2.1
                go_simp
                clear zf zz
                refine hK.out _ _ ?_ (fun hHeld => ?_)
                · rw [World.cell?_setCell_far _ _ _ _ (by exact HIV.out.ne)]; exact (HIV.out.up HY00.out).cell0
                clear hK K
                try simp only [Act.put, List.setIfInBounds_toArray, List.set_cons_zero, List.set_cons_succ]
                refine wpAnyH_done (by kernel_rfl) ?_ _
                clear hHeld
                refine NoPanic.normal ?_
                obtain ⟨N1, hi9, hn9⟩ := (HIV.out.up HY00.out).put (c := 0) HJT.out (by omega) (by decide) (.string nq) HNX.out ⟨nq, x.nd, x.fd, x.fr, x.tt, x.kd, x.lf⟩ rfl
                have HIV1 : Hid (Iv w #[u 0, u 1, .slice a0 n0 c0, .slice a1 n1 c1, .slice a2 n2 c2, u 5, u 6, u 7, u 8, u 9, u 10, u 11] es L kg n kc6 (.slice (some ⟨eg, 0, none⟩) m ec8) i (j + 1) (.slice (some ⟨g, 0, none⟩) tl cg) t (Y0.setCell ⟨g, j * 7, none⟩ (.string nq)) N1) := hi9
                have HNX1 : Hid ((N1.getD i krd).2.getD j ndd = ⟨nq, x.nd, x.fd, x.fr, x.tt, x.kd, x.lf⟩) := hn9
                obtain ⟨Z1, hZ1⟩ : ∃ Z1, Y0.setCell ⟨g, j * 7, none⟩ (.string nq) = Z1 := ⟨_, rfl⟩
                rw [hZ1] at HIV1 ⊢
                clear hZ1 hi9 hn9 HIV HNX HY00 hsa
                obtain ⟨tq, htq⟩ : ∃ tq, IntKind.i64.wrap (x.tt + 1) = tq := ⟨_, rfl⟩
                go_upto_region 27 with fail
                refine wp_region_noPanic ?_
                have HY20 : Hid (Below Z1.heap.size Z1 Z1.drew) := Below.drew (Below.refl _ _)
                refine wp_region_held_drew (S := fun W => W.cell? ⟨kg, i, none⟩ = some (.slice (some ⟨g, 0, none⟩) tl cg)) (by kernel_rfl) (HIV1.out.up HY20.out).cell0 (fun hHeld => ?_)
                obtain ⟨Y2, hWD⟩ : ∃ WD, Z1.drew = WD := ⟨_, rfl⟩
                rw [hWD] at hHeld HY20 ⊢
                clear hWD
                refine wpAnyH_take (i := 0) (oi := { dst := _, op := _, type := _, pos := _, after := _, guard := _ }) (v := ?_) rfl (by kernel_rfl) (by kernel_rfl) (by kernel_rfl) (fun _ _ _ h => h) (Or.inl ⟨by rfl, ?_⟩) (by assumption) ?_
                rotate_left
                · intro W hSw
                  (try dsimp only at hSw)
                  go_simp
                  (try with_reducible rfl)
                try simp only [Act.put, List.setIfInBounds_toArray, List.set_cons_zero, List.set_cons_succ]
                refine wpAnyH_take (i := 1) (oi := { dst := _, op := _, type := _, pos := _, after := _, guard := _ }) (v := ?_) rfl (by kernel_rfl) (by kernel_rfl) (by kernel_rfl) (fun _ _ _ h => h) (Or.inl ⟨by rfl, ?_⟩) (by assumption) ?_
                rotate_left
                · intro W hSw
                  (try dsimp only at hSw)
                  go_simp
                  (try with_reducible rfl)
                try simp only [Act.put, List.setIfInBounds_toArray, List.set_cons_zero, List.set_cons_succ]
                refine wpAnyH_take (i := 2) (oi := { dst := _, op := _, type := _, pos := _, after := _, guard := _ }) (v := ?_) rfl (by kernel_rfl) (by kernel_rfl) (by kernel_rfl) (fun _ _ _ h => h) (Or.inl ⟨by rfl, ?_⟩) (by assumption) ?_
                rotate_left
                · intro W hSw
                  (try dsimp only at hSw)
                  go_simp
                  (try with_reducible rfl)
                try simp only [Act.put, List.setIfInBounds_toArray, List.set_cons_zero, List.set_cons_succ]
                refine wpAnyH_take (i := 3) (oi := { dst := _, op := _, type := _, pos := _, after := _, guard := _ }) (v := ?_) rfl (by kernel_rfl) (by kernel_rfl) (by kernel_rfl) (fun _ _ _ h => h) (Or.inl ⟨by rfl, ?_⟩) (by assumption) ?_
                rotate_left
                · intro W hSw
                  (try dsimp only at hSw)
                  have z0 := hSw
                  go_simp
                  (try with_reducible rfl)
                try simp only [Act.put, List.setIfInBounds_toArray, List.set_cons_zero, List.set_cons_succ]
                refine wpAnyH_take (i := 4) (oi := { dst := _, op := _, type := _, pos := _, after := _, guard := _ }) (v := ?_) rfl (by kernel_rfl) (by kernel_rfl) (by kernel_rfl) (fun _ _ _ h => h) (Or.inl ⟨by rfl, ?_⟩) (by assumption) ?_
                rotate_left
                · intro W hSw
                  (try dsimp only at hSw)
                  go_simp
                  (try with_reducible rfl)
                try simp only [Act.put, List.setIfInBounds_toArray, List.set_cons_zero, List.set_cons_succ]
                refine wpAnyH_take (i := 5) (oi := { dst := _, op := _, type := _, pos := _, after := _, guard := _ }) (v := ?_) rfl (by kernel_rfl) (by kernel_rfl) (by kernel_rfl) (fun _ _ _ h => h) (Or.inl ⟨by rfl, ?_⟩) (by assumption) ?_
                rotate_left
                · intro W hSw
                  (try dsimp only at hSw)
                  go_simp
                  (try with_reducible rfl)
                try simp only [Act.put, List.setIfInBounds_toArray, List.set_cons_zero, List.set_cons_succ]
                refine wpAnyH_take (i := 6) (oi := { dst := _, op := _, type := _, pos := _, after := _, guard := _ }) (v := ?_) rfl (by kernel_rfl) (by kernel_rfl) (by kernel_rfl) (fun _ _ _ h => h) (Or.inl ⟨by rfl, ?_⟩) (by assumption) ?_
                rotate_left
                · intro W hSw
                  (try dsimp only at hSw)
                  go_simp
                  (try with_reducible rfl)
                try simp only [Act.put, List.setIfInBounds_toArray, List.set_cons_zero, List.set_cons_succ]
                refine wpAnyH_take (i := 7) (oi := { dst := _, op := _, type := _, pos := _, after := _, guard := _ }) (v := ?_) rfl (by kernel_rfl) (by kernel_rfl) (by kernel_rfl) (fun _ _ _ h => h) (Or.inl ⟨by rfl, ?_⟩) (by assumption) ?_
                rotate_left
                · intro W hSw
                  (try dsimp only at hSw)
                  go_simp
                  (try with_reducible rfl)
                try simp only [Act.put, List.setIfInBounds_toArray, List.set_cons_zero, List.set_cons_succ]
                refine wpAnyH_take (i := 8) (oi := { dst := _, op := _, type := _, pos := _, after := _, guard := _ }) (v := ?_) rfl (by kernel_rfl) (by kernel_rfl) (by kernel_rfl) (fun _ _ _ h => h) (Or.inl ⟨by rfl, ?_⟩) (by assumption) ?_
                rotate_left
                · intro W hSw
                  (try dsimp only at hSw)
                  have z0 := hSw
                  go_simp
                  (try with_reducible rfl)
                try simp only [Act.put, List.setIfInBounds_toArray, List.set_cons_zero, List.set_cons_succ]
                refine wpAnyH_take (i := 9) (oi := { dst := _, op := _, type := _, pos := _, after := _, guard := _ }) (v := ?_) rfl (by kernel_rfl) (by kernel_rfl) (by kernel_rfl) (fun _ _ _ h => h) (Or.inl ⟨by rfl, ?_⟩) (by assumption) ?_
                rotate_left
                · intro W hSw
                  (try dsimp only at hSw)
                  go_simp
                  (try with_reducible rfl)
                try simp only [Act.put, List.setIfInBounds_toArray, List.set_cons_zero, List.set_cons_succ]
                refine wpAnyH_take (i := 10) (oi := { dst := _, op := _, type := _, pos := _, after := _, guard := _ }) (v := ?_) rfl (by kernel_rfl) (by kernel_rfl) (by kernel_rfl) (fun _ _ _ h => h) (Or.inl ⟨by rfl, ?_⟩) (by assumption) ?_
                rotate_left
                · intro W hSw
                  (try dsimp only at hSw)
                  go_simp
                  (try with_reducible rfl)
                try simp only [Act.put, List.setIfInBounds_toArray, List.set_cons_zero, List.set_cons_succ]
                refine wpAnyH_take (i := 11) (oi := { dst := _, op := _, type := _, pos := _, after := _, guard := _ }) (v := ?_) rfl (by kernel_rfl) (by kernel_rfl) (by kernel_rfl) (fun _ _ _ h => h) (Or.inl ⟨by rfl, ?_⟩) (by assumption) ?_
                rotate_left
                · intro W hSw
                  (try dsimp only at hSw)
                  go_simp
                  (try with_reducible rfl)
                try simp only [Act.put, List.setIfInBounds_toArray, List.set_cons_zero, List.set_cons_succ]
                refine wpAnyH_ready (rs := [12]) (by kernel_rfl) (by simp) ?_
                refine AllReadyH.cons (o := { dst := _, op := _, type := _, pos := _, after := _, guard := _ }) rfl (fun K hK => ?_) AllReadyH.nil
                have zz : Y2.cell? ⟨g, j * 7 + 4, none⟩ = some (.int .i64 x.tt) := ((HIV1.out.up HY20.out).cells HJT.out HNX1.out).2.2.1
                go_simp
                clear zz
                refine hK.out _ _ ?_ (fun hHeld => ?_)
                · exact (HIV1.out.up HY20.out).cell0
                clear hK K
                try simp only [Act.put, List.setIfInBounds_toArray, List.set_cons_zero, List.set_cons_succ]
                refine wpAnyH_take (i := 13) (oi := { dst := _, op := _, type := _, pos := _, after := _, guard := _ }) (v := ?_) rfl (by kernel_rfl) (by kernel_rfl) (by kernel_rfl) (fun _ _ _ h => h) (Or.inl ⟨by rfl, ?_⟩) (by assumption) ?_
                rotate_left
                · intro W hSw
                  (try dsimp only at hSw)
                  go_simp
                  (try with_reducible rfl)
                try simp only [Act.put, List.setIfInBounds_toArray, List.set_cons_zero, List.set_cons_succ]
                refine wpAnyH_take (i := 14) (oi := { dst := _, op := _, type := _, pos := _, after := _, guard := _ }) (v := ?_) rfl (by kernel_rfl) (by kernel_rfl) (by kernel_rfl) (fun _ _ _ h => h) (Or.inl ⟨by rfl, ?_⟩) (by assumption) ?_
                rotate_left
                · intro W hSw
                  (try dsimp only at hSw)
                  go_simp
                  (try with_reducible rfl)
                try simp only [Act.put, List.setIfInBounds_toArray, List.set_cons_zero, List.set_cons_succ]
                refine wpAnyH_take (i := 15) (oi := { dst := _, op := _, type := _, pos := _, after := _, guard := _ }) (v := ?_) rfl (by kernel_rfl) (by kernel_rfl) (by kernel_rfl) (fun _ _ _ h => h) (Or.inl ⟨by rfl, ?_⟩) (by assumption) ?_
                rotate_left
                · intro W hSw
                  (try dsimp only at hSw)
                  go_simp
                  (try with_reducible rfl)
                try simp only [Act.put, List.setIfInBounds_toArray, List.set_cons_zero, List.set_cons_succ]
                refine wpAnyH_ready (rs := [16]) (by kernel_rfl) (by simp) ?_
                refine AllReadyH.cons (o := { dst := _, op := _, type := _, pos := _, after := _, guard := _ }) rfl (fun K hK => ?_) AllReadyH.nil
                have zz : Y2.cell? ⟨g, j * 7 + 4, none⟩ = some (.int .i64 x.tt) := ((HIV1.out.up HY20.out).cells HJT.out HNX1.out).2.2.1
                have zf := ((HIV1.out.up HY20.out).cells HJT.out HNX1.out).2.2.2.1
                go_simp
                clear zf zz
                refine hK.out _ _ ?_ (fun hHeld => ?_)
                · rw [World.cell?_setCell_far _ _ _ _ (by exact HIV1.out.ne)]; exact (HIV1.out.up HY20.out).cell0
                clear hK K
                try simp only [Act.put, List.setIfInBounds_toArray, List.set_cons_zero, List.set_cons_succ]
                refine wpAnyH_done (by kernel_rfl) ?_ _
                clear hHeld
                refine NoPanic.normal ?_
                obtain ⟨N2, hi9, hn9⟩ := (HIV1.out.up HY20.out).put (c := 4) HJT.out (by omega) (by decide) (.int .i64 tq) HNX1.out ⟨nq, x.nd, x.fd, x.fr, tq, x.kd, x.lf⟩ rfl
                have HIV2 : Hid (Iv w #[u 0, u 1, .slice a0 n0 c0, .slice a1 n1 c1, .slice a2 n2 c2, u 5, u 6, u 7, u 8, u 9, u 10, u 11] es L kg n kc6 (.slice (some ⟨eg, 0, none⟩) m ec8) i (j + 1) (.slice (some ⟨g, 0, none⟩) tl cg) t (Y2.setCell ⟨g, j * 7 + 4, none⟩ (.int .i64 tq)) N2) := hi9
                have HNX2 : Hid ((N2.getD i krd).2.getD j ndd = ⟨nq, x.nd, x.fd, x.fr, tq, x.kd, x.lf⟩) := hn9
                obtain ⟨Z2, hZ2⟩ : ∃ Z2, Y2.setCell ⟨g, j * 7 + 4, none⟩ (.int .i64 tq) = Z2 := ⟨_, rfl⟩
                rw [hZ2] at HIV2 ⊢
                clear hZ2 hi9 hn9 HIV1 HNX1 HY20 htq
                clear p0
                have p0 := HIV2.out.cell0
                have p1 : Z2.cell? ⟨g, j * 7 + 2, none⟩ = some (.string x.fd) := (HIV2.out.cells HJT.out HNX2.out).2.2.2.2
                have p2 := (HIV2.out.cells HJT.out HNX2.out).2.2.2.1
                obtain ⟨N3, hi9, _⟩ := HIV2.out.put (c := 2) HJT.out (by omega) (by decide) (.string ⟨#[111, 116, 104, 101, 114]⟩) HNX2.out ⟨nq, x.nd, ⟨#[111, 116, 104, 101, 114]⟩, x.fr, tq, x.kd, x.lf⟩ rfl
                have HIV3 : Hid (Iv w #[u 0, u 1, .slice a0 n0 c0, .slice a1 n1 c1, .slice a2 n2 c2, u 5, u 6, u 7, u 8, u 9, u 10, u 11] es L kg n kc6 (.slice (some ⟨eg, 0, none⟩) m ec8) i (j + 1) (.slice (some ⟨g, 0, none⟩) tl cg) t (Z2.setCell ⟨g, j * 7 + 2, none⟩ (.string ⟨#[111, 116, 104, 101, 114]⟩)) N3) := hi9
                clear hi9 e1 e2 e4 e5
                go_wp2_with fail
                go_roundg (tl - (j + 1))
                case measure => have := HJ.out.1; have := HJM.out; omega
                case rel => exact ⟨j + 1, N3, by first | rfl | (rw [show (j : Int) + 1 = ((j + 1 : Nat) : Int) by omega]), ⟨rfl, HJM.out⟩, HIV3⟩
              · have e4 : decide ((j : Int) < (tl : Int)) = false := by rw [decide_eq_false_iff_not]; omega
                have e5 : decide (j < tl) = false := by rw [decide_eq_false_iff_not]; omega
                clear hj
                go_wp2_with fail
                go_roundg (n - (i + 1))
                case measure => have := HI.out.1; have := HIM.out; omega
                case rel => exact ⟨i + 1, N, by first | rfl | (rw [show (i : Int) + 1 = ((i + 1 : Nat) : Int) by omega]), ⟨rfl, HIM.out⟩, HIV.out.l, HIV.out.k, HIV.out.d, HIV.out.e, HIV.out.x, HIV.out.b, fun k hk hkl => HIV.out.f k (by omega) hkl⟩
          · have e1 : decide ((i : Int) < (n : Int)) = false := by rw [decide_eq_false_iff_not]; omega
            have e2 : decide (i < n) = false := by rw [decide_eq_false_iff_not]; omega
            clear hi
            go_upto_region 29 with fail
            clear e1 e2
            refine wp_region_noPanic ?_
            refine wp_region_held_drew (S := fun W => Below wr.heap.size wr W) (by kernel_rfl) (Below.drew (Below.refl _ _)) (fun hHeld => ?_)
            obtain ⟨WD, hWD⟩ : ∃ WD, wr.drew = WD := ⟨_, rfl⟩
            have HD : Hid (Below wr.heap.size wr WD) := by rw [← hWD]; exact Below.drew (Below.refl _ _)
            rw [hWD] at hHeld ⊢
            clear hWD
            refine wpAnyH_take (i := 0) (oi := { dst := _, op := _, type := _, pos := _, after := _, guard := _ }) (v := ?_) rfl (by kernel_rfl) (by kernel_rfl) (by kernel_rfl) (fun _ _ _ h => h) (Or.inl ⟨by rfl, ?_⟩) (by assumption) ?_
            rotate_left
            · intro W hSw
              (try dsimp only at hSw)
              have x0 := below_cell hSw (rcell HXN.out 0 _ rfl)
              have x1 := below_cell hSw (rcell HXN.out 1 _ rfl)
              have x2 := below_cell hSw (rcell HXN.out 2 _ rfl)
              have x3 := below_cell hSw (rcell HXN.out 3 _ rfl)
              have x4 := below_cell hSw (rcell HXN.out 4 _ rfl)
              have x5 := below_cell hSw (rcell HXN.out 5 _ rfl)
              have x6 := below_cell hSw (rcell HXN.out 6 _ rfl)
              have x7 := below_cell hSw (rcell HXN.out 7 _ rfl)
              have x8 := below_cell hSw (rcell HXN.out 8 _ rfl)
              have x9 := below_cell hSw (rcell HXN.out 9 _ rfl)
              have x10 := below_cell hSw (rcell HXN.out 10 _ rfl)
              have x11 := below_cell hSw (rcell HXN.out 11 _ rfl)
              go_simp
              (try with_reducible rfl)
            try simp only [Act.put, List.setIfInBounds_toArray, List.set_cons_zero, List.set_cons_succ]
            refine wpAnyH_take (i := 1) (oi := { dst := _, op := _, type := _, pos := _, after := _, guard := _ }) (v := ?_) rfl (by kernel_rfl) (by kernel_rfl) (by kernel_rfl) (fun _ _ _ h => h) (Or.inl ⟨by rfl, ?_⟩) (by assumption) ?_
            rotate_left
            · intro W hSw
              (try dsimp only at hSw)
              go_simp
              (try with_reducible rfl)
            try simp only [Act.put, List.setIfInBounds_toArray, List.set_cons_zero, List.set_cons_succ]
            refine wpAnyH_take (i := 2) (oi := { dst := _, op := _, type := _, pos := _, after := _, guard := _ }) (v := ?_) rfl (by kernel_rfl) (by kernel_rfl) (by kernel_rfl) (fun _ _ _ h => h) (Or.inl ⟨by rfl, ?_⟩) (by assumption) ?_
            rotate_left
            · intro W hSw
              (try dsimp only at hSw)
              go_simp
              (try with_reducible rfl)
            try simp only [Act.put, List.setIfInBounds_toArray, List.set_cons_zero, List.set_cons_succ]
            refine wpAnyH_take (i := 3) (oi := { dst := _, op := _, type := _, pos := _, after := _, guard := _ }) (v := ?_) rfl (by kernel_rfl) (by kernel_rfl) (by kernel_rfl) (fun _ _ _ h => h) (Or.inl ⟨by rfl, ?_⟩) (by assumption) ?_
            rotate_left
            · intro W hSw
              (try dsimp only at hSw)
              go_simp
              (try with_reducible rfl)
            try simp only [Act.put, List.setIfInBounds_toArray, List.set_cons_zero, List.set_cons_succ]
            refine wpAnyH_take (i := 4) (oi := { dst := _, op := _, type := _, pos := _, after := _, guard := _ }) (v := ?_) rfl (by kernel_rfl) (by kernel_rfl) (by kernel_rfl) (fun _ _ _ h => h) (Or.inl ⟨by rfl, ?_⟩) (by assumption) ?_
            rotate_left
            · intro W hSw
              (try dsimp only at hSw)
              go_simp
              (try with_reducible rfl)
            try simp only [Act.put, List.setIfInBounds_toArray, List.set_cons_zero, List.set_cons_succ]
            refine wpAnyH_take (i := 5) (oi := { dst := _, op := _, type := _, pos := _, after := _, guard := _ }) (v := ?_) rfl (by kernel_rfl) (by kernel_rfl) (by kernel_rfl) (fun _ _ _ h => h) (Or.inl ⟨by rfl, ?_⟩) (by assumption) ?_
            rotate_left
            · intro W hSw
              (try dsimp only at hSw)
              go_simp
              (try with_reducible rfl)
            try simp only [Act.put, List.setIfInBounds_toArray, List.set_cons_zero, List.set_cons_succ]
            refine wpAnyH_take (i := 7) (oi := { dst := _, op := _, type := _, pos := _, after := _, guard := _ }) (v := ?_) rfl (by kernel_rfl) (by kernel_rfl) (by kernel_rfl) (fun _ _ _ h => h) (Or.inl ⟨by rfl, ?_⟩) (by assumption) ?_
            rotate_left
            · intro W hSw
              (try dsimp only at hSw)
              go_simp
              (try with_reducible rfl)
            try simp only [Act.put, List.setIfInBounds_toArray, List.set_cons_zero, List.set_cons_succ]
            refine wpAnyH_ready (rs := [6]) (by kernel_rfl) (by simp) ?_
            refine AllReadyH.cons (o := { dst := _, op := _, type := _, pos := _, after := _, guard := _ }) rfl (fun K hK => ?_) AllReadyH.nil
            go_simp
            refine Calls.mono (copiedAll_any WD (HKN.out.up HD.out).kr (by rw [HNL.out]; have := HNB.out; omega) (fun x hx => by have := max_lens HLN.out HSQ.out x hx; show _ ≤ _; omega)) ?_
            rintro ee V1 ⟨cv, C, rfl, hc1, hc2, hb1⟩
            have HC1 : Hid (Ko WD.heap.size V1 cv C) := hc1
            have HC2 : Hid (C.map Prod.snd = N.map Prod.snd) := hc2
            have HV1 : Hid (Below wr.heap.size wr V1) := below_trans HD.out hb1
            obtain ⟨ca, cc, rfl⟩ := row_shape hc1.1
            clear hc1 hc2 hb1
            go_wp2_with fail
            refine hK.out _ _ ?_ (fun hHeld => ?_)
            · exact HV1.out
            clear hK K
            try simp only [Act.put, List.setIfInBounds_toArray, List.set_cons_zero, List.set_cons_succ]
            refine wpAnyH_ready (rs := [8]) (by kernel_rfl) (by simp) ?_
            refine AllReadyH.cons (o := { dst := _, op := _, type := _, pos := _, after := _, guard := _ }) rfl (fun K hK => ?_) AllReadyH.nil
            go_simp
            refine Calls.mono (HSH.out _ V1 _ _ _ N C (below_trans HBW.out HV1.out) (HKN.out.up HV1.out) HC1.out.kr HC2.out.symm HLN.out (HEN.out.up HV1.out)) ?_
            rintro ee V2 ⟨rfl, hb2⟩
            have HV2 : Hid (Below wr.heap.size wr V2) := below_trans HV1.out hb2
            clear hb2
            go_wp2_with fail
            refine hK.out _ _ ?_ (fun hHeld => ?_)
            · exact HV2.out
            clear hK K
            try simp only [Act.put, List.setIfInBounds_toArray, List.set_cons_zero, List.set_cons_succ]
            refine wpAnyH_take (i := 9) (oi := { dst := _, op := _, type := _, pos := _, after := _, guard := _ }) (v := ?_) rfl (by kernel_rfl) (by kernel_rfl) (by kernel_rfl) (fun _ _ _ h => h) (Or.inl ⟨by rfl, ?_⟩) (by assumption) ?_
            rotate_left
            · intro W hSw
              (try dsimp only at hSw)
              go_simp
              (try with_reducible rfl)
            try simp only [Act.put, List.setIfInBounds_toArray, List.set_cons_zero, List.set_cons_succ]
            refine wpAnyH_done (by kernel_rfl) ?_ _
            clear hHeld
            refine NoPanic.normal ?_
            go_wp2_with fail
            go_ret
            exact ⟨rfl, below_trans HBW.out HV2.out⟩
end Go.Proofs.Ytcfmpmhdjkchjaa
