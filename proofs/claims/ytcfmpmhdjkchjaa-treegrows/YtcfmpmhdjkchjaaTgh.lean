import Derived.Test.YtcfmpmhdjkchjaaTgg
namespace Go.Proofs.Ytcfmpmhdjkchjaa
open Go.RowKit Go.Maps

/-- What the first symbols of a production show. -/
def pts (Te : List Td) (Sy : List Sd) (rs : List Rf) (ks : List (List Nd)) (es : List Int) : Nat → List Nd
  | 0 => []
  | i + 1 => pts Te Sy rs ks es i ++ part Te Sy (rs.getD i rfd) (ks.getD i []) (es.getD (i + 1) 0)
/-- What a production shows. -/
def red (Te : List Td) (Sy : List Sd) (lhs : Int) (rs : List Rf) (ks : List (List Nd)) (es : List Int) : List Nd :=
  if ish Sy lhs = true then hed (Sy.getD lhs.toNat sdd).1 (pts Te Sy rs ks es rs.length) (es.getD rs.length 0) :: pts Te Sy rs ks es rs.length else pts Te Sy rs ks es rs.length
theorem rt_app : ∀ (l k : List Int) (a b : Nat), rt l = some a → rt k = some b → rt (l ++ k) = some (a + b)
  | [], k, a, b, h, hk => by cases h; rw [List.nil_append, Nat.zero_add]; exact hk
  | x :: l, k, a, b, h, hk => by
    obtain ⟨q, hq, h0, h1, rfl⟩ := rt_cons h
    have ih := rt_app l k q b hq hk
    show rt (x :: (l ++ k)) = _
    unfold rt
    rw [ih]
    dsimp only
    rw [if_pos (by omega)]
    congr 1; omega
theorem Fo.app {t s : List Nd} (h : Fo (kds t)) (k : Fo (kds s)) : Fo (kds (t ++ s)) := by
  obtain ⟨a, ha⟩ := h
  obtain ⟨b, hb⟩ := k
  exact ⟨a + b, by unfold kds at *; rw [List.map_append]; exact rt_app _ _ _ _ ha hb⟩
theorem pts_fo {Te : List Td} {Sy : List Sd} {rs : List Rf} {ks : List (List Nd)} {es : List Int} (h : ∀ t ∈ ks, Fo (kds t)) : ∀ i, Fo (kds (pts Te Sy rs ks es i))
  | 0 => ⟨0, rfl⟩
  | i + 1 => by
    refine (pts_fo h i).app (part_fo ?_)
    rw [List.getD_eq_getElem?_getD]
    cases hq : ks[i]? with
    | none => exact ⟨0, rfl⟩
    | some t => exact h t (List.mem_of_getElem? hq)
theorem pts_len (Te : List Td) (Sy : List Sd) (rs : List Rf) (ks : List (List Nd)) (es : List Int) : ∀ i, i ≤ ks.length → (pts Te Sy rs ks es i).length + 1 ≤ rom (ks.take i)
  | 0, _ => by rw [List.take_zero]; exact Nat.le_refl _
  | i + 1, h => by
    have ih := pts_len Te Sy rs ks es i (by omega)
    rw [take_getD ks [] i (by omega), rom_app]
    show (pts Te Sy rs ks es i ++ part Te Sy (rs.getD i rfd) (ks.getD i []) (es.getD (i + 1) 0)).length + 1 ≤ _
    rw [List.length_append]
    have := part_len Te Sy (rs.getD i rfd) (ks.getD i []) (es.getD (i + 1) 0)
    omega
theorem rom_ge : ∀ ks : List (List Nd), ks.length + 1 ≤ rom ks
  | [] => Nat.le_refl _
  | t :: l => by have := rom_ge l; show (t :: l).length + 1 ≤ rom l + (t.length + 1); rw [List.length_cons]; omega
theorem own_put7 {B : Nat} {W : World} {g n cap : Nat} {y x : Nd} {X : List Nd} (h : W.ownsRow B 33 7 (.slice (some ⟨g, 0, none⟩) n cap) n (flat nf (y :: X))) :
    (((((((W.setCell ⟨g, 0, none⟩ (.string x.nm)).setCell ⟨g, 1, none⟩ (.bool x.nd)).setCell ⟨g, 2, none⟩ (.string x.fd)).setCell ⟨g, 3, none⟩ (.int .i64 x.fr)).setCell ⟨g, 4, none⟩ (.int .i64 x.tt)).setCell ⟨g, 5, none⟩ (.int .i64 x.kd)).setCell ⟨g, 6, none⟩ (.int .i64 x.lf)).ownsRow B 33 7 (.slice (some ⟨g, 0, none⟩) n cap) n (flat nf (x :: X)) :=
  row_set (row_set (row_set (row_set (row_set (row_set (row_set h 0 (.string x.nm)) 1 (.bool x.nd)) 2 (.string x.fd)) 3 (.int .i64 x.fr)) 4 (.int .i64 x.tt)) 5 (.int .i64 x.kd)) 6 (.int .i64 x.lf)
theorem grown_put7 {W : World} {g : Nat} {x : Nd} : W.grownBy (((((((W.setCell ⟨g, 0, none⟩ (.string x.nm)).setCell ⟨g, 1, none⟩ (.bool x.nd)).setCell ⟨g, 2, none⟩ (.string x.fd)).setCell ⟨g, 3, none⟩ (.int .i64 x.fr)).setCell ⟨g, 4, none⟩ (.int .i64 x.tt)).setCell ⟨g, 5, none⟩ (.int .i64 x.kd)).setCell ⟨g, 6, none⟩ (.int .i64 x.lf)) (some g) :=
  (((((grown_set.trans grown_set).trans grown_set).trans grown_set).trans grown_set).trans grown_set).trans grown_set
/-- Numbers in memory. -/
abbrev Is (W : World) (v : Value) (l : List Int) : Prop := Rw W v l.length (iC l)
theorem Is.at {W : World} {a : Option Addr} {n cap : Nat} {l : List Int} (h : Is W (.slice a n cap) l) (i : Nat) (hi : i < l.length) : ∃ g o, a = some ⟨g, o, none⟩ ∧ W.cell? ⟨g, o + i, none⟩ = some (.int .i64 (l.getD i 0)) := by
  obtain ⟨g, o, cap', e, hc⟩ := Rw.place h (by omega)
  obtain ⟨rfl, -, -⟩ := Value.slice.inj e
  exact ⟨g, o, rfl, hc _ _ (iC_get l i hi)⟩
theorem Rw.ref {W : World} {a : Option Addr} {n cap : Nat} {l : List Rf} (h : Rw W (.slice a n cap) l.length (flat rf l)) (i : Nat) (hi : i < l.length) : ∃ g o, a = some ⟨g, o, none⟩ ∧ W.cell? ⟨g, o + i * 3, none⟩ = some (.int .i64 (l.getD i rfd).1) ∧ W.cell? ⟨g, o + i * 3 + 1, none⟩ = some (.string (l.getD i rfd).2.1) ∧ W.cell? ⟨g, o + i * 3 + 2, none⟩ = some (.string (l.getD i rfd).2.2) := by
  obtain ⟨g, o, cap', e, hc⟩ := Rw.place h (by omega)
  obtain ⟨rfl, -, -⟩ := Value.slice.inj e
  obtain ⟨q0, q1, q2⟩ := rf_get l i hi
  exact ⟨g, o, rfl, hc _ _ q0, by rw [Nat.add_assoc]; exact hc _ _ q1, by rw [Nat.add_assoc]; exact hc _ _ q2⟩
set_option maxRecDepth 100000 in
set_option maxHeartbeats 16000000 in
theorem reduced_any {v0 v1 v2 vr vk ve : Value} {Te : List Td} {Sy : List Sd} {P : List Pd} {rs : List Rf} {L : List (Value × List Nd)} {es : List Int} (lhs : Int) (w : World) (hg : Gx w v0 v1 v2 Te Sy P) (hgs : Gs Te Sy P) (hr : Rw w vr rs.length (flat rf rs)) (hri : ∀ x ∈ rs, x.1 ≤ 9223372036854775807) (hk : Kr w vk L) (he : Is w ve es) (hL : L.length = rs.length) (hE : es.length = rs.length + 1) (hf : ∀ x ∈ L, Fo (kds x.2)) (hsz : rom (L.map Prod.snd) * 72 + 4096 ≤ 140737488355328) :
    Calls Try.prog 66 #[.agg #[v0, v1, v2], .agg #[.int .i64 lhs, vr], vk, ve] w fun e w' => ∃ g cap, e = .returned (.slice (some ⟨g, 0, none⟩) (red Te Sy lhs rs (L.map Prod.snd) es).length cap) ∧ Og w.heap.size w' g cap (red Te Sy lhs rs (L.map Prod.snd) es) ∧ Below w.heap.size w w' := by
  obtain ⟨iN, hiN, hx0, hx1, hx2⟩ := info_parts infoNd
  have HG : Hid (Gx w v0 v1 v2 Te Sy P) := hg
  have HGS : Hid (Gs Te Sy P) := hgs
  have HRI : Hid (∀ x ∈ rs, x.1 ≤ 9223372036854775807) := hri
  have HF : Hid (∀ x ∈ L, Fo (kds x.2)) := hf
  have HSZ : Hid (rom (L.map Prod.snd) * 72 + 4096 ≤ 140737488355328) := hsz
  have HK : Hid (Kr w vk L) := hk
  have HR : Hid (Rw w vr rs.length (flat rf rs)) := hr
  have HE : Hid (Is w ve es) := he
  have HEL : Hid (es.length = rs.length + 1) := hE
  obtain ⟨a0, c0, a1, c1, a2, c2, rfl, rfl, rfl⟩ := hg.form
  obtain ⟨ka, kc, rfl⟩ := hk.t.form
  obtain ⟨ra, rc, rfl⟩ := hr.form
  obtain ⟨ea, ec, rfl⟩ := Rw.form he
  clear hg hgs hr hri hk he hf hsz
  obtain ⟨n0, hn0⟩ : ∃ n, Te.length = n := ⟨_, rfl⟩
  obtain ⟨n1, hn1⟩ : ∃ n, Sy.length = n := ⟨_, rfl⟩
  obtain ⟨n2, hn2⟩ : ∃ n, P.length = n := ⟨_, rfl⟩
  obtain ⟨n, hn⟩ : ∃ n, rs.length = n := ⟨_, rfl⟩
  obtain ⟨ne, hne⟩ : ∃ ne, es.length = ne := ⟨_, rfl⟩
  have HN1 : Hid (Sy.length = n1) := hn1
  have HN : Hid (rs.length = n) := hn
  have HLN : Hid (L.length = n) := hL.trans hn
  have HNE : Hid (ne = n + 1) := by rw [← hne, hE, hn]; exact rfl
  rw [hL, hn] at HK ⊢
  rw [hn] at HR HEL
  rw [hne] at HE ⊢
  rw [hn0, hn1, hn2] at HG ⊢
  clear hn0 hn1 hn2 hn hL hE hne
  obtain ⟨ks, hks⟩ : ∃ ks, L.map Prod.snd = ks := ⟨_, rfl⟩
  have HKS : Hid (L.map Prod.snd = ks) := hks
  rw [hks] at HSZ ⊢
  clear hks
  have HKL : Hid (ks.length = n) := by rw [← HKS.out, List.length_map]; exact HLN.out
  have HKF : Hid (∀ t ∈ ks, Fo (kds t)) := fun t ht => by
    rw [← HKS.out] at ht
    obtain ⟨x, hx, rfl⟩ := List.mem_map.1 ht
    exact HF.out x hx
  have HPL : Hid (∀ i, i ≤ n → (pts Te Sy rs ks es i).length + 1 ≤ rom ks) := fun i hi => Nat.le_trans (pts_len Te Sy rs ks es i (by rw [HKL.out]; exact hi)) (rom_take _ _)
  obtain ⟨W1, hW1⟩ : ∃ W1, W1 = (w.alloc (.cells #[.slice a0 n0 c0, .slice a1 n1 c1, .slice a2 n2 c2] 41)).alloc (.cells #[.int .i64 lhs, .slice ra n rc] 100) := ⟨_, rfl⟩
  have HB1 : Hid (Below w.heap.size w W1) := by rw [hW1]; exact below_trans (bel_up _ _) (bel_up _ _)
  have HX1 : Hid (W1.heap[w.heap.size]? = some (.cells #[.slice a0 n0 c0, .slice a1 n1 c1, .slice a2 n2 c2] 41 (0, 0))) := by rw [hW1]; exact ((bel_up (w.alloc _) _).block w.heap.size (by simp)).trans (heap_new _ _)
  have HY1 : Hid (W1.heap[w.heap.size + 1]? = some (.cells #[.int .i64 lhs, .slice ra n rc] 100 (0, 0))) := by rw [hW1]; exact heap_new2 _ _ _
  have HRM : Hid (∀ W, Below w.heap.size w W → Calls Try.prog 76 #[.slice ka n kc] W fun e w' => e = .returned (.int .i64 (rom ks : Nat)) ∧ W = w') := fun W hb => by
    have h7 := room_any W (HK.out.up hb) (by rw [HKS.out]; have := HSZ.out; omega)
    rw [HKS.out] at h7
    exact h7
  go_enter Try.func66, Try.ntmps66
  go_upto_region 1 with fail
  rw [← hW1]
  clear hW1
  obtain ⟨gb, hgb⟩ : ∃ gb, w.heap.size = gb := ⟨_, rfl⟩
  have HGB : Hid (w.heap.size = gb) := hgb
  rw [hgb] at HX1 HY1 ⊢
  obtain ⟨pb, hpb⟩ : ∃ pb, gb + 1 = pb := ⟨_, rfl⟩
  rw [hpb] at HY1 ⊢
  clear hgb hpb
  obtain ⟨R, hR⟩ : ∃ R, rom ks = R := ⟨_, rfl⟩
  rw [hR] at HSZ HRM HPL
  have HRE : Hid (rom ks = R) := hR
  clear hR
  go_upto_region 2 with first | (go_at_call 76; refine Calls.mono (HRM.out _ HB1.out) ?_; rintro ee ww ⟨rfl, rfl⟩) | (refine wpList_make_own _ rfl _ _ 22 rfl W1.heap.size 33 iN _ 7 Try.underlying22 hiN hx0 hx1 .i64 .i64 _ R rfl rfl rfl (by rw [hx2]; have := HSZ.out; omega) (by have := HSZ.out; unfold maxLen; omega) (Nat.le_refl _) ?_; intro W2 ho2 hg2; have HO2 : Hid (W2.ownsRow W1.heap.size 33 7 (.slice (some ⟨W1.heap.size, 0, none⟩) 0 R) 0 []) := ho2; have HB2 : Hid (Below W1.heap.size W1 W2) := (Below.refl _ _).grown hg2 (Nat.le_refl _) (fun r hr => by cases hr); clear ho2 hg2)
  have x0 := below_cell HB2.out (rcell HX1.out 0 _ rfl)
  have x1 := below_cell HB2.out (rcell HX1.out 1 _ rfl)
  have x2 := below_cell HB2.out (rcell HX1.out 2 _ rfl)
  have y0 := below_cell HB2.out (rcell HY1.out 0 _ rfl)
  go_upto_region 3 with (go_at_call 77; refine (isShown_any _ (HG.out.up (below_trans HB1.out HB2.out)) _).mono ?_; rintro ee W3 ⟨rfl, hb5⟩; have HB3 : Hid (Below W1.heap.size W1 W3) := HB2.out.trans (hb5.mono HB2.out.size); have HO3 : Hid (W3.ownsRow W1.heap.size 33 7 (.slice (some ⟨W1.heap.size, 0, none⟩) 0 R) 0 []) := row_up HO2.out hb5; clear hb5)
  clear x0 x1 x2 y0
  obtain ⟨bs, hbs⟩ : ∃ bs, ish Sy lhs = bs := ⟨_, rfl⟩
  have HBS : Hid (ish Sy lhs = bs) := hbs
  rw [hbs]
  clear hbs
  obtain ⟨T0, hT0⟩ : ∃ T0 : List Nd, T0 = if bs = true then [ndd] else [] := ⟨_, rfl⟩
  have HT0 : Hid (T0 = if bs = true then [ndd] else []) := hT0
  clear hT0
  have HRW : Hid (∀ W : World, Rw (W.alloc (.cells #[.string ⟨#[]⟩, .bool false, .string ⟨#[]⟩, .int .i64 0, .int .i64 0, .int .i64 0, .int .i64 0] 33)) (.slice (some ⟨W.heap.size, 0, none⟩) 1 1) 1 (flat nf [ndd])) := fun W => ⟨_, W.heap.size, 0, 1, rfl, Nat.le_refl _, (fun h => by cases h), fun _ => rfl, fun j u hu => by rw [show flat nf [ndd] = nf ndd from List.append_nil _] at hu; rw [Nat.zero_add]; refine rcell (heap_new _ _) j u ?_; rw [← Array.getElem?_toList]; exact hu⟩
  have HRX : Hid (Rw (W3.alloc (.cells #[.string ⟨#[]⟩, .bool false, .string ⟨#[]⟩, .int .i64 0, .int .i64 0, .int .i64 0, .int .i64 0] 33)) (.slice (some ⟨W3.heap.size, 0, none⟩) 1 1) 1 (flat nf [ndd])) := HRW.out W3
  have HOX : Hid ((W3.alloc (.cells #[.string ⟨#[]⟩, .bool false, .string ⟨#[]⟩, .int .i64 0, .int .i64 0, .int .i64 0, .int .i64 0] 33)).ownsRow W1.heap.size 33 7 (.slice (some ⟨W1.heap.size, 0, none⟩) 0 R) 0 []) := HO3.out.alloc _
  have HBX : Hid (Below W1.heap.size W1 (W3.alloc (.cells #[.string ⟨#[]⟩, .bool false, .string ⟨#[]⟩, .int .i64 0, .int .i64 0, .int .i64 0, .int .i64 0] 33))) := HB3.out.trans ((bel_up W3 _).mono HB3.out.size)
  have HSX : Hid (W1.heap.size ≤ (W3.alloc (.cells #[.string ⟨#[]⟩, .bool false, .string ⟨#[]⟩, .int .i64 0, .int .i64 0, .int .i64 0, .int .i64 0] 33)).heap.size) := HBX.out.size
  go_upto_if 20 with fail
  go_cut [9] from 20 to 24 (fun v9 wx => ∃ g cap l : Nat, v9 = .slice (some ⟨g, 0, none⟩) l cap ∧ Hid (l = T0.length) ∧ Hid (Og W1.heap.size wx g cap T0) ∧ Hid (Below W1.heap.size W1 wx))
  case first =>
    cases bs
    · have HTE : Hid (T0 = []) := by rw [HT0.out, if_neg (by decide)]; exact rfl
      go_wp2_with fail
      go_meet
      exact ⟨_, _, _, rfl, by rw [HTE.out]; exact rfl, by rw [HTE.out]; exact HO3.out, HB3⟩
    · have HTE : Hid (T0 = [ndd]) := by rw [HT0.out, if_pos rfl]; exact rfl
      go_wp2_with (at_builtin; refine wpList_push _ rfl _ _ 22 rfl W1.heap.size 33 iN _ 7 72 Try.underlying22 hiN hx0 hx1 hx2 rfl (by decide) W1.heap.size 0 R _ rfl HOX.out _ 1 (flat nf [ndd]) rfl HRX.out rfl (flat_one nf_one [ndd]) (by decide) (by decide) HSX.out ?_; intro g4 cap4 W4 ho9 hg9; have HO4 : Hid (Og W1.heap.size W4 g4 cap4 [ndd]) := ho9; have HB4 : Hid (Below W1.heap.size W1 W4) := HBX.out.grown hg9 HSX.out (fun r hr => by cases hr; exact (row_tag HOX.out _ rfl).1); clear ho9 hg9)
      go_meet
      exact ⟨_, _, _, rfl, by rw [HTE.out]; exact rfl, by rw [HTE.out]; exact HO4.out, HB4⟩
  case rest =>
    clear HRX HOX HBX HSX HO3 HB3 HRW HO2 HB2
    obtain ⟨g0, cap0, l0, rfl, HL0, HO0, HB0⟩ := hcut
    have y1 := below_cell HB0.out (rcell HY1.out 1 _ rfl)
    go_upto_region 6 with fail
    clear y1
    go_loopg [9, 28] n (fun gm v9 v28 wr => ∃ i g cap l : Nat, v9 = .slice (some ⟨g, 0, none⟩) l cap ∧ v28 = .int .i64 (i : Int) ∧ Hid (gm = n - i ∧ i ≤ n) ∧ Hid (l = (T0 ++ pts Te Sy rs ks es i).length) ∧ Hid (Og W1.heap.size wr g cap (T0 ++ pts Te Sy rs ks es i)) ∧ Hid (Below W1.heap.size W1 wr))
    case atStart => exact ⟨0, g0, cap0, l0, rfl, rfl, ⟨rfl, Nat.zero_le _⟩, by show _ = (T0 ++ []).length; rw [List.append_nil]; exact HL0.out, by show Og _ _ _ _ (T0 ++ []); rw [List.append_nil]; exact HO0.out, HB0⟩
    case round =>
      clear HL0 HO0 HB0
      obtain ⟨i, g, cap, l, rfl, rfl, HI, HL, HO, HBW⟩ := hrel
      have HTL : Hid (T0.length ≤ 1) := by show T0.length ≤ 1; rw [HT0.out]; cases bs <;> decide
      by_cases hi : i < n
      · have e1 : decide ((i : Int) < (n : Int)) = true := by rw [decide_eq_true_eq]; omega
        have e2 : decide (i < n) = true := by rw [decide_eq_true_eq]; omega
        have e3 : (i : Int) < (n : Int) := by omega
        have e4 : i < n := hi
        have HIM : Hid (i < n) := hi
        have HBA : Hid (∀ W, Below W1.heap.size W1 W → Below w.heap.size w W) := fun W hb => HB1.out.trans (hb.mono HB1.out.size)
        have hrr := Rw.ref (l := rs) (n := n) (a := ra) (cap := rc) (by rw [HN.out]; exact HR.out) i (by rw [HN.out]; exact hi)
        obtain ⟨rg, ro, rfl, q0, q1, q2⟩ := hrr
        obtain ⟨kg, ko, kb, kcc, rfl, _, p1, p2⟩ := HK.out.at i (by rw [HLN.out]; exact hi)
        obtain ⟨eg, eo, rfl, s1⟩ := HE.out.at (i + 1) (by have := HEL.out; omega)
        have hsk : (L.getD i krd).2 = ks.getD i [] := by rw [← HKS.out, snd_getD]
        rw [hsk] at p1 p2
        have hmem : ks.getD i [] ∈ ks := getD_mem ks [] i (by rw [HKL.out]; exact hi)
        have HKFi : Hid (Fo (kds (ks.getD i []))) := HKF.out _ hmem
        have HZi : Hid ((rs.getD i rfd).1 ≤ 9223372036854775807) := HRI.out _ (getD_mem rs rfd i (by rw [HN.out]; exact hi))
        have hst : (T0 ++ pts Te Sy rs ks es i) ++ part Te Sy (rs.getD i rfd) (ks.getD i []) (es.getD (i + 1) 0) = T0 ++ pts Te Sy rs ks es (i + 1) := by rw [List.append_assoc]; rfl
        have HBD : Hid (((T0 ++ pts Te Sy rs ks es i).length + (ks.getD i []).length + 1) * 72 + 4096 ≤ 140737488355328) := by
          have h1 := pts_len Te Sy rs ks es i (by rw [HKL.out]; omega)
          have h2 := rom_take ks (i + 1)
          rw [take_getD ks [] i (by rw [HKL.out]; exact hi), rom_app, HRE.out] at h2
          have h3 := HSZ.out
          have h4 := HTL.out
          rw [List.length_append]
          show _ ≤ _
          omega
        obtain ⟨rx, hrx⟩ : ∃ rx, rs.getD i rfd = rx := ⟨_, rfl⟩
        obtain ⟨z, fd, nm⟩ := rx
        rw [hrx] at q0 q1 q2 hst HZi
        dsimp only at q0 q1 q2
        obtain ⟨kt, hkt⟩ : ∃ kt, ks.getD i [] = kt := ⟨_, rfl⟩
        rw [hkt] at p1 p2 hst HKFi HBD
        obtain ⟨en, hen⟩ : ∃ en, es.getD (i + 1) 0 = en := ⟨_, rfl⟩
        rw [hen] at s1 hst
        have HZ2 : Hid (z ≤ 9223372036854775807) := HZi.out
        have HAP : Hid (∀ W g cap, Og W1.heap.size W g cap (T0 ++ pts Te Sy rs ks es i) → Below W1.heap.size W1 W → Calls Try.prog 78 #[.slice (some ⟨g, 0, none⟩) l cap, .agg #[.slice a0 n0 c0, .slice a1 n1 c1, .slice a2 n2 c2], .agg #[.int .i64 z, .string fd, .string nm], .slice kb kt.length kcc, .int .i64 en] W fun e w' => ∃ g' cap', e = .returned (.slice (some ⟨g', 0, none⟩) (T0 ++ pts Te Sy rs ks es (i + 1)).length cap') ∧ Og W1.heap.size w' g' cap' (T0 ++ pts Te Sy rs ks es (i + 1)) ∧ Below W1.heap.size W1 w') := fun W g cap h1 h2 => by
          have h7 := appendPart_any W1 W h2 (HG.out.up HB1.out) HGS.out (Ns.up p2 HB1.out) HKFi.out h1 z fd nm en HZ2.out HBD.out
          rw [hst, ← HL.out] at h7
          exact h7
        have HLE : Hid ((T0 ++ pts Te Sy rs ks es (i + 1)).length * 72 ≤ 140737488355328) := by
          have h1 := HPL.out (i + 1) (by omega)
          have h2 := HSZ.out
          have h3 := HTL.out
          rw [List.length_append]
          show _ ≤ _
          omega
        obtain ⟨l1, hl1⟩ : ∃ l1, (T0 ++ pts Te Sy rs ks es (i + 1)).length = l1 := ⟨_, rfl⟩
        rw [hl1] at HAP
        have HL1 : Hid (l1 = (T0 ++ pts Te Sy rs ks es (i + 1)).length) := hl1.symm
        obtain ⟨km, hkm⟩ : ∃ km, kt.length = km := ⟨_, rfl⟩
        rw [hkm] at p1 HAP
        have q0 := below_cell (HBA.out _ HBW.out) q0
        have q1 := below_cell (HBA.out _ HBW.out) q1
        have q2 := below_cell (HBA.out _ HBW.out) q2
        obtain ⟨W4, hW4⟩ : ∃ W4, W4 = wr.alloc (.cells #[.int .i64 z, .string fd, .string nm] 97) := ⟨_, rfl⟩
        have HO4 : Hid (Og W1.heap.size W4 g cap (T0 ++ pts Te Sy rs ks es i)) := by rw [hW4]; exact HO.out.alloc _
        have HB4 : Hid (Below W1.heap.size W1 W4) := by rw [hW4]; exact HBW.out.trans ((bel_up _ _).mono HBW.out.size)
        have HR4 : Hid (Rb W4 wr.heap.size (z, fd, nm)) := by rw [hW4]; exact heap_new _ _
        have P1 : Hid (w.cell? ⟨kg, ko + i, none⟩ = some (.slice kb km kcc)) := p1
        have S1 : Hid (w.cell? ⟨eg, eo + (i + 1), none⟩ = some (.int .i64 en)) := s1
        have HSS : Hid (∀ W, Below W1.heap.size W1 W → W.cell? ⟨gb, 0, none⟩ = some (.slice a0 n0 c0) ∧ W.cell? ⟨gb, 1, none⟩ = some (.slice a1 n1 c1) ∧ W.cell? ⟨gb, 2, none⟩ = some (.slice a2 n2 c2) ∧ W.cell? ⟨kg, ko + i, none⟩ = some (.slice kb km kcc) ∧ W.cell? ⟨eg, eo + (i + 1), none⟩ = some (.int .i64 en)) := fun W hb => ⟨below_cell hb (rcell HX1.out 0 _ rfl), below_cell hb (rcell HX1.out 1 _ rfl), below_cell hb (rcell HX1.out 2 _ rfl), below_cell (HBA.out _ hb) P1.out, below_cell (HBA.out _ hb) S1.out⟩
        have hwi := w64n i (by have h1 := HSZ.out; have h2 := HPL.out i (by omega); have h3 := pts_len Te Sy rs ks es n (by rw [HKL.out]; exact Nat.le_refl _); have h4 := rom_ge ks; rw [HRE.out, HKL.out] at h4; omega)
        obtain ⟨i1, hi1⟩ : ∃ i1, i + 1 = i1 := ⟨_, rfl⟩
        have HI1 : Hid (i + 1 = i1) := hi1
        rw [hi1] at hwi HSS
        have e5 : (i1 : Int) < (ne : Int) := by have := HNE.out; omega
        have e6 : i1 < ne := by omega
        clear hi p1 p2 s1 hsk hmem hst hrx hkt hen hl1 hkm hi1
        go_upto_region 8 with fail
        rw [← hW4]
        clear hW4
        obtain ⟨rb, hrb⟩ : ∃ rb, wr.heap.size = rb := ⟨_, rfl⟩
        rw [hrb] at HR4 ⊢
        clear hrb q0 q1 q2
        refine wp_region_noPanic ?_
        refine wp_region_held_drew (S := fun W' => W'.cell? ⟨gb, 0, none⟩ = some (.slice a0 n0 c0) ∧ W'.cell? ⟨gb, 1, none⟩ = some (.slice a1 n1 c1) ∧ W'.cell? ⟨gb, 2, none⟩ = some (.slice a2 n2 c2) ∧ W'.cell? ⟨kg, ko + i, none⟩ = some (.slice kb km kcc) ∧ W'.cell? ⟨eg, eo + i1, none⟩ = some (.int .i64 en)) (by kernel_rfl) (HSS.out _ (Below.drew HB4.out)) (fun hHeld => ?_)
        obtain ⟨WD, hWD⟩ : ∃ WD, W4.drew = WD := ⟨_, rfl⟩
        have HOD : Hid (Og W1.heap.size WD g cap (T0 ++ pts Te Sy rs ks es i)) := by rw [← hWD]; exact row_up HO4.out (Below.drew (Below.refl _ _))
        have HRD : Hid (Rb WD rb (z, fd, nm)) := by rw [← hWD]; exact ((Below.drew (Below.refl _ _)).block rb (lt_of_heap HR4.out)).trans HR4.out
        have HBD2 : Hid (Below W1.heap.size W1 WD) := by rw [← hWD]; exact Below.drew HB4.out
        have d0 := rcell HRD.out 0 _ rfl
        have d1 := rcell HRD.out 1 _ rfl
        have d2 := rcell HRD.out 2 _ rfl
        dsimp only at d0 d1 d2
        (try rw [hWD] at hHeld)
        rw [hWD]
        clear hWD
        refine wpAnyH_take (i := 0) (oi := { dst := _, op := _, type := _, pos := _, after := _, guard := _ }) (v := ?_) rfl (by kernel_rfl) (by kernel_rfl) (by kernel_rfl) (fun _ _ _ h => h) (Or.inl ⟨by rfl, ?_⟩) (by assumption) ?_
        rotate_left
        · intro W hSw
          (try dsimp only at hSw)
          obtain ⟨w1, w2, w3, w4, w5⟩ := hSw
          go_simp
          (try with_reducible rfl)
        try simp only [Act.put, List.setIfInBounds_toArray, List.set_cons_zero, List.set_cons_succ]
        refine wpAnyH_take (i := 1) (oi := { dst := _, op := _, type := _, pos := _, after := _, guard := _ }) (v := ?_) rfl (by kernel_rfl) (by kernel_rfl) (by kernel_rfl) (fun _ _ _ h => h) (Or.inl ⟨by rfl, ?_⟩) (by assumption) ?_
        rotate_left
        · intro W hSw
          (try dsimp only at hSw)
          obtain ⟨w1, w2, w3, w4, w5⟩ := hSw
          go_simp
          (try with_reducible rfl)
        try simp only [Act.put, List.setIfInBounds_toArray, List.set_cons_zero, List.set_cons_succ]
        refine wpAnyH_take (i := 3) (oi := { dst := _, op := _, type := _, pos := _, after := _, guard := _ }) (v := ?_) rfl (by kernel_rfl) (by kernel_rfl) (by kernel_rfl) (fun _ _ _ h => h) (Or.inl ⟨by rfl, ?_⟩) (by assumption) ?_
        rotate_left
        · intro W hSw
          (try dsimp only at hSw)
          obtain ⟨w1, w2, w3, w4, w5⟩ := hSw
          go_simp
          (try with_reducible rfl)
        try simp only [Act.put, List.setIfInBounds_toArray, List.set_cons_zero, List.set_cons_succ]
        refine wpAnyH_take (i := 4) (oi := { dst := _, op := _, type := _, pos := _, after := _, guard := _ }) (v := ?_) rfl (by kernel_rfl) (by kernel_rfl) (by kernel_rfl) (fun _ _ _ h => h) (Or.inl ⟨by rfl, ?_⟩) (by assumption) ?_
        rotate_left
        · intro W hSw
          (try dsimp only at hSw)
          obtain ⟨w1, w2, w3, w4, w5⟩ := hSw
          go_simp
          (try with_reducible rfl)
        try simp only [Act.put, List.setIfInBounds_toArray, List.set_cons_zero, List.set_cons_succ]
        refine wpAnyH_take (i := 5) (oi := { dst := _, op := _, type := _, pos := _, after := _, guard := _ }) (v := ?_) rfl (by kernel_rfl) (by kernel_rfl) (by kernel_rfl) (fun _ _ _ h => h) (Or.inl ⟨by rfl, ?_⟩) (by assumption) ?_
        rotate_left
        · intro W hSw
          (try dsimp only at hSw)
          obtain ⟨w1, w2, w3, w4, w5⟩ := hSw
          go_simp
          (try with_reducible rfl)
        try simp only [Act.put, List.setIfInBounds_toArray, List.set_cons_zero, List.set_cons_succ]
        refine wpAnyH_take (i := 6) (oi := { dst := _, op := _, type := _, pos := _, after := _, guard := _ }) (v := ?_) rfl (by kernel_rfl) (by kernel_rfl) (by kernel_rfl) (fun _ _ _ h => h) (Or.inl ⟨by rfl, ?_⟩) (by assumption) ?_
        rotate_left
        · intro W hSw
          (try dsimp only at hSw)
          obtain ⟨w1, w2, w3, w4, w5⟩ := hSw
          go_simp
          (try with_reducible rfl)
        try simp only [Act.put, List.setIfInBounds_toArray, List.set_cons_zero, List.set_cons_succ]
        refine wpAnyH_take (i := 7) (oi := { dst := _, op := _, type := _, pos := _, after := _, guard := _ }) (v := ?_) rfl (by kernel_rfl) (by kernel_rfl) (by kernel_rfl) (fun _ _ _ h => h) (Or.inl ⟨by rfl, ?_⟩) (by assumption) ?_
        rotate_left
        · intro W hSw
          (try dsimp only at hSw)
          obtain ⟨w1, w2, w3, w4, w5⟩ := hSw
          go_simp
          (try with_reducible rfl)
        try simp only [Act.put, List.setIfInBounds_toArray, List.set_cons_zero, List.set_cons_succ]
        refine wpAnyH_take (i := 8) (oi := { dst := _, op := _, type := _, pos := _, after := _, guard := _ }) (v := ?_) rfl (by kernel_rfl) (by kernel_rfl) (by kernel_rfl) (fun _ _ _ h => h) (Or.inl ⟨by rfl, ?_⟩) (by assumption) ?_
        rotate_left
        · intro W hSw
          (try dsimp only at hSw)
          obtain ⟨w1, w2, w3, w4, w5⟩ := hSw
          go_simp
          (try with_reducible rfl)
        try simp only [Act.put, List.setIfInBounds_toArray, List.set_cons_zero, List.set_cons_succ]
        refine wpAnyH_take (i := 9) (oi := { dst := _, op := _, type := _, pos := _, after := _, guard := _ }) (v := ?_) rfl (by kernel_rfl) (by kernel_rfl) (by kernel_rfl) (fun _ _ _ h => h) (Or.inl ⟨by rfl, ?_⟩) (by assumption) ?_
        rotate_left
        · intro W hSw
          (try dsimp only at hSw)
          obtain ⟨w1, w2, w3, w4, w5⟩ := hSw
          go_simp
          (try with_reducible rfl)
        try simp only [Act.put, List.setIfInBounds_toArray, List.set_cons_zero, List.set_cons_succ]
        refine wpAnyH_take (i := 10) (oi := { dst := _, op := _, type := _, pos := _, after := _, guard := _ }) (v := ?_) rfl (by kernel_rfl) (by kernel_rfl) (by kernel_rfl) (fun _ _ _ h => h) (Or.inl ⟨by rfl, ?_⟩) (by assumption) ?_
        rotate_left
        · intro W hSw
          (try dsimp only at hSw)
          obtain ⟨w1, w2, w3, w4, w5⟩ := hSw
          go_simp
          (try with_reducible rfl)
        try simp only [Act.put, List.setIfInBounds_toArray, List.set_cons_zero, List.set_cons_succ]
        refine wpAnyH_take (i := 11) (oi := { dst := _, op := _, type := _, pos := _, after := _, guard := _ }) (v := ?_) rfl (by kernel_rfl) (by kernel_rfl) (by kernel_rfl) (fun _ _ _ h => h) (Or.inl ⟨by rfl, ?_⟩) (by assumption) ?_
        rotate_left
        · intro W hSw
          (try dsimp only at hSw)
          obtain ⟨w1, w2, w3, w4, w5⟩ := hSw
          go_simp
          (try with_reducible rfl)
        try simp only [Act.put, List.setIfInBounds_toArray, List.set_cons_zero, List.set_cons_succ]
        refine wpAnyH_ready (rs := [2]) (by kernel_rfl) (by simp) ?_
        refine AllReadyH.cons (o := { dst := _, op := _, type := _, pos := _, after := _, guard := _ }) rfl (fun K hK => ?_) AllReadyH.nil
        go_simp
        refine hK.out _ _ ?_ (fun hHeld => ?_)
        · first | exact trivial | (exact hHeld)
        clear hK K
        try simp only [Act.put, List.setIfInBounds_toArray, List.set_cons_zero, List.set_cons_succ]
        refine wpAnyH_ready (rs := [12]) (by kernel_rfl) (by simp) ?_
        refine AllReadyH.cons (o := { dst := _, op := _, type := _, pos := _, after := _, guard := _ }) rfl (fun K hK => ?_) AllReadyH.nil
        go_simp
        refine Calls.mono (HAP.out WD g cap HOD.out HBD2.out) ?_
        rintro ee W5 ⟨g5, cap5, rfl, ho8, hb8⟩
        have HO5 : Hid (Og W1.heap.size W5 g5 cap5 (T0 ++ pts Te Sy rs ks es (i + 1))) := ho8
        have HB5 : Hid (Below W1.heap.size W1 W5) := hb8
        clear ho8 hb8
        refine hK.out _ _ ?_ (fun hHeld => ?_)
        · first | exact trivial | (exact HSS.out _ HB5.out)
        clear hK K
        try simp only [Act.put, List.setIfInBounds_toArray, List.set_cons_zero, List.set_cons_succ]
        refine wpAnyH_take (i := 13) (oi := { dst := _, op := _, type := _, pos := _, after := _, guard := _ }) (v := ?_) rfl (by kernel_rfl) (by kernel_rfl) (by kernel_rfl) (fun _ _ _ h => h) (Or.inl ⟨by rfl, ?_⟩) (by assumption) ?_
        rotate_left
        · intro W hSw
          (try dsimp only at hSw)
          obtain ⟨w1, w2, w3, w4, w5⟩ := hSw
          go_simp
          (try with_reducible rfl)
        try simp only [Act.put, List.setIfInBounds_toArray, List.set_cons_zero, List.set_cons_succ]
        refine wpAnyH_done (by kernel_rfl) ?_ _
        refine NoPanic.normal ?_
        go_wp2_with fail
        go_roundg (n - i1)
        case measure => have := HI.out.1; have := HIM.out; have := HI1.out; omega
        case rel => exact ⟨i1, g5, cap5, l1, rfl, rfl, ⟨rfl, by have := HIM.out; have := HI1.out; omega⟩, by rw [← HI1.out]; exact HL1.out, by rw [← HI1.out]; exact HO5.out, HB5⟩
      · have e1 : decide ((i : Int) < (n : Int)) = false := by rw [decide_eq_false_iff_not]; omega
        have e2 : decide (i < n) = false := by rw [decide_eq_false_iff_not]; omega
        have HIN : Hid (i = n) := by have := HI.out; show i = n; omega
        clear hi
        cases bs
        · have HRD : Hid (red Te Sy lhs rs ks es = T0 ++ pts Te Sy rs ks es i) := by
            show _ = _
            unfold red
            rw [HBS.out, if_neg (by decide), HT0.out, if_neg (by decide), HIN.out, HN.out]; rfl
          go_wp2_with fail
          go_ret
          rw [HRD.out]
          exact ⟨g, cap, by first | (rw [← HL.out]; rfl) | (have h6 := HL.out; rw [List.length_append] at h6; rw [← h6]; rfl), row_base HO.out HB1.out.size, HB1.out.trans (HBW.out.mono HB1.out.size)⟩
        · have hish : ∃ p : Nat, lhs = (p : Int) ∧ p < Sy.length := by
            have h1 := HBS.out
            simp only [ish, Bool.and_eq_true, decide_eq_true_eq] at h1
            exact ⟨lhs.toNat, by omega, by omega⟩
          obtain ⟨p, rfl, hp⟩ := hish
          obtain ⟨X, hX⟩ : ∃ X, pts Te Sy rs ks es n = X := ⟨_, rfl⟩
          have HOX : Hid (Og W1.heap.size wr g cap (ndd :: X)) := by have h7 := HO.out; rw [HIN.out, hX, HT0.out, if_pos rfl] at h7; exact h7
          have HLX : Hid (l = X.length + 1) := by have h7 := HL.out; rw [HIN.out, hX, HT0.out, if_pos rfl] at h7; rw [h7]; exact rfl
          have HFX : Hid (Fo (kds X)) := by rw [← hX]; exact pts_fo HKF.out n
          have HSX : Hid (Sm X) := by have h1 := HPL.out n (Nat.le_refl _); rw [hX] at h1; have h2 := HSZ.out; show _ ≤ _; omega
          have HCP : Hid (1 ≤ l ∧ l ≤ cap) := by have h7 := row_cap HOX.out; have h8 := HLX.out; rw [List.length_cons] at h7; show _ ∧ _; omega
          obtain ⟨sg, so, rfl, q0, _⟩ := HG.out.sym p hp
          rw [HN1.out] at hp
          obtain ⟨eg, eo, rfl, s1⟩ := HE.out.at n (by have := HEL.out; omega)
          obtain ⟨nm, hnm⟩ : ∃ nm, (Sy.getD p sdd).1 = nm := ⟨_, rfl⟩
          obtain ⟨en, hen⟩ : ∃ en, es.getD n 0 = en := ⟨_, rfl⟩
          rw [hnm] at q0
          rw [hen] at s1
          obtain ⟨x, hx⟩ : ∃ x, hed nm X en = x := ⟨_, rfl⟩
          have HRD : Hid (red Te Sy (p : Int) rs ks es = x :: X) := by
            show _ = _
            unfold red
            rw [HBS.out, if_pos rfl, HN.out, hX, hen, ← hx, ← hnm]; rfl
          have HHD : Hid (∀ W, Og W1.heap.size W g cap (ndd :: X) → Calls Try.prog 79 #[.string nm, .slice (if cap = 1 then some ⟨g, 0, none⟩ else some ⟨g, 7, none⟩) (l - 1) (cap - 1), .int .i64 en] W fun e w' => e = .returned (.agg (nA x)) ∧ Below W.heap.size W w') := fun W ho7 => by
            have hl7 : X.length = l - 1 := by have := HLX.out; omega
            have hns : Ns W (.slice (if cap = 1 then some ⟨g, 0, none⟩ else some ⟨g, 7, none⟩) X.length (cap - 1)) X := by
              by_cases hc1 : cap = 1
              · have hx0 : X = [] := List.length_eq_zero_iff.1 (by have := HCP.out; omega)
                rw [if_pos hc1, hx0]
                exact ⟨_, g, 0, _, rfl, Nat.zero_le _, (fun h => by cases h), (fun h => by cases h), fun j u hu => by cases hu⟩
              · rw [if_neg hc1]
                have h8 := own_sub (T := [ndd]) (X := X) (c := cap - 1) ho7 (by have := HCP.out; omega)
                exact h8
            have h7 := head_any W hns HSX.out HFX.out nm en
            rw [hl7, hx] at h7
            exact h7
          have HBA : Hid (∀ W, Below W1.heap.size W1 W → Below w.heap.size w W) := fun W hb => HB1.out.trans (hb.mono HB1.out.size)
          have Q0 : Hid (w.cell? ⟨sg, so + p * 2, none⟩ = some (.string nm)) := q0
          have S1 : Hid (w.cell? ⟨eg, eo + n, none⟩ = some (.int .i64 en)) := s1
          have HSS : Hid (∀ W, Below W1.heap.size W1 W → W.cell? ⟨gb, 1, none⟩ = some (.slice (some ⟨sg, so, none⟩) n1 c1) ∧ W.cell? ⟨pb, 0, none⟩ = some (.int .i64 (p : Int)) ∧ W.cell? ⟨pb, 1, none⟩ = some (.slice ra n rc) ∧ W.cell? ⟨sg, so + p * 2, none⟩ = some (.string nm) ∧ W.cell? ⟨eg, eo + n, none⟩ = some (.int .i64 en)) := fun W hb => ⟨below_cell hb (rcell HX1.out 1 _ rfl), below_cell hb (rcell HY1.out 0 _ rfl), below_cell hb (rcell HY1.out 1 _ rfl), below_cell (HBA.out _ hb) Q0.out, below_cell (HBA.out _ hb) S1.out⟩
          have f1 : (p : Int) < (n1 : Int) := by omega
          have f2 : p < n1 := hp
          have f3 : (n : Int) < (ne : Int) := by have := HNE.out; omega
          have f4 : n < ne := by omega
          have f5 := HCP.out.1
          have f6 := HCP.out.2
          have f7 : (1 : Int) ≤ (l : Int) := by omega
          have f8 : (l : Int) ≤ (cap : Int) := by omega
          have f9 : (0 : Int) < (l : Int) := by omega
          have f10 : 0 < l := by omega
          clear hX hp q0 s1 hnm hen hx
          go_upto_region 11 with fail
          refine wp_region_noPanic ?_
          refine wp_region_held_drew (S := fun W' => W'.cell? ⟨gb, 1, none⟩ = some (.slice (some ⟨sg, so, none⟩) n1 c1) ∧ W'.cell? ⟨pb, 0, none⟩ = some (.int .i64 (p : Int)) ∧ W'.cell? ⟨pb, 1, none⟩ = some (.slice ra n rc) ∧ W'.cell? ⟨sg, so + p * 2, none⟩ = some (.string nm) ∧ W'.cell? ⟨eg, eo + n, none⟩ = some (.int .i64 en)) (by kernel_rfl) (HSS.out _ (Below.drew HBW.out)) (fun hHeld => ?_)
          obtain ⟨WD, hWD⟩ : ∃ WD, wr.drew = WD := ⟨_, rfl⟩
          have HOD : Hid (Og W1.heap.size WD g cap (ndd :: X)) := by rw [← hWD]; exact row_up HOX.out (Below.drew (Below.refl _ _))
          have HBD2 : Hid (Below W1.heap.size W1 WD) := by rw [← hWD]; exact Below.drew HBW.out
          (try rw [hWD] at hHeld)
          rw [hWD]
          clear hWD
          refine wpAnyH_take (i := 0) (oi := { dst := _, op := _, type := _, pos := _, after := _, guard := _ }) (v := ?_) rfl (by kernel_rfl) (by kernel_rfl) (by kernel_rfl) (fun _ _ _ h => h) (Or.inl ⟨by rfl, ?_⟩) (by assumption) ?_
          rotate_left
          · intro W hSw
            (try dsimp only at hSw)
            obtain ⟨w1, w2, w3, w4, w5⟩ := hSw
            go_simp
            (try with_reducible rfl)
          try simp only [Act.put, List.setIfInBounds_toArray, List.set_cons_zero, List.set_cons_succ]
          refine wpAnyH_take (i := 1) (oi := { dst := _, op := _, type := _, pos := _, after := _, guard := _ }) (v := ?_) rfl (by kernel_rfl) (by kernel_rfl) (by kernel_rfl) (fun _ _ _ h => h) (Or.inl ⟨by rfl, ?_⟩) (by assumption) ?_
          rotate_left
          · intro W hSw
            (try dsimp only at hSw)
            obtain ⟨w1, w2, w3, w4, w5⟩ := hSw
            go_simp
            (try with_reducible rfl)
          try simp only [Act.put, List.setIfInBounds_toArray, List.set_cons_zero, List.set_cons_succ]
          refine wpAnyH_take (i := 2) (oi := { dst := _, op := _, type := _, pos := _, after := _, guard := _ }) (v := ?_) rfl (by kernel_rfl) (by kernel_rfl) (by kernel_rfl) (fun _ _ _ h => h) (Or.inl ⟨by rfl, ?_⟩) (by assumption) ?_
          rotate_left
          · intro W hSw
            (try dsimp only at hSw)
            obtain ⟨w1, w2, w3, w4, w5⟩ := hSw
            go_simp
            (try with_reducible rfl)
          try simp only [Act.put, List.setIfInBounds_toArray, List.set_cons_zero, List.set_cons_succ]
          refine wpAnyH_take (i := 3) (oi := { dst := _, op := _, type := _, pos := _, after := _, guard := _ }) (v := ?_) rfl (by kernel_rfl) (by kernel_rfl) (by kernel_rfl) (fun _ _ _ h => h) (Or.inl ⟨by rfl, ?_⟩) (by assumption) ?_
          rotate_left
          · intro W hSw
            (try dsimp only at hSw)
            obtain ⟨w1, w2, w3, w4, w5⟩ := hSw
            go_simp
            (try with_reducible rfl)
          try simp only [Act.put, List.setIfInBounds_toArray, List.set_cons_zero, List.set_cons_succ]
          refine wpAnyH_take (i := 4) (oi := { dst := _, op := _, type := _, pos := _, after := _, guard := _ }) (v := ?_) rfl (by kernel_rfl) (by kernel_rfl) (by kernel_rfl) (fun _ _ _ h => h) (Or.inl ⟨by rfl, ?_⟩) (by assumption) ?_
          rotate_left
          · intro W hSw
            (try dsimp only at hSw)
            obtain ⟨w1, w2, w3, w4, w5⟩ := hSw
            go_simp
            (try with_reducible rfl)
          try simp only [Act.put, List.setIfInBounds_toArray, List.set_cons_zero, List.set_cons_succ]
          refine wpAnyH_take (i := 5) (oi := { dst := _, op := _, type := _, pos := _, after := _, guard := _ }) (v := ?_) rfl (by kernel_rfl) (by kernel_rfl) (by kernel_rfl) (fun _ _ _ h => h) (Or.inl ⟨by rfl, ?_⟩) (by assumption) ?_
          rotate_left
          · intro W hSw
            (try dsimp only at hSw)
            obtain ⟨w1, w2, w3, w4, w5⟩ := hSw
            go_simp
            (try with_reducible rfl)
          try simp only [Act.put, List.setIfInBounds_toArray, List.set_cons_zero, List.set_cons_succ]
          refine wpAnyH_take (i := 6) (oi := { dst := _, op := _, type := _, pos := _, after := _, guard := _ }) (v := ?_) rfl (by kernel_rfl) (by kernel_rfl) (by kernel_rfl) (fun _ _ _ h => h) (Or.inl ⟨by rfl, ?_⟩) (by assumption) ?_
          rotate_left
          · intro W hSw
            (try dsimp only at hSw)
            obtain ⟨w1, w2, w3, w4, w5⟩ := hSw
            go_simp
            (try with_reducible rfl)
          try simp only [Act.put, List.setIfInBounds_toArray, List.set_cons_zero, List.set_cons_succ]
          refine wpAnyH_take (i := 7) (oi := { dst := _, op := _, type := _, pos := _, after := _, guard := _ }) (v := ?_) rfl (by kernel_rfl) (by kernel_rfl) (by kernel_rfl) (fun _ _ _ h => h) (Or.inl ⟨by rfl, ?_⟩) (by assumption) ?_
          rotate_left
          · intro W hSw
            (try dsimp only at hSw)
            obtain ⟨w1, w2, w3, w4, w5⟩ := hSw
            go_simp
            (try with_reducible rfl)
          try simp only [Act.put, List.setIfInBounds_toArray, List.set_cons_zero, List.set_cons_succ]
          refine wpAnyH_take (i := 8) (oi := { dst := _, op := _, type := _, pos := _, after := _, guard := _ }) (v := ?_) rfl (by kernel_rfl) (by kernel_rfl) (by kernel_rfl) (fun _ _ _ h => h) (Or.inl ⟨by rfl, ?_⟩) (by assumption) ?_
          rotate_left
          · intro W hSw
            (try dsimp only at hSw)
            obtain ⟨w1, w2, w3, w4, w5⟩ := hSw
            go_simp
            (try with_reducible rfl)
          try simp only [Act.put, List.setIfInBounds_toArray, List.set_cons_zero, List.set_cons_succ]
          refine wpAnyH_take (i := 9) (oi := { dst := _, op := _, type := _, pos := _, after := _, guard := _ }) (v := ?_) rfl (by kernel_rfl) (by kernel_rfl) (by kernel_rfl) (fun _ _ _ h => h) (Or.inl ⟨by rfl, ?_⟩) (by assumption) ?_
          rotate_left
          · intro W hSw
            (try dsimp only at hSw)
            obtain ⟨w1, w2, w3, w4, w5⟩ := hSw
            go_simp
            (try with_reducible rfl)
          try simp only [Act.put, List.setIfInBounds_toArray, List.set_cons_zero, List.set_cons_succ]
          refine wpAnyH_take (i := 10) (oi := { dst := _, op := _, type := _, pos := _, after := _, guard := _ }) (v := ?_) rfl (by kernel_rfl) (by kernel_rfl) (by kernel_rfl) (fun _ _ _ h => h) (Or.inl ⟨by rfl, ?_⟩) (by assumption) ?_
          rotate_left
          · intro W hSw
            (try dsimp only at hSw)
            obtain ⟨w1, w2, w3, w4, w5⟩ := hSw
            go_simp
            (try with_reducible rfl)
          try simp only [Act.put, List.setIfInBounds_toArray, List.set_cons_zero, List.set_cons_succ]
          refine wpAnyH_take (i := 11) (oi := { dst := _, op := _, type := _, pos := _, after := _, guard := _ }) (v := ?_) rfl (by kernel_rfl) (by kernel_rfl) (by kernel_rfl) (fun _ _ _ h => h) (Or.inl ⟨by rfl, ?_⟩) (by assumption) ?_
          rotate_left
          · intro W hSw
            (try dsimp only at hSw)
            obtain ⟨w1, w2, w3, w4, w5⟩ := hSw
            go_simp
            (try with_reducible rfl)
          try simp only [Act.put, List.setIfInBounds_toArray, List.set_cons_zero, List.set_cons_succ]
          refine wpAnyH_take (i := 12) (oi := { dst := _, op := _, type := _, pos := _, after := _, guard := _ }) (v := ?_) rfl (by kernel_rfl) (by kernel_rfl) (by kernel_rfl) (fun _ _ _ h => h) (Or.inl ⟨by rfl, ?_⟩) (by assumption) ?_
          rotate_left
          · intro W hSw
            (try dsimp only at hSw)
            obtain ⟨w1, w2, w3, w4, w5⟩ := hSw
            go_simp
            (try with_reducible rfl)
          try simp only [Act.put, List.setIfInBounds_toArray, List.set_cons_zero, List.set_cons_succ]
          refine wpAnyH_take (i := 13) (oi := { dst := _, op := _, type := _, pos := _, after := _, guard := _ }) (v := ?_) rfl (by kernel_rfl) (by kernel_rfl) (by kernel_rfl) (fun _ _ _ h => h) (Or.inl ⟨by rfl, ?_⟩) (by assumption) ?_
          rotate_left
          · intro W hSw
            (try dsimp only at hSw)
            obtain ⟨w1, w2, w3, w4, w5⟩ := hSw
            go_simp
            (try with_reducible rfl)
          try simp only [Act.put, List.setIfInBounds_toArray, List.set_cons_zero, List.set_cons_succ]
          refine wpAnyH_take (i := 14) (oi := { dst := _, op := _, type := _, pos := _, after := _, guard := _ }) (v := ?_) rfl (by kernel_rfl) (by kernel_rfl) (by kernel_rfl) (fun _ _ _ h => h) (Or.inl ⟨by rfl, ?_⟩) (by assumption) ?_
          rotate_left
          · intro W hSw
            (try dsimp only at hSw)
            obtain ⟨w1, w2, w3, w4, w5⟩ := hSw
            go_simp
            (try with_reducible rfl)
          try simp only [Act.put, List.setIfInBounds_toArray, List.set_cons_zero, List.set_cons_succ]
          refine wpAnyH_take (i := 15) (oi := { dst := _, op := _, type := _, pos := _, after := _, guard := _ }) (v := ?_) rfl (by kernel_rfl) (by kernel_rfl) (by kernel_rfl) (fun _ _ _ h => h) (Or.inl ⟨by rfl, ?_⟩) (by assumption) ?_
          rotate_left
          · intro W hSw
            (try dsimp only at hSw)
            obtain ⟨w1, w2, w3, w4, w5⟩ := hSw
            go_simp
            (try with_reducible rfl)
          try simp only [Act.put, List.setIfInBounds_toArray, List.set_cons_zero, List.set_cons_succ]
          refine wpAnyH_ready (rs := [16]) (by kernel_rfl) (by simp) ?_
          refine AllReadyH.cons (o := { dst := _, op := _, type := _, pos := _, after := _, guard := _ }) rfl (fun K hK => ?_) AllReadyH.nil
          go_simp
          refine Calls.mono (HHD.out WD HOD.out) ?_
          rintro ee WE ⟨rfl, hb8⟩
          unfold nA
          have HOE : Hid (Og W1.heap.size WE g cap (ndd :: X)) := row_up HOD.out hb8
          have HBE : Hid (Below W1.heap.size W1 WE) := HBD2.out.trans (hb8.mono HBD2.out.size)
          clear hb8
          refine hK.out _ _ ?_ (fun hHeld => ?_)
          · first | exact trivial | (exact HSS.out _ HBE.out)
          clear hK K
          try simp only [Act.put, List.setIfInBounds_toArray, List.set_cons_zero, List.set_cons_succ]
          refine wpAnyH_take (i := 17) (oi := { dst := _, op := _, type := _, pos := _, after := _, guard := _ }) (v := ?_) rfl (by kernel_rfl) (by kernel_rfl) (by kernel_rfl) (fun _ _ _ h => h) (Or.inl ⟨by rfl, ?_⟩) (by assumption) ?_
          rotate_left
          · intro W hSw
            (try dsimp only at hSw)
            obtain ⟨w1, w2, w3, w4, w5⟩ := hSw
            go_simp
            (try with_reducible rfl)
          try simp only [Act.put, List.setIfInBounds_toArray, List.set_cons_zero, List.set_cons_succ]
          have t0 := row_at HOE.out 0 _ (show (flat nf (ndd :: X))[0]? = _ from rfl)
          have t1 := row_at HOE.out 1 _ (show (flat nf (ndd :: X))[1]? = _ from rfl)
          have t2 := row_at HOE.out 2 _ (show (flat nf (ndd :: X))[2]? = _ from rfl)
          have t3 := row_at HOE.out 3 _ (show (flat nf (ndd :: X))[3]? = _ from rfl)
          have t4 := row_at HOE.out 4 _ (show (flat nf (ndd :: X))[4]? = _ from rfl)
          have t5 := row_at HOE.out 5 _ (show (flat nf (ndd :: X))[5]? = _ from rfl)
          have t6 := row_at HOE.out 6 _ (show (flat nf (ndd :: X))[6]? = _ from rfl)
          have z0 := row_froz HOE.out 0
          have z1 := row_froz HOE.out 1
          have z2 := row_froz HOE.out 2
          have z3 := row_froz HOE.out 3
          have z4 := row_froz HOE.out 4
          have z5 := row_froz HOE.out 5
          have z6 := row_froz HOE.out 6
          refine wpAnyH_ready (rs := [18]) (by kernel_rfl) (by simp) ?_
          refine AllReadyH.cons (o := { dst := _, op := _, type := _, pos := _, after := _, guard := _ }) rfl (fun K hK => ?_) AllReadyH.nil
          go_simp
          have HOF : Hid (Og W1.heap.size (((((((WE.setCell ⟨g, 0, none⟩ (.string x.nm)).setCell ⟨g, 1, none⟩ (.bool x.nd)).setCell ⟨g, 2, none⟩ (.string x.fd)).setCell ⟨g, 3, none⟩ (.int .i64 x.fr)).setCell ⟨g, 4, none⟩ (.int .i64 x.tt)).setCell ⟨g, 5, none⟩ (.int .i64 x.kd)).setCell ⟨g, 6, none⟩ (.int .i64 x.lf)) g cap (x :: X)) := own_put7 HOE.out
          have HBF : Hid (Below W1.heap.size W1 (((((((WE.setCell ⟨g, 0, none⟩ (.string x.nm)).setCell ⟨g, 1, none⟩ (.bool x.nd)).setCell ⟨g, 2, none⟩ (.string x.fd)).setCell ⟨g, 3, none⟩ (.int .i64 x.fr)).setCell ⟨g, 4, none⟩ (.int .i64 x.tt)).setCell ⟨g, 5, none⟩ (.int .i64 x.kd)).setCell ⟨g, 6, none⟩ (.int .i64 x.lf))) := HBE.out.grown grown_put7 HBE.out.size (fun r hr => by cases hr; exact HOE.out.blk)
          clear t0 z0 t1 z1 t2 z2 t3 z3 t4 z4 t5 z5 t6 z6
          refine hK.out _ _ ?_ (fun hHeld => ?_)
          · first | exact trivial | (exact HSS.out _ HBF.out)
          clear hK K
          try simp only [Act.put, List.setIfInBounds_toArray, List.set_cons_zero, List.set_cons_succ]
          refine wpAnyH_done (by kernel_rfl) ?_ _
          refine NoPanic.normal ?_
          generalize (if cap = 1 then (some ⟨g, 0, none⟩ : Option Addr) else some ⟨g, 7, none⟩) = sa
          go_wp2_with fail
          go_ret
          rw [HRD.out]
          exact ⟨g, cap, by rw [List.length_cons, ← HLX.out]; rfl, row_base HOF.out HB1.out.size, HB1.out.trans (HBF.out.mono HB1.out.size)⟩
end Go.Proofs.Ytcfmpmhdjkchjaa
