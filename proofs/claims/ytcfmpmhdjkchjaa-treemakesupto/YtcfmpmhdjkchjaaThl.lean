import Derived.Test.YtcfmpmhdjkchjaaThk
import Derived.Test.YtcfmpmhdjkchjaaThy
namespace Go.Proofs.Ytcfmpmhdjkchjaa
open Go.RowKit Go.Maps

/-- Lists of nodes in rows of the call's own, each with two marks behind, in a row with two nils behind. -/
def Kmy (B : Nat) (W : World) (v : Value) (L : List (Value × List Nd)) : Prop :=
  ∃ g cap, v = .slice (some ⟨g, 0, none⟩) L.length cap ∧ L.length + 2 ≤ cap ∧ W.ownsRow B 22 1 (.slice (some ⟨g, 0, none⟩) (L.length + 2) cap) (L.length + 2) (L.map Prod.fst ++ [.slice none 0 0, .slice none 0 0]) ∧ ∀ x ∈ L, Rmy B W x.1 x.2
/-- Numbers in a row of the call's own, two marks behind. -/
def Emy (B : Nat) (W : World) (v : Value) (l : List Int) : Prop :=
  ∃ g cap, v = .slice (some ⟨g, 0, none⟩) l.length cap ∧ l.length + 2 ≤ cap ∧ W.ownsRow B 3 1 (.slice (some ⟨g, 0, none⟩) (l.length + 2) cap) (l.length + 2) (iC (l ++ [-71, -72]))
theorem Kmy.up {B : Nat} {W W' : World} {v : Value} {L : List (Value × List Nd)} (h : Kmy B W v L) (hb : Below W.heap.size W W') : Kmy B W' v L := by
  obtain ⟨g, cap, e, h1, h2, h3⟩ := h
  exact ⟨g, cap, e, h1, row_up h2 hb, fun x hx => (h3 x hx).up hb⟩
theorem Emy.up {B : Nat} {W W' : World} {v : Value} {l : List Int} (h : Emy B W v l) (hb : Below W.heap.size W W') : Emy B W' v l := by
  obtain ⟨g, cap, e, h1, h2⟩ := h
  exact ⟨g, cap, e, h1, row_up h2 hb⟩
theorem rw_head {B : Nat} {W : World} {e : TypeId} {s n cap g : Nat} {xs ys : List Value} (hs : 0 < s) (h : W.ownsRow B e s (.slice (some ⟨g, 0, none⟩) (n + 2) cap) (n + 2) (xs ++ ys)) : Rw W (.slice (some ⟨g, 0, none⟩) n cap) n xs := by
  obtain ⟨a, g', o, cap', e, h3, h4, h5, h6⟩ := row_rw h hs
  obtain ⟨rfl, -, rfl⟩ := Value.slice.inj e
  refine ⟨_, g', o, cap, rfl, by omega, fun h => (by cases h), fun _ => h5 (by omega), fun j u hu => h6 j u ?_⟩
  rw [List.getElem?_append_left (List.getElem?_eq_some_iff.1 hu).1]
  exact hu
theorem Kmy.kr {B : Nat} {W : World} {v : Value} {L : List (Value × List Nd)} (h : Kmy B W v L) : Kr W v L := by
  obtain ⟨g, cap, rfl, h1, h2, h3⟩ := h
  exact ⟨rw_head (by decide) h2, fun x hx => (h3 x hx).ns⟩
theorem Emy.is {B : Nat} {W : World} {v : Value} {l : List Int} (h : Emy B W v l) : Is W v l := by
  obtain ⟨g, cap, rfl, h1, h2⟩ := h
  have h7 : W.ownsRow B 3 1 (.slice (some ⟨g, 0, none⟩) (l.length + 2) cap) (l.length + 2) (iC l ++ iC [-71, -72]) := by
    have h8 := h2
    unfold iC at h8 ⊢
    rw [List.map_append] at h8
    exact h8
  exact rw_head (by decide) h7

theorem iC_len1 (l : List Int) : (iC l).length = l.length := by rw [iC_len, Nat.mul_one]
theorem two_behind {B : Nat} {W : World} {e : TypeId} {n cap g : Nat} {xs : List Value} {a b : Value} (hl : xs.length = n) (h : W.ownsRow B e 1 (.slice (some ⟨g, 0, none⟩) (n + 2) cap) (n + 2) (xs ++ [a, b])) : W.cell? ⟨g, n, none⟩ = some a ∧ W.cell? ⟨g, n + 1, none⟩ = some b := by
  refine ⟨row_at h n _ ?_, row_at h (n + 1) _ ?_⟩
  · rw [List.getElem?_append_right (by omega), hl, Nat.sub_self]; rfl
  · rw [List.getElem?_append_right (by omega), hl, Nat.add_sub_cancel_left]; rfl
theorem rdc_sm (Te : List Td) (Sy : List Sd) (P : List Pd) (z : Int) (ks : List (List Nd)) (es : List Int) (h : rom ks ≤ 1073741824) : Sm (rdc Te Sy P z ks es) := by
  have key : (rdc Te Sy P z ks es).length ≤ 1073741824 := by
    unfold rdc
    by_cases hr : rok P z ks es = true
    · rw [if_pos hr]
      have hl : ks.length = (P.getD z.toNat pfd).2.2.length := by
        unfold rok at hr
        rw [Bool.and_eq_true, Bool.and_eq_true, Bool.and_eq_true, Bool.and_eq_true] at hr
        exact of_decide_eq_true hr.2.1.1
      have h1 := pts_len Te Sy (P.getD z.toNat pfd).2.2 ks es _ (Nat.le_of_eq hl.symm)
      have h2 := rom_take ks (P.getD z.toNat pfd).2.2.length
      unfold red
      by_cases hs : ish Sy (P.getD z.toNat pfd).1 = true
      · rw [if_pos hs, List.length_cons]; omega
      · rw [if_neg hs]; omega
    · rw [if_neg hr]; exact Nat.zero_le _
  unfold Sm
  omega
set_option maxRecDepth 100000 in
set_option maxHeartbeats 8000000 in
theorem shows_any {B : Nat} {v0 v1 v2 vk ve vk' ve' : Value} {Te : List Td} {Sy : List Sd} {P : List Pd} {L L' : List (Value × List Nd)} {es : List Int} (u : Nat → Value) (y z : Int) (w : World) (hg : Gx w v0 v1 v2 Te Sy P) (hgs : Gs Te Sy P) (hri : ∀ x ∈ P, ∀ r ∈ x.2.2, r.1 ≤ 9223372036854775807) (hk : Kmy B w vk L) (hk' : Kr w vk' L') (hLL : L.map Prod.snd = L'.map Prod.snd) (he : Emy B w ve es) (he' : Is w ve' es) (hsz0 : rom (L.map Prod.snd) ≤ 1073741824) (hsq : ∀ x ∈ L', x.2.length ≤ 1048576) (hes : es.length < 1099511627776) :
    Calls Try.prog 36 #[lgv u v0 v1 v2, .int .i64 y, .int .i64 z, vk, ve, vk', ve'] w fun e w' => e = .returned (.bool true) ∧ Below w.heap.size w w' := by
  have HG : Hid (Gx w v0 v1 v2 Te Sy P) := hg
  have HK : Hid (Kmy B w vk L) := hk
  have HK' : Hid (Kr w vk' L') := hk'
  have HE : Hid (Emy B w ve es) := he
  have HE' : Hid (Is w ve' es) := he'
  have HLL : Hid (L.map Prod.snd = L'.map Prod.snd) := hLL
  have HSQ : Hid (∀ x ∈ L', x.2.length ≤ 1048576) := hsq
  have HES : Hid (es.length < 1099511627776) := hes
  have hln : L.length = L'.length := by have h7 := congrArg List.length hLL; rw [List.length_map, List.length_map] at h7; exact h7
  have hnb : L'.length < 1099511627776 := by have h7 := rom_ge (L.map Prod.snd); rw [List.length_map] at h7; omega
  have HR1 : Hid (∀ W, Below w.heap.size w W → Calls Try.prog 53 #[lgv u v0 v1 v2, .int .i64 z, vk', ve'] W fun e w' => ∃ v', e = .returned v' ∧ w'.ownsRow W.heap.size 33 7 v' (rdc Te Sy P z (L.map Prod.snd) es).length (flat nf (rdc Te Sy P z (L.map Prod.snd) es)) ∧ Below W.heap.size W w') := fun W hb => by rw [hLL]; exact rreduce_any u z W (hg.up hb) hgs hri (hk'.up hb) (Rw.up he' hb) (by rw [← hLL]; exact hsz0) hsq
  have HR2 : Hid (∀ W, Below w.heap.size w W → Calls Try.prog 47 #[lgv u v0 v1 v2, .int .i64 z, vk, ve] W fun e w' => ∃ v', e = .returned v' ∧ w'.ownsRow W.heap.size 33 7 v' (rdc Te Sy P z (L.map Prod.snd) es).length (flat nf (rdc Te Sy P z (L.map Prod.snd) es)) ∧ Below W.heap.size W w') := fun W hb => reduce_any u z W (hg.up hb) hgs hri (hk.up hb).kr (he.up hb).is (by omega)
  have HRS0 : Hid (Sm (rdc Te Sy P z (L.map Prod.snd) es)) := rdc_sm Te Sy P z _ es hsz0
  obtain ⟨R, hR⟩ : ∃ R, rdc Te Sy P z (L.map Prod.snd) es = R := ⟨_, rfl⟩
  rw [hR] at HR1 HR2 HRS0
  have HRS : Hid (Sm R) := HRS0
  have HSH : Hid (∀ W v t, Below w.heap.size w W → t.length ≤ 1048576 → Ns W v t → Calls Try.prog 54 #[lgv u v0 v1 v2, .int .i64 y, v] W fun e w' => ∃ r, e = .returned r ∧ w'.ownsRow W.heap.size 33 7 r (shw Te y t).length (flat nf (shw Te y t)) ∧ Below W.heap.size W w') := fun W v t hb hl h => rshow_any u W (hg.up hb) (by omega) h y
  have HSI : Hid (∀ W v t, Below w.heap.size w W → t.length ≤ 1048576 → Ns W v t → Calls Try.prog 55 #[lgv u v0 v1 v2, .int .i64 y, v] W fun e w' => ∃ r, e = .returned r ∧ w'.ownsRow W.heap.size 33 7 r (shw Te y t).length (flat nf (shw Te y t)) ∧ Below W.heap.size W w') := fun W v t hb hl h => show_any u W (hg.up hb) (by omega) h y
  obtain ⟨a0, c0, a1, c1, a2, c2, rfl, rfl, rfl⟩ := hg.form
  obtain ⟨kg, kc, rfl, hkc, hko⟩ := hk
  obtain ⟨eg, ec, rfl, hec, heo⟩ := he
  obtain ⟨ka', kc', rfl⟩ := hk'.t.form
  obtain ⟨ea', ec', rfl⟩ := Rw.form he'
  clear hg hgs hri hk' he' hsz0 hR hLL HRS0 hsq HG
  obtain ⟨n0, h0⟩ : ∃ n, Te.length = n := ⟨_, rfl⟩
  obtain ⟨n1, h1⟩ : ∃ n, Sy.length = n := ⟨_, rfl⟩
  obtain ⟨n2, h2⟩ : ∃ n, P.length = n := ⟨_, rfl⟩
  rw [h0, h1, h2] at HR1 HR2 HSH HSI ⊢
  clear h0 h1 h2
  unfold lgv at HR1 HR2 HSH HSI ⊢
  obtain ⟨n, hn⟩ : ∃ n, L'.length = n := ⟨_, rfl⟩
  obtain ⟨m, hm⟩ : ∃ m, es.length = m := ⟨_, rfl⟩
  rw [hn] at hln hnb
  rw [hln] at HK hkc hko HR2 ⊢
  rw [hm] at HE HE' hec heo HR1 HR2 HES hes ⊢
  rw [hn] at HK' HR1 ⊢
  have HN : Hid (L'.length = n ∧ L.length = n) := ⟨hn, hln⟩
  have HM : Hid (es.length = m) := hm
  have HNB : Hid (n < 1099511627776) := hnb
  have HKO : Hid (w.ownsRow B 22 1 (.slice (some ⟨kg, 0, none⟩) (n + 2) kc) (n + 2) (L.map Prod.fst ++ [.slice none 0 0, .slice none 0 0])) := hko.1
  have HKA : Hid (∀ x ∈ L, Rmy B w x.1 x.2) := hko.2
  have HEO : Hid (w.ownsRow B 3 1 (.slice (some ⟨eg, 0, none⟩) (m + 2) ec) (m + 2) (iC (es ++ [-71, -72]))) := heo
  have hw2 : IntKind.i64.wrap ((n : Int) + 2) = ((n + 2 : Nat) : Int) := by rw [w64 _ (by omega) (by omega)]; omega
  have hw3 : IntKind.i64.wrap ((m : Int) + 2) = ((m + 2 : Nat) : Int) := by rw [w64 _ (by omega) (by omega)]; omega
  have hw4 : IntKind.i64.wrap ((n : Int) + 1) = ((n + 1 : Nat) : Int) := by rw [w64 _ (by omega) (by omega)]; omega
  have hw5 : IntKind.i64.wrap ((m : Int) + 1) = ((m + 1 : Nat) : Int) := by rw [w64 _ (by omega) (by omega)]; omega
  have l1 : ((n + 2 : Nat) : Int) ≤ (kc : Int) := by omega
  have l2 : ((m + 2 : Nat) : Int) ≤ (ec : Int) := by omega
  have l3 : (0 : Int) ≤ ((n + 2 : Nat) : Int) := by omega
  have l4 : (0 : Int) ≤ ((m + 2 : Nat) : Int) := by omega
  clear hko heo hn hm hln hnb hes
  obtain ⟨W1, hW1⟩ : ∃ W1, W1 = w.alloc (.cells #[u 0, u 1, .slice a0 n0 c0, .slice a1 n1 c1, .slice a2 n2 c2, u 5, u 6, u 7, u 8, u 9, u 10, u 11] 52) := ⟨_, rfl⟩
  have HB1 : Hid (Below w.heap.size w W1) := by rw [hW1]; exact bel_up _ _
  have HX1 : Hid (W1.heap[w.heap.size]? = some (.cells #[u 0, u 1, .slice a0 n0 c0, .slice a1 n1 c1, .slice a2 n2 c2, u 5, u 6, u 7, u 8, u 9, u 10, u 11] 52 (0, 0))) := by rw [hW1]; exact heap_new _ _
  go_enter Try.func36, Try.ntmps36
  go_upto_region 1 with fail
  rw [← hW1]
  clear hW1
  have x0 := rcell HX1.out 0 _ rfl; have x1 := rcell HX1.out 1 _ rfl; have x2 := rcell HX1.out 2 _ rfl; have x3 := rcell HX1.out 3 _ rfl; have x4 := rcell HX1.out 4 _ rfl; have x5 := rcell HX1.out 5 _ rfl; have x6 := rcell HX1.out 6 _ rfl; have x7 := rcell HX1.out 7 _ rfl; have x8 := rcell HX1.out 8 _ rfl; have x9 := rcell HX1.out 9 _ rfl; have x10 := rcell HX1.out 10 _ rfl; have x11 := rcell HX1.out 11 _ rfl
  go_upto_region 2 with (go_at_call 53; refine Calls.mono (HR1.out _ HB1.out) ?_; rintro ee W2 ⟨r1, rfl, ho1, hb1⟩; have HO1 : Hid (W2.ownsRow w.heap.size 33 7 r1 R.length (flat nf R)) := row_base ho1 HB1.out.size; have HB2 : Hid (Below w.heap.size w W2) := below_trans HB1.out hb1; have HX2 : Hid (W2.heap[w.heap.size]? = some (.cells #[u 0, u 1, .slice a0 n0 c0, .slice a1 n1 c1, .slice a2 n2 c2, u 5, u 6, u 7, u 8, u 9, u 10, u 11] 52 (0, 0))) := (by rw [hb1.block _ (lt_of_heap HX1.out)]; exact HX1.out); obtain ⟨xa, xc, rfl⟩ := row_shape ho1; clear ho1 hb1)
  clear x0 x1 x2 x3 x4 x5 x6 x7 x8 x9 x10 x11
  have x0 := rcell HX2.out 0 _ rfl; have x1 := rcell HX2.out 1 _ rfl; have x2 := rcell HX2.out 2 _ rfl; have x3 := rcell HX2.out 3 _ rfl; have x4 := rcell HX2.out 4 _ rfl; have x5 := rcell HX2.out 5 _ rfl; have x6 := rcell HX2.out 6 _ rfl; have x7 := rcell HX2.out 7 _ rfl; have x8 := rcell HX2.out 8 _ rfl; have x9 := rcell HX2.out 9 _ rfl; have x10 := rcell HX2.out 10 _ rfl; have x11 := rcell HX2.out 11 _ rfl
  go_upto_region 3 with (go_at_call 47; refine Calls.mono (HR2.out _ HB2.out) ?_; rintro ee W3 ⟨r2, rfl, ho2, hb2⟩; have HO2 : Hid (W3.ownsRow w.heap.size 33 7 r2 R.length (flat nf R)) := row_base ho2 HB2.out.size; have HB3 : Hid (Below w.heap.size w W3) := below_trans HB2.out hb2; have HX3 : Hid (W3.heap[w.heap.size]? = some (.cells #[u 0, u 1, .slice a0 n0 c0, .slice a1 n1 c1, .slice a2 n2 c2, u 5, u 6, u 7, u 8, u 9, u 10, u 11] 52 (0, 0))) := (by rw [hb2.block _ (lt_of_heap HX2.out)]; exact HX2.out); have HO12 : Hid (W3.ownsRow w.heap.size 33 7 (.slice xa R.length xc) R.length (flat nf R)) := row_up HO1.out hb2; obtain ⟨ya, yc, rfl⟩ := row_shape ho2; clear ho2 hb2)
  clear x0 x1 x2 x3 x4 x5 x6 x7 x8 x9 x10 x11
  go_upto_region 4 with (go_at_call 35; refine Calls.mono (same_any HRS.out W3 (row_rw HO2.out (by decide)) (row_rw HO12.out (by decide))) ?_; rintro ee W4 ⟨rfl, hb3⟩; have HB4 : Hid (Below w.heap.size w W4) := below_trans HB3.out hb3; have HX4 : Hid (W4.heap[w.heap.size]? = some (.cells #[u 0, u 1, .slice a0 n0 c0, .slice a1 n1 c1, .slice a2 n2 c2, u 5, u 6, u 7, u 8, u 9, u 10, u 11] 52 (0, 0))) := (by rw [hb3.block _ (lt_of_heap HX3.out)]; exact HX3.out); rw [decide_eq_true rfl]; clear hb3)
  clear HO1 HO2 HO12 HX1 HX2 HX3 HB1 HB2 HB3 HR1 HR2
  go_upto_region 6 with fail
  have HQK : Hid (∀ W, Below W4.heap.size W4 W → W.cell? ⟨kg, n, none⟩ = some (.slice none 0 0) ∧ W.cell? ⟨kg, n + 1, none⟩ = some (.slice none 0 0)) := fun W hb => two_behind (by rw [List.length_map]; exact HN.out.2) (row_up HKO.out (below_trans HB4.out hb))
  have HQE : Hid (∀ W, Below W4.heap.size W4 W → W.cell? ⟨eg, m, none⟩ = some (.int .i64 (-71)) ∧ W.cell? ⟨eg, m + 1, none⟩ = some (.int .i64 (-72))) := fun W hb => two_behind (xs := iC es) (by rw [iC_len1]; exact HM.out) (by have h7 := row_up HEO.out (below_trans HB4.out hb); unfold iC at h7 ⊢; rw [List.map_append] at h7; exact h7)
  have f1 : (0 : Int) ≤ (n : Int) + 1 := by omega
  have f2 : (0 : Int) ≤ (m : Int) + 1 := by omega
  have f3 : (n : Int) + 1 < (n : Int) + 2 := by omega
  have f4 : (m : Int) + 1 < (m : Int) + 2 := by omega
  have g1 : (n : Int) < (n : Int) + 2 := by omega
  have g2 : (m : Int) < (m : Int) + 2 := by omega
  have f5 : ((n : Int) + 1).toNat = n + 1 := by omega
  have f6 : ((m : Int) + 1).toNat = m + 1 := by omega
  refine wp_region_noPanic ?_
  refine wp_region_held_drew (S := fun W => Below W4.heap.size W4 W) (by kernel_rfl) (Below.drew (Below.refl _ _)) (fun hHeld => ?_)
  obtain ⟨WD, hWD⟩ : ∃ WD, W4.drew = WD := ⟨_, rfl⟩
  have HD : Hid (Below W4.heap.size W4 WD) := by rw [← hWD]; exact Below.drew (Below.refl _ _)
  rw [hWD] at hHeld ⊢
  clear hWD
  refine wpAnyH_take (i := 0) (oi := { dst := _, op := _, type := _, pos := _, after := _, guard := _ }) (v := ?_) rfl (by kernel_rfl) (by kernel_rfl) (by kernel_rfl) (fun _ _ _ h => h) (Or.inl ⟨by rfl, ?_⟩) (by assumption) ?_
  rotate_left
  · intro W hSw
    (try dsimp only at hSw)
    go_simp
    (try with_reducible rfl)
  try simp only [Act.put, List.setIfInBounds_toArray, List.set_cons_zero, List.set_cons_succ]
  refine wpAnyH_take (i := 1) (oi := { dst := _, op := _, type := _, pos := _, after := _, guard := _ }) (v := ?_) rfl (by kernel_rfl) (by kernel_rfl) (by kernel_rfl) (fun _ _ _ h => h) (Or.inl ⟨by rfl, ?_⟩) (by assumption) ?_
  rotate_left
  · intro W hSw
    (try dsimp only at hSw)
    go_simp
    (try with_reducible rfl)
  try simp only [Act.put, List.setIfInBounds_toArray, List.set_cons_zero, List.set_cons_succ]
  refine wpAnyH_take (i := 2) (oi := { dst := _, op := _, type := _, pos := _, after := _, guard := _ }) (v := ?_) rfl (by kernel_rfl) (by kernel_rfl) (by kernel_rfl) (fun _ _ _ h => h) (Or.inl ⟨by rfl, ?_⟩) (by assumption) ?_
  rotate_left
  · intro W hSw
    (try dsimp only at hSw)
    go_simp
    (try with_reducible rfl)
  try simp only [Act.put, List.setIfInBounds_toArray, List.set_cons_zero, List.set_cons_succ]
  refine wpAnyH_take (i := 3) (oi := { dst := _, op := _, type := _, pos := _, after := _, guard := _ }) (v := ?_) rfl (by kernel_rfl) (by kernel_rfl) (by kernel_rfl) (fun _ _ _ h => h) (Or.inl ⟨by rfl, ?_⟩) (by assumption) ?_
  rotate_left
  · intro W hSw
    (try dsimp only at hSw)
    go_simp
    (try with_reducible rfl)
  try simp only [Act.put, List.setIfInBounds_toArray, List.set_cons_zero, List.set_cons_succ]
  refine wpAnyH_take (i := 4) (oi := { dst := _, op := _, type := _, pos := _, after := _, guard := _ }) (v := ?_) rfl (by kernel_rfl) (by kernel_rfl) (by kernel_rfl) (fun _ _ _ h => h) (Or.inl ⟨by rfl, ?_⟩) (by assumption) ?_
  rotate_left
  · intro W hSw
    (try dsimp only at hSw)
    go_simp
    (try with_reducible rfl)
  try simp only [Act.put, List.setIfInBounds_toArray, List.set_cons_zero, List.set_cons_succ]
  refine wpAnyH_ready (rs := [5]) (by kernel_rfl) (by simp) ?_
  refine AllReadyH.cons (o := { dst := _, op := _, type := _, pos := _, after := _, guard := _ }) rfl (fun K hK => ?_) AllReadyH.nil
  go_simp
  refine Calls.mono (by have h7 := same_intsY (l := es) (by rw [HM.out]; have := HES.out; omega) WD ((HE.out.up (below_trans HB4.out HD.out)).is) (Rw.up HE'.out (below_trans HB4.out HD.out)); exact h7) ?_
  rintro ee W5 ⟨rfl, hb5⟩
  have HB5 : Hid (Below W4.heap.size W4 W5) := below_trans HD.out hb5
  clear hb5
  go_wp2_with fail
  refine hK.out _ _ ?_ (fun hHeld => ?_)
  · exact HB5.out
  clear hK K
  try simp only [Act.put, List.setIfInBounds_toArray, List.set_cons_zero, List.set_cons_succ]
  refine wpAnyH_take (i := 6) (oi := { dst := _, op := _, type := _, pos := _, after := _, guard := _ }) (v := ?_) rfl (by kernel_rfl) (by kernel_rfl) (by kernel_rfl) (fun _ _ _ h => h) (Or.inl ⟨by rfl, ?_⟩) (by assumption) ?_
  rotate_left
  · intro W hSw
    (try dsimp only at hSw)
    go_simp
    (try with_reducible rfl)
  try simp only [Act.put, List.setIfInBounds_toArray, List.set_cons_zero, List.set_cons_succ]
  refine wpAnyH_take (i := 7) (oi := { dst := _, op := _, type := _, pos := _, after := _, guard := _ }) (v := ?_) rfl (by kernel_rfl) (by kernel_rfl) (by kernel_rfl) (fun _ _ _ h => h) (Or.inl ⟨by rfl, ?_⟩) (by assumption) ?_
  rotate_left
  · intro W hSw
    (try dsimp only at hSw)
    go_simp
    (try with_reducible rfl)
  try simp only [Act.put, List.setIfInBounds_toArray, List.set_cons_zero, List.set_cons_succ]
  refine wpAnyH_take (i := 8) (oi := { dst := _, op := _, type := _, pos := _, after := _, guard := _ }) (v := ?_) rfl (by kernel_rfl) (by kernel_rfl) (by kernel_rfl) (fun _ _ _ h => h) (Or.inl ⟨by rfl, ?_⟩) (by assumption) ?_
  rotate_left
  · intro W hSw
    (try dsimp only at hSw)
    go_simp
    (try with_reducible rfl)
  try simp only [Act.put, List.setIfInBounds_toArray, List.set_cons_zero, List.set_cons_succ]
  refine wpAnyH_take (i := 9) (oi := { dst := _, op := _, type := _, pos := _, after := _, guard := _ }) (v := ?_) rfl (by kernel_rfl) (by kernel_rfl) (by kernel_rfl) (fun _ _ _ h => h) (Or.inl ⟨by rfl, ?_⟩) (by assumption) ?_
  rotate_left
  · intro W hSw
    (try dsimp only at hSw)
    go_simp
    (try with_reducible rfl)
  try simp only [Act.put, List.setIfInBounds_toArray, List.set_cons_zero, List.set_cons_succ]
  refine wpAnyH_take (i := 10) (oi := { dst := _, op := _, type := _, pos := _, after := _, guard := _ }) (v := ?_) rfl (by kernel_rfl) (by kernel_rfl) (by kernel_rfl) (fun _ _ _ h => h) (Or.inl ⟨by rfl, ?_⟩) (by assumption) ?_
  rotate_left
  · intro W hSw
    (try dsimp only at hSw)
    go_simp
    (try with_reducible rfl)
  try simp only [Act.put, List.setIfInBounds_toArray, List.set_cons_zero, List.set_cons_succ]
  refine wpAnyH_take (i := 11) (oi := { dst := _, op := _, type := _, pos := _, after := _, guard := _ }) (v := ?_) rfl (by kernel_rfl) (by kernel_rfl) (by kernel_rfl) (fun _ _ _ h => h) (Or.inl ⟨by rfl, ?_⟩) (by assumption) ?_
  rotate_left
  · intro W hSw
    (try dsimp only at hSw)
    go_simp
    (try with_reducible rfl)
  try simp only [Act.put, List.setIfInBounds_toArray, List.set_cons_zero, List.set_cons_succ]
  refine wpAnyH_take (i := 12) (oi := { dst := _, op := _, type := _, pos := _, after := _, guard := _ }) (v := ?_) rfl (by kernel_rfl) (by kernel_rfl) (by kernel_rfl) (fun _ _ _ h => h) (Or.inl ⟨by rfl, ?_⟩) (by assumption) ?_
  rotate_left
  · intro W hSw
    (try dsimp only at hSw)
    go_simp
    (try with_reducible rfl)
  try simp only [Act.put, List.setIfInBounds_toArray, List.set_cons_zero, List.set_cons_succ]
  refine wpAnyH_take (i := 13) (oi := { dst := _, op := _, type := _, pos := _, after := _, guard := _ }) (v := ?_) rfl (by kernel_rfl) (by kernel_rfl) (by kernel_rfl) (fun _ _ _ h => h) (Or.inl ⟨by rfl, ?_⟩) (by assumption) ?_
  rotate_left
  · intro W hSw
    (try dsimp only at hSw)
    have z0 := (HQK.out W hSw).1
    go_simp
    (try with_reducible rfl)
  try simp only [Act.put, List.setIfInBounds_toArray, List.set_cons_zero, List.set_cons_succ]
  refine wpAnyH_take (i := 14) (oi := { dst := _, op := _, type := _, pos := _, after := _, guard := _ }) (v := ?_) rfl (by kernel_rfl) (by kernel_rfl) (by kernel_rfl) (fun _ _ _ h => h) (Or.inl ⟨by rfl, ?_⟩) (by assumption) ?_
  rotate_left
  · intro W hSw
    (try dsimp only at hSw)
    go_simp
    (try with_reducible rfl)
  try simp only [Act.put, List.setIfInBounds_toArray, List.set_cons_zero, List.set_cons_succ]
  refine wpAnyH_take (i := 15) (oi := { dst := _, op := _, type := _, pos := _, after := _, guard := _ }) (v := ?_) rfl (by kernel_rfl) (by kernel_rfl) (by kernel_rfl) (fun _ _ _ h => h) (Or.inl ⟨by rfl, ?_⟩) (by assumption) ?_
  rotate_left
  · intro W hSw
    (try dsimp only at hSw)
    go_simp
    (try with_reducible rfl)
  try simp only [Act.put, List.setIfInBounds_toArray, List.set_cons_zero, List.set_cons_succ]
  refine wpAnyH_take (i := 16) (oi := { dst := _, op := _, type := _, pos := _, after := _, guard := _ }) (v := ?_) rfl (by kernel_rfl) (by kernel_rfl) (by kernel_rfl) (fun _ _ _ h => h) (Or.inl ⟨by rfl, ?_⟩) (by assumption) ?_
  rotate_left
  · intro W hSw
    (try dsimp only at hSw)
    go_simp
    (try with_reducible rfl)
  try simp only [Act.put, List.setIfInBounds_toArray, List.set_cons_zero, List.set_cons_succ]
  refine wpAnyH_take (i := 17) (oi := { dst := _, op := _, type := _, pos := _, after := _, guard := _ }) (v := ?_) rfl (by kernel_rfl) (by kernel_rfl) (by kernel_rfl) (fun _ _ _ h => h) (Or.inl ⟨by rfl, ?_⟩) (by assumption) ?_
  rotate_left
  · intro W hSw
    (try dsimp only at hSw)
    go_simp
    (try with_reducible rfl)
  try simp only [Act.put, List.setIfInBounds_toArray, List.set_cons_zero, List.set_cons_succ]
  refine wpAnyH_take (i := 18) (oi := { dst := _, op := _, type := _, pos := _, after := _, guard := _ }) (v := ?_) rfl (by kernel_rfl) (by kernel_rfl) (by kernel_rfl) (fun _ _ _ h => h) (Or.inl ⟨by rfl, ?_⟩) (by assumption) ?_
  rotate_left
  · intro W hSw
    (try dsimp only at hSw)
    go_simp
    (try with_reducible rfl)
  try simp only [Act.put, List.setIfInBounds_toArray, List.set_cons_zero, List.set_cons_succ]
  refine wpAnyH_take (i := 19) (oi := { dst := _, op := _, type := _, pos := _, after := _, guard := _ }) (v := ?_) rfl (by kernel_rfl) (by kernel_rfl) (by kernel_rfl) (fun _ _ _ h => h) (Or.inl ⟨by rfl, ?_⟩) (by assumption) ?_
  rotate_left
  · intro W hSw
    (try dsimp only at hSw)
    go_simp
    (try with_reducible rfl)
  try simp only [Act.put, List.setIfInBounds_toArray, List.set_cons_zero, List.set_cons_succ]
  refine wpAnyH_take (i := 20) (oi := { dst := _, op := _, type := _, pos := _, after := _, guard := _ }) (v := ?_) rfl (by kernel_rfl) (by kernel_rfl) (by kernel_rfl) (fun _ _ _ h => h) (Or.inl ⟨by rfl, ?_⟩) (by assumption) ?_
  rotate_left
  · intro W hSw
    (try dsimp only at hSw)
    have z0 := (HQK.out W hSw).2
    go_simp
    (try with_reducible rfl)
  try simp only [Act.put, List.setIfInBounds_toArray, List.set_cons_zero, List.set_cons_succ]
  refine wpAnyH_take (i := 21) (oi := { dst := _, op := _, type := _, pos := _, after := _, guard := _ }) (v := ?_) rfl (by kernel_rfl) (by kernel_rfl) (by kernel_rfl) (fun _ _ _ h => h) (Or.inl ⟨by rfl, ?_⟩) (by assumption) ?_
  rotate_left
  · intro W hSw
    (try dsimp only at hSw)
    go_simp
    (try with_reducible rfl)
  try simp only [Act.put, List.setIfInBounds_toArray, List.set_cons_zero, List.set_cons_succ]
  refine wpAnyH_take (i := 22) (oi := { dst := _, op := _, type := _, pos := _, after := _, guard := _ }) (v := ?_) rfl (by kernel_rfl) (by kernel_rfl) (by kernel_rfl) (fun _ _ _ h => h) (Or.inl ⟨by rfl, ?_⟩) (by assumption) ?_
  rotate_left
  · intro W hSw
    (try dsimp only at hSw)
    go_simp
    (try with_reducible rfl)
  try simp only [Act.put, List.setIfInBounds_toArray, List.set_cons_zero, List.set_cons_succ]
  refine wpAnyH_take (i := 23) (oi := { dst := _, op := _, type := _, pos := _, after := _, guard := _ }) (v := ?_) rfl (by kernel_rfl) (by kernel_rfl) (by kernel_rfl) (fun _ _ _ h => h) (Or.inl ⟨by rfl, ?_⟩) (by assumption) ?_
  rotate_left
  · intro W hSw
    (try dsimp only at hSw)
    go_simp
    (try with_reducible rfl)
  try simp only [Act.put, List.setIfInBounds_toArray, List.set_cons_zero, List.set_cons_succ]
  refine wpAnyH_take (i := 24) (oi := { dst := _, op := _, type := _, pos := _, after := _, guard := _ }) (v := ?_) rfl (by kernel_rfl) (by kernel_rfl) (by kernel_rfl) (fun _ _ _ h => h) (Or.inl ⟨by rfl, ?_⟩) (by assumption) ?_
  rotate_left
  · intro W hSw
    (try dsimp only at hSw)
    go_simp
    (try with_reducible rfl)
  try simp only [Act.put, List.setIfInBounds_toArray, List.set_cons_zero, List.set_cons_succ]
  refine wpAnyH_take (i := 25) (oi := { dst := _, op := _, type := _, pos := _, after := _, guard := _ }) (v := ?_) rfl (by kernel_rfl) (by kernel_rfl) (by kernel_rfl) (fun _ _ _ h => h) (Or.inl ⟨by rfl, ?_⟩) (by assumption) ?_
  rotate_left
  · intro W hSw
    (try dsimp only at hSw)
    go_simp
    (try with_reducible rfl)
  try simp only [Act.put, List.setIfInBounds_toArray, List.set_cons_zero, List.set_cons_succ]
  refine wpAnyH_take (i := 26) (oi := { dst := _, op := _, type := _, pos := _, after := _, guard := _ }) (v := ?_) rfl (by kernel_rfl) (by kernel_rfl) (by kernel_rfl) (fun _ _ _ h => h) (Or.inl ⟨by rfl, ?_⟩) (by assumption) ?_
  rotate_left
  · intro W hSw
    (try dsimp only at hSw)
    go_simp
    (try with_reducible rfl)
  try simp only [Act.put, List.setIfInBounds_toArray, List.set_cons_zero, List.set_cons_succ]
  refine wpAnyH_take (i := 27) (oi := { dst := _, op := _, type := _, pos := _, after := _, guard := _ }) (v := ?_) rfl (by kernel_rfl) (by kernel_rfl) (by kernel_rfl) (fun _ _ _ h => h) (Or.inl ⟨by rfl, ?_⟩) (by assumption) ?_
  rotate_left
  · intro W hSw
    (try dsimp only at hSw)
    go_simp
    (try with_reducible rfl)
  try simp only [Act.put, List.setIfInBounds_toArray, List.set_cons_zero, List.set_cons_succ]
  refine wpAnyH_take (i := 28) (oi := { dst := _, op := _, type := _, pos := _, after := _, guard := _ }) (v := ?_) rfl (by kernel_rfl) (by kernel_rfl) (by kernel_rfl) (fun _ _ _ h => h) (Or.inl ⟨by rfl, ?_⟩) (by assumption) ?_
  rotate_left
  · intro W hSw
    (try dsimp only at hSw)
    go_simp
    (try with_reducible rfl)
  try simp only [Act.put, List.setIfInBounds_toArray, List.set_cons_zero, List.set_cons_succ]
  refine wpAnyH_take (i := 29) (oi := { dst := _, op := _, type := _, pos := _, after := _, guard := _ }) (v := ?_) rfl (by kernel_rfl) (by kernel_rfl) (by kernel_rfl) (fun _ _ _ h => h) (Or.inl ⟨by rfl, ?_⟩) (by assumption) ?_
  rotate_left
  · intro W hSw
    (try dsimp only at hSw)
    go_simp
    (try with_reducible rfl)
  try simp only [Act.put, List.setIfInBounds_toArray, List.set_cons_zero, List.set_cons_succ]
  refine wpAnyH_take (i := 30) (oi := { dst := _, op := _, type := _, pos := _, after := _, guard := _ }) (v := ?_) rfl (by kernel_rfl) (by kernel_rfl) (by kernel_rfl) (fun _ _ _ h => h) (Or.inl ⟨by rfl, ?_⟩) (by assumption) ?_
  rotate_left
  · intro W hSw
    (try dsimp only at hSw)
    have z0 := (HQE.out W hSw).1
    go_simp
    (try with_reducible rfl)
  try simp only [Act.put, List.setIfInBounds_toArray, List.set_cons_zero, List.set_cons_succ]
  refine wpAnyH_take (i := 31) (oi := { dst := _, op := _, type := _, pos := _, after := _, guard := _ }) (v := ?_) rfl (by kernel_rfl) (by kernel_rfl) (by kernel_rfl) (fun _ _ _ h => h) (Or.inl ⟨by rfl, ?_⟩) (by assumption) ?_
  rotate_left
  · intro W hSw
    (try dsimp only at hSw)
    go_simp
    (try with_reducible rfl)
  try simp only [Act.put, List.setIfInBounds_toArray, List.set_cons_zero, List.set_cons_succ]
  refine wpAnyH_take (i := 32) (oi := { dst := _, op := _, type := _, pos := _, after := _, guard := _ }) (v := ?_) rfl (by kernel_rfl) (by kernel_rfl) (by kernel_rfl) (fun _ _ _ h => h) (Or.inl ⟨by rfl, ?_⟩) (by assumption) ?_
  rotate_left
  · intro W hSw
    (try dsimp only at hSw)
    go_simp
    (try with_reducible rfl)
  try simp only [Act.put, List.setIfInBounds_toArray, List.set_cons_zero, List.set_cons_succ]
  refine wpAnyH_take (i := 33) (oi := { dst := _, op := _, type := _, pos := _, after := _, guard := _ }) (v := ?_) rfl (by kernel_rfl) (by kernel_rfl) (by kernel_rfl) (fun _ _ _ h => h) (Or.inl ⟨by rfl, ?_⟩) (by assumption) ?_
  rotate_left
  · intro W hSw
    (try dsimp only at hSw)
    go_simp
    (try with_reducible rfl)
  try simp only [Act.put, List.setIfInBounds_toArray, List.set_cons_zero, List.set_cons_succ]
  refine wpAnyH_take (i := 34) (oi := { dst := _, op := _, type := _, pos := _, after := _, guard := _ }) (v := ?_) rfl (by kernel_rfl) (by kernel_rfl) (by kernel_rfl) (fun _ _ _ h => h) (Or.inl ⟨by rfl, ?_⟩) (by assumption) ?_
  rotate_left
  · intro W hSw
    (try dsimp only at hSw)
    go_simp
    (try with_reducible rfl)
  try simp only [Act.put, List.setIfInBounds_toArray, List.set_cons_zero, List.set_cons_succ]
  refine wpAnyH_take (i := 35) (oi := { dst := _, op := _, type := _, pos := _, after := _, guard := _ }) (v := ?_) rfl (by kernel_rfl) (by kernel_rfl) (by kernel_rfl) (fun _ _ _ h => h) (Or.inl ⟨by rfl, ?_⟩) (by assumption) ?_
  rotate_left
  · intro W hSw
    (try dsimp only at hSw)
    go_simp
    (try with_reducible rfl)
  try simp only [Act.put, List.setIfInBounds_toArray, List.set_cons_zero, List.set_cons_succ]
  refine wpAnyH_take (i := 36) (oi := { dst := _, op := _, type := _, pos := _, after := _, guard := _ }) (v := ?_) rfl (by kernel_rfl) (by kernel_rfl) (by kernel_rfl) (fun _ _ _ h => h) (Or.inl ⟨by rfl, ?_⟩) (by assumption) ?_
  rotate_left
  · intro W hSw
    (try dsimp only at hSw)
    go_simp
    (try with_reducible rfl)
  try simp only [Act.put, List.setIfInBounds_toArray, List.set_cons_zero, List.set_cons_succ]
  refine wpAnyH_take (i := 37) (oi := { dst := _, op := _, type := _, pos := _, after := _, guard := _ }) (v := ?_) rfl (by kernel_rfl) (by kernel_rfl) (by kernel_rfl) (fun _ _ _ h => h) (Or.inl ⟨by rfl, ?_⟩) (by assumption) ?_
  rotate_left
  · intro W hSw
    (try dsimp only at hSw)
    go_simp
    (try with_reducible rfl)
  try simp only [Act.put, List.setIfInBounds_toArray, List.set_cons_zero, List.set_cons_succ]
  refine wpAnyH_take (i := 38) (oi := { dst := _, op := _, type := _, pos := _, after := _, guard := _ }) (v := ?_) rfl (by kernel_rfl) (by kernel_rfl) (by kernel_rfl) (fun _ _ _ h => h) (Or.inl ⟨by rfl, ?_⟩) (by assumption) ?_
  rotate_left
  · intro W hSw
    (try dsimp only at hSw)
    go_simp
    (try with_reducible rfl)
  try simp only [Act.put, List.setIfInBounds_toArray, List.set_cons_zero, List.set_cons_succ]
  refine wpAnyH_take (i := 39) (oi := { dst := _, op := _, type := _, pos := _, after := _, guard := _ }) (v := ?_) rfl (by kernel_rfl) (by kernel_rfl) (by kernel_rfl) (fun _ _ _ h => h) (Or.inl ⟨by rfl, ?_⟩) (by assumption) ?_
  rotate_left
  · intro W hSw
    (try dsimp only at hSw)
    have z0 := (HQE.out W hSw).2
    go_simp
    (try with_reducible rfl)
  try simp only [Act.put, List.setIfInBounds_toArray, List.set_cons_zero, List.set_cons_succ]
  refine wpAnyH_take (i := 40) (oi := { dst := _, op := _, type := _, pos := _, after := _, guard := _ }) (v := ?_) rfl (by kernel_rfl) (by kernel_rfl) (by kernel_rfl) (fun _ _ _ h => h) (Or.inl ⟨by rfl, ?_⟩) (by assumption) ?_
  rotate_left
  · intro W hSw
    (try dsimp only at hSw)
    go_simp
    (try with_reducible rfl)
  try simp only [Act.put, List.setIfInBounds_toArray, List.set_cons_zero, List.set_cons_succ]
  refine wpAnyH_take (i := 41) (oi := { dst := _, op := _, type := _, pos := _, after := _, guard := _ }) (v := ?_) rfl (by kernel_rfl) (by kernel_rfl) (by kernel_rfl) (fun _ _ _ h => h) (Or.inl ⟨by rfl, ?_⟩) (by assumption) ?_
  rotate_left
  · intro W hSw
    (try dsimp only at hSw)
    go_simp
    (try with_reducible rfl)
  try simp only [Act.put, List.setIfInBounds_toArray, List.set_cons_zero, List.set_cons_succ]
  refine wpAnyH_done (by kernel_rfl) ?_ _
  clear hHeld
  refine NoPanic.normal ?_
  have HB6 : Hid (Below w.heap.size w W5) := below_trans HB4.out HB5.out
  have HX5 : Hid (W5.heap[w.heap.size]? = some (.cells #[u 0, u 1, .slice a0 n0 c0, .slice a1 n1 c1, .slice a2 n2 c2, u 5, u 6, u 7, u 8, u 9, u 10, u 11] 52 (0, 0))) := by rw [HB5.out.block _ (lt_of_heap HX4.out)]; exact HX4.out
  clear f1 f2 f3 f4 f5 f6 g1 g2 HQK HQE HB4 HB5 HX4 HD hw2 hw3 hw4 hw5 l1 l2 l3 l4
  go_upto_region 9 with fail
  go_loopg [20] n (fun gm v20 wr => ∃ i : Nat, v20 = .int .i64 (i : Int) ∧ Hid (gm = n - i ∧ i ≤ n) ∧ Hid (wr.heap[w.heap.size]? = some (.cells #[u 0, u 1, .slice a0 n0 c0, .slice a1 n1 c1, .slice a2 n2 c2, u 5, u 6, u 7, u 8, u 9, u 10, u 11] 52 (0, 0))) ∧ Hid (Below w.heap.size w wr))
  case atStart => exact ⟨0, rfl, ⟨rfl, Nat.zero_le _⟩, HX5, HB6⟩
  case round =>
    clear HX5 HB6
    obtain ⟨i, rfl, HI, HXR, HBW⟩ := hrel
    by_cases hi : i < n
    · have e1 : decide ((i : Int) < (n : Int)) = true := by rw [decide_eq_true_eq]; omega
      have e2 : decide (i < n) = true := by rw [decide_eq_true_eq]; omega
      have e3 : (i : Int) < (n : Int) := by omega
      have HIM : Hid (i < n) := hi
      have hil : i < L'.length := by have := HN.out; omega
      have hil2 : i < L.length := by have := HN.out; omega
      have hsn : (L.getD i krd).2 = (L'.getD i krd).2 := by rw [← snd_getD L i, ← snd_getD L' i, HLL.out]
      obtain ⟨g', o', b', c', ea, q0', q1', q2'⟩ := HK'.out.at i hil
      obtain ⟨g, o, b, c, ea2, q0, q1, q2⟩ := HK.out.kr.at i hil2
      obtain ⟨rfl, rfl⟩ : kg = g ∧ 0 = o := by cases ea2; exact ⟨rfl, rfl⟩
      subst ea
      have HRM : Hid (Rmy B w (L.getD i krd).1 (L.getD i krd).2) := HKA.out _ (getD_mem L krd i hil2)
      have HTL : Hid ((L'.getD i krd).2.length ≤ 1048576) := HSQ.out _ (getD_mem L' krd i hil)
      rw [hsn] at q0 q1 q2 HRM
      obtain ⟨t, ht⟩ : ∃ t, (L'.getD i krd).2 = t := ⟨_, rfl⟩
      rw [ht] at q0 q1 q2 q1' q2' HRM HTL
      rw [q0] at HRM
      have HT : Hid (∀ W, Below w.heap.size w W → Ns W (.slice b t.length c) t) := fun W hb => Ns.up q2 hb
      have HT' : Hid (∀ W, Below w.heap.size w W → Ns W (.slice b' t.length c') t) := fun W hb => Ns.up q2' hb
      have HRW : Hid (∀ W, Below w.heap.size w W → Rmy B W (.slice b t.length c) t) := fun W hb => HRM.out.up hb
      have HC : Hid (w.cell? ⟨kg, i, none⟩ = some (.slice b t.length c)) := by have h7 := q1; rw [Nat.zero_add] at h7; exact h7
      have HC' : Hid (w.cell? ⟨g', o' + i, none⟩ = some (.slice b' t.length c')) := q1'
      have HTS : Hid (Sm t) := by have := HTL.out; show _ ≤ _; omega
      have HSW : Hid (Sm (shw Te y t)) := by
        have := HTL.out
        unfold shw
        cases hdn Te y with
        | true => show (0 : Nat) * 72 + 4096 ≤ 140737488355328; omega
        | false => exact HTS.out
      obtain ⟨tl, htl⟩ : ∃ tl, t.length = tl := ⟨_, rfl⟩
      rw [htl] at HC HC' HT HT' HRW
      obtain ⟨S, hS⟩ : ∃ S, shw Te y t = S := ⟨_, rfl⟩
      have HSE : Hid (shw Te y t = S) := hS
      rw [hS] at HSW
      have hwi := w64n i (by have := HNB.out; omega)
      clear hil hil2 hsn ea2 q0' q0 q1 q2 q1' q2' ht htl hi HRM hS
      go_upto_region 11 with fail
      refine wp_region_noPanic ?_
      refine wp_region_held_drew (S := fun W => Below wr.heap.size wr W) (by kernel_rfl) (Below.drew (Below.refl _ _)) (fun hHeld => ?_)
      obtain ⟨V2D, hWD⟩ : ∃ WD, wr.drew = WD := ⟨_, rfl⟩
      have HV2D : Hid (Below wr.heap.size wr V2D) := by rw [← hWD]; exact Below.drew (Below.refl _ _)
      rw [hWD] at hHeld ⊢
      clear hWD
      refine wpAnyH_take (i := 0) (oi := { dst := _, op := _, type := _, pos := _, after := _, guard := _ }) (v := ?_) rfl (by kernel_rfl) (by kernel_rfl) (by kernel_rfl) (fun _ _ _ h => h) (Or.inl ⟨by rfl, ?_⟩) (by assumption) ?_
      rotate_left
      · intro W hSw
        (try dsimp only at hSw)
        have x0 := below_cell hSw (rcell HXR.out 0 _ rfl)
        have x1 := below_cell hSw (rcell HXR.out 1 _ rfl)
        have x2 := below_cell hSw (rcell HXR.out 2 _ rfl)
        have x3 := below_cell hSw (rcell HXR.out 3 _ rfl)
        have x4 := below_cell hSw (rcell HXR.out 4 _ rfl)
        have x5 := below_cell hSw (rcell HXR.out 5 _ rfl)
        have x6 := below_cell hSw (rcell HXR.out 6 _ rfl)
        have x7 := below_cell hSw (rcell HXR.out 7 _ rfl)
        have x8 := below_cell hSw (rcell HXR.out 8 _ rfl)
        have x9 := below_cell hSw (rcell HXR.out 9 _ rfl)
        have x10 := below_cell hSw (rcell HXR.out 10 _ rfl)
        have x11 := below_cell hSw (rcell HXR.out 11 _ rfl)
        go_simp
        (try with_reducible rfl)
      try simp only [Act.put, List.setIfInBounds_toArray, List.set_cons_zero, List.set_cons_succ]
      refine wpAnyH_take (i := 1) (oi := { dst := _, op := _, type := _, pos := _, after := _, guard := _ }) (v := ?_) rfl (by kernel_rfl) (by kernel_rfl) (by kernel_rfl) (fun _ _ _ h => h) (Or.inl ⟨by rfl, ?_⟩) (by assumption) ?_
      rotate_left
      · intro W hSw
        (try dsimp only at hSw)
        go_simp
        (try with_reducible rfl)
      try simp only [Act.put, List.setIfInBounds_toArray, List.set_cons_zero, List.set_cons_succ]
      refine wpAnyH_take (i := 2) (oi := { dst := _, op := _, type := _, pos := _, after := _, guard := _ }) (v := ?_) rfl (by kernel_rfl) (by kernel_rfl) (by kernel_rfl) (fun _ _ _ h => h) (Or.inl ⟨by rfl, ?_⟩) (by assumption) ?_
      rotate_left
      · intro W hSw
        (try dsimp only at hSw)
        go_simp
        (try with_reducible rfl)
      try simp only [Act.put, List.setIfInBounds_toArray, List.set_cons_zero, List.set_cons_succ]
      refine wpAnyH_take (i := 3) (oi := { dst := _, op := _, type := _, pos := _, after := _, guard := _ }) (v := ?_) rfl (by kernel_rfl) (by kernel_rfl) (by kernel_rfl) (fun _ _ _ h => h) (Or.inl ⟨by rfl, ?_⟩) (by assumption) ?_
      rotate_left
      · intro W hSw
        (try dsimp only at hSw)
        go_simp
        (try with_reducible rfl)
      try simp only [Act.put, List.setIfInBounds_toArray, List.set_cons_zero, List.set_cons_succ]
      refine wpAnyH_take (i := 4) (oi := { dst := _, op := _, type := _, pos := _, after := _, guard := _ }) (v := ?_) rfl (by kernel_rfl) (by kernel_rfl) (by kernel_rfl) (fun _ _ _ h => h) (Or.inl ⟨by rfl, ?_⟩) (by assumption) ?_
      rotate_left
      · intro W hSw
        (try dsimp only at hSw)
        go_simp
        (try with_reducible rfl)
      try simp only [Act.put, List.setIfInBounds_toArray, List.set_cons_zero, List.set_cons_succ]
      refine wpAnyH_take (i := 5) (oi := { dst := _, op := _, type := _, pos := _, after := _, guard := _ }) (v := ?_) rfl (by kernel_rfl) (by kernel_rfl) (by kernel_rfl) (fun _ _ _ h => h) (Or.inl ⟨by rfl, ?_⟩) (by assumption) ?_
      rotate_left
      · intro W hSw
        (try dsimp only at hSw)
        have z0 := below_cell hSw (below_cell HBW.out HC'.out)
        go_simp
        (try with_reducible rfl)
      try simp only [Act.put, List.setIfInBounds_toArray, List.set_cons_zero, List.set_cons_succ]
      refine wpAnyH_ready (rs := [6]) (by kernel_rfl) (by simp) ?_
      refine AllReadyH.cons (o := { dst := _, op := _, type := _, pos := _, after := _, guard := _ }) rfl (fun K hK => ?_) AllReadyH.nil
      go_simp
      refine Calls.mono (HSH.out V2D _ t (below_trans HBW.out HV2D.out) HTL.out (HT'.out _ (below_trans HBW.out HV2D.out))) ?_
      rw [HSE.out]
      rintro ee V2 ⟨r1, rfl, ho1, hb1⟩
      have HO1 : Hid (V2.ownsRow w.heap.size 33 7 r1 S.length (flat nf S)) := row_base ho1 (below_trans HBW.out HV2D.out).size
      have HKV2 : Hid (Below wr.heap.size wr V2) := below_trans HV2D.out hb1
      have HB2 : Hid (Below w.heap.size w V2) := below_trans HBW.out HKV2.out
      have HX2 : Hid (V2.heap[w.heap.size]? = some (.cells #[u 0, u 1, .slice a0 n0 c0, .slice a1 n1 c1, .slice a2 n2 c2, u 5, u 6, u 7, u 8, u 9, u 10, u 11] 52 (0, 0))) := (by rw [HKV2.out.block _ (lt_of_heap HXR.out)]; exact HXR.out)
      obtain ⟨xa2, xc2, rfl⟩ := row_shape ho1
      clear ho1 hb1
      go_wp2_with fail
      refine hK.out _ _ ?_ (fun hHeld => ?_)
      · exact HKV2.out
      clear hK K
      try simp only [Act.put, List.setIfInBounds_toArray, List.set_cons_zero, List.set_cons_succ]
      refine wpAnyH_take (i := 7) (oi := { dst := _, op := _, type := _, pos := _, after := _, guard := _ }) (v := ?_) rfl (by kernel_rfl) (by kernel_rfl) (by kernel_rfl) (fun _ _ _ h => h) (Or.inl ⟨by rfl, ?_⟩) (by assumption) ?_
      rotate_left
      · intro W hSw
        (try dsimp only at hSw)
        go_simp
        (try with_reducible rfl)
      try simp only [Act.put, List.setIfInBounds_toArray, List.set_cons_zero, List.set_cons_succ]
      refine wpAnyH_done (by kernel_rfl) ?_ _
      clear hHeld
      refine NoPanic.normal ?_
      go_upto_region 12 with fail
      refine wp_region_noPanic ?_
      refine wp_region_held_drew (S := fun W => Below V2.heap.size V2 W) (by kernel_rfl) (Below.drew (Below.refl _ _)) (fun hHeld => ?_)
      obtain ⟨V3D, hWD⟩ : ∃ WD, V2.drew = WD := ⟨_, rfl⟩
      have HV3D : Hid (Below V2.heap.size V2 V3D) := by rw [← hWD]; exact Below.drew (Below.refl _ _)
      rw [hWD] at hHeld ⊢
      clear hWD
      refine wpAnyH_take (i := 0) (oi := { dst := _, op := _, type := _, pos := _, after := _, guard := _ }) (v := ?_) rfl (by kernel_rfl) (by kernel_rfl) (by kernel_rfl) (fun _ _ _ h => h) (Or.inl ⟨by rfl, ?_⟩) (by assumption) ?_
      rotate_left
      · intro W hSw
        (try dsimp only at hSw)
        have x0 := below_cell hSw (rcell HX2.out 0 _ rfl)
        have x1 := below_cell hSw (rcell HX2.out 1 _ rfl)
        have x2 := below_cell hSw (rcell HX2.out 2 _ rfl)
        have x3 := below_cell hSw (rcell HX2.out 3 _ rfl)
        have x4 := below_cell hSw (rcell HX2.out 4 _ rfl)
        have x5 := below_cell hSw (rcell HX2.out 5 _ rfl)
        have x6 := below_cell hSw (rcell HX2.out 6 _ rfl)
        have x7 := below_cell hSw (rcell HX2.out 7 _ rfl)
        have x8 := below_cell hSw (rcell HX2.out 8 _ rfl)
        have x9 := below_cell hSw (rcell HX2.out 9 _ rfl)
        have x10 := below_cell hSw (rcell HX2.out 10 _ rfl)
        have x11 := below_cell hSw (rcell HX2.out 11 _ rfl)
        go_simp
        (try with_reducible rfl)
      try simp only [Act.put, List.setIfInBounds_toArray, List.set_cons_zero, List.set_cons_succ]
      refine wpAnyH_take (i := 1) (oi := { dst := _, op := _, type := _, pos := _, after := _, guard := _ }) (v := ?_) rfl (by kernel_rfl) (by kernel_rfl) (by kernel_rfl) (fun _ _ _ h => h) (Or.inl ⟨by rfl, ?_⟩) (by assumption) ?_
      rotate_left
      · intro W hSw
        (try dsimp only at hSw)
        go_simp
        (try with_reducible rfl)
      try simp only [Act.put, List.setIfInBounds_toArray, List.set_cons_zero, List.set_cons_succ]
      refine wpAnyH_take (i := 2) (oi := { dst := _, op := _, type := _, pos := _, after := _, guard := _ }) (v := ?_) rfl (by kernel_rfl) (by kernel_rfl) (by kernel_rfl) (fun _ _ _ h => h) (Or.inl ⟨by rfl, ?_⟩) (by assumption) ?_
      rotate_left
      · intro W hSw
        (try dsimp only at hSw)
        go_simp
        (try with_reducible rfl)
      try simp only [Act.put, List.setIfInBounds_toArray, List.set_cons_zero, List.set_cons_succ]
      refine wpAnyH_take (i := 3) (oi := { dst := _, op := _, type := _, pos := _, after := _, guard := _ }) (v := ?_) rfl (by kernel_rfl) (by kernel_rfl) (by kernel_rfl) (fun _ _ _ h => h) (Or.inl ⟨by rfl, ?_⟩) (by assumption) ?_
      rotate_left
      · intro W hSw
        (try dsimp only at hSw)
        go_simp
        (try with_reducible rfl)
      try simp only [Act.put, List.setIfInBounds_toArray, List.set_cons_zero, List.set_cons_succ]
      refine wpAnyH_take (i := 4) (oi := { dst := _, op := _, type := _, pos := _, after := _, guard := _ }) (v := ?_) rfl (by kernel_rfl) (by kernel_rfl) (by kernel_rfl) (fun _ _ _ h => h) (Or.inl ⟨by rfl, ?_⟩) (by assumption) ?_
      rotate_left
      · intro W hSw
        (try dsimp only at hSw)
        go_simp
        (try with_reducible rfl)
      try simp only [Act.put, List.setIfInBounds_toArray, List.set_cons_zero, List.set_cons_succ]
      refine wpAnyH_take (i := 5) (oi := { dst := _, op := _, type := _, pos := _, after := _, guard := _ }) (v := ?_) rfl (by kernel_rfl) (by kernel_rfl) (by kernel_rfl) (fun _ _ _ h => h) (Or.inl ⟨by rfl, ?_⟩) (by assumption) ?_
      rotate_left
      · intro W hSw
        (try dsimp only at hSw)
        have z0 := below_cell hSw (below_cell HB2.out HC.out)
        go_simp
        (try with_reducible rfl)
      try simp only [Act.put, List.setIfInBounds_toArray, List.set_cons_zero, List.set_cons_succ]
      refine wpAnyH_ready (rs := [6]) (by kernel_rfl) (by simp) ?_
      refine AllReadyH.cons (o := { dst := _, op := _, type := _, pos := _, after := _, guard := _ }) rfl (fun K hK => ?_) AllReadyH.nil
      go_simp
      refine Calls.mono (HSI.out V3D _ t (below_trans HB2.out HV3D.out) HTL.out (HT.out _ (below_trans HB2.out HV3D.out))) ?_
      rw [HSE.out]
      rintro ee V3 ⟨r1, rfl, ho1, hb1⟩
      have HO2 : Hid (V3.ownsRow w.heap.size 33 7 r1 S.length (flat nf S)) := row_base ho1 (below_trans HB2.out HV3D.out).size
      have HKV3 : Hid (Below V2.heap.size V2 V3) := below_trans HV3D.out hb1
      have HB3 : Hid (Below w.heap.size w V3) := below_trans HB2.out HKV3.out
      have HX3 : Hid (V3.heap[w.heap.size]? = some (.cells #[u 0, u 1, .slice a0 n0 c0, .slice a1 n1 c1, .slice a2 n2 c2, u 5, u 6, u 7, u 8, u 9, u 10, u 11] 52 (0, 0))) := (by rw [HKV3.out.block _ (lt_of_heap HX2.out)]; exact HX2.out)
      obtain ⟨ya2, yc2, rfl⟩ := row_shape ho1
      clear ho1 hb1
      go_wp2_with fail
      refine hK.out _ _ ?_ (fun hHeld => ?_)
      · exact HKV3.out
      clear hK K
      try simp only [Act.put, List.setIfInBounds_toArray, List.set_cons_zero, List.set_cons_succ]
      refine wpAnyH_take (i := 7) (oi := { dst := _, op := _, type := _, pos := _, after := _, guard := _ }) (v := ?_) rfl (by kernel_rfl) (by kernel_rfl) (by kernel_rfl) (fun _ _ _ h => h) (Or.inl ⟨by rfl, ?_⟩) (by assumption) ?_
      rotate_left
      · intro W hSw
        (try dsimp only at hSw)
        go_simp
        (try with_reducible rfl)
      try simp only [Act.put, List.setIfInBounds_toArray, List.set_cons_zero, List.set_cons_succ]
      refine wpAnyH_done (by kernel_rfl) ?_ _
      clear hHeld
      refine NoPanic.normal ?_
      have HO12 : Hid (V3.ownsRow w.heap.size 33 7 (.slice xa2 S.length xc2) S.length (flat nf S)) := row_up HO1.out HKV3.out
      go_upto_region 14 with (go_at_call 35; refine Calls.mono (same_any HSW.out V3 (row_rw HO2.out (by decide)) (row_rw HO12.out (by decide))) ?_; rintro ee V4 ⟨rfl, hb3⟩; have HB4 : Hid (Below w.heap.size w V4) := below_trans HB3.out hb3; have HX4 : Hid (V4.heap[w.heap.size]? = some (.cells #[u 0, u 1, .slice a0 n0 c0, .slice a1 n1 c1, .slice a2 n2 c2, u 5, u 6, u 7, u 8, u 9, u 10, u 11] 52 (0, 0))) := (by rw [hb3.block _ (lt_of_heap HX3.out)]; exact HX3.out); rw [decide_eq_true rfl]; clear hb3)
      clear HO1 HO2 HO12 HX2 HX3 HB2 HB3 HXR HBW
      refine wp_region_noPanic ?_
      refine wp_region_held_drew (S := fun W => Below V4.heap.size V4 W) (by kernel_rfl) (Below.drew (Below.refl _ _)) (fun hHeld => ?_)
      obtain ⟨V5D, hWD⟩ : ∃ WD, V4.drew = WD := ⟨_, rfl⟩
      have HV5D : Hid (Below V4.heap.size V4 V5D) := by rw [← hWD]; exact Below.drew (Below.refl _ _)
      rw [hWD] at hHeld ⊢
      clear hWD
      refine wpAnyH_take (i := 0) (oi := { dst := _, op := _, type := _, pos := _, after := _, guard := _ }) (v := ?_) rfl (by kernel_rfl) (by kernel_rfl) (by kernel_rfl) (fun _ _ _ h => h) (Or.inl ⟨by rfl, ?_⟩) (by assumption) ?_
      rotate_left
      · intro W hSw
        (try dsimp only at hSw)
        go_simp
        (try with_reducible rfl)
      try simp only [Act.put, List.setIfInBounds_toArray, List.set_cons_zero, List.set_cons_succ]
      refine wpAnyH_take (i := 1) (oi := { dst := _, op := _, type := _, pos := _, after := _, guard := _ }) (v := ?_) rfl (by kernel_rfl) (by kernel_rfl) (by kernel_rfl) (fun _ _ _ h => h) (Or.inl ⟨by rfl, ?_⟩) (by assumption) ?_
      rotate_left
      · intro W hSw
        (try dsimp only at hSw)
        go_simp
        (try with_reducible rfl)
      try simp only [Act.put, List.setIfInBounds_toArray, List.set_cons_zero, List.set_cons_succ]
      refine wpAnyH_take (i := 2) (oi := { dst := _, op := _, type := _, pos := _, after := _, guard := _ }) (v := ?_) rfl (by kernel_rfl) (by kernel_rfl) (by kernel_rfl) (fun _ _ _ h => h) (Or.inl ⟨by rfl, ?_⟩) (by assumption) ?_
      rotate_left
      · intro W hSw
        (try dsimp only at hSw)
        go_simp
        (try with_reducible rfl)
      try simp only [Act.put, List.setIfInBounds_toArray, List.set_cons_zero, List.set_cons_succ]
      refine wpAnyH_take (i := 3) (oi := { dst := _, op := _, type := _, pos := _, after := _, guard := _ }) (v := ?_) rfl (by kernel_rfl) (by kernel_rfl) (by kernel_rfl) (fun _ _ _ h => h) (Or.inl ⟨by rfl, ?_⟩) (by assumption) ?_
      rotate_left
      · intro W hSw
        (try dsimp only at hSw)
        go_simp
        (try with_reducible rfl)
      try simp only [Act.put, List.setIfInBounds_toArray, List.set_cons_zero, List.set_cons_succ]
      refine wpAnyH_take (i := 4) (oi := { dst := _, op := _, type := _, pos := _, after := _, guard := _ }) (v := ?_) rfl (by kernel_rfl) (by kernel_rfl) (by kernel_rfl) (fun _ _ _ h => h) (Or.inl ⟨by rfl, ?_⟩) (by assumption) ?_
      rotate_left
      · intro W hSw
        (try dsimp only at hSw)
        go_simp
        (try with_reducible rfl)
      try simp only [Act.put, List.setIfInBounds_toArray, List.set_cons_zero, List.set_cons_succ]
      refine wpAnyH_take (i := 5) (oi := { dst := _, op := _, type := _, pos := _, after := _, guard := _ }) (v := ?_) rfl (by kernel_rfl) (by kernel_rfl) (by kernel_rfl) (fun _ _ _ h => h) (Or.inl ⟨by rfl, ?_⟩) (by assumption) ?_
      rotate_left
      · intro W hSw
        (try dsimp only at hSw)
        go_simp
        (try with_reducible rfl)
      try simp only [Act.put, List.setIfInBounds_toArray, List.set_cons_zero, List.set_cons_succ]
      refine wpAnyH_take (i := 6) (oi := { dst := _, op := _, type := _, pos := _, after := _, guard := _ }) (v := ?_) rfl (by kernel_rfl) (by kernel_rfl) (by kernel_rfl) (fun _ _ _ h => h) (Or.inl ⟨by rfl, ?_⟩) (by assumption) ?_
      rotate_left
      · intro W hSw
        (try dsimp only at hSw)
        have z0 := below_cell hSw (below_cell HB4.out HC.out)
        go_simp
        (try with_reducible rfl)
      try simp only [Act.put, List.setIfInBounds_toArray, List.set_cons_zero, List.set_cons_succ]
      refine wpAnyH_take (i := 7) (oi := { dst := _, op := _, type := _, pos := _, after := _, guard := _ }) (v := ?_) rfl (by kernel_rfl) (by kernel_rfl) (by kernel_rfl) (fun _ _ _ h => h) (Or.inl ⟨by rfl, ?_⟩) (by assumption) ?_
      rotate_left
      · intro W hSw
        (try dsimp only at hSw)
        go_simp
        (try with_reducible rfl)
      try simp only [Act.put, List.setIfInBounds_toArray, List.set_cons_zero, List.set_cons_succ]
      refine wpAnyH_take (i := 8) (oi := { dst := _, op := _, type := _, pos := _, after := _, guard := _ }) (v := ?_) rfl (by kernel_rfl) (by kernel_rfl) (by kernel_rfl) (fun _ _ _ h => h) (Or.inl ⟨by rfl, ?_⟩) (by assumption) ?_
      rotate_left
      · intro W hSw
        (try dsimp only at hSw)
        go_simp
        (try with_reducible rfl)
      try simp only [Act.put, List.setIfInBounds_toArray, List.set_cons_zero, List.set_cons_succ]
      refine wpAnyH_take (i := 9) (oi := { dst := _, op := _, type := _, pos := _, after := _, guard := _ }) (v := ?_) rfl (by kernel_rfl) (by kernel_rfl) (by kernel_rfl) (fun _ _ _ h => h) (Or.inl ⟨by rfl, ?_⟩) (by assumption) ?_
      rotate_left
      · intro W hSw
        (try dsimp only at hSw)
        go_simp
        (try with_reducible rfl)
      try simp only [Act.put, List.setIfInBounds_toArray, List.set_cons_zero, List.set_cons_succ]
      refine wpAnyH_take (i := 10) (oi := { dst := _, op := _, type := _, pos := _, after := _, guard := _ }) (v := ?_) rfl (by kernel_rfl) (by kernel_rfl) (by kernel_rfl) (fun _ _ _ h => h) (Or.inl ⟨by rfl, ?_⟩) (by assumption) ?_
      rotate_left
      · intro W hSw
        (try dsimp only at hSw)
        have z0 := below_cell hSw (below_cell HB4.out HC'.out)
        go_simp
        (try with_reducible rfl)
      try simp only [Act.put, List.setIfInBounds_toArray, List.set_cons_zero, List.set_cons_succ]
      refine wpAnyH_ready (rs := [11]) (by kernel_rfl) (by simp) ?_
      refine AllReadyH.cons (o := { dst := _, op := _, type := _, pos := _, after := _, guard := _ }) rfl (fun K hK => ?_) AllReadyH.nil
      go_simp
      refine Calls.mono (stays_any HTS.out V5D (HRW.out _ (below_trans HB4.out HV5D.out)) (HT'.out _ (below_trans HB4.out HV5D.out))) ?_
      rintro ee V5 ⟨rfl, hb5⟩
      have HK5 : Hid (Below V4.heap.size V4 V5) := below_trans HV5D.out hb5
      clear hb5
      go_wp2_with fail
      refine hK.out _ _ ?_ (fun hHeld => ?_)
      · exact HK5.out
      clear hK K
      try simp only [Act.put, List.setIfInBounds_toArray, List.set_cons_zero, List.set_cons_succ]
      refine wpAnyH_take (i := 12) (oi := { dst := _, op := _, type := _, pos := _, after := _, guard := _ }) (v := ?_) rfl (by kernel_rfl) (by kernel_rfl) (by kernel_rfl) (fun _ _ _ h => h) (Or.inl ⟨by rfl, ?_⟩) (by assumption) ?_
      rotate_left
      · intro W hSw
        (try dsimp only at hSw)
        go_simp
        (try with_reducible rfl)
      try simp only [Act.put, List.setIfInBounds_toArray, List.set_cons_zero, List.set_cons_succ]
      refine wpAnyH_take (i := 13) (oi := { dst := _, op := _, type := _, pos := _, after := _, guard := _ }) (v := ?_) rfl (by kernel_rfl) (by kernel_rfl) (by kernel_rfl) (fun _ _ _ h => h) (Or.inl ⟨by rfl, ?_⟩) (by assumption) ?_
      rotate_left
      · intro W hSw
        (try dsimp only at hSw)
        go_simp
        (try with_reducible rfl)
      try simp only [Act.put, List.setIfInBounds_toArray, List.set_cons_zero, List.set_cons_succ]
      refine wpAnyH_done (by kernel_rfl) ?_ _
      clear hHeld
      refine NoPanic.normal ?_
      go_wp2_with fail
      go_roundg (n - (i + 1))
      case measure => have := HI.out.1; have := HIM.out; omega
      case rel => exact ⟨i + 1, by first | rfl | (rw [show (i : Int) + 1 = ((i + 1 : Nat) : Int) by omega]), ⟨rfl, HIM.out⟩, (by rw [HK5.out.block _ (lt_of_heap HX4.out)]; exact HX4.out), below_trans HB4.out HK5.out⟩
    · have e1 : decide ((i : Int) < (n : Int)) = false := by rw [decide_eq_false_iff_not]; omega
      have e2 : decide (i < n) = false := by rw [decide_eq_false_iff_not]; omega
      clear hi
      go_wp2_with fail
      go_ret
      exact ⟨rfl, HBW.out⟩
end Go.Proofs.Ytcfmpmhdjkchjaa
