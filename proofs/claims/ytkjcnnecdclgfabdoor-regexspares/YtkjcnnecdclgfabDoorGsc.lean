import Derived.Test.YtkjcnnecdclgfabDoorGsb
namespace Go.Proofs.YtkjcnnecdclgfabDoor
open Go.RowKit Go.Shelf

def pLs (s : ByteArray) : List Nd := match V s ⟨0, [], frG, []⟩ with | .ok o => o | .error _ => []
def pCo (s : ByteArray) : Int := match V s ⟨0, [], frG, []⟩ with | .ok _ => 0 | .error (c, _) => c
def pPl (s : ByteArray) : Int := match V s ⟨0, [], frG, []⟩ with | .ok _ => 0 | .error (_, p) => (p : Nat)
theorem parse_own (s : ByteArray) (hs : s.size < 1000000000000000) (w : World) :
    Calls Tryd.prog 6 #[.string s] w fun e w' => ∃ v, e = .returned (.tuple #[v, .int .i64 (pCo s), .int .i64 (pPl s)]) ∧ w'.ownsRow w.heap.size 38 7 v (pLs s).length (ncs (pLs s)) ∧ (pLs s).length ≤ 128 ∧ Below w.heap.size w w' := by
  refine (parse_any s hs w).mono ?_
  rintro e w' ⟨h, hb⟩
  unfold pLs pCo pPl
  cases hV : V s ⟨0, [], frG, []⟩ with
  | ok o =>
    rw [hV] at h
    dsimp only at h ⊢
    obtain ⟨⟨v, e1, e2⟩, e3⟩ := h
    exact ⟨v, e1, e2, e3, hb⟩
  | error ce =>
    obtain ⟨c, p⟩ := ce
    rw [hV] at h
    dsimp only at h ⊢
    exact ⟨_, h, World.ownsRow_nil _ _ _ _, by simp, hb⟩
theorem Sp.make {w w0 w1 w2 w3 w4 w9 : World} {v : Nat → Value} {n : Nat → Nat} {P O : List Nd} {lq : Option Addr} {gq cq : Nat} (hn : n 0 = P.length ∧ n 1 = P.length ∧ n 2 = O.length ∧ n 3 = P.length)
    (hA : w4.ownsRow w0.heap.size 38 7 (v 0) P.length (ncs P)) (hB : w4.ownsRow w1.heap.size 38 7 (v 1) P.length (ncs P)) (hO : w4.ownsRow w2.heap.size 38 7 (v 2) O.length (ncs O)) (hC : w4.ownsRow w3.heap.size 38 7 (v 3) P.length (ncs P))
    (lA : ∀ g, (v 0).ownBlock = some g → w0.heap.size ≤ g ∧ g < w1.heap.size) (lB : ∀ g, (v 1).ownBlock = some g → w1.heap.size ≤ g ∧ g < w2.heap.size) (lO : ∀ g, (v 2).ownBlock = some g → w2.heap.size ≤ g ∧ g < w3.heap.size) (lC : ∀ g, (v 3).ownBlock = some g → w3.heap.size ≤ g ∧ g < w4.heap.size)
    (b0 : Below w.heap.size w w0) (b1 : Below w0.heap.size w0 w1) (b2 : Below w1.heap.size w1 w2) (b3 : Below w2.heap.size w2 w3) (b4 : Below w3.heap.size w3 w4) (b9 : Below w4.heap.size w4 w9)
    (hw : Lst w9 lq gq 0 cq P) (hq : P ≠ [] → w4.heap.size ≤ gq) :
    Sp w (w9.alloc (.cells #[v 0, v 1, v 2, v 3] 23)) w9.heap.size v n P lq gq cq (fun j => if j = 2 then O else P) := by
  have s0 := b0.size
  have s1 := b1.size
  have s2 := b2.size
  have s3 := b3.size
  have s4 := b4.size
  have up : ∀ (B N : Nat) (x : Value) (l : List Value), w4.ownsRow B 38 7 x N l → w.heap.size ≤ B → (w9.alloc (.cells #[v 0, v 1, v 2, v 3] 23)).ownsRow w.heap.size 38 7 x N l := fun B N x l h hB => ownsRow_le' ((own_mono h b9).alloc _) hB
  have lt4 : ∀ j, j < 4 → ∀ g, (v j).ownBlock = some g → g < w4.heap.size := fun j hj g hg => by
    match j, hj with
    | 0, _ => have := (lA g hg).2; omega
    | 1, _ => have := (lB g hg).2; omega
    | 2, _ => have := (lO g hg).2; omega
    | 3, _ => exact (lC g hg).2
  refine ⟨fun j hj => ?_, fun j hj => ?_, fun i j hi hj hij => ?_, ?_, hw.up (bel_up _ _), fun j hj hne e => ?_, ?_⟩
  · match j, hj with
    | 0, _ => rw [hn.1]; exact up _ _ _ _ hA (by omega)
    | 1, _ => rw [hn.2.1]; exact up _ _ _ _ hB (by omega)
    | 2, _ => rw [hn.2.2.1]; exact up _ _ _ _ hO (by omega)
    | 3, _ => rw [hn.2.2.2]; exact up _ _ _ _ hC (by omega)
  · match j, hj with
    | 0, _ => rw [hn.1]; rfl
    | 1, _ => rw [hn.2.1]; rfl
    | 2, _ => rw [hn.2.2.1]; rfl
    | 3, _ => rw [hn.2.2.2]; rfl
  · cases hx : (v i).ownBlock with
    | none => exact Or.inl rfl
    | some g =>
      refine Or.inr (fun e => ?_)
      have e' := e.symm
      match i, hi, j, hj, hx, e', hij with
      | 0, _, 1, _, hx, e', _ => have := lA g hx; have := lB g e'; omega
      | 0, _, 2, _, hx, e', _ => have := lA g hx; have := lO g e'; omega
      | 0, _, 3, _, hx, e', _ => have := lA g hx; have := lC g e'; omega
      | 1, _, 0, _, hx, e', _ => have := lB g hx; have := lA g e'; omega
      | 1, _, 2, _, hx, e', _ => have := lB g hx; have := lO g e'; omega
      | 1, _, 3, _, hx, e', _ => have := lB g hx; have := lC g e'; omega
      | 2, _, 0, _, hx, e', _ => have := lO g hx; have := lA g e'; omega
      | 2, _, 1, _, hx, e', _ => have := lO g hx; have := lB g e'; omega
      | 2, _, 3, _, hx, e', _ => have := lO g hx; have := lC g e'; omega
      | 3, _, 0, _, hx, e', _ => have := lC g hx; have := lA g e'; omega
      | 3, _, 1, _, hx, e', _ => have := lC g hx; have := lB g e'; omega
      | 3, _, 2, _, hx, e', _ => have := lC g hx; have := lO g e'; omega
      | 0, _, 0, _, _, _, h => exact absurd rfl h
      | 1, _, 1, _, _, _, h => exact absurd rfl h
      | 2, _, 2, _, _, _, h => exact absurd rfl h
      | 3, _, 3, _, _, _, h => exact absurd rfl h
  · unfold World.alloc
    simp
  · have h1 := lt4 j hj gq e
    have h2 := hq hne
    omega
  · exact below_trans (below_trans (below_trans (below_trans (below_trans (below_trans b0 b1) b2) b3) b4) b9) (bel_up _ _)
theorem cell4 {W : World} {gL : Nat} {v : Nat → Value} (h : W.heap[gL]? = some (.cells #[v 0, v 1, v 2, v 3] 23 (0, 0))) (i : Nat) (hi : i < 4) : W.cell? ⟨gL, i, none⟩ = some (v i) := by
  rw [Lib.cell_of_heap h]
  match i, hi with
  | 0, _ => rfl
  | 1, _ => rfl
  | 2, _ => rfl
  | 3, _ => rfl
theorem own_frozen {w : World} {base g cap n e z : Nat} {xs : List Value} (h : w.ownsRow base e z (.slice (some ⟨g, 0, none⟩) n cap) n xs) (o : Nat) : w.frozen? ⟨g, o, none⟩ = false := h.frozenAt o
theorem eq36z (W : World) : (Op.equalIn 9999 36 (.agg #[.int .u64 0, .int .u64 0, .int .u64 0, .int .u64 0]) (.agg #[.int .u64 0, .int .u64 0, .int .u64 0, .int .u64 0])).run Tryd.prog W = .ok true W :=
  eq32 9997 0 0 0 0 0 0 0 0 W
/-- Seven cells of a plain node. -/
def Cx (W : World) (g k : Nat) (op a : Int) : Prop :=
  W.cell? ⟨g, k * 7, none⟩ = some (.int .i64 op) ∧ W.cell? ⟨g, k * 7 + 1, none⟩ = some (.int .u64 0) ∧ W.cell? ⟨g, k * 7 + 2, none⟩ = some (.int .u64 0) ∧ W.cell? ⟨g, k * 7 + 3, none⟩ = some (.int .u64 0) ∧ W.cell? ⟨g, k * 7 + 4, none⟩ = some (.int .u64 0) ∧ W.cell? ⟨g, k * 7 + 5, none⟩ = some (.int .i64 a) ∧ W.cell? ⟨g, k * 7 + 6, none⟩ = some (.int .i64 0)
theorem cx_of {W : World} {g k : Nat} {l : List Nd} {op a : Int} (h : NdsAt W g 0 l) (hk : k < l.length) (he : l[k] = pn op a) : Cx W g k op a := by
  obtain ⟨p, nd, s, hre, hp, hrk⟩ := split_at l k hk
  have b := h.nd p nd s hre
  rw [hp, Nat.zero_add, hrk, he] at b
  obtain ⟨b0, b1, b2, b3, b4, b5, b6⟩ := b
  unfold pn at b0 b1 b2 b3 b4 b5 b6
  dsimp only at b0 b1 b2 b3 b4 b5 b6
  rw [wd_none] at b1 b2 b3 b4
  exact ⟨b0, b1, b2, b3, b4, b5, b6⟩
/-- What a round of the comparison reads. -/
theorem Sq.at {w W : World} {gL H : Nat} {v : Nat → Value} {n : Nat → Nat} {re : List Nd} {lq : Option Addr} {gq cq gl cl : Nat} {u : Nat → Value} {m : Nat → Nat} (h : Sq w W gL H v n re lq gq cq (.slice (some ⟨gl, 0, none⟩) 4 cl) 4 u m) {i ni g2 c2 : Nat} {a : Option Addr} {cap : Nat} (hi : i < 4) (hni : n i = ni) (hm : m i = 99) (hv : v i = .slice a ni cap) (hu : u i = .slice (some ⟨g2, 0, none⟩) (ni + 99) c2) :
    W.cell? ⟨gL, i, none⟩ = some (.slice a ni cap) ∧ W.cell? ⟨gl, i, none⟩ = some (.slice (some ⟨g2, 0, none⟩) (ni + 99) c2) ∧
    (∀ k, k < ni → (∃ g, a = some ⟨g, 0, none⟩ ∧ Cx W g k 9 (1000 + (i : Int))) ∧ Cx W g2 k 9 (1000 + (i : Int))) ∧ (∀ k, ni ≤ k → k < ni + 99 → Cx W g2 k 8 (5000 + (i : Int))) := by
  have hr := h.row i hi
  rw [hu, hni, hm] at hr
  have hN := own_nds hr (by rw [tl_len])
  have e1 : ((1000 + i : Nat) : Int) = 1000 + (i : Int) := by omega
  have e2 : ((5000 + i : Nat) : Int) = 5000 + (i : Int) := by omega
  refine ⟨?_, ?_, fun k hk => ⟨?_, ?_⟩, fun k hk hk2 => ?_⟩
  · rw [cell4 h.lst i hi, hv]
  · rw [h.lng.cellAt i (by omega)]
    simp [hi, hu]
  · obtain ⟨g, cap', e, hn⟩ := h.nds i hi (by omega)
    rw [hv] at e
    injection e with e3 _ _
    refine ⟨g, e3, cx_of hn (by rw [List.length_replicate]; omega) ?_⟩
    rw [List.getElem_replicate, ← e1]
    rfl
  · refine cx_of hN (by rw [tl_len]; omega) ?_
    unfold tl
    rw [List.getElem_append_left (by rw [List.length_replicate]; exact hk), List.getElem_replicate, ← e1]
    rfl
  · refine cx_of hN (by rw [tl_len]; omega) ?_
    unfold tl
    rw [List.getElem_append_right (by rw [List.length_replicate]; exact hk), List.getElem_replicate, ← e2]
    rfl
theorem Sq.c {w W : World} {gL H : Nat} {v : Nat → Value} {n : Nat → Nat} {re : List Nd} {lq : Option Addr} {gq cq : Nat} {lv : Value} {il : Nat} {u : Nat → Value} {m : Nat → Nat} (h : Sq w W gL H v n re lq gq cq lv il u m) {j N cap : Nat} {a : Option Addr} (hj : j < 4) (hn : n j = N) (hv : v j = .slice a N cap) : ∃ g, Lst W a g 0 cap (List.replicate N (spn j)) := by
  subst hn
  by_cases h0 : n j = 0
  · refine ⟨0, ?_⟩
    rw [h0]
    exact ⟨fun h => absurd rfl h, fun h => absurd rfl h, ⟨fun p n s e => by cases p <;> cases e⟩⟩
  · obtain ⟨g, cap', e, hN⟩ := h.nds j hj h0
    have hg := h.vlt j hj g (by rw [e]; rfl)
    rw [hv] at e
    injection e with e1 _ _
    exact ⟨g, fun _ => e1, fun _ => Nat.lt_of_lt_of_le hg h.hH, hN⟩
set_option maxRecDepth 100000 in
set_option maxHeartbeats 8000000 in
theorem regexSpares_any (s : ByteArray) (w : World) (hD : Dbt w) (hs : s.size < 1000000000000000) :
    Calls Tryd.prog 3 #[.string s] w fun e w' => e = .returned (.bool true) ∧ Below w.heap.size w w' := by
  have HD : Hid (Dbt w) := hD
  have HS : Hid (s.size < 1000000000000000) := hs
  clear hD hs
  go_enter Tryd.func3, Tryd.ntmps3
  go_wp2_with fail
  refine (awake_any w HD.out).mono ?_
  rintro e w0 ⟨rfl, hb0⟩
  have HB0 : Hid (Below w.heap.size w w0) := hb0
  clear hb0
  go_wp2_with fail
  refine (parse_own s HS.out w0).mono ?_
  rintro e w1 ⟨va, rfl, ho1, h128, hb1⟩
  have HA1 : Hid (w1.ownsRow w0.heap.size 38 7 va (pLs s).length (ncs (pLs s))) := ho1
  have H128 : Hid ((pLs s).length ≤ 128) := h128
  have HB1 : Hid (Below w0.heap.size w0 w1) := hb1
  have HLA : Hid (∀ g, va.ownBlock = some g → w0.heap.size ≤ g ∧ g < w1.heap.size) := fun g hg => ho1.lt g hg
  clear ho1 h128 hb1
  go_wp2_with fail
  refine (parse_own s HS.out w1).mono ?_
  rintro e w2 ⟨vb, rfl, ho2, -, hb2⟩
  have HA2 : Hid (w2.ownsRow w0.heap.size 38 7 va (pLs s).length (ncs (pLs s))) := own_mono HA1.out hb2
  have HV2 : Hid (w2.ownsRow w1.heap.size 38 7 vb (pLs s).length (ncs (pLs s))) := ho2
  have HB2 : Hid (Below w1.heap.size w1 w2) := hb2
  have HLB : Hid (∀ g, vb.ownBlock = some g → w1.heap.size ≤ g ∧ g < w2.heap.size) := fun g hg => ho2.lt g hg
  clear ho2 hb2 HA1
  obtain ⟨k2, hk2⟩ : ∃ k2, s.size / 2 = k2 := ⟨_, rfl⟩
  have hq : wrap64 ((s.size : Int) / 2) = (k2 : Int) := by have := HS.out; unfold wrap64; omega
  have hle : (k2 : Int) ≤ (s.size : Int) := by omega
  have HK2 : Hid (k2 ≤ s.size) := by have h : k2 ≤ s.size := by omega
                                     exact h
  clear hk2
  go_wp2_with fail
  obtain ⟨s2, hs2⟩ : ∃ s2, s.extract 0 k2 = s2 := ⟨_, rfl⟩
  have HS2 : Hid (s2.size < 1000000000000000) := by
    have h : s2.size < 1000000000000000 := by
      have h1 := HS.out
      have h2 := HK2.out
      rw [← hs2, ByteArray.size_extract]
      omega
    exact h
  rw [hs2]
  clear hs2 hq hle HK2
  refine (parse_own s2 HS2.out w2).mono ?_
  rintro e w3 ⟨vo, rfl, ho3, h1283, hb3⟩
  have HA3 : Hid (w3.ownsRow w0.heap.size 38 7 va (pLs s).length (ncs (pLs s))) := own_mono HA2.out hb3
  have HV3 : Hid (w3.ownsRow w1.heap.size 38 7 vb (pLs s).length (ncs (pLs s))) := own_mono HV2.out hb3
  have HO3 : Hid (w3.ownsRow w2.heap.size 38 7 vo (pLs s2).length (ncs (pLs s2))) := ho3
  have H1283 : Hid ((pLs s2).length ≤ 128) := h1283
  have HB3 : Hid (Below w2.heap.size w2 w3) := hb3
  have HLO : Hid (∀ g, vo.ownBlock = some g → w2.heap.size ≤ g ∧ g < w3.heap.size) := fun g hg => ho3.lt g hg
  clear ho3 h1283 hb3 HA2 HV2
  go_wp2_with fail
  refine (parse_own s HS.out w3).mono ?_
  rintro e w4 ⟨vc, rfl, ho4, -, hb4⟩
  have HA4 : Hid (w4.ownsRow w0.heap.size 38 7 va (pLs s).length (ncs (pLs s))) := own_mono HA3.out hb4
  have HV4 : Hid (w4.ownsRow w1.heap.size 38 7 vb (pLs s).length (ncs (pLs s))) := own_mono HV3.out hb4
  have HO4 : Hid (w4.ownsRow w2.heap.size 38 7 vo (pLs s2).length (ncs (pLs s2))) := own_mono HO3.out hb4
  have HC4 : Hid (w4.ownsRow w3.heap.size 38 7 vc (pLs s).length (ncs (pLs s))) := ho4
  have HB4 : Hid (Below w3.heap.size w3 w4) := hb4
  have HLC : Hid (∀ g, vc.ownBlock = some g → w3.heap.size ≤ g ∧ g < w4.heap.size) := fun g hg => ho4.lt g hg
  clear ho4 hb4 HA3 HV3 HO3
  obtain ⟨P, hP⟩ : ∃ P, pLs s = P := ⟨_, rfl⟩
  obtain ⟨O, hO⟩ : ∃ O, pLs s2 = O := ⟨_, rfl⟩
  obtain ⟨ce, hce⟩ : ∃ ce, pCo s = ce := ⟨_, rfl⟩
  obtain ⟨cp, hcp⟩ : ∃ cp, pPl s = cp := ⟨_, rfl⟩
  have HP : Hid (pLs s = P) := hP
  have HCE : Hid (pCo s = ce) := hce
  have HCP : Hid (pPl s = cp) := hcp
  rw [hP] at HA4 HV4 HC4 H128
  rw [hO] at HO4 H1283
  rw [hce, hcp]
  clear hP hO hce hcp
  -- the lists in memory
  obtain ⟨lpa, ga, ca, hva, hla⟩ := own_lst HA4.out
  obtain ⟨lpb, gb, cb, hvb, hlb⟩ := own_lst HV4.out
  obtain ⟨lpc, gc, cc, hvc, hlc⟩ := own_lst HC4.out
  have HVA : Hid (va = .slice lpa P.length ca) := hva
  have HVB : Hid (vb = .slice lpb P.length cb) := hvb
  have HVC : Hid (vc = .slice lpc P.length cc) := hvc
  have LA4 : Hid (Lst w4 lpa ga 0 ca P) := hla
  have LB4 : Hid (Lst w4 lpb gb 0 cb P) := hlb
  have LC4 : Hid (Lst w4 lpc gc 0 cc P) := hlc
  clear hva hvb hvc hla hlb hlc
  have CT : Hid (∀ (lp lq : Option Addr) (g cap g' cap' : Nat) (W : World), Lst W lp g 0 cap P → Lst W lq g' 0 cap' P → Calls Tryd.prog 7 #[.slice lp P.length cap, .slice lq P.length cap'] W fun x w' => x = .returned (.bool true) ∧ Below W.heap.size W w') :=
    fun lp lq g cap g' cap' W h h' => sameTree_any P lp lq g 0 cap g' 0 cap' W h h' (by have := H128.out; omega)
  go_wp2_with fail
  have c5 := CT.out lpa lpb ga ca gb cb w4 LA4.out LB4.out
  rw [← HVA.out, ← HVB.out] at c5
  refine c5.mono ?_
  clear c5
  rintro e w5 ⟨rfl, hb5⟩
  have LA5 : Hid (Lst w5 lpa ga 0 ca P) := LA4.out.up hb5
  have LB5 : Hid (Lst w5 lpb gb 0 cb P) := LB4.out.up hb5
  have LC5 : Hid (Lst w5 lpc gc 0 cc P) := LC4.out.up hb5
  have HB5 : Hid (Below w4.heap.size w4 w5) := hb5
  clear hb5 LA4 LB4 LC4
  go_wp2_with fail
  have c6 := CT.out lpa lpc ga ca gc cc w5 LA5.out LC5.out
  rw [← HVA.out, ← HVC.out] at c6
  refine c6.mono ?_
  clear c6
  rintro e w6 ⟨rfl, hb6⟩
  have LB6 : Hid (Lst w6 lpb gb 0 cb P) := LB5.out.up hb6
  have LC6 : Hid (Lst w6 lpc gc 0 cc P) := LC5.out.up hb6
  have HB6 : Hid (Below w4.heap.size w4 w6) := below_trans HB5.out hb6
  clear hb6 LA5 LB5 LC5 HB5
  go_wp2_with fail
  have c7 := twin_lst P lpb gb 0 cb w6 LB6.out (by have := H128.out; omega)
  rw [← HVB.out] at c7
  refine c7.mono ?_
  clear c7
  rintro e w7 ⟨vw, rfl, ho7, hb7⟩
  have HW7 : Hid (w7.ownsRow w6.heap.size 38 7 vw P.length (ncs P)) := ho7
  have LC7 : Hid (Lst w7 lpc gc 0 cc P) := LC6.out.up hb7
  have HB7 : Hid (Below w4.heap.size w4 w7) := below_trans HB6.out hb7
  have HS67 : Hid (w4.heap.size ≤ w6.heap.size) := HB6.out.size
  clear ho7 hb7 LB6 LC6 HB6
  go_wp2_with fail
  have c8 := print_any P lpc gc 0 cc w7 LC7.out.ptr LC7.out.at_ LC7.out.lt (by have := H128.out; omega)
  rw [← HVC.out] at c8
  refine c8.mono ?_
  clear c8
  rintro e w8 ⟨rfl, hb8⟩
  have HW8 : Hid (w8.ownsRow w6.heap.size 38 7 vw P.length (ncs P)) := own_mono HW7.out hb8
  have LC8 : Hid (Lst w8 lpc gc 0 cc P) := LC7.out.up hb8
  have HB8 : Hid (Below w4.heap.size w4 w8) := below_trans HB7.out hb8
  clear hb8 LC7 HB7 HW7
  have HBW : Hid (Below w.heap.size w w8) := below_trans (below_trans (below_trans (below_trans (below_trans HB0.out HB1.out) HB2.out) HB3.out) HB4.out) HB8.out
  go_wp2_with fail
  have c9 := matches_any P s lpc gc 0 cc w8 LC8.out (by have := H128.out; omega) (HD.out.up HBW.out) HS.out
  rw [← HVC.out] at c9
  refine c9.mono ?_
  clear c9
  rintro e w9 ⟨rfl, hb9⟩
  have HW9 : Hid (w9.ownsRow w6.heap.size 38 7 vw P.length (ncs P)) := own_mono HW8.out hb9
  have HB9 : Hid (Below w4.heap.size w4 w9) := below_trans HB8.out hb9
  clear hb9 LC8 HB8 HW8 HBW
  obtain ⟨lq, gq, cq, hvw, hlw⟩ := own_lst HW9.out
  have HVW : Hid (vw = .slice lq P.length cq) := hvw
  have LW9 : Hid (Lst w9 lq gq 0 cq P) := hlw
  have HGQ : Hid (P ≠ [] → w4.heap.size ≤ gq) := fun hn => by
    have h1 := hlw.ptr hn
    have h2 := (HW9.out.lt gq (by rw [hvw, h1]; rfl)).1
    have := HS67.out
    omega
  clear hvw hlw HW9
  obtain ⟨v, hv0, hv1, hv2, hv3⟩ : ∃ v : Nat → Value, v 0 = va ∧ v 1 = vb ∧ v 2 = vo ∧ v 3 = vc := ⟨fun | 0 => va | 1 => vb | 2 => vo | _ => vc, rfl, rfl, rfl, rfl⟩
  subst hv0 hv1 hv2 hv3
  obtain ⟨n, hn0, hn1, hn2, hn3⟩ : ∃ n : Nat → Nat, n 0 = P.length ∧ n 1 = P.length ∧ n 2 = O.length ∧ n 3 = P.length := ⟨fun | 2 => O.length | _ => P.length, rfl, rfl, rfl, rfl⟩
  have HN : Hid (∀ j, j < 4 → n j ≤ 128) := fun j hj => by
    have := H128.out
    have := H1283.out
    match j, hj with
    | 0, _ => omega
    | 1, _ => omega
    | 2, _ => omega
    | 3, _ => omega
  obtain ⟨ao2, co2, ho2⟩ := own_slice HO4.out
  have hc0 : (v 0).cells = #[v 0] := by rw [HVA.out]; rfl
  have hc1 : (v 1).cells = #[v 1] := by rw [HVB.out]; rfl
  have hc2 : (v 2).cells = #[v 2] := by rw [ho2]; rfl
  have hc3 : (v 3).cells = #[v 3] := by rw [HVC.out]; rfl
  have HV2 : Hid (v 2 = .slice ao2 O.length co2) := ho2
  have HNs : Hid (n 0 = P.length ∧ n 1 = P.length ∧ n 2 = O.length ∧ n 3 = P.length) := ⟨hn0, hn1, hn2, hn3⟩
  clear ho2 hn0 hn1 hn2 hn3
  unfold Value.cells at hc0 hc1 hc2 hc3
  go_upto_region 13 with fail
  have SP : Hid (Sp w (w9.alloc (.cells #[v 0, v 1, v 2, v 3] 23)) w9.heap.size v n P lq gq cq (fun j => if j = 2 then O else P)) :=
    Sp.make HNs.out HA4.out HV4.out HO4.out HC4.out HLA.out HLB.out HLO.out HLC.out HB0.out HB1.out HB2.out HB3.out HB4.out HB9.out LW9.out HGQ.out
  have HN3 : Hid (n 3 = P.length) := HNs.out.2.2.2
  clear HA4 HV4 HO4 HC4 HLA HLB HLO HLC HB0 HB1 HB2 HB3 HB4 HB9 LW9 HGQ HS67 hc0 hc1 hc2 hc3 HV2 HS2 HNs CT HVA HVB H1283
  obtain ⟨W10, hW10⟩ : ∃ W10, w9.alloc (.cells #[v 0, v 1, v 2, v 3] 23) = W10 := ⟨_, rfl⟩
  obtain ⟨gL, hgL⟩ : ∃ gL, w9.heap.size = gL := ⟨_, rfl⟩
  rw [hW10, hgL] at SP ⊢
  clear hW10 hgL
  go_wp2_with fail
  go_loopg [17, 18] 4 (fun gm v17 v18 wr => ∃ i : Nat, v17 = .int .i64 (i : Int) ∧ Hid (i ≤ 4 ∧ gm = 4 - i) ∧ ∃ L, Hid (Sp w wr gL v n P lq gq cq L) ∧ Hid (∀ j, j < i → L j = List.replicate (n j) (spn j)))
  case atStart => exact ⟨0, rfl, ⟨by omega, rfl⟩, _, SP.out, fun j hj => by omega⟩
  case round =>
    obtain ⟨i, rfl, HI, L, HSP, HL⟩ := hrel
    by_cases hi : i < 4
    · have hi2 : (i : Int) < 4 := by omega
      have HI4 : Hid (i < 4) := hi
      obtain ⟨wo, rfl⟩ : ∃ wo, wo = wr := ⟨_, rfl⟩
      obtain ⟨ni, hni⟩ : ∃ ni, n i = ni := ⟨_, rfl⟩
      have HNI : Hid (n i = ni) := hni
      have HN1 : Hid (ni ≤ 128) := by have h : ni ≤ 128 := by rw [← hni]; exact HN.out i hi
                                      exact h
      clear hni
      go_wp2_with fail
      go_loopg [18] ni (fun gm v18 wr => ∃ k : Nat, v18 = .int .i64 (k : Int) ∧ Hid (k ≤ ni ∧ gm = ni - k) ∧ ∃ L', Hid (Sp w wr gL v n P lq gq cq L') ∧ Hid (∀ j, j < i → L' j = List.replicate (n j) (spn j)) ∧ Hid ((L' i).take k = List.replicate k (spn i)))
      case atStart => exact ⟨0, rfl, ⟨by omega, rfl⟩, L, HSP.out, HL.out, (show (L i).take 0 = List.replicate 0 (spn i) from rfl)⟩
      case round =>
        clear HSP HL
        obtain ⟨k, rfl, HK, L', HSP, HL, HT⟩ := hrel
        obtain ⟨a, cap, hva⟩ := own_slice (HSP.out.row i HI4.out)
        have c0 := cell4 HSP.out.lst i HI4.out
        rw [hva, HNI.out] at c0
        have HVI : Hid (v i = .slice a (n i) cap) := hva
        clear hva
        by_cases hk : k < ni
        · have hk2 : (k : Int) < (ni : Int) := by omega
          obtain ⟨g, cap', e', _, hgl⟩ := own_form' (HSP.out.row i HI4.out) (by rw [HNI.out]; omega)
          have hro := HSP.out.row i HI4.out
          rw [e'] at hro
          have bf := own_frozen hro
          have hnd := own_nds hro (HSP.out.len i HI4.out).symm
          have e2 := e'.symm.trans HVI.out
          injection e2 with e3 _ e4
          subst e3 e4
          obtain ⟨pr, nd, sf, hre, hp, hrk⟩ := split_at (L' i) k (by rw [HSP.out.len i HI4.out, HNI.out]; exact hk)
          clear hrk
          have b := hnd.nd pr nd sf hre
          rw [hp, Nat.zero_add] at b
          obtain ⟨b0, b1, b2, b3, b4, b5, b6⟩ := b
          have HK2 : Hid (k < ni) := hk
          have PUT : Hid (Sp w (put7 wr g k 9 (1000 + (i : Int))) gL v n P lq gq cq (fun j => if j = i then (L' i).set k (pn 9 (1000 + (i : Int))) else L' j)) := HSP.out.put HI4.out e' (by rw [HNI.out]; exact hk) 9 (1000 + (i : Int))
          have HXN : Hid (pn 9 (1000 + (i : Int)) = spn i) := by
            have h : pn 9 (1000 + (i : Int)) = spn i := by unfold spn; rw [show ((1000 + i : Nat) : Int) = 1000 + (i : Int) by omega]
            exact h
          unfold put7 at PUT
          clear hnd hro hre hp hgl e'
          go_wp2_with fail
          go_roundg (ni - (k + 1))
          case measure => have := HK.out; have := HK2.out; omega
          case rel =>
            refine ⟨k + 1, by first | (simp; done) | (rw [w64 k (by have := HN1.out; have := HK2.out; omega)]), ⟨HK2.out, rfl⟩, _, PUT.out, fun j hj => ?_, ?_⟩
            · rw [if_neg (by omega)]
              exact HL.out j hj
            · show ((if i = i then (L' i).set k (pn 9 (1000 + (i : Int))) else L' i).take (k + 1)) = List.replicate (k + 1) (spn i)
              rw [if_pos rfl, take_put _ _ _ (by rw [HSP.out.len i HI4.out, HNI.out]; exact HK2.out), HT.out, HXN.out]
              exact List.replicate_succ'.symm
        · obtain rfl : k = ni := by have := HK.out; omega
          have hk2 : ¬ ((k : Int) < (k : Int)) := by omega
          clear hk
          go_wp2_with fail
          go_roundg (4 - (i + 1))
          case measure => have := HI.out; have := HI4.out; omega
          case rel =>
            refine ⟨i + 1, by first | (simp; done) | (rw [w64 i (by have := HI4.out; omega)]), ⟨HI4.out, rfl⟩, L', HSP.out, fun j hj => ?_⟩
            by_cases hji : j = i
            · subst hji
              have h1 := HT.out
              have h2 := HSP.out.len j HI4.out
              rw [HNI.out] at h2
              rw [← h2, List.take_length] at h1
              rw [h1, h2, HNI.out]
            · exact HL.out j (by omega)
    · obtain rfl : i = 4 := by have := HI.out; omega
      clear hi
      have SQ : Hid (Sq w wr gL wr.heap.size v n P lq gq cq (.slice none 0 0) 0 v (fun _ => 0)) := Sq.start HSP.out HL.out
      clear HSP HL HI
      obtain ⟨H, hH⟩ : ∃ H, wr.heap.size = H := ⟨_, rfl⟩
      rw [hH] at SQ
      clear hH
      obtain ⟨W11, rfl⟩ : ∃ W11, W11 = wr := ⟨_, rfl⟩
      go_wp2_with fail
      go_loopg [19, 20, 21, 22] 4 (fun gm v19 v20 v21 v22 wr => ∃ i : Nat, v20 = .int .i64 (i : Int) ∧ Hid (i ≤ 4 ∧ gm = 4 - i) ∧ ∃ u m, Hid (Sq w wr gL H v n P lq gq cq v19 i u m) ∧ Hid (∀ j, j < i → m j = 99) ∧ Hid (∀ j, i ≤ j → j < 4 → m j = 0 ∧ u j = v j))
      case atStart => exact ⟨0, rfl, ⟨by omega, rfl⟩, v, fun _ => 0, SQ.out, fun j hj => by omega, fun j _ _ => ⟨rfl, rfl⟩⟩
      case round =>
        clear SQ
        obtain ⟨i, rfl, HI, u, m, HSQ, HM, HU⟩ := hrel
        by_cases hi : i < 4
        · have hi2 : (i : Int) < 4 := by omega
          have HI4 : Hid (i < 4) := hi
          obtain ⟨wo, rfl⟩ : ∃ wo, wo = wr := ⟨_, rfl⟩
          obtain ⟨a, cap, hva⟩ := HSQ.out.shp i HI4.out
          obtain ⟨ni, hni⟩ : ∃ ni, n i = ni := ⟨_, rfl⟩
          have HNI : Hid (n i = ni) := hni
          have HN1 : Hid (ni ≤ 128) := by have h : ni ≤ 128 := by rw [← hni]; exact HN.out i hi
                                          exact h
          have c0 := cell4 HSQ.out.lst i HI4.out
          rw [hva, hni] at c0
          have HVI : Hid (v i = .slice a ni cap) := by have h : v i = .slice a ni cap := by rw [hva, hni]
                                                       exact h
          clear hva hni
          go_wp2_with fail
          go_loopg [21, 22] 99 (fun gm v21 v22 wr => ∃ k : Nat, v22 = .int .i64 (k : Int) ∧ Hid (k ≤ 99 ∧ gm = 99 - k) ∧ ∃ u m, Hid (u i = v21) ∧ Hid (m i = k) ∧ Hid (Sq w wr gL H v n P lq gq cq u19 i u m) ∧ Hid (∀ j, j < i → m j = 99) ∧ Hid (∀ j, i < j → j < 4 → m j = 0 ∧ u j = v j))
          case atStart =>
            have h1 := HU.out i (Nat.le_refl _) HI4.out
            exact ⟨0, rfl, ⟨by omega, rfl⟩, u, m, (show u i = _ by rw [h1.2, HVI.out]), h1.1, HSQ.out, HM.out, fun j hj hj4 => HU.out j (by omega) hj4⟩
          case round =>
            clear HSQ HM HU c0
            obtain ⟨k, rfl, HK, u', m', HX, HMK, HSQ, HM, HU⟩ := hrel
            have hro := HSQ.out.row i HI4.out
            rw [HX.out, HMK.out, HNI.out] at hro
            obtain ⟨a3, c3, hu3⟩ := own_slice hro
            subst hu3
            have HRO : Hid (wr.ownsRow w.heap.size 38 7 (.slice a3 (ni + k) c3) (ni + k) (ncs (tl ni k i))) := hro
            clear hro
            by_cases hk : k < 99
            · have hkI : decide ((k : Int) < 99) = true := by rw [decide_eq_true_eq]; omega
              have HK2 : Hid (k < 99) := hk
              clear hk
              obtain ⟨i34, hi34, hz34, hs34, hy34⟩ := info_parts info34
              have hO : Hid ((wr.alloc (.cells #[.int .i64 8, .int .u64 0, .int .u64 0, .int .u64 0, .int .u64 0, .int .i64 (5000 + (i : Int)), .int .i64 0] 38)).ownsRow w.heap.size 38 7 (.slice a3 (ni + k) c3) (ni + k) (ncs (tl ni k i))) := HRO.out.alloc _
              have hbase : w.heap.size ≤ (wr.alloc (.cells #[.int .i64 8, .int .u64 0, .int .u64 0, .int .u64 0, .int .u64 0, .int .i64 (5000 + (i : Int)), .int .i64 0] 38)).heap.size := by
                have := HSQ.out.bel.size
                rw [World.size_alloc]
                omega
              go_wp2_with (at_builtin; refine wpList_append_two _ rfl (.tmp 132) (.tmp 136) 23 rfl w.heap.size 38 i34 (.agg #[.int .i64 0, .int .u64 0, .int .u64 0, .int .u64 0, .int .u64 0, .int .i64 0, .int .i64 0]) 7 56 Tryd.underlying23 hi34 hz34 hs34 hy34 rfl (by decide) _ _ _ rfl hO.out ⟨wr.heap.size, 0, none⟩ 1 1 [.int .i64 8, .int .u64 0, .int .u64 0, .int .u64 0, .int .u64 0, .int .i64 (5000 + (i : Int)), .int .i64 0] rfl (by decide) rfl ?c1 ?c2 ?c3 ?c4 ?c5 ?_)
              case c1 => exact cell_seven_new _ _ _ _ _ _ _ _ _
              case c2 => intro y hy; simp at hy; rcases hy with rfl | rfl | rfl | rfl <;> rfl
              case c3 => unfold maxLen; have := HN1.out; have := HK2.out; omega
              case c4 => have := HN1.out; have := HK2.out; omega
              case c5 => first | exact hbase | simpa using hbase
              intro v1 w8 hown1 hcs
              have NX : Hid (Sq w w8 gL H v n P lq gq cq u19 i (fun j => if j = i then v1 else u' j) (fun j => if j = i then m' i + 1 else m' j)) := by
                refine (HSQ.out.al (.cells #[.int .i64 8, .int .u64 0, .int .u64 0, .int .u64 0, .int .u64 0, .int .i64 (5000 + (i : Int)), .int .i64 0] 38)).app HI4.out (Nat.le_refl _) ?_ ?_
                · rw [HMK.out, HNI.out, nc_apn]
                  exact hown1
                · rw [HX.out, World.size_alloc]
                  exact hcs
              clear hown1 hcs hO hbase hi34 hz34 hs34 hy34
              go_wp2_with fail
              go_roundg (99 - (k + 1))
              case measure => have := HK.out; have := HK2.out; omega
              case rel =>
                refine ⟨k + 1, by first | (simp; done) | (rw [w64 k (by have := HK2.out; omega)]), ⟨HK2.out, rfl⟩, _, _, ?_, ?_, NX.out, fun j hj => ?_, fun j hj hj4 => ?_⟩
                · show (if i = i then v1 else u' i) = v1
                  rw [if_pos rfl]
                · show (if i = i then m' i + 1 else m' i) = k + 1
                  rw [if_pos rfl, HMK.out]
                · rw [if_neg (by omega)]
                  exact HM.out j hj
                · rw [if_neg (by omega), if_neg (by omega)]
                  exact HU.out j hj hj4
            · obtain rfl : k = 99 := by have := HK.out; omega
              clear hk
              obtain ⟨i23, hi23, hz23, hs23, hy23⟩ := info_parts info23
              have hO : Hid ((wr.alloc (.cells #[.slice a3 (ni + 99) c3] 23)).ownsRow H 23 1 u19 i ((List.range i).map u')) := HSQ.out.lng.alloc _
              have hbase : H ≤ (wr.alloc (.cells #[.slice a3 (ni + 99) c3] 23)).heap.size := by
                have := HSQ.out.hH
                rw [World.size_alloc]
                omega
              obtain ⟨al, cl, hul⟩ := own_slice hO.out
              subst hul
              go_wp2_with (at_builtin; refine wpList_append_own _ rfl (.tmp 138) (.tmp 140) 32 rfl H 23 i23 (.slice none 0 0) 1 24 Tryd.underlying32 hi23 hz23 hs23 hy23 rfl (by decide) _ _ _ rfl hO.out ⟨wr.heap.size, 0, none⟩ 1 1 [.slice a3 (ni + 99) c3] rfl rfl ?c1 ?c2 ?c3 ?c4 ?c5 ?_)
              case c1 => exact cell_one_new _ _ _
              case c2 => intro y hy; simp at hy; subst hy; rfl
              case c3 => unfold maxLen; have := HI4.out; omega
              case c4 => have := HI4.out; omega
              case c5 => first | exact hbase | simpa using hbase
              intro v1 w8 hown1 hgrow1 _
              have NX : Hid (Sq w w8 gL H v n P lq gq cq v1 (i + 1) u' m') := (HSQ.out.al _).next hgrow1 hown1 HX.out
              clear hown1 hgrow1 hO hbase hi23 hz23 hs23 hy23
              go_wp2_with fail
              go_roundg (4 - (i + 1))
              case measure => have := HI.out; have := HI4.out; omega
              case rel =>
                refine ⟨i + 1, by first | (simp; done) | (rw [w64 i (by have := HI4.out; omega)]), ⟨HI4.out, rfl⟩, u', m', NX.out, fun j hj => ?_, fun j hj hj4 => HU.out j (by omega) hj4⟩
                by_cases hji : j = i
                · rw [hji]; exact HMK.out
                · exact HM.out j (by omega)
        · obtain rfl : i = 4 := by have := HI.out; omega
          clear hi
          obtain ⟨gl, cl, hul, _, _⟩ := own_form' HSQ.out.lng (by omega)
          subst hul
          go_wp2_with fail
          go_loopg [23, 24] 4 (fun gm v23 v24 wr => ∃ i : Nat, v23 = .int .i64 (i : Int) ∧ Hid (i ≤ 4 ∧ gm = 4 - i) ∧ Hid (Sq w wr gL H v n P lq gq cq (.slice (some ⟨gl, 0, none⟩) 4 cl) 4 u m))
          case atStart => exact ⟨0, rfl, ⟨by omega, rfl⟩, HSQ.out⟩
          case round =>
            clear HSQ HI HU
            obtain ⟨i, rfl, HI, HSQ⟩ := hrel
            by_cases hi : i < 4
            · have hi2 : (i : Int) < 4 := by omega
              have HI4 : Hid (i < 4) := hi
              obtain ⟨wo2, rfl⟩ : ∃ wo2, wo2 = wr := ⟨_, rfl⟩
              obtain ⟨a, cap, hva⟩ := HSQ.out.shp i HI4.out
              obtain ⟨ni, hni⟩ : ∃ ni, n i = ni := ⟨_, rfl⟩
              have HNI : Hid (n i = ni) := hni
              have HN1 : Hid (ni ≤ 128) := by have h : ni ≤ 128 := by rw [← hni]; exact HN.out i hi
                                              exact h
              have HVI : Hid (v i = .slice a ni cap) := by have h : v i = .slice a ni cap := by rw [hva, hni]
                                                           exact h
              have hru := HSQ.out.row i HI4.out
              rw [hni, HM.out i HI4.out] at hru
              obtain ⟨g2, c2, hu2, _, _⟩ := own_form' hru (by omega)
              have HUI : Hid (u i = .slice (some ⟨g2, 0, none⟩) (ni + 99) c2) := hu2
              clear hva hni hru hu2
              go_wp2_with fail
              go_loopg [24] (ni + 99) (fun gm v24 wr => ∃ k : Nat, v24 = .int .i64 (k : Int) ∧ Hid (k ≤ ni + 99 ∧ gm = ni + 99 - k) ∧ Hid (Sq w wr gL H v n P lq gq cq (.slice (some ⟨gl, 0, none⟩) 4 cl) 4 u m))
              case atStart => exact ⟨0, rfl, ⟨by omega, rfl⟩, HSQ.out⟩
              case round =>
                clear HSQ
                obtain ⟨k, rfl, HK, HSQ⟩ := hrel
                obtain ⟨c0, c1, hA, hB⟩ := Sq.at HSQ.out HI4.out HNI.out (HM.out i HI4.out) HVI.out HUI.out
                have HA : Hid (∀ k, k < ni → (∃ g, a = some ⟨g, 0, none⟩ ∧ Cx wr g k 9 (1000 + (i : Int))) ∧ Cx wr g2 k 9 (1000 + (i : Int))) := hA
                have HB : Hid (∀ k, ni ≤ k → k < ni + 99 → Cx wr g2 k 8 (5000 + (i : Int))) := hB
                clear hA hB
                by_cases hk : k < ni + 99
                · have hk2 : (k : Int) < (ni : Int) + 99 := by omega
                  have HK2 : Hid (k < ni + 99) := hk
                  by_cases hkn : k < ni
                  · obtain ⟨⟨g, rfl, hx⟩, hy⟩ := HA.out k hkn
                    have XA : Hid (Cx wr g k 9 (1000 + (i : Int))) := hx
                    have XB : Hid (Cx wr g2 k 9 (1000 + (i : Int))) := hy
                    have hkn2 : (k : Int) < (ni : Int) := by omega
                    have hkn3 : ¬ ((ni : Int) ≤ (k : Int)) := by omega
                    have hw1 : IntKind.i64.wrap (1000 + (i : Int)) = 1000 + (i : Int) := by rw [IntKind.wrap_i64]; omega
                    have hq := eq36z
                    clear hx hy HA HB
                    go_upto_region 36 with fail
                    refine wp_region_noPanic ?_
                    refine wp_region_held_drew (S := (fun W : World => W.cell? ⟨gL, i, none⟩ = some (.slice (some ⟨g, 0, none⟩) ni cap) ∧ W.cell? ⟨gl, i, none⟩ = some (.slice (some ⟨g2, 0, none⟩) (ni + 99) c2) ∧ Cx W g k 9 (1000 + (i : Int)) ∧ Cx W g2 k 9 (1000 + (i : Int)))) (by kernel_rfl) ⟨c0, c1, XA.out, XB.out⟩ (fun hHeld => ?_)
                    refine wpAnyH_take (i := 0) (oi := { dst := _, op := _, type := _, pos := _, after := _, guard := _ }) (v := ?_) rfl (by kernel_rfl) (by kernel_rfl) (by kernel_rfl) (fun _ _ _ h => h) (Or.inl ⟨by rfl, ?_⟩) (by assumption) ?_
                    rotate_left
                    · intro W hSw
                      (try dsimp only at hSw)
                      obtain ⟨d0, d1, ⟨x0, x1, x2, x3, x4, x5, x6⟩, ⟨y0, y1, y2, y3, y4, y5, y6⟩⟩ := hSw
                      go_simp
                      (try with_reducible rfl)
                    try simp only [Act.put, List.setIfInBounds_toArray, List.set_cons_zero, List.set_cons_succ]
                    refine wpAnyH_take (i := 1) (oi := { dst := _, op := _, type := _, pos := _, after := _, guard := _ }) (v := ?_) rfl (by kernel_rfl) (by kernel_rfl) (by kernel_rfl) (fun _ _ _ h => h) (Or.inl ⟨by rfl, ?_⟩) (by assumption) ?_
                    rotate_left
                    · intro W hSw
                      (try dsimp only at hSw)
                      obtain ⟨d0, d1, ⟨x0, x1, x2, x3, x4, x5, x6⟩, ⟨y0, y1, y2, y3, y4, y5, y6⟩⟩ := hSw
                      go_simp
                      (try with_reducible rfl)
                    try simp only [Act.put, List.setIfInBounds_toArray, List.set_cons_zero, List.set_cons_succ]
                    refine wpAnyH_take (i := 2) (oi := { dst := _, op := _, type := _, pos := _, after := _, guard := _ }) (v := ?_) rfl (by kernel_rfl) (by kernel_rfl) (by kernel_rfl) (fun _ _ _ h => h) (Or.inl ⟨by rfl, ?_⟩) (by assumption) ?_
                    rotate_left
                    · intro W hSw
                      (try dsimp only at hSw)
                      obtain ⟨d0, d1, ⟨x0, x1, x2, x3, x4, x5, x6⟩, ⟨y0, y1, y2, y3, y4, y5, y6⟩⟩ := hSw
                      go_simp
                      (try with_reducible rfl)
                    try simp only [Act.put, List.setIfInBounds_toArray, List.set_cons_zero, List.set_cons_succ]
                    refine wpAnyH_take (i := 3) (oi := { dst := _, op := _, type := _, pos := _, after := _, guard := _ }) (v := ?_) rfl (by kernel_rfl) (by kernel_rfl) (by kernel_rfl) (fun _ _ _ h => h) (Or.inl ⟨by rfl, ?_⟩) (by assumption) ?_
                    rotate_left
                    · intro W hSw
                      (try dsimp only at hSw)
                      obtain ⟨d0, d1, ⟨x0, x1, x2, x3, x4, x5, x6⟩, ⟨y0, y1, y2, y3, y4, y5, y6⟩⟩ := hSw
                      go_simp
                      (try with_reducible rfl)
                    try simp only [Act.put, List.setIfInBounds_toArray, List.set_cons_zero, List.set_cons_succ]
                    refine wpAnyH_take (i := 4) (oi := { dst := _, op := _, type := _, pos := _, after := _, guard := _ }) (v := ?_) rfl (by kernel_rfl) (by kernel_rfl) (by kernel_rfl) (fun _ _ _ h => h) (Or.inl ⟨by rfl, ?_⟩) (by assumption) ?_
                    rotate_left
                    · intro W hSw
                      (try dsimp only at hSw)
                      obtain ⟨d0, d1, ⟨x0, x1, x2, x3, x4, x5, x6⟩, ⟨y0, y1, y2, y3, y4, y5, y6⟩⟩ := hSw
                      go_simp
                      (try with_reducible rfl)
                    try simp only [Act.put, List.setIfInBounds_toArray, List.set_cons_zero, List.set_cons_succ]
                    refine wpAnyH_take (i := 5) (oi := { dst := _, op := _, type := _, pos := _, after := _, guard := _ }) (v := ?_) rfl (by kernel_rfl) (by kernel_rfl) (by kernel_rfl) (fun _ _ _ h => h) (Or.inl ⟨by rfl, ?_⟩) (by assumption) ?_
                    rotate_left
                    · intro W hSw
                      (try dsimp only at hSw)
                      obtain ⟨d0, d1, ⟨x0, x1, x2, x3, x4, x5, x6⟩, ⟨y0, y1, y2, y3, y4, y5, y6⟩⟩ := hSw
                      go_simp
                      (try with_reducible rfl)
                    try simp only [Act.put, List.setIfInBounds_toArray, List.set_cons_zero, List.set_cons_succ]
                    refine wpAnyH_take (i := 6) (oi := { dst := _, op := _, type := _, pos := _, after := _, guard := _ }) (v := ?_) rfl (by kernel_rfl) (by kernel_rfl) (by kernel_rfl) (fun _ _ _ h => h) (Or.inl ⟨by rfl, ?_⟩) (by assumption) ?_
                    rotate_left
                    · intro W hSw
                      (try dsimp only at hSw)
                      obtain ⟨d0, d1, ⟨x0, x1, x2, x3, x4, x5, x6⟩, ⟨y0, y1, y2, y3, y4, y5, y6⟩⟩ := hSw
                      go_simp
                      (try with_reducible rfl)
                    try simp only [Act.put, List.setIfInBounds_toArray, List.set_cons_zero, List.set_cons_succ]
                    refine wpAnyH_take (i := 7) (oi := { dst := _, op := _, type := _, pos := _, after := _, guard := _ }) (v := ?_) rfl (by kernel_rfl) (by kernel_rfl) (by kernel_rfl) (fun _ _ _ h => h) (Or.inl ⟨by rfl, ?_⟩) (by assumption) ?_
                    rotate_left
                    · intro W hSw
                      (try dsimp only at hSw)
                      obtain ⟨d0, d1, ⟨x0, x1, x2, x3, x4, x5, x6⟩, ⟨y0, y1, y2, y3, y4, y5, y6⟩⟩ := hSw
                      go_simp
                      (try with_reducible rfl)
                    try simp only [Act.put, List.setIfInBounds_toArray, List.set_cons_zero, List.set_cons_succ]
                    refine wpAnyH_take (i := 8) (oi := { dst := _, op := _, type := _, pos := _, after := _, guard := _ }) (v := ?_) rfl (by kernel_rfl) (by kernel_rfl) (by kernel_rfl) (fun _ _ _ h => h) (Or.inl ⟨by rfl, ?_⟩) (by assumption) ?_
                    rotate_left
                    · intro W hSw
                      (try dsimp only at hSw)
                      obtain ⟨d0, d1, ⟨x0, x1, x2, x3, x4, x5, x6⟩, ⟨y0, y1, y2, y3, y4, y5, y6⟩⟩ := hSw
                      go_simp
                      (try with_reducible rfl)
                    try simp only [Act.put, List.setIfInBounds_toArray, List.set_cons_zero, List.set_cons_succ]
                    refine wpAnyH_take (i := 9) (oi := { dst := _, op := _, type := _, pos := _, after := _, guard := _ }) (v := ?_) rfl (by kernel_rfl) (by kernel_rfl) (by kernel_rfl) (fun _ _ _ h => h) (Or.inl ⟨by rfl, ?_⟩) (by assumption) ?_
                    rotate_left
                    · intro W hSw
                      (try dsimp only at hSw)
                      obtain ⟨d0, d1, ⟨x0, x1, x2, x3, x4, x5, x6⟩, ⟨y0, y1, y2, y3, y4, y5, y6⟩⟩ := hSw
                      go_simp
                      (try with_reducible rfl)
                    try simp only [Act.put, List.setIfInBounds_toArray, List.set_cons_zero, List.set_cons_succ]
                    refine wpAnyH_take (i := 10) (oi := { dst := _, op := _, type := _, pos := _, after := _, guard := _ }) (v := ?_) rfl (by kernel_rfl) (by kernel_rfl) (by kernel_rfl) (fun _ _ _ h => h) (Or.inl ⟨by rfl, ?_⟩) (by assumption) ?_
                    rotate_left
                    · intro W hSw
                      (try dsimp only at hSw)
                      obtain ⟨d0, d1, ⟨x0, x1, x2, x3, x4, x5, x6⟩, ⟨y0, y1, y2, y3, y4, y5, y6⟩⟩ := hSw
                      go_simp
                      (try with_reducible rfl)
                    try simp only [Act.put, List.setIfInBounds_toArray, List.set_cons_zero, List.set_cons_succ]
                    refine wpAnyH_take (i := 11) (oi := { dst := _, op := _, type := _, pos := _, after := _, guard := _ }) (v := ?_) rfl (by kernel_rfl) (by kernel_rfl) (by kernel_rfl) (fun _ _ _ h => h) (Or.inl ⟨by rfl, ?_⟩) (by assumption) ?_
                    rotate_left
                    · intro W hSw
                      (try dsimp only at hSw)
                      obtain ⟨d0, d1, ⟨x0, x1, x2, x3, x4, x5, x6⟩, ⟨y0, y1, y2, y3, y4, y5, y6⟩⟩ := hSw
                      go_simp
                      (try with_reducible rfl)
                    try simp only [Act.put, List.setIfInBounds_toArray, List.set_cons_zero, List.set_cons_succ]
                    refine wpAnyH_take (i := 12) (oi := { dst := _, op := _, type := _, pos := _, after := _, guard := _ }) (v := ?_) rfl (by kernel_rfl) (by kernel_rfl) (by kernel_rfl) (fun _ _ _ h => h) (Or.inl ⟨by rfl, ?_⟩) (by assumption) ?_
                    rotate_left
                    · intro W hSw
                      (try dsimp only at hSw)
                      obtain ⟨d0, d1, ⟨x0, x1, x2, x3, x4, x5, x6⟩, ⟨y0, y1, y2, y3, y4, y5, y6⟩⟩ := hSw
                      go_simp
                      (try with_reducible rfl)
                    try simp only [Act.put, List.setIfInBounds_toArray, List.set_cons_zero, List.set_cons_succ]
                    refine wpAnyH_take (i := 13) (oi := { dst := _, op := _, type := _, pos := _, after := _, guard := _ }) (v := ?_) rfl (by kernel_rfl) (by kernel_rfl) (by kernel_rfl) (fun _ _ _ h => h) (Or.inl ⟨by rfl, ?_⟩) (by assumption) ?_
                    rotate_left
                    · intro W hSw
                      (try dsimp only at hSw)
                      obtain ⟨d0, d1, ⟨x0, x1, x2, x3, x4, x5, x6⟩, ⟨y0, y1, y2, y3, y4, y5, y6⟩⟩ := hSw
                      go_simp
                      (try with_reducible rfl)
                    try simp only [Act.put, List.setIfInBounds_toArray, List.set_cons_zero, List.set_cons_succ]
                    refine wpAnyH_take (i := 14) (oi := { dst := _, op := _, type := _, pos := _, after := _, guard := _ }) (v := ?_) rfl (by kernel_rfl) (by kernel_rfl) (by kernel_rfl) (fun _ _ _ h => h) (Or.inl ⟨by rfl, ?_⟩) (by assumption) ?_
                    rotate_left
                    · intro W hSw
                      (try dsimp only at hSw)
                      obtain ⟨d0, d1, ⟨x0, x1, x2, x3, x4, x5, x6⟩, ⟨y0, y1, y2, y3, y4, y5, y6⟩⟩ := hSw
                      go_simp
                      (try with_reducible rfl)
                    try simp only [Act.put, List.setIfInBounds_toArray, List.set_cons_zero, List.set_cons_succ]
                    refine wpAnyH_take (i := 15) (oi := { dst := _, op := _, type := _, pos := _, after := _, guard := _ }) (v := ?_) rfl (by kernel_rfl) (by kernel_rfl) (by kernel_rfl) (fun _ _ _ h => h) (Or.inl ⟨by rfl, ?_⟩) (by assumption) ?_
                    rotate_left
                    · intro W hSw
                      (try dsimp only at hSw)
                      obtain ⟨d0, d1, ⟨x0, x1, x2, x3, x4, x5, x6⟩, ⟨y0, y1, y2, y3, y4, y5, y6⟩⟩ := hSw
                      go_simp
                      (try with_reducible rfl)
                    try simp only [Act.put, List.setIfInBounds_toArray, List.set_cons_zero, List.set_cons_succ]
                    refine wpAnyH_take (i := 16) (oi := { dst := _, op := _, type := _, pos := _, after := _, guard := _ }) (v := ?_) rfl (by kernel_rfl) (by kernel_rfl) (by kernel_rfl) (fun _ _ _ h => h) (Or.inl ⟨by rfl, ?_⟩) (by assumption) ?_
                    rotate_left
                    · intro W hSw
                      (try dsimp only at hSw)
                      obtain ⟨d0, d1, ⟨x0, x1, x2, x3, x4, x5, x6⟩, ⟨y0, y1, y2, y3, y4, y5, y6⟩⟩ := hSw
                      go_simp
                      (try with_reducible rfl)
                    try simp only [Act.put, List.setIfInBounds_toArray, List.set_cons_zero, List.set_cons_succ]
                    refine wpAnyH_take (i := 17) (oi := { dst := _, op := _, type := _, pos := _, after := _, guard := _ }) (v := ?_) rfl (by kernel_rfl) (by kernel_rfl) (by kernel_rfl) (fun _ _ _ h => h) (Or.inl ⟨by rfl, ?_⟩) (by assumption) ?_
                    rotate_left
                    · intro W hSw
                      (try dsimp only at hSw)
                      obtain ⟨d0, d1, ⟨x0, x1, x2, x3, x4, x5, x6⟩, ⟨y0, y1, y2, y3, y4, y5, y6⟩⟩ := hSw
                      go_simp
                      (try with_reducible rfl)
                    try simp only [Act.put, List.setIfInBounds_toArray, List.set_cons_zero, List.set_cons_succ]
                    refine wpAnyH_take (i := 18) (oi := { dst := _, op := _, type := _, pos := _, after := _, guard := _ }) (v := ?_) rfl (by kernel_rfl) (by kernel_rfl) (by kernel_rfl) (fun _ _ _ h => h) (Or.inl ⟨by rfl, ?_⟩) (by assumption) ?_
                    rotate_left
                    · intro W hSw
                      (try dsimp only at hSw)
                      obtain ⟨d0, d1, ⟨x0, x1, x2, x3, x4, x5, x6⟩, ⟨y0, y1, y2, y3, y4, y5, y6⟩⟩ := hSw
                      go_simp
                      (try with_reducible rfl)
                    try simp only [Act.put, List.setIfInBounds_toArray, List.set_cons_zero, List.set_cons_succ]
                    refine wpAnyH_take (i := 19) (oi := { dst := _, op := _, type := _, pos := _, after := _, guard := _ }) (v := ?_) rfl (by kernel_rfl) (by kernel_rfl) (by kernel_rfl) (fun _ _ _ h => h) (Or.inl ⟨by rfl, ?_⟩) (by assumption) ?_
                    rotate_left
                    · intro W hSw
                      (try dsimp only at hSw)
                      obtain ⟨d0, d1, ⟨x0, x1, x2, x3, x4, x5, x6⟩, ⟨y0, y1, y2, y3, y4, y5, y6⟩⟩ := hSw
                      go_simp
                      (try with_reducible rfl)
                    try simp only [Act.put, List.setIfInBounds_toArray, List.set_cons_zero, List.set_cons_succ]
                    refine wpAnyH_take (i := 20) (oi := { dst := _, op := _, type := _, pos := _, after := _, guard := _ }) (v := ?_) rfl (by kernel_rfl) (by kernel_rfl) (by kernel_rfl) (fun _ _ _ h => h) (Or.inl ⟨by rfl, ?_⟩) (by assumption) ?_
                    rotate_left
                    · intro W hSw
                      (try dsimp only at hSw)
                      obtain ⟨d0, d1, ⟨x0, x1, x2, x3, x4, x5, x6⟩, ⟨y0, y1, y2, y3, y4, y5, y6⟩⟩ := hSw
                      go_simp
                      (try with_reducible rfl)
                    try simp only [Act.put, List.setIfInBounds_toArray, List.set_cons_zero, List.set_cons_succ]
                    refine wpAnyH_take (i := 21) (oi := { dst := _, op := _, type := _, pos := _, after := _, guard := _ }) (v := ?_) rfl (by kernel_rfl) (by kernel_rfl) (by kernel_rfl) (fun _ _ _ h => h) (Or.inl ⟨by rfl, ?_⟩) (by assumption) ?_
                    rotate_left
                    · intro W hSw
                      (try dsimp only at hSw)
                      obtain ⟨d0, d1, ⟨x0, x1, x2, x3, x4, x5, x6⟩, ⟨y0, y1, y2, y3, y4, y5, y6⟩⟩ := hSw
                      go_simp
                      (try with_reducible rfl)
                    try simp only [Act.put, List.setIfInBounds_toArray, List.set_cons_zero, List.set_cons_succ]
                    refine wpAnyH_take (i := 22) (oi := { dst := _, op := _, type := _, pos := _, after := _, guard := _ }) (v := ?_) rfl (by kernel_rfl) (by kernel_rfl) (by kernel_rfl) (fun _ _ _ h => h) (Or.inl ⟨by rfl, ?_⟩) (by assumption) ?_
                    rotate_left
                    · intro W hSw
                      (try dsimp only at hSw)
                      obtain ⟨d0, d1, ⟨x0, x1, x2, x3, x4, x5, x6⟩, ⟨y0, y1, y2, y3, y4, y5, y6⟩⟩ := hSw
                      go_simp
                      (try with_reducible rfl)
                    try simp only [Act.put, List.setIfInBounds_toArray, List.set_cons_zero, List.set_cons_succ]
                    refine wpAnyH_take (i := 23) (oi := { dst := _, op := _, type := _, pos := _, after := _, guard := _ }) (v := ?_) rfl (by kernel_rfl) (by kernel_rfl) (by kernel_rfl) (fun _ _ _ h => h) (Or.inl ⟨by rfl, ?_⟩) (by assumption) ?_
                    rotate_left
                    · intro W hSw
                      (try dsimp only at hSw)
                      obtain ⟨d0, d1, ⟨x0, x1, x2, x3, x4, x5, x6⟩, ⟨y0, y1, y2, y3, y4, y5, y6⟩⟩ := hSw
                      go_simp
                      (try with_reducible rfl)
                    try simp only [Act.put, List.setIfInBounds_toArray, List.set_cons_zero, List.set_cons_succ]
                    refine wpAnyH_take (i := 24) (oi := { dst := _, op := _, type := _, pos := _, after := _, guard := _ }) (v := ?_) rfl (by kernel_rfl) (by kernel_rfl) (by kernel_rfl) (fun _ _ _ h => h) (Or.inl ⟨by rfl, ?_⟩) (by assumption) ?_
                    rotate_left
                    · intro W hSw
                      (try dsimp only at hSw)
                      obtain ⟨d0, d1, ⟨x0, x1, x2, x3, x4, x5, x6⟩, ⟨y0, y1, y2, y3, y4, y5, y6⟩⟩ := hSw
                      go_simp
                      (try with_reducible rfl)
                    try simp only [Act.put, List.setIfInBounds_toArray, List.set_cons_zero, List.set_cons_succ]
                    refine wpAnyH_take (i := 25) (oi := { dst := _, op := _, type := _, pos := _, after := _, guard := _ }) (v := ?_) rfl (by kernel_rfl) (by kernel_rfl) (by kernel_rfl) (fun _ _ _ h => h) (Or.inl ⟨by rfl, ?_⟩) (by assumption) ?_
                    rotate_left
                    · intro W hSw
                      (try dsimp only at hSw)
                      obtain ⟨d0, d1, ⟨x0, x1, x2, x3, x4, x5, x6⟩, ⟨y0, y1, y2, y3, y4, y5, y6⟩⟩ := hSw
                      go_simp
                      (try with_reducible rfl)
                    try simp only [Act.put, List.setIfInBounds_toArray, List.set_cons_zero, List.set_cons_succ]
                    refine wpAnyH_take (i := 26) (oi := { dst := _, op := _, type := _, pos := _, after := _, guard := _ }) (v := ?_) rfl (by kernel_rfl) (by kernel_rfl) (by kernel_rfl) (fun _ _ _ h => h) (Or.inl ⟨by rfl, ?_⟩) (by assumption) ?_
                    rotate_left
                    · intro W hSw
                      (try dsimp only at hSw)
                      obtain ⟨d0, d1, ⟨x0, x1, x2, x3, x4, x5, x6⟩, ⟨y0, y1, y2, y3, y4, y5, y6⟩⟩ := hSw
                      go_simp
                      (try with_reducible rfl)
                    try simp only [Act.put, List.setIfInBounds_toArray, List.set_cons_zero, List.set_cons_succ]
                    refine wpAnyH_take (i := 27) (oi := { dst := _, op := _, type := _, pos := _, after := _, guard := _ }) (v := ?_) rfl (by kernel_rfl) (by kernel_rfl) (by kernel_rfl) (fun _ _ _ h => h) (Or.inl ⟨by rfl, ?_⟩) (by assumption) ?_
                    rotate_left
                    · intro W hSw
                      (try dsimp only at hSw)
                      obtain ⟨d0, d1, ⟨x0, x1, x2, x3, x4, x5, x6⟩, ⟨y0, y1, y2, y3, y4, y5, y6⟩⟩ := hSw
                      go_simp
                      (try with_reducible rfl)
                    try simp only [Act.put, List.setIfInBounds_toArray, List.set_cons_zero, List.set_cons_succ]
                    refine wpAnyH_take (i := 28) (oi := { dst := _, op := _, type := _, pos := _, after := _, guard := _ }) (v := ?_) rfl (by kernel_rfl) (by kernel_rfl) (by kernel_rfl) (fun _ _ _ h => h) (Or.inl ⟨by rfl, ?_⟩) (by assumption) ?_
                    rotate_left
                    · intro W hSw
                      (try dsimp only at hSw)
                      obtain ⟨d0, d1, ⟨x0, x1, x2, x3, x4, x5, x6⟩, ⟨y0, y1, y2, y3, y4, y5, y6⟩⟩ := hSw
                      go_simp
                      (try with_reducible rfl)
                    try simp only [Act.put, List.setIfInBounds_toArray, List.set_cons_zero, List.set_cons_succ]
                    refine wpAnyH_take (i := 29) (oi := { dst := _, op := _, type := _, pos := _, after := _, guard := _ }) (v := ?_) rfl (by kernel_rfl) (by kernel_rfl) (by kernel_rfl) (fun _ _ _ h => h) (Or.inl ⟨by rfl, ?_⟩) (by assumption) ?_
                    rotate_left
                    · intro W hSw
                      (try dsimp only at hSw)
                      obtain ⟨d0, d1, ⟨x0, x1, x2, x3, x4, x5, x6⟩, ⟨y0, y1, y2, y3, y4, y5, y6⟩⟩ := hSw
                      go_simp
                      (try with_reducible rfl)
                    try simp only [Act.put, List.setIfInBounds_toArray, List.set_cons_zero, List.set_cons_succ]
                    refine wpAnyH_take (i := 30) (oi := { dst := _, op := _, type := _, pos := _, after := _, guard := _ }) (v := ?_) rfl (by kernel_rfl) (by kernel_rfl) (by kernel_rfl) (fun _ _ _ h => h) (Or.inl ⟨by rfl, ?_⟩) (by assumption) ?_
                    rotate_left
                    · intro W hSw
                      (try dsimp only at hSw)
                      obtain ⟨d0, d1, ⟨x0, x1, x2, x3, x4, x5, x6⟩, ⟨y0, y1, y2, y3, y4, y5, y6⟩⟩ := hSw
                      go_simp
                      (try with_reducible rfl)
                    try simp only [Act.put, List.setIfInBounds_toArray, List.set_cons_zero, List.set_cons_succ]
                    refine wpAnyH_take (i := 31) (oi := { dst := _, op := _, type := _, pos := _, after := _, guard := _ }) (v := ?_) rfl (by kernel_rfl) (by kernel_rfl) (by kernel_rfl) (fun _ _ _ h => h) (Or.inl ⟨by rfl, ?_⟩) (by assumption) ?_
                    rotate_left
                    · intro W hSw
                      (try dsimp only at hSw)
                      obtain ⟨d0, d1, ⟨x0, x1, x2, x3, x4, x5, x6⟩, ⟨y0, y1, y2, y3, y4, y5, y6⟩⟩ := hSw
                      go_simp
                      (try with_reducible rfl)
                    try simp only [Act.put, List.setIfInBounds_toArray, List.set_cons_zero, List.set_cons_succ]
                    refine wpAnyH_take (i := 32) (oi := { dst := _, op := _, type := _, pos := _, after := _, guard := _ }) (v := ?_) rfl (by kernel_rfl) (by kernel_rfl) (by kernel_rfl) (fun _ _ _ h => h) (Or.inl ⟨by rfl, ?_⟩) (by assumption) ?_
                    rotate_left
                    · intro W hSw
                      (try dsimp only at hSw)
                      obtain ⟨d0, d1, ⟨x0, x1, x2, x3, x4, x5, x6⟩, ⟨y0, y1, y2, y3, y4, y5, y6⟩⟩ := hSw
                      go_simp
                      (try with_reducible rfl)
                    try simp only [Act.put, List.setIfInBounds_toArray, List.set_cons_zero, List.set_cons_succ]
                    refine wpAnyH_take (i := 33) (oi := { dst := _, op := _, type := _, pos := _, after := _, guard := _ }) (v := ?_) rfl (by kernel_rfl) (by kernel_rfl) (by kernel_rfl) (fun _ _ _ h => h) (Or.inl ⟨by rfl, ?_⟩) (by assumption) ?_
                    rotate_left
                    · intro W hSw
                      (try dsimp only at hSw)
                      obtain ⟨d0, d1, ⟨x0, x1, x2, x3, x4, x5, x6⟩, ⟨y0, y1, y2, y3, y4, y5, y6⟩⟩ := hSw
                      go_simp
                      (try with_reducible rfl)
                    try simp only [Act.put, List.setIfInBounds_toArray, List.set_cons_zero, List.set_cons_succ]
                    refine wpAnyH_take (i := 34) (oi := { dst := _, op := _, type := _, pos := _, after := _, guard := _ }) (v := ?_) rfl (by kernel_rfl) (by kernel_rfl) (by kernel_rfl) (fun _ _ _ h => h) (Or.inl ⟨by rfl, ?_⟩) (by assumption) ?_
                    rotate_left
                    · intro W hSw
                      (try dsimp only at hSw)
                      obtain ⟨d0, d1, ⟨x0, x1, x2, x3, x4, x5, x6⟩, ⟨y0, y1, y2, y3, y4, y5, y6⟩⟩ := hSw
                      go_simp
                      (try with_reducible rfl)
                    try simp only [Act.put, List.setIfInBounds_toArray, List.set_cons_zero, List.set_cons_succ]
                    refine wpAnyH_take (i := 35) (oi := { dst := _, op := _, type := _, pos := _, after := _, guard := _ }) (v := ?_) rfl (by kernel_rfl) (by kernel_rfl) (by kernel_rfl) (fun _ _ _ h => h) (Or.inl ⟨by rfl, ?_⟩) (by assumption) ?_
                    rotate_left
                    · intro W hSw
                      (try dsimp only at hSw)
                      obtain ⟨d0, d1, ⟨x0, x1, x2, x3, x4, x5, x6⟩, ⟨y0, y1, y2, y3, y4, y5, y6⟩⟩ := hSw
                      go_simp
                      (try with_reducible rfl)
                    try simp only [Act.put, List.setIfInBounds_toArray, List.set_cons_zero, List.set_cons_succ]
                    refine wpAnyH_take (i := 36) (oi := { dst := _, op := _, type := _, pos := _, after := _, guard := _ }) (v := ?_) rfl (by kernel_rfl) (by kernel_rfl) (by kernel_rfl) (fun _ _ _ h => h) (Or.inl ⟨by rfl, ?_⟩) (by assumption) ?_
                    rotate_left
                    · intro W hSw
                      (try dsimp only at hSw)
                      obtain ⟨d0, d1, ⟨x0, x1, x2, x3, x4, x5, x6⟩, ⟨y0, y1, y2, y3, y4, y5, y6⟩⟩ := hSw
                      go_simp
                      (try with_reducible rfl)
                    try simp only [Act.put, List.setIfInBounds_toArray, List.set_cons_zero, List.set_cons_succ]
                    refine wpAnyH_take (i := 37) (oi := { dst := _, op := _, type := _, pos := _, after := _, guard := _ }) (v := ?_) rfl (by kernel_rfl) (by kernel_rfl) (by kernel_rfl) (fun _ _ _ h => h) (Or.inl ⟨by rfl, ?_⟩) (by assumption) ?_
                    rotate_left
                    · intro W hSw
                      (try dsimp only at hSw)
                      obtain ⟨d0, d1, ⟨x0, x1, x2, x3, x4, x5, x6⟩, ⟨y0, y1, y2, y3, y4, y5, y6⟩⟩ := hSw
                      go_simp
                      (try with_reducible rfl)
                    try simp only [Act.put, List.setIfInBounds_toArray, List.set_cons_zero, List.set_cons_succ]
                    refine wpAnyH_take (i := 38) (oi := { dst := _, op := _, type := _, pos := _, after := _, guard := _ }) (v := ?_) rfl (by kernel_rfl) (by kernel_rfl) (by kernel_rfl) (fun _ _ _ h => h) (Or.inl ⟨by rfl, ?_⟩) (by assumption) ?_
                    rotate_left
                    · intro W hSw
                      (try dsimp only at hSw)
                      obtain ⟨d0, d1, ⟨x0, x1, x2, x3, x4, x5, x6⟩, ⟨y0, y1, y2, y3, y4, y5, y6⟩⟩ := hSw
                      go_simp
                      (try with_reducible rfl)
                    try simp only [Act.put, List.setIfInBounds_toArray, List.set_cons_zero, List.set_cons_succ]
                    refine wpAnyH_take (i := 39) (oi := { dst := _, op := _, type := _, pos := _, after := _, guard := _ }) (v := ?_) rfl (by kernel_rfl) (by kernel_rfl) (by kernel_rfl) (fun _ _ _ h => h) (Or.inl ⟨by rfl, ?_⟩) (by assumption) ?_
                    rotate_left
                    · intro W hSw
                      (try dsimp only at hSw)
                      obtain ⟨d0, d1, ⟨x0, x1, x2, x3, x4, x5, x6⟩, ⟨y0, y1, y2, y3, y4, y5, y6⟩⟩ := hSw
                      go_simp
                      (try with_reducible rfl)
                    try simp only [Act.put, List.setIfInBounds_toArray, List.set_cons_zero, List.set_cons_succ]
                    refine wpAnyH_take (i := 40) (oi := { dst := _, op := _, type := _, pos := _, after := _, guard := _ }) (v := ?_) rfl (by kernel_rfl) (by kernel_rfl) (by kernel_rfl) (fun _ _ _ h => h) (Or.inl ⟨by rfl, ?_⟩) (by assumption) ?_
                    rotate_left
                    · intro W hSw
                      (try dsimp only at hSw)
                      obtain ⟨d0, d1, ⟨x0, x1, x2, x3, x4, x5, x6⟩, ⟨y0, y1, y2, y3, y4, y5, y6⟩⟩ := hSw
                      go_simp
                      (try with_reducible rfl)
                    try simp only [Act.put, List.setIfInBounds_toArray, List.set_cons_zero, List.set_cons_succ]
                    refine wpAnyH_take (i := 41) (oi := { dst := _, op := _, type := _, pos := _, after := _, guard := _ }) (v := ?_) rfl (by kernel_rfl) (by kernel_rfl) (by kernel_rfl) (fun _ _ _ h => h) (Or.inl ⟨by rfl, ?_⟩) (by assumption) ?_
                    rotate_left
                    · intro W hSw
                      (try dsimp only at hSw)
                      obtain ⟨d0, d1, ⟨x0, x1, x2, x3, x4, x5, x6⟩, ⟨y0, y1, y2, y3, y4, y5, y6⟩⟩ := hSw
                      go_simp
                      (try with_reducible rfl)
                    try simp only [Act.put, List.setIfInBounds_toArray, List.set_cons_zero, List.set_cons_succ]
                    refine wpAnyH_take (i := 42) (oi := { dst := _, op := _, type := _, pos := _, after := _, guard := _ }) (v := ?_) rfl (by kernel_rfl) (by kernel_rfl) (by kernel_rfl) (fun _ _ _ h => h) (Or.inl ⟨by rfl, ?_⟩) (by assumption) ?_
                    rotate_left
                    · intro W hSw
                      (try dsimp only at hSw)
                      obtain ⟨d0, d1, ⟨x0, x1, x2, x3, x4, x5, x6⟩, ⟨y0, y1, y2, y3, y4, y5, y6⟩⟩ := hSw
                      go_simp
                      (try with_reducible rfl)
                    try simp only [Act.put, List.setIfInBounds_toArray, List.set_cons_zero, List.set_cons_succ]
                    refine wpAnyH_take (i := 43) (oi := { dst := _, op := _, type := _, pos := _, after := _, guard := _ }) (v := ?_) rfl (by kernel_rfl) (by kernel_rfl) (by kernel_rfl) (fun _ _ _ h => h) (Or.inl ⟨by rfl, ?_⟩) (by assumption) ?_
                    rotate_left
                    · intro W hSw
                      (try dsimp only at hSw)
                      obtain ⟨d0, d1, ⟨x0, x1, x2, x3, x4, x5, x6⟩, ⟨y0, y1, y2, y3, y4, y5, y6⟩⟩ := hSw
                      go_simp
                      (try with_reducible rfl)
                    try simp only [Act.put, List.setIfInBounds_toArray, List.set_cons_zero, List.set_cons_succ]
                    refine wpAnyH_take (i := 44) (oi := { dst := _, op := _, type := _, pos := _, after := _, guard := _ }) (v := ?_) rfl (by kernel_rfl) (by kernel_rfl) (by kernel_rfl) (fun _ _ _ h => h) (Or.inl ⟨by rfl, ?_⟩) (by assumption) ?_
                    rotate_left
                    · intro W hSw
                      (try dsimp only at hSw)
                      obtain ⟨d0, d1, ⟨x0, x1, x2, x3, x4, x5, x6⟩, ⟨y0, y1, y2, y3, y4, y5, y6⟩⟩ := hSw
                      go_simp
                      (try with_reducible rfl)
                    try simp only [Act.put, List.setIfInBounds_toArray, List.set_cons_zero, List.set_cons_succ]
                    refine wpAnyH_take (i := 45) (oi := { dst := _, op := _, type := _, pos := _, after := _, guard := _ }) (v := ?_) rfl (by kernel_rfl) (by kernel_rfl) (by kernel_rfl) (fun _ _ _ h => h) (Or.inl ⟨by rfl, ?_⟩) (by assumption) ?_
                    rotate_left
                    · intro W hSw
                      (try dsimp only at hSw)
                      obtain ⟨d0, d1, ⟨x0, x1, x2, x3, x4, x5, x6⟩, ⟨y0, y1, y2, y3, y4, y5, y6⟩⟩ := hSw
                      go_simp
                      (try with_reducible rfl)
                    try simp only [Act.put, List.setIfInBounds_toArray, List.set_cons_zero, List.set_cons_succ]
                    refine wpAnyH_take (i := 46) (oi := { dst := _, op := _, type := _, pos := _, after := _, guard := _ }) rfl (by kernel_rfl) (by kernel_rfl) (by kernel_rfl) (fun _ _ _ h => h) (Or.inr ⟨by rfl, rfl⟩) (by assumption) ?_
                    try simp only [Act.put, List.setIfInBounds_toArray, List.set_cons_zero, List.set_cons_succ]
                    refine wpAnyH_take (i := 47) (oi := { dst := _, op := _, type := _, pos := _, after := _, guard := _ }) rfl (by kernel_rfl) (by kernel_rfl) (by kernel_rfl) (fun _ _ _ h => h) (Or.inr ⟨by rfl, rfl⟩) (by assumption) ?_
                    try simp only [Act.put, List.setIfInBounds_toArray, List.set_cons_zero, List.set_cons_succ]
                    refine wpAnyH_take (i := 48) (oi := { dst := _, op := _, type := _, pos := _, after := _, guard := _ }) rfl (by kernel_rfl) (by kernel_rfl) (by kernel_rfl) (fun _ _ _ h => h) (Or.inr ⟨by rfl, rfl⟩) (by assumption) ?_
                    try simp only [Act.put, List.setIfInBounds_toArray, List.set_cons_zero, List.set_cons_succ]
                    refine wpAnyH_take (i := 49) (oi := { dst := _, op := _, type := _, pos := _, after := _, guard := _ }) rfl (by kernel_rfl) (by kernel_rfl) (by kernel_rfl) (fun _ _ _ h => h) (Or.inr ⟨by rfl, rfl⟩) (by assumption) ?_
                    try simp only [Act.put, List.setIfInBounds_toArray, List.set_cons_zero, List.set_cons_succ]
                    refine wpAnyH_take (i := 50) (oi := { dst := _, op := _, type := _, pos := _, after := _, guard := _ }) rfl (by kernel_rfl) (by kernel_rfl) (by kernel_rfl) (fun _ _ _ h => h) (Or.inr ⟨by rfl, rfl⟩) (by assumption) ?_
                    try simp only [Act.put, List.setIfInBounds_toArray, List.set_cons_zero, List.set_cons_succ]
                    refine wpAnyH_take (i := 51) (oi := { dst := _, op := _, type := _, pos := _, after := _, guard := _ }) rfl (by kernel_rfl) (by kernel_rfl) (by kernel_rfl) (fun _ _ _ h => h) (Or.inr ⟨by rfl, rfl⟩) (by assumption) ?_
                    try simp only [Act.put, List.setIfInBounds_toArray, List.set_cons_zero, List.set_cons_succ]
                    refine wpAnyH_take (i := 52) (oi := { dst := _, op := _, type := _, pos := _, after := _, guard := _ }) rfl (by kernel_rfl) (by kernel_rfl) (by kernel_rfl) (fun _ _ _ h => h) (Or.inr ⟨by rfl, rfl⟩) (by assumption) ?_
                    try simp only [Act.put, List.setIfInBounds_toArray, List.set_cons_zero, List.set_cons_succ]
                    refine wpAnyH_take (i := 53) (oi := { dst := _, op := _, type := _, pos := _, after := _, guard := _ }) rfl (by kernel_rfl) (by kernel_rfl) (by kernel_rfl) (fun _ _ _ h => h) (Or.inr ⟨by rfl, rfl⟩) (by assumption) ?_
                    try simp only [Act.put, List.setIfInBounds_toArray, List.set_cons_zero, List.set_cons_succ]
                    refine wpAnyH_take (i := 54) (oi := { dst := _, op := _, type := _, pos := _, after := _, guard := _ }) rfl (by kernel_rfl) (by kernel_rfl) (by kernel_rfl) (fun _ _ _ h => h) (Or.inr ⟨by rfl, rfl⟩) (by assumption) ?_
                    try simp only [Act.put, List.setIfInBounds_toArray, List.set_cons_zero, List.set_cons_succ]
                    refine wpAnyH_take (i := 55) (oi := { dst := _, op := _, type := _, pos := _, after := _, guard := _ }) rfl (by kernel_rfl) (by kernel_rfl) (by kernel_rfl) (fun _ _ _ h => h) (Or.inr ⟨by rfl, rfl⟩) (by assumption) ?_
                    try simp only [Act.put, List.setIfInBounds_toArray, List.set_cons_zero, List.set_cons_succ]
                    refine wpAnyH_take (i := 56) (oi := { dst := _, op := _, type := _, pos := _, after := _, guard := _ }) rfl (by kernel_rfl) (by kernel_rfl) (by kernel_rfl) (fun _ _ _ h => h) (Or.inr ⟨by rfl, rfl⟩) (by assumption) ?_
                    try simp only [Act.put, List.setIfInBounds_toArray, List.set_cons_zero, List.set_cons_succ]
                    refine wpAnyH_take (i := 57) (oi := { dst := _, op := _, type := _, pos := _, after := _, guard := _ }) (v := ?_) rfl (by kernel_rfl) (by kernel_rfl) (by kernel_rfl) (fun _ _ _ h => h) (Or.inl ⟨by rfl, ?_⟩) (by assumption) ?_
                    rotate_left
                    · intro W hSw
                      (try dsimp only at hSw)
                      obtain ⟨d0, d1, ⟨x0, x1, x2, x3, x4, x5, x6⟩, ⟨y0, y1, y2, y3, y4, y5, y6⟩⟩ := hSw
                      go_simp
                      (try with_reducible rfl)
                    try simp only [Act.put, List.setIfInBounds_toArray, List.set_cons_zero, List.set_cons_succ]
                    refine wpAnyH_take (i := 58) (oi := { dst := _, op := _, type := _, pos := _, after := _, guard := _ }) (v := ?_) rfl (by kernel_rfl) (by kernel_rfl) (by kernel_rfl) (fun _ _ _ h => h) (Or.inl ⟨by rfl, ?_⟩) (by assumption) ?_
                    rotate_left
                    · intro W hSw
                      (try dsimp only at hSw)
                      obtain ⟨d0, d1, ⟨x0, x1, x2, x3, x4, x5, x6⟩, ⟨y0, y1, y2, y3, y4, y5, y6⟩⟩ := hSw
                      go_simp
                      (try with_reducible rfl)
                    try simp only [Act.put, List.setIfInBounds_toArray, List.set_cons_zero, List.set_cons_succ]
                    refine wpAnyH_done (by kernel_rfl) ?_ _
                    refine NoPanic.normal ?_
                    go_wp2_with fail
                    go_roundg (ni + 99 - (k + 1))
                    case measure => have := HK.out; have := HK2.out; omega
                    case rel => exact ⟨k + 1, by first | (simp; done) | (rw [w64 k (by have := HN1.out; have := HK2.out; omega)]), ⟨HK2.out, rfl⟩, HSQ.out.drew⟩
                  · have hy := HB.out k (by omega) hk
                    have XB : Hid (Cx wr g2 k 8 (5000 + (i : Int))) := hy
                    have hkn2 : ¬ ((k : Int) < (ni : Int)) := by omega
                    have hkn3 : (ni : Int) ≤ (k : Int) := by omega
                    have hw1 : IntKind.i64.wrap (5000 + (i : Int)) = 5000 + (i : Int) := by rw [IntKind.wrap_i64]; omega
                    have hq := eq36z
                    clear hy HA HB
                    go_upto_region 36 with fail
                    refine wp_region_noPanic ?_
                    refine wp_region_held_drew (S := (fun W : World => W.cell? ⟨gL, i, none⟩ = some (.slice a ni cap) ∧ W.cell? ⟨gl, i, none⟩ = some (.slice (some ⟨g2, 0, none⟩) (ni + 99) c2) ∧ Cx W g2 k 8 (5000 + (i : Int)))) (by kernel_rfl) ⟨c0, c1, XB.out⟩ (fun hHeld => ?_)
                    refine wpAnyH_take (i := 0) (oi := { dst := _, op := _, type := _, pos := _, after := _, guard := _ }) (v := ?_) rfl (by kernel_rfl) (by kernel_rfl) (by kernel_rfl) (fun _ _ _ h => h) (Or.inl ⟨by rfl, ?_⟩) (by assumption) ?_
                    rotate_left
                    · intro W hSw
                      (try dsimp only at hSw)
                      obtain ⟨d0, d1, ⟨y0, y1, y2, y3, y4, y5, y6⟩⟩ := hSw
                      go_simp
                      (try with_reducible rfl)
                    try simp only [Act.put, List.setIfInBounds_toArray, List.set_cons_zero, List.set_cons_succ]
                    refine wpAnyH_take (i := 1) (oi := { dst := _, op := _, type := _, pos := _, after := _, guard := _ }) (v := ?_) rfl (by kernel_rfl) (by kernel_rfl) (by kernel_rfl) (fun _ _ _ h => h) (Or.inl ⟨by rfl, ?_⟩) (by assumption) ?_
                    rotate_left
                    · intro W hSw
                      (try dsimp only at hSw)
                      obtain ⟨d0, d1, ⟨y0, y1, y2, y3, y4, y5, y6⟩⟩ := hSw
                      go_simp
                      (try with_reducible rfl)
                    try simp only [Act.put, List.setIfInBounds_toArray, List.set_cons_zero, List.set_cons_succ]
                    refine wpAnyH_take (i := 2) (oi := { dst := _, op := _, type := _, pos := _, after := _, guard := _ }) (v := ?_) rfl (by kernel_rfl) (by kernel_rfl) (by kernel_rfl) (fun _ _ _ h => h) (Or.inl ⟨by rfl, ?_⟩) (by assumption) ?_
                    rotate_left
                    · intro W hSw
                      (try dsimp only at hSw)
                      obtain ⟨d0, d1, ⟨y0, y1, y2, y3, y4, y5, y6⟩⟩ := hSw
                      go_simp
                      (try with_reducible rfl)
                    try simp only [Act.put, List.setIfInBounds_toArray, List.set_cons_zero, List.set_cons_succ]
                    refine wpAnyH_take (i := 3) (oi := { dst := _, op := _, type := _, pos := _, after := _, guard := _ }) (v := ?_) rfl (by kernel_rfl) (by kernel_rfl) (by kernel_rfl) (fun _ _ _ h => h) (Or.inl ⟨by rfl, ?_⟩) (by assumption) ?_
                    rotate_left
                    · intro W hSw
                      (try dsimp only at hSw)
                      obtain ⟨d0, d1, ⟨y0, y1, y2, y3, y4, y5, y6⟩⟩ := hSw
                      go_simp
                      (try with_reducible rfl)
                    try simp only [Act.put, List.setIfInBounds_toArray, List.set_cons_zero, List.set_cons_succ]
                    refine wpAnyH_take (i := 4) (oi := { dst := _, op := _, type := _, pos := _, after := _, guard := _ }) (v := ?_) rfl (by kernel_rfl) (by kernel_rfl) (by kernel_rfl) (fun _ _ _ h => h) (Or.inl ⟨by rfl, ?_⟩) (by assumption) ?_
                    rotate_left
                    · intro W hSw
                      (try dsimp only at hSw)
                      obtain ⟨d0, d1, ⟨y0, y1, y2, y3, y4, y5, y6⟩⟩ := hSw
                      go_simp
                      (try with_reducible rfl)
                    try simp only [Act.put, List.setIfInBounds_toArray, List.set_cons_zero, List.set_cons_succ]
                    refine wpAnyH_take (i := 5) (oi := { dst := _, op := _, type := _, pos := _, after := _, guard := _ }) (v := ?_) rfl (by kernel_rfl) (by kernel_rfl) (by kernel_rfl) (fun _ _ _ h => h) (Or.inl ⟨by rfl, ?_⟩) (by assumption) ?_
                    rotate_left
                    · intro W hSw
                      (try dsimp only at hSw)
                      obtain ⟨d0, d1, ⟨y0, y1, y2, y3, y4, y5, y6⟩⟩ := hSw
                      go_simp
                      (try with_reducible rfl)
                    try simp only [Act.put, List.setIfInBounds_toArray, List.set_cons_zero, List.set_cons_succ]
                    refine wpAnyH_take (i := 6) (oi := { dst := _, op := _, type := _, pos := _, after := _, guard := _ }) (v := ?_) rfl (by kernel_rfl) (by kernel_rfl) (by kernel_rfl) (fun _ _ _ h => h) (Or.inl ⟨by rfl, ?_⟩) (by assumption) ?_
                    rotate_left
                    · intro W hSw
                      (try dsimp only at hSw)
                      obtain ⟨d0, d1, ⟨y0, y1, y2, y3, y4, y5, y6⟩⟩ := hSw
                      go_simp
                      (try with_reducible rfl)
                    try simp only [Act.put, List.setIfInBounds_toArray, List.set_cons_zero, List.set_cons_succ]
                    refine wpAnyH_take (i := 7) (oi := { dst := _, op := _, type := _, pos := _, after := _, guard := _ }) (v := ?_) rfl (by kernel_rfl) (by kernel_rfl) (by kernel_rfl) (fun _ _ _ h => h) (Or.inl ⟨by rfl, ?_⟩) (by assumption) ?_
                    rotate_left
                    · intro W hSw
                      (try dsimp only at hSw)
                      obtain ⟨d0, d1, ⟨y0, y1, y2, y3, y4, y5, y6⟩⟩ := hSw
                      go_simp
                      (try with_reducible rfl)
                    try simp only [Act.put, List.setIfInBounds_toArray, List.set_cons_zero, List.set_cons_succ]
                    refine wpAnyH_take (i := 8) (oi := { dst := _, op := _, type := _, pos := _, after := _, guard := _ }) rfl (by kernel_rfl) (by kernel_rfl) (by kernel_rfl) (fun _ _ _ h => h) (Or.inr ⟨by rfl, rfl⟩) (by assumption) ?_
                    try simp only [Act.put, List.setIfInBounds_toArray, List.set_cons_zero, List.set_cons_succ]
                    refine wpAnyH_take (i := 9) (oi := { dst := _, op := _, type := _, pos := _, after := _, guard := _ }) rfl (by kernel_rfl) (by kernel_rfl) (by kernel_rfl) (fun _ _ _ h => h) (Or.inr ⟨by rfl, rfl⟩) (by assumption) ?_
                    try simp only [Act.put, List.setIfInBounds_toArray, List.set_cons_zero, List.set_cons_succ]
                    refine wpAnyH_take (i := 10) (oi := { dst := _, op := _, type := _, pos := _, after := _, guard := _ }) rfl (by kernel_rfl) (by kernel_rfl) (by kernel_rfl) (fun _ _ _ h => h) (Or.inr ⟨by rfl, rfl⟩) (by assumption) ?_
                    try simp only [Act.put, List.setIfInBounds_toArray, List.set_cons_zero, List.set_cons_succ]
                    refine wpAnyH_take (i := 11) (oi := { dst := _, op := _, type := _, pos := _, after := _, guard := _ }) rfl (by kernel_rfl) (by kernel_rfl) (by kernel_rfl) (fun _ _ _ h => h) (Or.inr ⟨by rfl, rfl⟩) (by assumption) ?_
                    try simp only [Act.put, List.setIfInBounds_toArray, List.set_cons_zero, List.set_cons_succ]
                    refine wpAnyH_take (i := 12) (oi := { dst := _, op := _, type := _, pos := _, after := _, guard := _ }) rfl (by kernel_rfl) (by kernel_rfl) (by kernel_rfl) (fun _ _ _ h => h) (Or.inr ⟨by rfl, rfl⟩) (by assumption) ?_
                    try simp only [Act.put, List.setIfInBounds_toArray, List.set_cons_zero, List.set_cons_succ]
                    refine wpAnyH_take (i := 13) (oi := { dst := _, op := _, type := _, pos := _, after := _, guard := _ }) rfl (by kernel_rfl) (by kernel_rfl) (by kernel_rfl) (fun _ _ _ h => h) (Or.inr ⟨by rfl, rfl⟩) (by assumption) ?_
                    try simp only [Act.put, List.setIfInBounds_toArray, List.set_cons_zero, List.set_cons_succ]
                    refine wpAnyH_take (i := 14) (oi := { dst := _, op := _, type := _, pos := _, after := _, guard := _ }) rfl (by kernel_rfl) (by kernel_rfl) (by kernel_rfl) (fun _ _ _ h => h) (Or.inr ⟨by rfl, rfl⟩) (by assumption) ?_
                    try simp only [Act.put, List.setIfInBounds_toArray, List.set_cons_zero, List.set_cons_succ]
                    refine wpAnyH_take (i := 15) (oi := { dst := _, op := _, type := _, pos := _, after := _, guard := _ }) rfl (by kernel_rfl) (by kernel_rfl) (by kernel_rfl) (fun _ _ _ h => h) (Or.inr ⟨by rfl, rfl⟩) (by assumption) ?_
                    try simp only [Act.put, List.setIfInBounds_toArray, List.set_cons_zero, List.set_cons_succ]
                    refine wpAnyH_take (i := 16) (oi := { dst := _, op := _, type := _, pos := _, after := _, guard := _ }) rfl (by kernel_rfl) (by kernel_rfl) (by kernel_rfl) (fun _ _ _ h => h) (Or.inr ⟨by rfl, rfl⟩) (by assumption) ?_
                    try simp only [Act.put, List.setIfInBounds_toArray, List.set_cons_zero, List.set_cons_succ]
                    refine wpAnyH_take (i := 17) (oi := { dst := _, op := _, type := _, pos := _, after := _, guard := _ }) rfl (by kernel_rfl) (by kernel_rfl) (by kernel_rfl) (fun _ _ _ h => h) (Or.inr ⟨by rfl, rfl⟩) (by assumption) ?_
                    try simp only [Act.put, List.setIfInBounds_toArray, List.set_cons_zero, List.set_cons_succ]
                    refine wpAnyH_take (i := 18) (oi := { dst := _, op := _, type := _, pos := _, after := _, guard := _ }) rfl (by kernel_rfl) (by kernel_rfl) (by kernel_rfl) (fun _ _ _ h => h) (Or.inr ⟨by rfl, rfl⟩) (by assumption) ?_
                    try simp only [Act.put, List.setIfInBounds_toArray, List.set_cons_zero, List.set_cons_succ]
                    refine wpAnyH_take (i := 19) (oi := { dst := _, op := _, type := _, pos := _, after := _, guard := _ }) rfl (by kernel_rfl) (by kernel_rfl) (by kernel_rfl) (fun _ _ _ h => h) (Or.inr ⟨by rfl, rfl⟩) (by assumption) ?_
                    try simp only [Act.put, List.setIfInBounds_toArray, List.set_cons_zero, List.set_cons_succ]
                    refine wpAnyH_take (i := 20) (oi := { dst := _, op := _, type := _, pos := _, after := _, guard := _ }) rfl (by kernel_rfl) (by kernel_rfl) (by kernel_rfl) (fun _ _ _ h => h) (Or.inr ⟨by rfl, rfl⟩) (by assumption) ?_
                    try simp only [Act.put, List.setIfInBounds_toArray, List.set_cons_zero, List.set_cons_succ]
                    refine wpAnyH_take (i := 21) (oi := { dst := _, op := _, type := _, pos := _, after := _, guard := _ }) rfl (by kernel_rfl) (by kernel_rfl) (by kernel_rfl) (fun _ _ _ h => h) (Or.inr ⟨by rfl, rfl⟩) (by assumption) ?_
                    try simp only [Act.put, List.setIfInBounds_toArray, List.set_cons_zero, List.set_cons_succ]
                    refine wpAnyH_take (i := 22) (oi := { dst := _, op := _, type := _, pos := _, after := _, guard := _ }) rfl (by kernel_rfl) (by kernel_rfl) (by kernel_rfl) (fun _ _ _ h => h) (Or.inr ⟨by rfl, rfl⟩) (by assumption) ?_
                    try simp only [Act.put, List.setIfInBounds_toArray, List.set_cons_zero, List.set_cons_succ]
                    refine wpAnyH_take (i := 23) (oi := { dst := _, op := _, type := _, pos := _, after := _, guard := _ }) rfl (by kernel_rfl) (by kernel_rfl) (by kernel_rfl) (fun _ _ _ h => h) (Or.inr ⟨by rfl, rfl⟩) (by assumption) ?_
                    try simp only [Act.put, List.setIfInBounds_toArray, List.set_cons_zero, List.set_cons_succ]
                    refine wpAnyH_take (i := 24) (oi := { dst := _, op := _, type := _, pos := _, after := _, guard := _ }) rfl (by kernel_rfl) (by kernel_rfl) (by kernel_rfl) (fun _ _ _ h => h) (Or.inr ⟨by rfl, rfl⟩) (by assumption) ?_
                    try simp only [Act.put, List.setIfInBounds_toArray, List.set_cons_zero, List.set_cons_succ]
                    refine wpAnyH_take (i := 25) (oi := { dst := _, op := _, type := _, pos := _, after := _, guard := _ }) rfl (by kernel_rfl) (by kernel_rfl) (by kernel_rfl) (fun _ _ _ h => h) (Or.inr ⟨by rfl, rfl⟩) (by assumption) ?_
                    try simp only [Act.put, List.setIfInBounds_toArray, List.set_cons_zero, List.set_cons_succ]
                    refine wpAnyH_take (i := 26) (oi := { dst := _, op := _, type := _, pos := _, after := _, guard := _ }) rfl (by kernel_rfl) (by kernel_rfl) (by kernel_rfl) (fun _ _ _ h => h) (Or.inr ⟨by rfl, rfl⟩) (by assumption) ?_
                    try simp only [Act.put, List.setIfInBounds_toArray, List.set_cons_zero, List.set_cons_succ]
                    refine wpAnyH_take (i := 27) (oi := { dst := _, op := _, type := _, pos := _, after := _, guard := _ }) rfl (by kernel_rfl) (by kernel_rfl) (by kernel_rfl) (fun _ _ _ h => h) (Or.inr ⟨by rfl, rfl⟩) (by assumption) ?_
                    try simp only [Act.put, List.setIfInBounds_toArray, List.set_cons_zero, List.set_cons_succ]
                    refine wpAnyH_take (i := 28) (oi := { dst := _, op := _, type := _, pos := _, after := _, guard := _ }) rfl (by kernel_rfl) (by kernel_rfl) (by kernel_rfl) (fun _ _ _ h => h) (Or.inr ⟨by rfl, rfl⟩) (by assumption) ?_
                    try simp only [Act.put, List.setIfInBounds_toArray, List.set_cons_zero, List.set_cons_succ]
                    refine wpAnyH_take (i := 29) (oi := { dst := _, op := _, type := _, pos := _, after := _, guard := _ }) rfl (by kernel_rfl) (by kernel_rfl) (by kernel_rfl) (fun _ _ _ h => h) (Or.inr ⟨by rfl, rfl⟩) (by assumption) ?_
                    try simp only [Act.put, List.setIfInBounds_toArray, List.set_cons_zero, List.set_cons_succ]
                    refine wpAnyH_take (i := 30) (oi := { dst := _, op := _, type := _, pos := _, after := _, guard := _ }) rfl (by kernel_rfl) (by kernel_rfl) (by kernel_rfl) (fun _ _ _ h => h) (Or.inr ⟨by rfl, rfl⟩) (by assumption) ?_
                    try simp only [Act.put, List.setIfInBounds_toArray, List.set_cons_zero, List.set_cons_succ]
                    refine wpAnyH_take (i := 31) (oi := { dst := _, op := _, type := _, pos := _, after := _, guard := _ }) rfl (by kernel_rfl) (by kernel_rfl) (by kernel_rfl) (fun _ _ _ h => h) (Or.inr ⟨by rfl, rfl⟩) (by assumption) ?_
                    try simp only [Act.put, List.setIfInBounds_toArray, List.set_cons_zero, List.set_cons_succ]
                    refine wpAnyH_take (i := 32) (oi := { dst := _, op := _, type := _, pos := _, after := _, guard := _ }) rfl (by kernel_rfl) (by kernel_rfl) (by kernel_rfl) (fun _ _ _ h => h) (Or.inr ⟨by rfl, rfl⟩) (by assumption) ?_
                    try simp only [Act.put, List.setIfInBounds_toArray, List.set_cons_zero, List.set_cons_succ]
                    refine wpAnyH_take (i := 33) (oi := { dst := _, op := _, type := _, pos := _, after := _, guard := _ }) rfl (by kernel_rfl) (by kernel_rfl) (by kernel_rfl) (fun _ _ _ h => h) (Or.inr ⟨by rfl, rfl⟩) (by assumption) ?_
                    try simp only [Act.put, List.setIfInBounds_toArray, List.set_cons_zero, List.set_cons_succ]
                    refine wpAnyH_take (i := 34) (oi := { dst := _, op := _, type := _, pos := _, after := _, guard := _ }) rfl (by kernel_rfl) (by kernel_rfl) (by kernel_rfl) (fun _ _ _ h => h) (Or.inr ⟨by rfl, rfl⟩) (by assumption) ?_
                    try simp only [Act.put, List.setIfInBounds_toArray, List.set_cons_zero, List.set_cons_succ]
                    refine wpAnyH_take (i := 35) (oi := { dst := _, op := _, type := _, pos := _, after := _, guard := _ }) rfl (by kernel_rfl) (by kernel_rfl) (by kernel_rfl) (fun _ _ _ h => h) (Or.inr ⟨by rfl, rfl⟩) (by assumption) ?_
                    try simp only [Act.put, List.setIfInBounds_toArray, List.set_cons_zero, List.set_cons_succ]
                    refine wpAnyH_take (i := 36) (oi := { dst := _, op := _, type := _, pos := _, after := _, guard := _ }) (v := ?_) rfl (by kernel_rfl) (by kernel_rfl) (by kernel_rfl) (fun _ _ _ h => h) (Or.inl ⟨by rfl, ?_⟩) (by assumption) ?_
                    rotate_left
                    · intro W hSw
                      (try dsimp only at hSw)
                      obtain ⟨d0, d1, ⟨y0, y1, y2, y3, y4, y5, y6⟩⟩ := hSw
                      go_simp
                      (try with_reducible rfl)
                    try simp only [Act.put, List.setIfInBounds_toArray, List.set_cons_zero, List.set_cons_succ]
                    refine wpAnyH_take (i := 37) (oi := { dst := _, op := _, type := _, pos := _, after := _, guard := _ }) (v := ?_) rfl (by kernel_rfl) (by kernel_rfl) (by kernel_rfl) (fun _ _ _ h => h) (Or.inl ⟨by rfl, ?_⟩) (by assumption) ?_
                    rotate_left
                    · intro W hSw
                      (try dsimp only at hSw)
                      obtain ⟨d0, d1, ⟨y0, y1, y2, y3, y4, y5, y6⟩⟩ := hSw
                      go_simp
                      (try with_reducible rfl)
                    try simp only [Act.put, List.setIfInBounds_toArray, List.set_cons_zero, List.set_cons_succ]
                    refine wpAnyH_take (i := 38) (oi := { dst := _, op := _, type := _, pos := _, after := _, guard := _ }) (v := ?_) rfl (by kernel_rfl) (by kernel_rfl) (by kernel_rfl) (fun _ _ _ h => h) (Or.inl ⟨by rfl, ?_⟩) (by assumption) ?_
                    rotate_left
                    · intro W hSw
                      (try dsimp only at hSw)
                      obtain ⟨d0, d1, ⟨y0, y1, y2, y3, y4, y5, y6⟩⟩ := hSw
                      go_simp
                      (try with_reducible rfl)
                    try simp only [Act.put, List.setIfInBounds_toArray, List.set_cons_zero, List.set_cons_succ]
                    refine wpAnyH_take (i := 39) (oi := { dst := _, op := _, type := _, pos := _, after := _, guard := _ }) (v := ?_) rfl (by kernel_rfl) (by kernel_rfl) (by kernel_rfl) (fun _ _ _ h => h) (Or.inl ⟨by rfl, ?_⟩) (by assumption) ?_
                    rotate_left
                    · intro W hSw
                      (try dsimp only at hSw)
                      obtain ⟨d0, d1, ⟨y0, y1, y2, y3, y4, y5, y6⟩⟩ := hSw
                      go_simp
                      (try with_reducible rfl)
                    try simp only [Act.put, List.setIfInBounds_toArray, List.set_cons_zero, List.set_cons_succ]
                    refine wpAnyH_take (i := 40) (oi := { dst := _, op := _, type := _, pos := _, after := _, guard := _ }) (v := ?_) rfl (by kernel_rfl) (by kernel_rfl) (by kernel_rfl) (fun _ _ _ h => h) (Or.inl ⟨by rfl, ?_⟩) (by assumption) ?_
                    rotate_left
                    · intro W hSw
                      (try dsimp only at hSw)
                      obtain ⟨d0, d1, ⟨y0, y1, y2, y3, y4, y5, y6⟩⟩ := hSw
                      go_simp
                      (try with_reducible rfl)
                    try simp only [Act.put, List.setIfInBounds_toArray, List.set_cons_zero, List.set_cons_succ]
                    refine wpAnyH_take (i := 41) (oi := { dst := _, op := _, type := _, pos := _, after := _, guard := _ }) (v := ?_) rfl (by kernel_rfl) (by kernel_rfl) (by kernel_rfl) (fun _ _ _ h => h) (Or.inl ⟨by rfl, ?_⟩) (by assumption) ?_
                    rotate_left
                    · intro W hSw
                      (try dsimp only at hSw)
                      obtain ⟨d0, d1, ⟨y0, y1, y2, y3, y4, y5, y6⟩⟩ := hSw
                      go_simp
                      (try with_reducible rfl)
                    try simp only [Act.put, List.setIfInBounds_toArray, List.set_cons_zero, List.set_cons_succ]
                    refine wpAnyH_take (i := 42) (oi := { dst := _, op := _, type := _, pos := _, after := _, guard := _ }) (v := ?_) rfl (by kernel_rfl) (by kernel_rfl) (by kernel_rfl) (fun _ _ _ h => h) (Or.inl ⟨by rfl, ?_⟩) (by assumption) ?_
                    rotate_left
                    · intro W hSw
                      (try dsimp only at hSw)
                      obtain ⟨d0, d1, ⟨y0, y1, y2, y3, y4, y5, y6⟩⟩ := hSw
                      go_simp
                      (try with_reducible rfl)
                    try simp only [Act.put, List.setIfInBounds_toArray, List.set_cons_zero, List.set_cons_succ]
                    refine wpAnyH_take (i := 43) (oi := { dst := _, op := _, type := _, pos := _, after := _, guard := _ }) (v := ?_) rfl (by kernel_rfl) (by kernel_rfl) (by kernel_rfl) (fun _ _ _ h => h) (Or.inl ⟨by rfl, ?_⟩) (by assumption) ?_
                    rotate_left
                    · intro W hSw
                      (try dsimp only at hSw)
                      obtain ⟨d0, d1, ⟨y0, y1, y2, y3, y4, y5, y6⟩⟩ := hSw
                      go_simp
                      (try with_reducible rfl)
                    try simp only [Act.put, List.setIfInBounds_toArray, List.set_cons_zero, List.set_cons_succ]
                    refine wpAnyH_take (i := 44) (oi := { dst := _, op := _, type := _, pos := _, after := _, guard := _ }) (v := ?_) rfl (by kernel_rfl) (by kernel_rfl) (by kernel_rfl) (fun _ _ _ h => h) (Or.inl ⟨by rfl, ?_⟩) (by assumption) ?_
                    rotate_left
                    · intro W hSw
                      (try dsimp only at hSw)
                      obtain ⟨d0, d1, ⟨y0, y1, y2, y3, y4, y5, y6⟩⟩ := hSw
                      go_simp
                      (try with_reducible rfl)
                    try simp only [Act.put, List.setIfInBounds_toArray, List.set_cons_zero, List.set_cons_succ]
                    refine wpAnyH_take (i := 45) (oi := { dst := _, op := _, type := _, pos := _, after := _, guard := _ }) (v := ?_) rfl (by kernel_rfl) (by kernel_rfl) (by kernel_rfl) (fun _ _ _ h => h) (Or.inl ⟨by rfl, ?_⟩) (by assumption) ?_
                    rotate_left
                    · intro W hSw
                      (try dsimp only at hSw)
                      obtain ⟨d0, d1, ⟨y0, y1, y2, y3, y4, y5, y6⟩⟩ := hSw
                      go_simp
                      (try with_reducible rfl)
                    try simp only [Act.put, List.setIfInBounds_toArray, List.set_cons_zero, List.set_cons_succ]
                    refine wpAnyH_take (i := 46) (oi := { dst := _, op := _, type := _, pos := _, after := _, guard := _ }) (v := ?_) rfl (by kernel_rfl) (by kernel_rfl) (by kernel_rfl) (fun _ _ _ h => h) (Or.inl ⟨by rfl, ?_⟩) (by assumption) ?_
                    rotate_left
                    · intro W hSw
                      (try dsimp only at hSw)
                      obtain ⟨d0, d1, ⟨y0, y1, y2, y3, y4, y5, y6⟩⟩ := hSw
                      go_simp
                      (try with_reducible rfl)
                    try simp only [Act.put, List.setIfInBounds_toArray, List.set_cons_zero, List.set_cons_succ]
                    refine wpAnyH_take (i := 47) (oi := { dst := _, op := _, type := _, pos := _, after := _, guard := _ }) (v := ?_) rfl (by kernel_rfl) (by kernel_rfl) (by kernel_rfl) (fun _ _ _ h => h) (Or.inl ⟨by rfl, ?_⟩) (by assumption) ?_
                    rotate_left
                    · intro W hSw
                      (try dsimp only at hSw)
                      obtain ⟨d0, d1, ⟨y0, y1, y2, y3, y4, y5, y6⟩⟩ := hSw
                      go_simp
                      (try with_reducible rfl)
                    try simp only [Act.put, List.setIfInBounds_toArray, List.set_cons_zero, List.set_cons_succ]
                    refine wpAnyH_take (i := 48) (oi := { dst := _, op := _, type := _, pos := _, after := _, guard := _ }) (v := ?_) rfl (by kernel_rfl) (by kernel_rfl) (by kernel_rfl) (fun _ _ _ h => h) (Or.inl ⟨by rfl, ?_⟩) (by assumption) ?_
                    rotate_left
                    · intro W hSw
                      (try dsimp only at hSw)
                      obtain ⟨d0, d1, ⟨y0, y1, y2, y3, y4, y5, y6⟩⟩ := hSw
                      go_simp
                      (try with_reducible rfl)
                    try simp only [Act.put, List.setIfInBounds_toArray, List.set_cons_zero, List.set_cons_succ]
                    refine wpAnyH_take (i := 49) (oi := { dst := _, op := _, type := _, pos := _, after := _, guard := _ }) (v := ?_) rfl (by kernel_rfl) (by kernel_rfl) (by kernel_rfl) (fun _ _ _ h => h) (Or.inl ⟨by rfl, ?_⟩) (by assumption) ?_
                    rotate_left
                    · intro W hSw
                      (try dsimp only at hSw)
                      obtain ⟨d0, d1, ⟨y0, y1, y2, y3, y4, y5, y6⟩⟩ := hSw
                      go_simp
                      (try with_reducible rfl)
                    try simp only [Act.put, List.setIfInBounds_toArray, List.set_cons_zero, List.set_cons_succ]
                    refine wpAnyH_take (i := 50) (oi := { dst := _, op := _, type := _, pos := _, after := _, guard := _ }) (v := ?_) rfl (by kernel_rfl) (by kernel_rfl) (by kernel_rfl) (fun _ _ _ h => h) (Or.inl ⟨by rfl, ?_⟩) (by assumption) ?_
                    rotate_left
                    · intro W hSw
                      (try dsimp only at hSw)
                      obtain ⟨d0, d1, ⟨y0, y1, y2, y3, y4, y5, y6⟩⟩ := hSw
                      go_simp
                      (try with_reducible rfl)
                    try simp only [Act.put, List.setIfInBounds_toArray, List.set_cons_zero, List.set_cons_succ]
                    refine wpAnyH_take (i := 51) (oi := { dst := _, op := _, type := _, pos := _, after := _, guard := _ }) (v := ?_) rfl (by kernel_rfl) (by kernel_rfl) (by kernel_rfl) (fun _ _ _ h => h) (Or.inl ⟨by rfl, ?_⟩) (by assumption) ?_
                    rotate_left
                    · intro W hSw
                      (try dsimp only at hSw)
                      obtain ⟨d0, d1, ⟨y0, y1, y2, y3, y4, y5, y6⟩⟩ := hSw
                      go_simp
                      (try with_reducible rfl)
                    try simp only [Act.put, List.setIfInBounds_toArray, List.set_cons_zero, List.set_cons_succ]
                    refine wpAnyH_take (i := 52) (oi := { dst := _, op := _, type := _, pos := _, after := _, guard := _ }) (v := ?_) rfl (by kernel_rfl) (by kernel_rfl) (by kernel_rfl) (fun _ _ _ h => h) (Or.inl ⟨by rfl, ?_⟩) (by assumption) ?_
                    rotate_left
                    · intro W hSw
                      (try dsimp only at hSw)
                      obtain ⟨d0, d1, ⟨y0, y1, y2, y3, y4, y5, y6⟩⟩ := hSw
                      go_simp
                      (try with_reducible rfl)
                    try simp only [Act.put, List.setIfInBounds_toArray, List.set_cons_zero, List.set_cons_succ]
                    refine wpAnyH_take (i := 53) (oi := { dst := _, op := _, type := _, pos := _, after := _, guard := _ }) (v := ?_) rfl (by kernel_rfl) (by kernel_rfl) (by kernel_rfl) (fun _ _ _ h => h) (Or.inl ⟨by rfl, ?_⟩) (by assumption) ?_
                    rotate_left
                    · intro W hSw
                      (try dsimp only at hSw)
                      obtain ⟨d0, d1, ⟨y0, y1, y2, y3, y4, y5, y6⟩⟩ := hSw
                      go_simp
                      (try with_reducible rfl)
                    try simp only [Act.put, List.setIfInBounds_toArray, List.set_cons_zero, List.set_cons_succ]
                    refine wpAnyH_take (i := 54) (oi := { dst := _, op := _, type := _, pos := _, after := _, guard := _ }) (v := ?_) rfl (by kernel_rfl) (by kernel_rfl) (by kernel_rfl) (fun _ _ _ h => h) (Or.inl ⟨by rfl, ?_⟩) (by assumption) ?_
                    rotate_left
                    · intro W hSw
                      (try dsimp only at hSw)
                      obtain ⟨d0, d1, ⟨y0, y1, y2, y3, y4, y5, y6⟩⟩ := hSw
                      go_simp
                      (try with_reducible rfl)
                    try simp only [Act.put, List.setIfInBounds_toArray, List.set_cons_zero, List.set_cons_succ]
                    refine wpAnyH_take (i := 55) (oi := { dst := _, op := _, type := _, pos := _, after := _, guard := _ }) (v := ?_) rfl (by kernel_rfl) (by kernel_rfl) (by kernel_rfl) (fun _ _ _ h => h) (Or.inl ⟨by rfl, ?_⟩) (by assumption) ?_
                    rotate_left
                    · intro W hSw
                      (try dsimp only at hSw)
                      obtain ⟨d0, d1, ⟨y0, y1, y2, y3, y4, y5, y6⟩⟩ := hSw
                      go_simp
                      (try with_reducible rfl)
                    try simp only [Act.put, List.setIfInBounds_toArray, List.set_cons_zero, List.set_cons_succ]
                    refine wpAnyH_take (i := 56) (oi := { dst := _, op := _, type := _, pos := _, after := _, guard := _ }) (v := ?_) rfl (by kernel_rfl) (by kernel_rfl) (by kernel_rfl) (fun _ _ _ h => h) (Or.inl ⟨by rfl, ?_⟩) (by assumption) ?_
                    rotate_left
                    · intro W hSw
                      (try dsimp only at hSw)
                      obtain ⟨d0, d1, ⟨y0, y1, y2, y3, y4, y5, y6⟩⟩ := hSw
                      go_simp
                      (try with_reducible rfl)
                    try simp only [Act.put, List.setIfInBounds_toArray, List.set_cons_zero, List.set_cons_succ]
                    refine wpAnyH_take (i := 57) (oi := { dst := _, op := _, type := _, pos := _, after := _, guard := _ }) (v := ?_) rfl (by kernel_rfl) (by kernel_rfl) (by kernel_rfl) (fun _ _ _ h => h) (Or.inl ⟨by rfl, ?_⟩) (by assumption) ?_
                    rotate_left
                    · intro W hSw
                      (try dsimp only at hSw)
                      obtain ⟨d0, d1, ⟨y0, y1, y2, y3, y4, y5, y6⟩⟩ := hSw
                      go_simp
                      (try with_reducible rfl)
                    try simp only [Act.put, List.setIfInBounds_toArray, List.set_cons_zero, List.set_cons_succ]
                    refine wpAnyH_take (i := 58) (oi := { dst := _, op := _, type := _, pos := _, after := _, guard := _ }) (v := ?_) rfl (by kernel_rfl) (by kernel_rfl) (by kernel_rfl) (fun _ _ _ h => h) (Or.inl ⟨by rfl, ?_⟩) (by assumption) ?_
                    rotate_left
                    · intro W hSw
                      (try dsimp only at hSw)
                      obtain ⟨d0, d1, ⟨y0, y1, y2, y3, y4, y5, y6⟩⟩ := hSw
                      go_simp
                      (try with_reducible rfl)
                    try simp only [Act.put, List.setIfInBounds_toArray, List.set_cons_zero, List.set_cons_succ]
                    refine wpAnyH_done (by kernel_rfl) ?_ _
                    refine NoPanic.normal ?_
                    go_wp2_with fail
                    go_roundg (ni + 99 - (k + 1))
                    case measure => have := HK.out; have := HK2.out; omega
                    case rel => exact ⟨k + 1, by first | (simp; done) | (rw [w64 k (by have := HN1.out; have := HK2.out; omega)]), ⟨HK2.out, rfl⟩, HSQ.out.drew⟩
                · obtain rfl : k = ni + 99 := by have := HK.out; omega
                  have hk2 : ¬ (((ni + 99 : Nat) : Int) < (ni : Int) + 99) := by omega
                  clear hk
                  go_wp2_with fail
                  go_roundg (4 - (i + 1))
                  case measure => have := HI.out; have := HI4.out; omega
                  case rel => exact ⟨i + 1, by first | (simp; done) | (rw [w64 i (by have := HI4.out; omega)]), ⟨HI4.out, rfl⟩, HSQ.out⟩
            · obtain rfl : i = 4 := by have := HI.out; omega
              clear hi
              obtain ⟨gr, hlr⟩ := Sq.c HSQ.out (by decide : 3 < 4) HN3.out HVC.out
              obtain ⟨R, hR⟩ : ∃ R, List.replicate P.length (spn 3) = R := ⟨_, rfl⟩
              have hRl : R.length = P.length := by rw [← hR, List.length_replicate]
              have HRL : Hid (R.length = P.length) := hRl
              have LR : Hid (Lst wr lpc gr 0 cc R) := by have h : Lst wr lpc gr 0 cc R := by rw [← hR]; exact hlr
                                                         exact h
              have LW : Hid (Lst wr lq gq 0 cq P) := HSQ.out.was
              have BE : Hid (Below w.heap.size w wr) := HSQ.out.bel
              clear hlr hR hRl HSQ HI HM HN HN3
              have CP : Hid (∀ (lp : Option Addr) (g cap : Nat) (W : World), Lst W lp g 0 cap R → Calls Tryd.prog 9 #[.slice lp P.length cap] W fun e w' => e = .returned (.tuple #[ST (pr R), .int .i64 (prE R)]) ∧ Below W.heap.size W w') := by
                intro lp g cap W h
                have c := print_any R lp g 0 cap W h.ptr h.at_ h.lt (by have := H128.out; have := HRL.out; omega)
                rw [HRL.out] at c
                exact c
              have CM : Hid (∀ (lp : Option Addr) (g cap : Nat) (W : World), Lst W lp g 0 cap R → Below w.heap.size w W → Calls Tryd.prog 10 #[.slice lp P.length cap, .string s] W fun e w' => e = .returned (.bool (RD R s.data.toList).1) ∧ Below W.heap.size W w') := by
                intro lp g cap W h hb
                have c := matches_any R s lp g 0 cap W h (by have := H128.out; have := HRL.out; omega) (HD.out.up hb) HS.out
                rw [HRL.out] at c
                exact c
              have CW : Hid (∀ (lp : Option Addr) (g cap : Nat) (W : World), Lst W lp g 0 cap R → Calls Tryd.prog 8 #[.slice lp P.length cap] W fun x w' => ∃ v, x = .returned v ∧ w'.ownsRow W.heap.size 38 7 v R.length (ncs R) ∧ Below W.heap.size W w') := by
                intro lp g cap W h
                have c := twin_lst R lp g 0 cap W h (by have := H128.out; have := HRL.out; omega)
                rw [HRL.out] at c ⊢
                exact c
              obtain ⟨T, hT⟩ : ∃ T, pr R = T := ⟨_, rfl⟩
              obtain ⟨TE, hTE⟩ : ∃ TE, prE R = TE := ⟨_, rfl⟩
              obtain ⟨TM, hTM⟩ : ∃ TM, (RD R s.data.toList).1 = TM := ⟨_, rfl⟩
              rw [hT, hTE] at CP
              rw [hTM] at CM
              clear hT hTE hTM
              go_wp2_with fail
              have y1 := CP.out lpc gr cc wr LR.out
              rw [← HVC.out] at y1
              refine Calls.mono y1 ?_
              clear y1
              rintro e x1 ⟨rfl, hb⟩
              have LR1 : Hid (Lst x1 lpc gr 0 cc R) := LR.out.up hb
              have LW1 : Hid (Lst x1 lq gq 0 cq P) := LW.out.up hb
              have BE1 : Hid (Below w.heap.size w x1) := below_trans BE.out hb
              clear hb LR LW BE
              go_wp2_with fail
              have y1 := CW.out lpc gr cc x1 LR1.out
              rw [← HVC.out] at y1
              refine Calls.mono y1 ?_
              clear y1
              rintro e x2 ⟨vt, rfl, hot, hb⟩
              obtain ⟨lt, gt, ct, rfl, hlt⟩ := own_lst hot
              rw [HRL.out]
              have LT2 : Hid (Lst x2 lt gt 0 ct R) := hlt
              have LR2 : Hid (Lst x2 lpc gr 0 cc R) := LR1.out.up hb
              have LW2 : Hid (Lst x2 lq gq 0 cq P) := LW1.out.up hb
              have BE2 : Hid (Below w.heap.size w x2) := below_trans BE1.out hb
              clear hb hot hlt LR1 LW1 BE1
              go_wp2_with fail
              refine Calls.mono (CP.out lt gt ct x2 LT2.out) ?_
              rintro e x3 ⟨rfl, hb⟩
              have LR3 : Hid (Lst x3 lpc gr 0 cc R) := LR2.out.up hb
              have LW3 : Hid (Lst x3 lq gq 0 cq P) := LW2.out.up hb
              have BE3 : Hid (Below w.heap.size w x3) := below_trans BE2.out hb
              clear hb LR2 LW2 BE2 LT2
              go_wp2_with fail
              have y1 := CM.out lpc gr cc x3 LR3.out BE3.out
              rw [← HVC.out] at y1
              refine Calls.mono y1 ?_
              clear y1
              rintro e x4 ⟨rfl, hb⟩
              have LR4 : Hid (Lst x4 lpc gr 0 cc R) := LR3.out.up hb
              have LW4 : Hid (Lst x4 lq gq 0 cq P) := LW3.out.up hb
              have BE4 : Hid (Below w.heap.size w x4) := below_trans BE3.out hb
              clear hb LR3 LW3 BE3
              go_wp2_with fail
              have y1 := CW.out lpc gr cc x4 LR4.out
              rw [← HVC.out] at y1
              refine Calls.mono y1 ?_
              clear y1
              rintro e x5 ⟨vt, rfl, hot, hb⟩
              obtain ⟨lt', gt', ct', rfl, hlt⟩ := own_lst hot
              rw [HRL.out]
              have LT5 : Hid (Lst x5 lt' gt' 0 ct' R) := hlt
              have LW5 : Hid (Lst x5 lq gq 0 cq P) := LW4.out.up hb
              have BE5 : Hid (Below w.heap.size w x5) := below_trans BE4.out hb
              clear hb hot hlt LR4 LW4 BE4
              go_wp2_with fail
              refine Calls.mono (CM.out lt' gt' ct' x5 LT5.out BE5.out) ?_
              rintro e x6 ⟨rfl, hb⟩
              have LW6 : Hid (Lst x6 lq gq 0 cq P) := LW5.out.up hb
              have BE6 : Hid (Below w.heap.size w x6) := below_trans BE5.out hb
              clear hb LW5 BE5 LT5
              go_wp2_with fail
              refine Calls.mono (parse_own s HS.out x6) ?_
              rintro e x7 ⟨vd, rfl, hod, -, hb⟩
              rw [HP.out] at hod
              rw [HCE.out, HCP.out]
              obtain ⟨ld, gd, cd, rfl, hld⟩ := own_lst hod
              have LD7 : Hid (Lst x7 ld gd 0 cd P) := hld
              have LW7 : Hid (Lst x7 lq gq 0 cq P) := LW6.out.up hb
              have BE7 : Hid (Below w.heap.size w x7) := below_trans BE6.out hb
              clear hb hod hld LW6 BE6
              go_wp2_with fail
              have y1 := sameTree_any P ld lq gd 0 cd gq 0 cq x7 LD7.out LW7.out (by have := H128.out; omega)
              rw [← HVW.out] at y1
              refine Calls.mono y1 ?_
              clear y1
              rintro e x8 ⟨rfl, hb⟩
              have BE8 : Hid (Below w.heap.size w x8) := below_trans BE7.out hb
              clear hb
              go_wp2_with fail
              go_ret
              exact ⟨rfl, BE8.out⟩
end Go.Proofs.YtkjcnnecdclgfabDoor
