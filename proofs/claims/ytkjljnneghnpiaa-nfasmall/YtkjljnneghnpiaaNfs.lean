import Derived.Test.YtkjljnneghnpiaaNfr
namespace Go.Proofs.Ytkjljnneghnpiaa
open Go.RowKit Go.Maps

/-- What stands in the row of fronts. -/
structure Sn (N : Mc) (c : Nat) (S : List Nat) (sn : Nat → Nat) : Prop where
  mem : ∀ t, t < N.on.length → (sn t = c ↔ t ∈ S)
  lt : ∀ t ∈ S, t < N.on.length
  le : ∀ t, t < N.on.length → sn t ≤ c
  cnt : dd (fun t => decide (sn t = c)) N.on.length + S.length = N.on.length
/-- The states of the front, as a set. -/
def In (N : Mc) (c : Nat) (sn : Nat → Nat) : Nat → Bool := fun t => decide (t < N.on.length) && decide (sn t = c)
theorem in_iff {N : Mc} {c : Nat} {sn : Nat → Nat} {t : Nat} : In N c sn t = true ↔ t < N.on.length ∧ sn t = c := by simp [In]
theorem Sn.enter {N : Mc} {c q : Nat} {S : List Nat} {sn : Nat → Nat} (h : Sn N c S sn) (hq : q < N.on.length) (hc : sn q ≠ c) : Sn N c (S ++ [q]) (fun t => if t = q then c else sn t) := by
  refine ⟨fun t ht => ?_, fun t ht => ?_, fun t ht => ?_, ?_⟩
  · rw [List.mem_append]
    by_cases e : t = q
    · subst e; simp
    · show (if t = q then c else sn t) = c ↔ _
      rw [if_neg e, h.mem t ht]; simp [e]
  · rcases List.mem_append.1 ht with h1 | h1
    · exact h.lt t h1
    · simp at h1; subst h1; exact hq
  · by_cases e : t = q
    · subst e; simp
    · show (if t = q then c else sn t) ≤ c
      rw [if_neg e]; exact h.le t ht
  · have e : (fun t => decide ((if t = q then c else sn t) = c)) = upd (fun t => decide (sn t = c)) q := by
      funext t
      unfold upd
      by_cases e : t = q
      · subst e; simp
      · simp [e]
    have := dd_upd (L := fun t => decide (sn t = c)) hq (by simpa using hc)
    have h2 := h.cnt
    rw [e]
    simp only [List.length_append, List.length_cons, List.length_nil]
    omega
theorem in_enter {N : Mc} {c q : Nat} {sn : Nat → Nat} (hq : q < N.on.length) : In N c (fun t => if t = q then c else sn t) = upd (In N c sn) q := by
  funext t
  unfold In upd
  by_cases e : t = q
  · subst e; simp [hq]
  · simp [e]
theorem Sn.len {N : Mc} {c : Nat} {S : List Nat} {sn : Nat → Nat} (h : Sn N c S sn) : S.length ≤ N.on.length := by have := h.cnt; omega
theorem Sn.begin {N : Mc} {L : Nat → Bool} {c : Nat} {S : List Nat} {sn : Nat → Nat} (h : Sn N c S sn) : Spr N L (In N c sn) (In N c sn) S (fun _ => false) 0 0 :=
  Spr.begin h.lt (fun t ht => by rw [in_iff, ← h.mem t ht]; simp [ht]) (fun t ht => (in_iff.1 ht).1)
theorem FroV.fur {B : Nat} {W : World} {bf b g gs : Nat} {N : Mc} {L : Nat → Bool} {S P : List Nat} {m m' : Nat → Bool} {c : Nat} {sn : Nat → Nat} {sv bv : Value} (h : FroV B W bf b g gs N L S P m c sn sv bv) :
    FroV B ((((W.setCell ⟨bf, 4, none⟩ (.int .u64 (wd m' 0 : Nat))).setCell ⟨bf, 5, none⟩ (.int .u64 (wd m' 1 : Nat))).setCell ⟨bf, 6, none⟩ (.int .u64 (wd m' 2 : Nat))).setCell ⟨bf, 7, none⟩ (.int .u64 (wd m' 3 : Nat))) bf b g gs N L S P m' c sn sv bv ∧
    Below B W ((((W.setCell ⟨bf, 4, none⟩ (.int .u64 (wd m' 0 : Nat))).setCell ⟨bf, 5, none⟩ (.int .u64 (wd m' 1 : Nat))).setCell ⟨bf, 6, none⟩ (.int .u64 (wd m' 2 : Nat))).setCell ⟨bf, 7, none⟩ (.int .u64 (wd m' 3 : Nat))) := by
  obtain ⟨W', hW'⟩ : ∃ W', W' = (((W.setCell ⟨bf, 4, none⟩ (.int .u64 (wd m' 0 : Nat))).setCell ⟨bf, 5, none⟩ (.int .u64 (wd m' 1 : Nat))).setCell ⟨bf, 6, none⟩ (.int .u64 (wd m' 2 : Nat))).setCell ⟨bf, 7, none⟩ (.int .u64 (wd m' 3 : Nat)) := ⟨_, rfl⟩
  have hg : W.grownBy W' (some bf) := by
    rw [hW']
    have e : ∀ A B' C : World, A.grownBy B' (some bf) → B'.grownBy C (some bf) → A.grownBy C (some bf) := fun A B' C h1 h2 => grown_up h1 h2 (fun r e => by cases e; exact .inl rfl)
    exact e _ _ _ (e _ _ _ (e _ _ _ grown_set grown_set) grown_set) grown_set
  have hb : Below B W W' := (Below.refl B W).grown hg h.lB (fun k e => by cases e; exact h.lo.1)
  have hblk : W'.heap[bf]? = some (.cells (frC b g gs N.on.length sv bv m' c) 71 (0, 0)) := by
    rw [hW', blk_set _ (blk_set _ (blk_set _ (blk_set _ h.blk)))]
    rfl
  have e3 : W'.heap[gs]? = W.heap[gs]? := hg.block gs h.slt (fun e => by cases e; exact h.ne.2.1 rfl)
  rw [← hW']
  exact ⟨⟨hblk, h.mac.mono hb (Nat.le_refl _), h.live.kept hg (fun e => by cases e; exact h.ne.1 rfl), fun i hi => by rw [World.cell?_of_block (a := ⟨gs, i, none⟩) e3]; exact h.seen i hi, fun i => by rw [World.frozen?_of_block (a := ⟨gs, i, none⟩) e3]; exact h.sfr i, Nat.lt_of_lt_of_le h.slt hg.size, h.srow.kept hg (.inr h.row_ne.1), h.brow.kept hg (.inr h.row_ne.2), h.apart, h.bapart, h.ne, h.lo, Nat.le_trans h.lB hg.size⟩, hb⟩
/-- What spread leaves. -/
def SprR (B : Nat) (bf b g gs : Nat) (N : Mc) (L : Nat → Bool) (P : List Nat) (c : Nat) (sn : Nat → Nat) (bv : Value) (w' : World) : Prop :=
  ∃ S' m' sn' sv', FroV B w' bf b g gs N L S' P m' c sn' sv' bv ∧ Sn N c S' sn' ∧ (∀ t, t < N.on.length → (In N c sn' t = true ↔ Cl N L (In N c sn) t)) ∧ ∀ k, k < 256 → (m' k = true ↔ ∃ p t, p < N.on.length ∧ In N c sn' p = true ∧ N.toOf p = some t ∧ L t = true ∧ N.cls p k = true)

set_option maxRecDepth 100000 in
set_option maxHeartbeats 4000000 in
theorem spread_any {B bf b g gs c : Nat} {N : Mc} {L : Nat → Bool} {S P : List Nat} {m : Nat → Bool} {sn : Nat → Nat} {sv bv : Value} (hs : Small N) (W : World) (h : FroV B W bf b g gs N L S P m c sn sv bv) (hS : Sn N c S sn) :
    Calls Try.prog 41 #[.pointer (some ⟨bf, 0, none⟩)] W fun e w' => (∃ v, e = .returned v) ∧ Below B W w' ∧ SprR B bf b g gs N L P c sn bv w' := by
  have c4 := h.cell 4 _ rfl
  have c5 := h.cell 5 _ rfl
  have c6 := h.cell 6 _ rfl
  have c7 := h.cell 7 _ rfl
  have ff := h.fr
  have HF : Hid _ := h
  have HS : Hid (Small N) := hs
  have HSN : Hid (Sn N c S sn) := hS
  have HW0 : Hid (FroV B ((((W.setCell ⟨bf, 4, none⟩ (.int .u64 0)).setCell ⟨bf, 5, none⟩ (.int .u64 0)).setCell ⟨bf, 6, none⟩ (.int .u64 0)).setCell ⟨bf, 7, none⟩ (.int .u64 0)) bf b g gs N L S P (fun _ => false) c sn sv bv ∧ Below B W ((((W.setCell ⟨bf, 4, none⟩ (.int .u64 0)).setCell ⟨bf, 5, none⟩ (.int .u64 0)).setCell ⟨bf, 6, none⟩ (.int .u64 0)).setCell ⟨bf, 7, none⟩ (.int .u64 0))) := by
    have h1 := h.fur (m' := fun _ => false)
    simp only [wd_none] at h1
    exact h1
  clear h hs hS
  go_enter Try.func41, Try.ntmps41
  go_wp2_with fail
  clear c4 c5 c6 c7 ff
  go_loopg [2] N.on.length (fun gm iv wr => ∃ (i : Nat) (S2 : List Nat) (m2 : Nat → Bool) (sn2 : Nat → Nat) (sv2 : Value), iv = .int .i64 (i : Int) ∧ Hid (FroV B wr bf b g gs N L S2 P m2 c sn2 sv2 bv) ∧ Hid (Sn N c S2 sn2) ∧ Hid (Spr N L (In N c sn) (In N c sn2) S2 m2 i 0) ∧ Hid (Below B W wr) ∧ Hid (i ≤ S2.length ∧ gm = N.on.length - i))
  case atStart =>
    exact ⟨0, S, fun _ => false, sn, sv, rfl, HW0.out.1, HSN, HSN.out.begin, HW0.out.2, ⟨Nat.zero_le _, rfl⟩⟩
  case round =>
    obtain ⟨i, S1, m1, sn1, sv1, rfl, HF1, HSN1, HSPR1, HBW1, HI1⟩ := hrel
    obtain ⟨m, rfl⟩ : ∃ m, m = m1 := ⟨_, rfl⟩
    have d2 := HF1.out.cell 2 sv1 rfl
    have d0 := HF1.out.cell 0 (.pointer (some ⟨b, 0, none⟩)) rfl
    have hle := HSN1.out.len
    rcases Nat.lt_or_ge i S1.length with hlt | hge
    · rcases own_shape HF1.out.srow with ⟨_, h0⟩ | ⟨gst, cap, rfl, hgst, hgw, hcap, hcm, hcell⟩
      · rw [h0] at hlt; cases hlt
      have hq := hcell i hlt
      obtain ⟨q, hqe⟩ : ∃ q, S1[i] = q := ⟨_, rfl⟩
      rw [hqe] at hq
      have HQE : Hid (S1[i]? = some q) := by rw [List.getElem?_eq_getElem hlt, hqe]; rfl
      have HQN : Hid (q < N.on.length) := hqe ▸ HSN1.out.lt _ (List.getElem_mem hlt)
      have HWI : Hid (wrap64 ((i : Int) + 1) = ((i + 1 : Nat) : Int)) := w64 i (by have := HS.out.on; omega)
      obtain ⟨gk0, hgk0⟩ : ∃ gk0, gk0 = gk := ⟨_, rfl⟩
      have HMS : Hid (N.on.length - (i + 1) < gk) := by have := HI1.out; show _ < _; omega
      clear hqe hcell hgst hgw hcap hcm hgk0
      go_wp2_with fail
      refine (free_any q wr HF1.out.mac).mono ?_
      rintro e w2 ⟨⟨v, rfl, hv⟩, rfl⟩
      have HV : Hid (Ints B w2 v (N.frees q)) := hv
      obtain ⟨fa, fg, fo, fcap, rfl, hfa, hfc⟩ := hv
      have HFA : Hid (N.frees q ≠ [] → fa = some ⟨fg, fo, none⟩ ∧ fg < B) := hfa
      clear hfa hfc
      go_wp2_with fail
      clear hq d2 d0
      go_loopg [35] (N.frees q).length (fun gm jv wr => ∃ (j : Nat) (S2 : List Nat) (sn2 : Nat → Nat) (sv2 : Value), jv = .int .i64 (j : Int) ∧ Hid (FroV B wr bf b g gs N L S2 P m c sn2 sv2 bv) ∧ Hid (Sn N c S2 sn2) ∧ Hid (Spr N L (In N c sn) (In N c sn2) S2 m i j) ∧ Hid (Below B W wr) ∧ Hid (Ints B wr (.slice fa (N.frees q).length fcap) (N.frees q)) ∧ Hid (S2[i]? = some q) ∧ Hid (j ≤ (N.frees q).length ∧ gm = (N.frees q).length - j))
      case atStart =>
        exact ⟨0, S1, sn1, _, rfl, HF1, HSN1, HSPR1, HBW1, HV, HQE, ⟨Nat.zero_le _, rfl⟩⟩
      case round =>
        obtain ⟨j, S2, sn2, sv2, rfl, HF2, HSN2, HSPR, HBW2, HV2, HQ0, HJ⟩ := hrel
        have HI2 : Hid (i < S2.length) := (List.getElem?_eq_some_iff.1 HQ0.out).1
        have HQ2 : Hid (S2[i]'HI2.out = q) := (List.getElem?_eq_some_iff.1 HQ0.out).2
        have d0 := HF2.out.cell 0 (.pointer (some ⟨b, 0, none⟩)) rfl
        rcases Nat.lt_or_ge j (N.frees q).length with hj | hj
        · obtain ⟨rfl, hfg⟩ := HFA.out (by rintro e; rw [e] at hj; cases hj)
          obtain ⟨a', g', o', cap', e', h1', h2'⟩ := HV2.out
          obtain ⟨e1, _⟩ := h1' (by rintro e; rw [e] at hj; cases hj)
          have e2 := h2' j hj
          cases e'
          cases e1
          obtain ⟨x, hx⟩ : ∃ x, (N.frees q).getD j 0 = x := ⟨_, rfl⟩
          rw [hx] at e2
          clear h1' h2'
          have HXE : Hid ((N.frees q).getD j 0 = x) := hx
          have HXM : Hid (x ∈ N.frees q) := by
            rw [← hx, List.getD_eq_getElem?_getD, List.getElem?_eq_getElem hj]
            exact List.getElem_mem hj
          have HWJ : Hid (wrap64 ((j : Int) + 1) = ((j + 1 : Nat) : Int)) := w64 j (by have := frees_le HS.out q; omega)
          clear hx
          cases hisx : N.isS x
          · have HX : Hid (N.isS x = false) := hisx
            clear hisx
            go_wp2_with fail
            refine (mhas_any x wr HF2.out.mac).mono ?_
            rintro e w3 ⟨rfl, rfl⟩
            rw [HX.out]
            go_wp2_with fail
            go_roundg ((N.frees q).length - (j + 1))
            case measure => have := HJ.out; omega
            case rel =>
              exact ⟨j + 1, S2, sn2, sv2, by rw [HWJ.out], HF2, HSN2, HSPR.out.next HI2.out (by rw [HQ2.out]; exact hj) (fun h1 _ => by rw [HQ2.out, HXE.out, HX.out] at h1; cases h1), HBW2, HV2, HQ0, ⟨hj, rfl⟩⟩
          · obtain ⟨t, hxt⟩ : ∃ t : Nat, x = (t : Int) := ⟨x.toNat, by simp [Mc.isS] at hisx; omega⟩
            subst hxt
            have htl : t < N.on.length := by simp [Mc.isS] at hisx; exact hisx
            have HX : Hid (N.isS (t : Int) = true) := hisx
            clear hisx
            go_wp2_with fail
            refine (mhas_any (t : Int) wr HF2.out.mac).mono ?_
            rintro e w3 ⟨rfl, rfl⟩
            rw [HX.out]
            go_wp2_with fail
            refine (enter_any htl (by have := HSN2.out.len; have := HS.out.on; omega) w3 HF2.out).mono ?_
            rintro e w4 ⟨⟨v4, rfl⟩, hb4, hen⟩
            have HB4 : Hid (Below B w3 w4) := hb4
            have HEN : Hid _ := hen
            clear hb4 hen d0 e2
            go_wp2_with fail
            go_roundg ((N.frees q).length - (j + 1))
            case measure => have := HJ.out; omega
            case rel =>
              have hV4 := HV2.out.mono HB4.out (Nat.le_refl _)
              rcases HEN.out with ⟨h1, h2, sv', h3⟩ | ⟨h1, h3⟩
              · have hsp := HSPR.out.enter HI2.out (x := (t : Int)) (t := t) (by rw [HQ2.out]; exact HXM.out) HX.out h1 (by simp)
                have hi3 : i < (S2 ++ [t]).length := by have := HI2.out; simp; omega
                have hq3 : (S2 ++ [t])[i]'hi3 = q := by rw [List.getElem_append_left HI2.out]; exact HQ2.out
                rw [← in_enter htl] at hsp
                refine ⟨j + 1, S2 ++ [t], _, sv', by rw [HWJ.out], h3, HSN2.out.enter htl h2, hsp.next hi3 (by rw [hq3]; exact hj) (fun _ _ => ?_), HBW2.out.trans HB4.out, hV4, ?_, ⟨hj, rfl⟩⟩
                · rw [hq3, HXE.out]; exact in_iff.2 ⟨htl, by simp⟩
                · show (S2 ++ [t])[i]? = some q
                  rw [List.getElem?_eq_getElem hi3, hq3]
              · refine ⟨j + 1, S2, sn2, sv2, by rw [HWJ.out], h3, HSN2, HSPR.out.next HI2.out (by rw [HQ2.out]; exact hj) (fun _ h5 => ?_), HBW2.out.trans HB4.out, hV4, HQ0, ⟨hj, rfl⟩⟩
                rw [HQ2.out, HXE.out] at h5 ⊢
                simp only [Int.toNat_natCast] at h5 ⊢
                rcases h1 with h1 | h1
                · rw [h1] at h5; cases h5
                · exact in_iff.2 ⟨htl, h1⟩
        · obtain rfl : j = (N.frees q).length := by have := HJ.out; omega
          have hon := onb_any HS.out q HQN.out wr HF2.out.mac HF2.out.lB
          go_wp2_with fail
          refine hon.mono ?_
          clear hon
          rintro e w3 ⟨rfl, hb3⟩
          have hb3a : Below wr.heap.size wr (w3.alloc (.cells #[.int .u64 (wd (N.onc q) 0 : Nat), .int .u64 (wd (N.onc q) 1 : Nat), .int .u64 (wd (N.onc q) 2 : Nat), .int .u64 (wd (N.onc q) 3 : Nat)] 40)) := below_trans hb3 (bel_up _ _)
          have h4 := HF2.out.below hb3a
          have HF4 : Hid (FroV B (w3.alloc (.cells #[.int .u64 (wd (N.onc q) 0 : Nat), .int .u64 (wd (N.onc q) 1 : Nat), .int .u64 (wd (N.onc q) 2 : Nat), .int .u64 (wd (N.onc q) 3 : Nat)] 40)) bf b g gs N L S2 P m c sn2 sv2 bv) := h4
          have HBW4 : Hid (Below B W (w3.alloc (.cells #[.int .u64 (wd (N.onc q) 0 : Nat), .int .u64 (wd (N.onc q) 1 : Nat), .int .u64 (wd (N.onc q) 2 : Nat), .int .u64 (wd (N.onc q) 3 : Nat)] 40))) := HBW2.out.trans (hb3a.mono HF2.out.lB)
          have HBX : Hid (BoxC (w3.alloc (.cells #[.int .u64 (wd (N.onc q) 0 : Nat), .int .u64 (wd (N.onc q) 1 : Nat), .int .u64 (wd (N.onc q) 2 : Nat), .int .u64 (wd (N.onc q) 3 : Nat)] 40)) w3.heap.size (N.onc q)) := BoxC.new w3 (N.onc q) 40
          have d1 := h4.cell 1 (.slice (some ⟨g, 0, none⟩) N.on.length N.on.length) rfl
          clear hb3a h4 hb3 d0
          cases hto : N.toOf q with
          | none =>
            have he : N.ont q = -1 := by unfold Mc.ont; rw [hto]
            rw [he]
            have HTO : Hid (N.toOf q = none) := hto
            clear he hto
            go_wp2_with fail
            go_roundg (N.on.length - (i + 1))
            case measure => exact HMS.out
            case rel =>
              exact ⟨i + 1, S2, m, sn2, sv2, by rw [HWI.out], HF4, HSN2, HSPR.out.over HI2.out (by rw [HQ2.out]; exact Nat.le_refl _) (fun k hk => by rw [HQ2.out]; exact (or_iff_left (by rintro ⟨t, h1, _⟩; rw [HTO.out] at h1; cases h1)).symm), HBW4, ⟨HI2.out, rfl⟩⟩
          | some t =>
            have he : N.ont q = (t : Int) := by unfold Mc.ont; rw [hto]
            have htl : t < N.on.length := toOf_lt hto
            rw [he]
            have HTO : Hid (N.toOf q = some t) := hto
            have hne1 : ((t : Int) != -1) = true := by rw [bne_iff_ne]; omega
            have hne2 : ((t : Int) == -1) = false := by rw [beq_eq_false_iff_ne]; omega
            have hlt' := HF4.out.live.row.c t htl
            clear he hto
            cases hLt : L t
            · rw [hLt] at hlt'
              have HLT : Hid (L t = false) := hLt
              clear hLt
              go_wp2_with fail
              go_roundg (N.on.length - (i + 1))
              case measure => exact HMS.out
              case rel =>
                exact ⟨i + 1, S2, m, sn2, sv2, by rw [HWI.out], HF4, HSN2, HSPR.out.over HI2.out (by rw [HQ2.out]; exact Nat.le_refl _) (fun k hk => by rw [HQ2.out]; exact (or_iff_left (by rintro ⟨t2, h1, h2, _⟩; rw [HTO.out] at h1; cases h1; rw [HLT.out] at h2; cases h2)).symm), HBW4, ⟨HI2.out, rfl⟩⟩
            · rw [hLt] at hlt'
              have HONC : Hid (∀ k, N.onc q k = true ↔ ∃ t', N.toOf q = some t' ∧ L t' = true ∧ N.cls q k = true) := fun k => by
                unfold Mc.onc
                rw [HTO.out]
                simp [hLt]
              clear hLt
              go_upto_region 13 with fail
              obtain ⟨WD, hWD⟩ : ∃ WD, (w3.alloc (.cells #[.int .u64 (wd (N.onc q) 0 : Nat), .int .u64 (wd (N.onc q) 1 : Nat), .int .u64 (wd (N.onc q) 2 : Nat), .int .u64 (wd (N.onc q) 3 : Nat)] 40)).drew = WD := ⟨_, rfl⟩
              have h4d : FroV B WD bf b g gs N L S2 P m c sn2 sv2 bv := hWD ▸ HF4.out.drew
              have hxd : BoxC WD w3.heap.size (N.onc q) := hWD ▸ HBX.out.drew
              have hbd : Below B W WD := hWD ▸ HBW4.out.drew
              clear HF4 HBW4 d1 hlt' hne1 hne2
              have HF4 : Hid (FroV B WD bf b g gs N L S2 P m c sn2 sv2 bv) := h4d
              have HBW4 : Hid (Below B W WD) := hbd
              have d4 := h4d.cell 4 (.int .u64 (wd m 0 : Nat)) rfl
              have d5 := h4d.cell 5 (.int .u64 (wd m 1 : Nat)) rfl
              have d6 := h4d.cell 6 (.int .u64 (wd m 2 : Nat)) rfl
              have d7 := h4d.cell 7 (.int .u64 (wd m 3 : Nat)) rfl
              have ff4 := h4d.fr
              obtain ⟨e0, e1, e2, e3, _⟩ := hxd
              clear h4d hbd
              refine wp_region_noPanic ?_
              refine wp_region_held_drew (S := fun _ => True) (by kernel_rfl) trivial (fun hHeld => ?_)
              rw [hWD]
              clear hWD HBX
              refine wpAnyH_take (i := 0) (oi := { dst := _, op := _, type := _, pos := _, after := _, guard := _ }) (v := ?_) rfl (by kernel_rfl) (by kernel_rfl) (by kernel_rfl) (fun _ _ _ h => h) (Or.inl ⟨by rfl, ?_⟩) (by assumption) ?_
              rotate_left
              · intro W hSw
                (try dsimp only at hSw)
                go_simp
                (try with_reducible rfl)
              try simp only [Act.put, List.setIfInBounds_toArray, List.set_cons_zero, List.set_cons_succ]
              refine wpAnyH_take (i := 1) (oi := { dst := _, op := _, type := _, pos := _, after := _, guard := _ }) (v := ?_) rfl (by kernel_rfl) (by kernel_rfl) (by kernel_rfl) (fun _ _ _ h => h) (Or.inl ⟨by rfl, ?_⟩) (by assumption) ?_
              rotate_left
              · intro W hSw
                (try dsimp only at hSw)
                go_simp
                (try with_reducible rfl)
              try simp only [Act.put, List.setIfInBounds_toArray, List.set_cons_zero, List.set_cons_succ]
              refine wpAnyH_take (i := 2) (oi := { dst := _, op := _, type := _, pos := _, after := _, guard := _ }) (v := ?_) rfl (by kernel_rfl) (by kernel_rfl) (by kernel_rfl) (fun _ _ _ h => h) (Or.inl ⟨by rfl, ?_⟩) (by assumption) ?_
              rotate_left
              · intro W hSw
                (try dsimp only at hSw)
                go_simp
                (try with_reducible rfl)
              try simp only [Act.put, List.setIfInBounds_toArray, List.set_cons_zero, List.set_cons_succ]
              refine wpAnyH_take (i := 3) (oi := { dst := _, op := _, type := _, pos := _, after := _, guard := _ }) (v := ?_) rfl (by kernel_rfl) (by kernel_rfl) (by kernel_rfl) (fun _ _ _ h => h) (Or.inl ⟨by rfl, ?_⟩) (by assumption) ?_
              rotate_left
              · intro W hSw
                (try dsimp only at hSw)
                go_simp
                (try with_reducible rfl)
              try simp only [Act.put, List.setIfInBounds_toArray, List.set_cons_zero, List.set_cons_succ]
              refine wpAnyH_ready (rs := [4, 5]) (by kernel_rfl) (by simp) ?_
              refine AllReadyH.cons (o := { dst := _, op := _, type := _, pos := _, after := _, guard := _ }) rfl (fun K hK => ?_) (AllReadyH.cons (o := { dst := _, op := _, type := _, pos := _, after := _, guard := _ }) rfl (fun K hK => ?_) (AllReadyH.nil))
              · go_simp
                refine hK.out _ _ ?_ (fun hHeld => ?_)
                · exact trivial
                clear hK K
                try simp only [Act.put, List.setIfInBounds_toArray, List.set_cons_zero, List.set_cons_succ]
                refine wpAnyH_ready (rs := [5]) (by kernel_rfl) (by simp) ?_
                refine AllReadyH.cons (o := { dst := _, op := _, type := _, pos := _, after := _, guard := _ }) rfl (fun K hK => ?_) AllReadyH.nil
                go_simp
                refine hK.out _ _ ?_ (fun hHeld => ?_)
                · exact trivial
                clear hK K
                try simp only [Act.put, List.setIfInBounds_toArray, List.set_cons_zero, List.set_cons_succ]
                refine wpAnyH_ready (rs := [6]) (by kernel_rfl) (by simp) ?_
                refine AllReadyH.cons (o := { dst := _, op := _, type := _, pos := _, after := _, guard := _ }) rfl (fun K hK => ?_) AllReadyH.nil
                go_simp
                refine (join_any m (N.onc q) _).mono ?_
                rintro e w5 ⟨rfl, hb5⟩
                have h5 := HF4.out.below hb5
                have HF5 : Hid (FroV B w5 bf b g gs N L S2 P m c sn2 sv2 bv) := h5
                have HB5 : Hid (Below B W w5) := HBW4.out.trans (hb5.mono HF4.out.lB)
                clear d4 d5 d6 d7 ff4 e0 e1 e2 e3 hb5
                have d4 := h5.cell 4 (.int .u64 (wd m 0 : Nat)) rfl
                have d5 := h5.cell 5 (.int .u64 (wd m 1 : Nat)) rfl
                have d6 := h5.cell 6 (.int .u64 (wd m 2 : Nat)) rfl
                have d7 := h5.cell 7 (.int .u64 (wd m 3 : Nat)) rfl
                have ff5 := h5.fr
                clear h5
                refine hK.out _ _ ?_ (fun hHeld => ?_)
                · exact trivial
                clear hK K
                try simp only [Act.put, List.setIfInBounds_toArray, List.set_cons_zero, List.set_cons_succ]
                refine wpAnyH_take (i := 7) (oi := { dst := _, op := _, type := _, pos := _, after := _, guard := _ }) (v := ?_) rfl (by kernel_rfl) (by kernel_rfl) (by kernel_rfl) (fun _ _ _ h => h) (Or.inl ⟨by rfl, ?_⟩) (by assumption) ?_
                rotate_left
                · intro W hSw
                  (try dsimp only at hSw)
                  go_simp
                  (try with_reducible rfl)
                try simp only [Act.put, List.setIfInBounds_toArray, List.set_cons_zero, List.set_cons_succ]
                refine wpAnyH_take (i := 8) (oi := { dst := _, op := _, type := _, pos := _, after := _, guard := _ }) (v := ?_) rfl (by kernel_rfl) (by kernel_rfl) (by kernel_rfl) (fun _ _ _ h => h) (Or.inl ⟨by rfl, ?_⟩) (by assumption) ?_
                rotate_left
                · intro W hSw
                  (try dsimp only at hSw)
                  go_simp
                  (try with_reducible rfl)
                try simp only [Act.put, List.setIfInBounds_toArray, List.set_cons_zero, List.set_cons_succ]
                refine wpAnyH_ready (rs := [9]) (by kernel_rfl) (by simp) ?_
                refine AllReadyH.cons (o := { dst := _, op := _, type := _, pos := _, after := _, guard := _ }) rfl (fun K hK => ?_) AllReadyH.nil
                go_simp
                refine hK.out _ _ ?_ (fun hHeld => ?_)
                · exact trivial
                clear hK K
                try simp only [Act.put, List.setIfInBounds_toArray, List.set_cons_zero, List.set_cons_succ]
                refine wpAnyH_done (by kernel_rfl) ?_ _
                clear hHeld
                refine NoPanic.normal ?_
                obtain ⟨h6, hb6⟩ := HF5.out.fur (m' := fun k => m k || N.onc q k)
                have HF6 : Hid _ := h6
                have HB6 : Hid _ := HB5.out.trans hb6
                clear h6 hb6 d4 d5 d6 d7 ff5
                go_wp2_with fail
                go_roundg (N.on.length - (i + 1))
                case measure => exact HMS.out
                case rel =>
                  exact ⟨i + 1, S2, _, sn2, sv2, by rw [HWI.out], HF6, HSN2, HSPR.out.over HI2.out (by rw [HQ2.out]; exact Nat.le_refl _) (fun k hk => by rw [HQ2.out, Bool.or_eq_true, HONC.out]), HB6, ⟨HI2.out, rfl⟩⟩
              · go_simp
                refine hK.out _ _ ?_ (fun hHeld => ?_)
                · exact trivial
                clear hK K
                try simp only [Act.put, List.setIfInBounds_toArray, List.set_cons_zero, List.set_cons_succ]
                refine wpAnyH_ready (rs := [4]) (by kernel_rfl) (by simp) ?_
                refine AllReadyH.cons (o := { dst := _, op := _, type := _, pos := _, after := _, guard := _ }) rfl (fun K hK => ?_) AllReadyH.nil
                go_simp
                refine hK.out _ _ ?_ (fun hHeld => ?_)
                · exact trivial
                clear hK K
                try simp only [Act.put, List.setIfInBounds_toArray, List.set_cons_zero, List.set_cons_succ]
                refine wpAnyH_ready (rs := [6]) (by kernel_rfl) (by simp) ?_
                refine AllReadyH.cons (o := { dst := _, op := _, type := _, pos := _, after := _, guard := _ }) rfl (fun K hK => ?_) AllReadyH.nil
                go_simp
                refine (join_any m (N.onc q) _).mono ?_
                rintro e w5 ⟨rfl, hb5⟩
                have h5 := HF4.out.below hb5
                have HF5 : Hid (FroV B w5 bf b g gs N L S2 P m c sn2 sv2 bv) := h5
                have HB5 : Hid (Below B W w5) := HBW4.out.trans (hb5.mono HF4.out.lB)
                clear d4 d5 d6 d7 ff4 e0 e1 e2 e3 hb5
                have d4 := h5.cell 4 (.int .u64 (wd m 0 : Nat)) rfl
                have d5 := h5.cell 5 (.int .u64 (wd m 1 : Nat)) rfl
                have d6 := h5.cell 6 (.int .u64 (wd m 2 : Nat)) rfl
                have d7 := h5.cell 7 (.int .u64 (wd m 3 : Nat)) rfl
                have ff5 := h5.fr
                clear h5
                refine hK.out _ _ ?_ (fun hHeld => ?_)
                · exact trivial
                clear hK K
                try simp only [Act.put, List.setIfInBounds_toArray, List.set_cons_zero, List.set_cons_succ]
                refine wpAnyH_take (i := 7) (oi := { dst := _, op := _, type := _, pos := _, after := _, guard := _ }) (v := ?_) rfl (by kernel_rfl) (by kernel_rfl) (by kernel_rfl) (fun _ _ _ h => h) (Or.inl ⟨by rfl, ?_⟩) (by assumption) ?_
                rotate_left
                · intro W hSw
                  (try dsimp only at hSw)
                  go_simp
                  (try with_reducible rfl)
                try simp only [Act.put, List.setIfInBounds_toArray, List.set_cons_zero, List.set_cons_succ]
                refine wpAnyH_take (i := 8) (oi := { dst := _, op := _, type := _, pos := _, after := _, guard := _ }) (v := ?_) rfl (by kernel_rfl) (by kernel_rfl) (by kernel_rfl) (fun _ _ _ h => h) (Or.inl ⟨by rfl, ?_⟩) (by assumption) ?_
                rotate_left
                · intro W hSw
                  (try dsimp only at hSw)
                  go_simp
                  (try with_reducible rfl)
                try simp only [Act.put, List.setIfInBounds_toArray, List.set_cons_zero, List.set_cons_succ]
                refine wpAnyH_ready (rs := [9]) (by kernel_rfl) (by simp) ?_
                refine AllReadyH.cons (o := { dst := _, op := _, type := _, pos := _, after := _, guard := _ }) rfl (fun K hK => ?_) AllReadyH.nil
                go_simp
                refine hK.out _ _ ?_ (fun hHeld => ?_)
                · exact trivial
                clear hK K
                try simp only [Act.put, List.setIfInBounds_toArray, List.set_cons_zero, List.set_cons_succ]
                refine wpAnyH_done (by kernel_rfl) ?_ _
                clear hHeld
                refine NoPanic.normal ?_
                obtain ⟨h6, hb6⟩ := HF5.out.fur (m' := fun k => m k || N.onc q k)
                have HF6 : Hid _ := h6
                have HB6 : Hid _ := HB5.out.trans hb6
                clear h6 hb6 d4 d5 d6 d7 ff5
                go_wp2_with fail
                go_roundg (N.on.length - (i + 1))
                case measure => exact HMS.out
                case rel =>
                  exact ⟨i + 1, S2, _, sn2, sv2, by rw [HWI.out], HF6, HSN2, HSPR.out.over HI2.out (by rw [HQ2.out]; exact Nat.le_refl _) (fun k hk => by rw [HQ2.out, Bool.or_eq_true, HONC.out]), HB6, ⟨HI2.out, rfl⟩⟩
    · obtain rfl : i = S1.length := by have := HI1.out; omega
      have hv : ∃ aa cc, sv1 = .slice aa S1.length cc := by
        rcases own_shape HF1.out.srow with ⟨h, h2⟩ | ⟨g', cap, h, _⟩
        · exact ⟨_, _, by rw [h, h2]; rfl⟩
        · exact ⟨_, _, h⟩
      obtain ⟨aa, cc, rfl⟩ := hv
      go_wp2_with fail
      go_end0
      obtain ⟨h1, h2⟩ := HSPR1.out.done (Nat.le_refl _)
      exact ⟨⟨_, rfl⟩, HBW1.out, S1, m, sn1, _, HF1.out, HSN1.out, h1, h2⟩
end Go.Proofs.Ytkjljnneghnpiaa
