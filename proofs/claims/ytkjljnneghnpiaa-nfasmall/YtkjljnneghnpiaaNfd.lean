import Derived.Test.YtkjljnneghnpiaaNfs
namespace Go.Proofs.Ytkjljnneghnpiaa
open Go.RowKit Go.Maps

section
variable {B : Nat} {W W' : World} {bf b g gs : Nat} {N : Mc} {L : Nat → Bool} {S P : List Nat} {m : Nat → Bool} {c : Nat} {sn : Nat → Nat} {sv bv : Value}
/-- A store into the front's own block. -/
theorem FroV.own (h : FroV B W bf b g gs N L S P m c sn sv bv) {S' P' : List Nat} {m' : Nat → Bool} {c' : Nat} {sv' bv' : Value} (hg : W.grownBy W' (some bf)) (hblk : W'.heap[bf]? = some (.cells (frC b g gs N.on.length sv' bv' m' c') 71 (0, 0)))
    (hs : W.ownsRow B 3 1 sv' S'.length (S'.map fun t : Nat => Value.int .i64 (t : Int))) (hp : W.ownsRow B 3 1 bv' P'.length (P'.map fun t : Nat => Value.int .i64 (t : Int)))
    (ha : ∀ r, sv'.ownBlock = some r → r ≠ g ∧ r ≠ gs ∧ bv'.ownBlock ≠ some r) (hb' : ∀ r, bv'.ownBlock = some r → r ≠ g ∧ r ≠ gs) (hn : sv'.ownBlock ≠ some bf ∧ bv'.ownBlock ≠ some bf) : FroV B W' bf b g gs N L S' P' m' c' sn sv' bv' ∧ Below B W W' := by
  have hb : Below B W W' := (Below.refl B W).grown hg h.lB (fun k e => by cases e; exact h.lo.1)
  have e3 : W'.heap[gs]? = W.heap[gs]? := hg.block gs h.slt (fun e => by cases e; exact h.ne.2.1 rfl)
  exact ⟨⟨hblk, h.mac.mono hb (Nat.le_refl _), h.live.kept hg (fun e => by cases e; exact h.ne.1 rfl), fun i hi => by rw [World.cell?_of_block (a := ⟨gs, i, none⟩) e3]; exact h.seen i hi, fun i => by rw [World.frozen?_of_block (a := ⟨gs, i, none⟩) e3]; exact h.sfr i, Nat.lt_of_lt_of_le h.slt hg.size, hs.kept hg (.inr hn.1), hp.kept hg (.inr hn.2), ha, hb', h.ne, h.lo, Nat.le_trans h.lB hg.size⟩, hb⟩
theorem FroV.swap (h : FroV B W bf b g gs N L S P m c sn sv bv) {v0 : Value} (hv : W.ownsRow B 3 1 v0 0 []) (he : v0.ownBlock = bv.ownBlock) :
    FroV B ((W.setCell ⟨bf, 2, none⟩ v0).setCell ⟨bf, 3, none⟩ sv) bf b g gs N L [] S m c sn v0 sv ∧ Below B W ((W.setCell ⟨bf, 2, none⟩ v0).setCell ⟨bf, 3, none⟩ sv) := by
  refine h.own (grown_up grown_set grown_set (fun r e => by cases e; exact .inl rfl)) ?_ hv h.srow (fun r e => ?_) (fun r e => ⟨(h.apart r e).1, (h.apart r e).2.1⟩) ⟨he ▸ h.row_ne.2, h.row_ne.1⟩
  · rw [blk_set _ (blk_set _ h.blk)]; rfl
  · rw [he] at e
    exact ⟨(h.bapart r e).1, (h.bapart r e).2, fun e' => (h.apart r e').2.2 e⟩
theorem FroV.inc (h : FroV B W bf b g gs N L S P m c sn sv bv) {c' : Nat} : FroV B (W.setCell ⟨bf, 8, none⟩ (.int .i64 (c' : Int))) bf b g gs N L S P m c' sn sv bv ∧ Below B W (W.setCell ⟨bf, 8, none⟩ (.int .i64 (c' : Int))) := by
  refine h.own grown_set ?_ h.srow h.brow h.apart h.bapart h.row_ne
  rw [blk_set _ h.blk]; rfl
theorem Sn.fresh {c' : Nat} (h : ∀ t, t < N.on.length → sn t < c') : Sn N c' [] sn := by
  refine ⟨fun t ht => ?_, fun t ht => (by cases ht), fun t ht => Nat.le_of_lt (h t ht), ?_⟩
  · have := h t ht
    simp; omega
  · have : ∀ n, n ≤ N.on.length → dd (fun t => decide (sn t = c')) n = n := by
      intro n
      induction n with
      | zero => intro _; rfl
      | succ n ih =>
        intro hn
        have h1 := h n (by omega)
        have h2 : decide (sn n = c') = false := by rw [decide_eq_false_iff_not]; omega
        simp only [dd, ih (by omega), h2]
        rfl
    rw [this _ (Nat.le_refl _)]; rfl
theorem nil_row {cap : Nat} {aa : Option Addr} (h : W.ownsRow B 3 1 (.slice aa P.length cap) P.length (P.map fun t : Nat => Value.int .i64 (t : Int))) : W.ownsRow B 3 1 (.slice aa 0 cap) 0 [] := by
  obtain ⟨_, h2⟩ := h
  refine ⟨rfl, ?_⟩
  rcases h2 with ⟨e, _⟩ | ⟨g', cap', cur, e, h3, h4, h5, h6, h7, _⟩
  · simp only [Value.slice.injEq] at e; obtain ⟨rfl, _, rfl⟩ := e; exact .inl ⟨rfl, rfl⟩
  · simp only [Value.slice.injEq] at e; obtain ⟨rfl, _, rfl⟩ := e; exact .inr ⟨g', cap, cur, rfl, h3, h4, Nat.zero_le _, h6, h7, by simp⟩
end
/-- A front behind s in memory. -/
def FSt (B : Nat) (W : World) (bf b g gs : Nat) (N : Mc) (L : Nat → Bool) (c : Nat) (s : List Nat) : Prop :=
  ∃ S P m sn sv bv, FroV B W bf b g gs N L S P m c sn sv bv ∧ Sn N c S sn ∧ Fnt N s (In N c sn) ∧ ∀ k, k < 256 → (m k = true ↔ ∃ p t, p < N.on.length ∧ In N c sn p = true ∧ N.toOf p = some t ∧ L t = true ∧ N.cls p k = true)
/-- What is known while the states behind a byte are put in. -/
def RdI (N : Mc) (L : Nat → Bool) (P : List Nat) (x k : Nat) (I : Nat → Bool) : Prop := ∀ t, t < N.on.length → (I t = true ↔ ∃ j, ∃ (hj : j < P.length), j < k ∧ N.toOf P[j] = some t ∧ N.cls P[j] x = true ∧ L t = true)

theorem RdI.no {N : Mc} {L : Nat → Bool} {P : List Nat} {x k : Nat} {I : Nat → Bool} (h : RdI N L P x k I) (hk : k < P.length) (hn : ∀ t, N.toOf P[k] = some t → N.cls P[k] x = true → L t = true → I t = true) : RdI N L P x (k + 1) I := by
  intro t ht
  constructor
  · intro h1
    obtain ⟨j, hj, hjk, h2⟩ := (h t ht).1 h1
    exact ⟨j, hj, by omega, h2⟩
  · rintro ⟨j, hj, hjk, h2, h3, h4⟩
    by_cases e : j = k
    · subst e; exact hn t h2 h3 h4
    · exact (h t ht).2 ⟨j, hj, by omega, h2, h3, h4⟩
theorem RdI.yes {N : Mc} {L : Nat → Bool} {P : List Nat} {x k q : Nat} {I : Nat → Bool} (h : RdI N L P x k I) (hk : k < P.length) (h1 : N.toOf P[k] = some q) (h2 : N.cls P[k] x = true) (h3 : L q = true) : RdI N L P x (k + 1) (upd I q) := by
  intro t ht
  constructor
  · intro h4
    rcases upd_inv h4 with rfl | h4
    · exact ⟨k, hk, by omega, h1, h2, h3⟩
    · obtain ⟨j, hj, hjk, h5⟩ := (h t ht).1 h4
      exact ⟨j, hj, by omega, h5⟩
  · rintro ⟨j, hj, hjk, h4, h5, h6⟩
    by_cases e : j = k
    · subst e
      rw [h1] at h4; cases h4
      exact upd_self
    · exact upd_mono ((h t ht).2 ⟨j, hj, by omega, h4, h5, h6⟩)
theorem onc_iff {N : Mc} {q x : Nat} : N.onc q x = true ↔ ∃ t, N.toOf q = some t ∧ N.ont q = (t : Int) ∧ N.cls q x = true := by
  unfold Mc.onc Mc.ont
  cases h : N.toOf q with
  | none => simp
  | some t => simp

set_option maxRecDepth 100000 in
set_option maxHeartbeats 4000000 in
theorem read_any {B bf b g gs c x : Nat} {N : Mc} {L : Nat → Bool} {s : List Nat} (hs : Small N) (hL : LvOk N L) (hc : c ≤ 1000000000000000) (hx : x < 256) (W : World) (h : FSt B W bf b g gs N L c s) :
    Calls Try.prog 27 #[.pointer (some ⟨bf, 0, none⟩), .int .u8 (x : Int)] W fun e w' => (∃ v, e = .returned v) ∧ Below B W w' ∧ FSt B w' bf b g gs N L (c + 1) (s ++ [x]) := by
  obtain ⟨S, P, m, sn, sv, bv, hf, hS, hI, hm⟩ := h
  have HS : Hid (Small N) := hs
  have HL : Hid (LvOk N L) := hL
  have HX : Hid (x < 256) := hx
  have HC : Hid (c ≤ 1000000000000000) := hc
  have HF : Hid _ := hf
  have HSN : Hid _ := hS
  have HI : Hid _ := hI
  have hbs : ∀ (v : Value) (l : List Nat), W.ownsRow B 3 1 v l.length (l.map fun t : Nat => Value.int .i64 (t : Int)) → ∃ aa cap, v = .slice aa l.length cap ∧ l.length ≤ cap := fun v l hr => by
    rcases own_shape hr with ⟨e, e2⟩ | ⟨g', cap, e, _, _, e3, _⟩
    · exact ⟨none, 0, by rw [e, e2]; rfl, by rw [e2]; exact Nat.le_refl _⟩
    · exact ⟨_, cap, e, e3⟩
  obtain ⟨aa, cap, rfl, hcap⟩ := hbs _ _ hf.brow
  obtain ⟨a2, cap2, rfl, hcap2⟩ := hbs _ _ hf.srow
  have c2 := hf.cell 2 (.slice a2 S.length cap2) rfl
  have c3 := hf.cell 3 (.slice aa P.length cap) rfl
  have ff := hf.fr
  have hsw := (hf.swap (nil_row hf.brow) (by cases aa <;> rfl))
  have HB1 : Hid _ := hsw.2
  have h2 := hsw.1.drew
  have HF2 : Hid _ := h2
  have c8 := h2.cell 8 (.int .i64 (c : Int)) rfl
  have f8 := h2.fr 8
  obtain ⟨W2, hW2⟩ : ∃ W2, W2 = ((W.setCell ⟨bf, 2, none⟩ (.slice aa 0 cap)).setCell ⟨bf, 3, none⟩ (.slice a2 S.length cap2)).drew := ⟨_, rfl⟩
  rw [← hW2] at HF2 c8 f8
  have HW2 : Hid (W2 = ((W.setCell ⟨bf, 2, none⟩ (.slice aa 0 cap)).setCell ⟨bf, 3, none⟩ (.slice a2 S.length cap2)).drew) := hW2
  have HBW : Hid (Below B W W2) := by rw [hW2]; exact hsw.2.drew
  have hw := w64 c (by omega)
  clear hs hL hx hc hf hS hI hm hsw h2 hW2
  go_enter Try.func27, Try.ntmps27
  go_wp2_with fail
  go_region
  clear c2 c3 ff
  rw [← HW2.out]
  go_upto_region 2 with fail
  obtain ⟨h3, hb3⟩ := HF2.out.inc (c' := c + 1)
  rw [show ((c : Int) + 1) = ((c + 1 : Nat) : Int) by omega]
  obtain ⟨W3, hW3⟩ : ∃ W3, W3 = W2.setCell ⟨bf, 8, none⟩ (.int .i64 ((c + 1 : Nat) : Int)) := ⟨_, rfl⟩
  rw [← hW3] at h3 hb3 ⊢
  have HF3 : Hid (FroV B W3 bf b g gs N L [] S m (c + 1) sn (.slice aa 0 cap) (.slice a2 S.length cap2)) := h3
  have HB3 : Hid (Below B W W3) := HBW.out.trans hb3
  have c3 := h3.cell 3 (.slice a2 S.length cap2) rfl
  clear h3 hb3 hW3 c8 f8 HF2 HW2 hw
  go_wp2_with fail
  clear c3
  have HSN0 : Hid (Sn N (c + 1) [] sn) := Sn.fresh (fun t ht => by have := HSN.out.le t ht; omega)
  go_loopg [35] S.length (fun gm kv wr => ∃ (k : Nat) (S2 : List Nat) (sn2 : Nat → Nat) (sv2 : Value), kv = .int .i64 (k : Int) ∧ Hid (FroV B wr bf b g gs N L S2 S m (c + 1) sn2 sv2 (.slice a2 S.length cap2)) ∧ Hid (Sn N (c + 1) S2 sn2) ∧ Hid (RdI N L S x k (In N (c + 1) sn2)) ∧ Hid (Below B W wr) ∧ Hid (k ≤ S.length ∧ gm = S.length - k))
  case atStart =>
    refine ⟨0, [], sn, _, rfl, HF3, HSN0, fun t ht => ?_, HB3, ⟨Nat.zero_le _, rfl⟩⟩
    constructor
    · intro h1
      have := HSN.out.le t ht
      have := (in_iff.1 h1).2
      omega
    · rintro ⟨j, _, h, _⟩; omega
  case round =>
    obtain ⟨k, S2, sn2, sv2, rfl, HF4, HSN4, HRD, HB4, HK⟩ := hrel
    have d0 := HF4.out.cell 0 (.pointer (some ⟨b, 0, none⟩)) rfl
    rcases Nat.lt_or_ge k S.length with hk | hk
    · rcases own_shape HF4.out.brow with ⟨_, e2⟩ | ⟨gr, cap3, e1, _, _, _, _, e2⟩
      · rw [e2] at hk; cases hk
      simp only [Value.slice.injEq] at e1
      obtain ⟨rfl, _, rfl⟩ := e1
      have hq := e2 k hk
      obtain ⟨q, hqe⟩ : ∃ q, S[k] = q := ⟨_, rfl⟩
      rw [hqe] at hq
      have HQE : Hid (S[k]'hk = q) := hqe
      have HQN : Hid (q < N.on.length) := hqe ▸ HSN.out.lt _ (List.getElem_mem hk)
      have HWK : Hid (wrap64 ((k : Int) + 1) = ((k + 1 : Nat) : Int)) := w64 k (by have := HSN.out.len; have := HS.out.on; omega)
      have hon := onb_any HS.out q HQN.out wr HF4.out.mac HF4.out.lB
      clear hqe e2
      go_wp2_with fail
      refine hon.mono ?_
      clear hon
      rintro e w5 ⟨rfl, hb5⟩
      have hb5a : Below wr.heap.size wr (w5.alloc (.cells #[.int .u64 (wd (N.onc q) 0 : Nat), .int .u64 (wd (N.onc q) 1 : Nat), .int .u64 (wd (N.onc q) 2 : Nat), .int .u64 (wd (N.onc q) 3 : Nat)] 40)) := below_trans hb5 (bel_up _ _)
      have h5 := HF4.out.below hb5a
      have HF5 : Hid (FroV B (w5.alloc (.cells #[.int .u64 (wd (N.onc q) 0 : Nat), .int .u64 (wd (N.onc q) 1 : Nat), .int .u64 (wd (N.onc q) 2 : Nat), .int .u64 (wd (N.onc q) 3 : Nat)] 40)) bf b g gs N L S2 S m (c + 1) sn2 sv2 (.slice (some ⟨gr, 0, none⟩) S.length cap2)) := h5
      have HB5 : Hid (Below B W (w5.alloc (.cells #[.int .u64 (wd (N.onc q) 0 : Nat), .int .u64 (wd (N.onc q) 1 : Nat), .int .u64 (wd (N.onc q) 2 : Nat), .int .u64 (wd (N.onc q) 3 : Nat)] 40))) := HB4.out.trans (hb5a.mono HF4.out.lB)
      clear hb5 hb5a h5 d0 hq
      cases hon : N.onc q x
      · have HON : Hid (N.onc q x = false) := hon
        clear hon
        go_wp2_with fail
        refine (has_any (N.onc q) x HX.out _).mono ?_
        rintro e w6 ⟨rfl, hb6⟩
        have h6 := HF5.out.below hb6
        have HF6 : Hid (FroV B w6 bf b g gs N L S2 S m (c + 1) sn2 sv2 (.slice (some ⟨gr, 0, none⟩) S.length cap2)) := h6
        have HB6 : Hid (Below B W w6) := HB5.out.trans (hb6.mono HF5.out.lB)
        clear h6 hb6
        rw [HON.out]
        go_wp2_with fail
        go_roundg (S.length - (k + 1))
        case measure => have := HK.out; omega
        case rel =>
          refine ⟨k + 1, S2, sn2, sv2, by rw [HWK.out], HF6, HSN4, HRD.out.no hk (fun t h1 h2 _ => ?_), HB6, ⟨hk, rfl⟩⟩
          rw [HQE.out] at h1 h2
          have : N.onc q x = true := onc_iff.2 ⟨t, h1, by unfold Mc.ont; rw [h1], h2⟩
          rw [HON.out] at this; cases this
      · obtain ⟨t, ht1, ht2, ht3⟩ := onc_iff.1 hon
        have HON : Hid (N.onc q x = true) := hon
        have HT1 : Hid (N.toOf q = some t) := ht1
        have HT3 : Hid (N.cls q x = true) := ht3
        have htl : t < N.on.length := toOf_lt ht1
        rw [ht2]
        clear hon ht1 ht2 ht3
        go_wp2_with fail
        refine (has_any (N.onc q) x HX.out _).mono ?_
        rintro e w6 ⟨rfl, hb6⟩
        have h6 := HF5.out.below hb6
        have HF6 : Hid (FroV B w6 bf b g gs N L S2 S m (c + 1) sn2 sv2 (.slice (some ⟨gr, 0, none⟩) S.length cap2)) := h6
        have HB6 : Hid (Below B W w6) := HB5.out.trans (hb6.mono HF5.out.lB)
        clear h6 hb6
        rw [HON.out]
        go_wp2_with fail
        refine (enter_any htl (by have := HSN4.out.len; have := HS.out.on; omega) w6 HF6.out).mono ?_
        rintro e w7 ⟨⟨v7, rfl⟩, hb7, hen⟩
        have HB7 : Hid (Below B W w7) := HB6.out.trans hb7
        have HEN : Hid _ := hen
        clear hb7 hen
        go_wp2_with fail
        go_roundg (S.length - (k + 1))
        case measure => have := HK.out; omega
        case rel =>
          rcases HEN.out with ⟨h1, h2, sv', h3⟩ | ⟨h1, h3⟩
          · refine ⟨k + 1, S2 ++ [t], _, sv', by rw [HWK.out], h3, HSN4.out.enter htl h2, ?_, HB7, ⟨hk, rfl⟩⟩
            show RdI N L S x (k + 1) (In N (c + 1) _)
            rw [in_enter htl]
            exact HRD.out.yes hk (by rw [HQE.out]; exact HT1.out) (by rw [HQE.out]; exact HT3.out) h1
          · refine ⟨k + 1, S2, sn2, sv2, by rw [HWK.out], h3, HSN4, HRD.out.no hk (fun t' h4 _ h5 => ?_), HB7, ⟨hk, rfl⟩⟩
            rw [HQE.out, HT1.out] at h4
            cases h4
            rcases h1 with h1 | h1
            · rw [h1] at h5; cases h5
            · exact in_iff.2 ⟨htl, h1⟩
    · obtain rfl : k = S.length := by have := HK.out; omega
      go_wp2_with fail
      refine (spread_any HS.out wr HF4.out HSN4.out).mono ?_
      rintro e w8 ⟨⟨v8, rfl⟩, hb8, S3, m3, sn3, sv3, h1, h2, h3, h4⟩
      have HB8 : Hid (Below B W w8) := HB4.out.trans hb8
      have HR : Hid (FSt B w8 bf b g gs N L (c + 1) (s ++ [x])) := by
        refine ⟨S3, S, m3, sn3, sv3, _, h1, h2, ?_, h4⟩
        refine fnt_read HL.out HI.out (I1 := In N (c + 1) sn2) (fun t ht => ?_) (fun t ht => (in_iff.1 ht).1) h3
        rw [HRD.out t ht]
        constructor
        · rintro ⟨j, hj, _, e1, e2, e3⟩
          have hjn := HSN.out.lt _ (List.getElem_mem hj)
          exact ⟨S[j], hjn, in_iff.2 ⟨hjn, (HSN.out.mem _ hjn).2 (List.getElem_mem hj)⟩, e1, e2, e3⟩
        · rintro ⟨p, hp, e0, e1, e2, e3⟩
          obtain ⟨j, hj, rfl⟩ := List.getElem_of_mem ((HSN.out.mem p hp).1 (in_iff.1 e0).2)
          exact ⟨j, hj, hj, e1, e2, e3⟩
      clear hb8 h1 h2 h3 h4
      go_wp2_with fail
      go_end0
      exact ⟨⟨_, rfl⟩, HB8.out, HR.out⟩
end Go.Proofs.Ytkjljnneghnpiaa
