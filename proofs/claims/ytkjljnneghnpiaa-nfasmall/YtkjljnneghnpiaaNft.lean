import Derived.Test.YtkjljnneghnpiaaNfn
namespace Go.Proofs.Ytkjljnneghnpiaa
open Go.RowKit Go.Maps

set_option maxRecDepth 100000 in
set_option maxHeartbeats 2000000 in
theorem whole_any {B bf b g gs c : Nat} {N : Mc} {L : Nat → Bool} {s : List Nat} (hfin : N.isS N.fin = true) (W : World) (h : FSt B W bf b g gs N L c s) :
    Calls Try.prog 25 #[.pointer (some ⟨bf, 0, none⟩)] W fun e w' => (∃ d, e = .returned (.bool d) ∧ (d = true ↔ N.Tk s)) ∧ Below W.heap.size W w' := by
  obtain ⟨S, P, m, sn, sv, bv, hf, hS, hI, hm⟩ := h
  obtain ⟨q, hq⟩ : ∃ q : Nat, N.fin = (q : Int) := ⟨N.fin.toNat, by simp [Mc.isS] at hfin; omega⟩
  have hqn : q < N.on.length := by rw [hq] at hfin; simp [Mc.isS] at hfin; exact hfin
  have c0 := hf.cell 0 (.pointer (some ⟨b, 0, none⟩)) rfl
  have c8 := hf.cell 8 (.int .i64 (c : Int)) rfl
  have c9 := hf.cell 9 (.slice (some ⟨gs, 0, none⟩) N.on.length N.on.length) rfl
  have cs := hf.seen q hqn
  have hen := hf.mac.en
  rw [hq] at hen
  have HW : Hid (decide (sn q = c) = true ↔ N.Tk s) := by
    have h1 := fnt_whole hI hfin
    have e0 : N.fin.toNat = q := by rw [hq]; rfl
    rw [e0, in_iff] at h1
    show decide (sn q = c) = true ↔ N.Tk s
    rw [← h1]
    simp [hqn]
  have HE : Hid (((sn q : Int) == (c : Int)) = decide (sn q = c)) := by
    by_cases e : sn q = c
    · subst e; simp [Hid]
    · have h1 : ((sn q : Int) == (c : Int)) = false := by rw [beq_eq_false_iff_ne]; omega
      show _ = _
      rw [h1]; simp [e]
  clear hf hS hI hm hfin
  go_enter Try.func25, Try.ntmps25
  go_wp2_with fail
  go_quiet (fail)
  go_wp2_with fail
  go_ret
  exact ⟨⟨_, rfl, by rw [HE.out]; exact HW.out⟩, below_drewN (Below.refl _ _) _⟩

set_option maxRecDepth 100000 in
set_option maxHeartbeats 2000000 in
theorem open_any {B bf b g gs c : Nat} {N : Mc} {L : Nat → Bool} {s : List Nat} (hL : LvOk N L) (W : World) (h : FSt B W bf b g gs N L c s) :
    Calls Try.prog 26 #[.pointer (some ⟨bf, 0, none⟩)] W fun e w' => (∃ d, e = .returned (.bool d) ∧ (d = true ↔ N.Op s)) ∧ w' = W := by
  obtain ⟨S, P, m, sn, sv, bv, hf, hS, hI, hm⟩ := h
  have c4 := hf.cell 4 (.int .u64 (wd m 0 : Nat)) rfl
  have c5 := hf.cell 5 (.int .u64 (wd m 1 : Nat)) rfl
  have c6 := hf.cell 6 (.int .u64 (wd m 2 : Nat)) rfl
  have c7 := hf.cell 7 (.int .u64 (wd m 3 : Nat)) rfl
  have hne := cv_neq m
  have HW : Hid (Mc.some_ m = true ↔ N.Op s) := fnt_open hL hI hm
  clear hf hS hI hm
  go_enter Try.func26, Try.ntmps26
  go_wp2_with fail
  go_ret
  exact ⟨⟨_, rfl, HW.out⟩, rfl⟩

/-- The bytes of a text. -/
def bts (t : ByteArray) : List Nat := t.data.toList.map UInt8.toNat
theorem bts_len (t : ByteArray) : (bts t).length = t.size := by unfold bts; rw [List.length_map, Array.length_toList]; rfl
theorem bts_get (t : ByteArray) (i : Nat) (hi : i < t.size) : (bts t)[i]? = some (t.get! i).toNat := by
  unfold bts
  rw [List.getElem?_map, Array.getElem?_toList, get_bang t i hi]
  have : t.data[i]? = some t.data[i] := Array.getElem?_eq_getElem hi
  rw [this]; rfl
/-- What a run answers. -/
def RunS (N : Mc) (t : ByteArray) (at_ : Int) (x y : Int) : Prop :=
  ((at_ < 0 ∨ (t.size : Int) < at_) ∧ x = -1 ∧ y = 0) ∨
  (∃ a : Nat, at_ = (a : Int) ∧ a ≤ t.size ∧ ∃ e f, N.Ans ((bts t).drop a) e f ∧ x = (if e = -1 then -1 else (a : Int) + e) ∧ y = (a : Int) + f)
/-- The best end so far. -/
def Best (N : Mc) (s : List Nat) (a i : Nat) (ev : Int) : Prop :=
  (ev = -1 ∧ ∀ j, j < i → ¬ N.Tk (s.take j)) ∨ ∃ k, k < i ∧ ev = (a : Int) + k ∧ N.Tk (s.take k) ∧ ∀ j, k < j → j < i → ¬ N.Tk (s.take j)
theorem Best.no {N : Mc} {s : List Nat} {a i : Nat} {ev : Int} (h : Best N s a i ev) (hn : ¬ N.Tk (s.take i)) : Best N s a (i + 1) ev := by
  have key : ∀ j, j < i + 1 → j < i ∨ j = i := fun j hj => by omega
  rcases h with ⟨e, h⟩ | ⟨k, hk, e, h1, h2⟩
  · exact .inl ⟨e, fun j hj => (key j hj).elim (h j) (fun e => e ▸ hn)⟩
  · exact .inr ⟨k, by omega, e, h1, fun j hj hj2 => (key j hj2).elim (h2 j hj) (fun e => e ▸ hn)⟩
theorem Best.yes {N : Mc} {s : List Nat} {a i : Nat} (hn : N.Tk (s.take i)) : Best N s a (i + 1) ((a : Int) + i) :=
  .inr ⟨i, by omega, rfl, hn, fun j h1 h2 => by omega⟩
theorem Best.ans {N : Mc} {s : List Nat} {a i f : Nat} {ev : Int} (h : Best N s a (i + 1) ev) (hi : i ≤ s.length) (hop : ∀ j, j < f → N.Op (s.take j)) (hf : (f = i ∧ ¬ N.Op (s.take i)) ∨ (f = s.length + 1 ∧ i = s.length)) :
    ∃ e, N.Ans s e f ∧ ev = (if e = -1 then -1 else (a : Int) + e) := by
  have hle : f ≤ s.length + 1 := by omega
  have hshut : f ≤ s.length → ¬ N.Op (s.take f) := fun hfl => by
    rcases hf with ⟨rfl, h⟩ | ⟨rfl, _⟩
    · exact h
    · omega
  have hji : ∀ j, j ≤ f → j ≤ s.length → j < i + 1 := fun j h1 h2 => by omega
  rcases h with ⟨rfl, h⟩ | ⟨k, hk, rfl, h1, h2⟩
  · exact ⟨-1, ⟨hle, hop, hshut, .inl ⟨rfl, fun j j1 j2 => h j (hji j j1 j2)⟩⟩, by simp⟩
  · refine ⟨(k : Int), ⟨hle, hop, hshut, .inr ⟨k, rfl, by omega, by omega, h1, fun j j0 j1 j2 => h2 j j0 (hji j j1 j2)⟩⟩, ?_⟩
    rw [if_neg (by omega)]

/-- A machine's value. -/
abbrev nfV (vo vt vf : Value) (N : Mc) : Value := .agg #[vo, vt, vf, .int .i64 N.start, .int .i64 N.fin]
theorem Parts.shape {B : Nat} {W : World} {vo vt vf : Value} {N : Mc} (h : Parts B W vo vt vf N) : ∃ a1 c1 a2 c2 a3 c3, vo = .slice a1 N.on.length c1 ∧ vt = .slice a2 N.tos.length c2 ∧ vf = .slice a3 N.free.length c3 := by
  obtain ⟨a1, _, _, c1, e1, _⟩ := h.on
  obtain ⟨a2, _, _, c2, e2, _⟩ := h.tos
  obtain ⟨a3, _, _, c3, e3, _⟩ := h.fr
  exact ⟨a1, c1, a2, c2, a3, c3, e1, e2, e3⟩

set_option maxRecDepth 100000 in
set_option maxHeartbeats 4000000 in
theorem run_any {vo vt vf : Value} {N : Mc} (hs : Small N) (t : ByteArray) (ht : t.size ≤ 140737488355328) (at_ : Int) (w : World) (hp : Parts w.heap.size w vo vt vf N) :
    Calls Try.prog 12 #[nfV vo vt vf N, .string t, .int .i64 at_] w fun e w' => (∃ x y, e = .returned (.tuple #[.int .i64 x, .int .i64 y]) ∧ RunS N t at_ x y) ∧ Below w.heap.size w w' := by
  obtain ⟨a1, c1, a2, c2, a3, c3, rfl, rfl, rfl⟩ := hp.shape
  have HP : Hid _ := hp
  have HS : Hid (Small N) := hs
  have HT : Hid (t.size ≤ 140737488355328) := ht
  clear hp hs
  by_cases h0 : at_ < 0
  · have d0 : decide (at_ < 0) = true := by simpa using h0
    have H0 : Hid (at_ < 0) := h0
    clear h0
    go_enter Try.func12, Try.ntmps12
    go_wp2_with fail
    go_ret2
    exact ⟨⟨_, _, rfl, .inl ⟨.inl H0.out, rfl, rfl⟩⟩, bel_up _ _⟩
  · obtain ⟨a, rfl⟩ : ∃ a : Nat, at_ = (a : Int) := ⟨at_.toNat, by omega⟩
    have d0 : decide ((a : Int) < 0) = false := by rw [decide_eq_false_iff_not]; omega
    clear h0
    by_cases h1 : t.size < a
    · have d1 : decide ((t.size : Int) < (a : Int)) = true := by rw [decide_eq_true_eq]; omega
      have d2 : decide (t.size < a) = true := by rw [decide_eq_true_eq]; omega
      have H1 : Hid (t.size < a) := h1
      clear h1
      go_enter Try.func12, Try.ntmps12
      go_wp2_with fail
      go_ret2
      exact ⟨⟨_, _, rfl, .inl ⟨.inr (by have := H1.out; omega), rfl, rfl⟩⟩, bel_up _ _⟩
    · have d1 : decide ((t.size : Int) < (a : Int)) = false := by rw [decide_eq_false_iff_not]; omega
      have d2 : decide (t.size < a) = false := by rw [decide_eq_false_iff_not]; omega
      have H1 : Hid (a ≤ t.size) := by show a ≤ t.size; omega
      clear h1
      go_enter Try.func12, Try.ntmps12
      go_upto_region 4 with fail
      obtain ⟨W2, hW2⟩ : ∃ W2, W2 = (w.alloc (.cells #[.slice a1 N.on.length c1, .slice a2 N.tos.length c2, .slice a3 N.free.length c3, .int .i64 N.start, .int .i64 N.fin] 26)).alloc (.cells #[.slice a1 N.on.length c1, .slice a2 N.tos.length c2, .slice a3 N.free.length c3, .int .i64 N.start, .int .i64 N.fin] 47) := ⟨_, rfl⟩
      have hb2 : Below w.heap.size w W2 := by rw [hW2]; exact below_trans (bel_up _ _) (bel_up _ _)
      have hsz : W2.heap.size = w.heap.size + 2 := by rw [hW2]; simp
      have hh0 : W2.heap[w.heap.size]? = some (.cells #[.slice a1 N.on.length c1, .slice a2 N.tos.length c2, .slice a3 N.free.length c3, .int .i64 N.start, .int .i64 N.fin] 26 (0, 0)) := by
        rw [hW2, Below.heap_alloc _ _ _ (by simp)]; exact World.alloc_heap_new w _
      have hh1 : W2.heap[w.heap.size + 1]? = some (.cells #[.slice a1 N.on.length c1, .slice a2 N.tos.length c2, .slice a3 N.free.length c3, .int .i64 N.start, .int .i64 N.fin] 47 (0, 0)) := by
        rw [hW2]
        have h := World.alloc_heap_new (w.alloc (.cells #[.slice a1 N.on.length c1, .slice a2 N.tos.length c2, .slice a3 N.free.length c3, .int .i64 N.start, .int .i64 N.fin] 26)) (.cells #[.slice a1 N.on.length c1, .slice a2 N.tos.length c2, .slice a3 N.free.length c3, .int .i64 N.start, .int .i64 N.fin] 47)
        rw [World.size_alloc] at h
        exact h
      have k3 : W2.cell? ⟨w.heap.size, 3, none⟩ = some (.int .i64 N.start) := by rw [Lib.cell_of_heap hh0]; rfl
      have k4 : W2.cell? ⟨w.heap.size, 4, none⟩ = some (.int .i64 N.fin) := by rw [Lib.cell_of_heap hh0]; rfl
      have hm2 : Mac W2.heap.size W2 (w.heap.size + 1) N := ⟨by omega, ⟨_, _, _, HP.out.mono hb2 (by omega), by rw [Lib.cell_of_heap hh1]; rfl, by rw [Lib.cell_of_heap hh1]; rfl, by rw [Lib.cell_of_heap hh1]; rfl⟩, by rw [Lib.cell_of_heap hh1]; rfl, by rw [Lib.cell_of_heap hh1]; rfl⟩
      rw [← hW2]
      have HB2 : Hid (Below w.heap.size w W2) := hb2
      have HM2 : Hid (Mac W2.heap.size W2 (w.heap.size + 1) N) := hm2
      clear hb2 hm2 hh0 hh1 hW2 hsz d0 d1 d2
      cases hst : N.isS N.start
      · have HST : Hid (N.isS N.start = false) := hst
        clear hst
        go_wp2_with fail
        refine (mhas_any N.start W2 HM2.out).mono ?_
        rintro e w3 ⟨rfl, rfl⟩
        rw [HST.out]
        go_wp2_with fail
        go_ret2
        exact ⟨⟨_, _, rfl, .inr ⟨a, rfl, H1.out, -1, 0, Mc.Ans.none_ (.inl HST.out), rfl, by simp⟩⟩, HB2.out⟩
      · have HST : Hid (N.isS N.start = true) := hst
        clear hst
        cases hfi : N.isS N.fin
        · have HFI : Hid (N.isS N.fin = false) := hfi
          clear hfi
          go_wp2_with fail
          refine (mhas_any N.start W2 HM2.out).mono ?_
          rintro e w3 ⟨rfl, rfl⟩
          rw [HST.out]
          go_wp2_with fail
          refine (mhas_any N.fin w3 HM2.out).mono ?_
          rintro e w4 ⟨rfl, rfl⟩
          rw [HFI.out]
          go_wp2_with fail
          go_ret2
          exact ⟨⟨_, _, rfl, .inr ⟨a, rfl, H1.out, -1, 0, Mc.Ans.none_ (.inr HFI.out), rfl, by simp⟩⟩, HB2.out⟩
        · have HFI : Hid (N.isS N.fin = true) := hfi
          clear hfi
          go_wp2_with fail
          refine (mhas_any N.start W2 HM2.out).mono ?_
          rintro e w3 ⟨rfl, rfl⟩
          rw [HST.out]
          go_wp2_with fail
          refine (mhas_any N.fin w3 HM2.out).mono ?_
          rintro e w4 ⟨rfl, rfl⟩
          rw [HFI.out]
          clear k3 k4
          go_wp2_with fail
          refine (newFront_any HS.out HFI.out HST.out w4 HM2.out (Nat.le_refl _)).mono ?_
          rintro e w5 ⟨bf, g, gs, L, rfl, hlv, hfs, hb5⟩
          have HLV : Hid (LvOk N L) := hlv
          have HFS : Hid (FSt w4.heap.size w5 bf (w.heap.size + 1) g gs N L 1 []) := hfs
          have HB5 : Hid (Below w.heap.size w w5) := below_trans HB2.out hb5
          have HWS : Hid (w.heap.size ≤ w4.heap.size) := HB2.out.size
          clear hlv hfs hb5
          obtain ⟨s, hsd⟩ : ∃ s, (bts t).drop a = s := ⟨_, rfl⟩
          have HSD : Hid ((bts t).drop a = s) := hsd
          have HSL : Hid (s.length = t.size - a) := by rw [← hsd, List.length_drop, bts_len]; rfl
          clear hsd
          go_wp2_with fail
          go_loopg [2, 9] s.length (fun gm av ev wr => ∃ (i : Nat) (x : Int), av = .int .i64 ((a + i : Nat) : Int) ∧ ev = .int .i64 x ∧ Hid (FSt w4.heap.size wr bf (w.heap.size + 1) g gs N L (1 + i) (s.take i)) ∧ Hid (Best N s a i x) ∧ Hid (∀ j, j < i → N.Op (s.take j)) ∧ Hid (Below w.heap.size w wr) ∧ Hid (i ≤ s.length ∧ gm = s.length - i))
          case atStart =>
            exact ⟨0, -1, rfl, rfl, by rw [List.take_zero]; exact HFS, .inl ⟨rfl, fun j hj => by omega⟩, fun j hj => by omega, HB5, ⟨Nat.zero_le _, rfl⟩⟩
          case round =>
            obtain ⟨i, x, rfl, rfl, HF, HBE, HOP, HB, HI⟩ := hrel
            obtain ⟨p, hp⟩ : ∃ p, a + i = p := ⟨_, rfl⟩
            rw [hp]
            have HPP : Hid (a + i = p) := hp
            clear hp
            go_wp2_with fail
            refine (whole_any HFI.out wr HF.out).mono ?_
            rintro e w6 ⟨⟨d, rfl, hd⟩, hb6⟩
            have HF6 : Hid (FSt w4.heap.size w6 bf (w.heap.size + 1) g gs N L (1 + i) (s.take i)) := by
              obtain ⟨S, P, m, sn, sv, bv, hf, hr⟩ := HF.out
              exact ⟨S, P, m, sn, sv, bv, hf.below hb6, hr⟩
            have HB6 : Hid (Below w.heap.size w w6) := below_trans HB.out hb6
            have HD : Hid (d = true ↔ N.Tk (s.take i)) := hd
            clear hb6 hd
            cases d
            · have HBE1 : Hid (Best N s a (i + 1) x) := HBE.out.no (fun h => by have := HD.out.2 h; cases this)
              go_wp2_with fail
              refine (open_any HLV.out w6 HF6.out).mono ?_
              rintro e w7 ⟨⟨o, rfl, ho⟩, rfl⟩
              have HO : Hid (o = true ↔ N.Op (s.take i)) := ho
              clear ho
              cases o
              · go_wp2_with fail
                go_ret2
                obtain ⟨e1, hA, hE⟩ := HBE1.out.ans (f := i) HI.out.1 HOP.out (.inl ⟨rfl, fun h => by have := HO.out.2 h; cases this⟩)
                refine ⟨⟨_, _, rfl, .inr ⟨a, rfl, H1.out, e1, i, ?_, hE, by have := HPP.out; omega⟩⟩, HB6.out⟩
                rw [HSD.out]; exact hA
              · have HOP1 : Hid (∀ j, j < i + 1 → N.Op (s.take j)) := fun j hj => (by omega : j < i ∨ j = i).elim (HOP.out j) (fun e => e ▸ HO.out.1 rfl)
                by_cases hend : p = t.size
                · have HPE : Hid (p = t.size) := hend
                  have hpe : ((p : Int) == (t.size : Int)) = true := by rw [hend]; simp
                  subst hend
                  go_wp2_with fail
                  go_ret2
                  obtain ⟨e1, hA, hE⟩ := HBE1.out.ans (f := s.length + 1) HI.out.1 (fun j hj => HOP1.out j (by have := HPP.out; have := HSL.out; omega)) (.inr ⟨rfl, by have := HPP.out; have := HSL.out; have := H1.out; omega⟩)
                  refine ⟨⟨_, _, rfl, .inr ⟨a, rfl, H1.out, e1, s.length + 1, ?_, hE, by have := HPP.out; have := HSL.out; have := H1.out; omega⟩⟩, HB6.out⟩
                  rw [HSD.out]; exact hA
                · have hpe : ((p : Int) == (t.size : Int)) = false := by rw [beq_eq_false_iff_ne]; omega
                  have hpl : p < t.size := by have := HPP.out; have := HSL.out; have := HI.out.1; have := H1.out; omega
                  have hix := idx_fact t p hpl
                  have HPL : Hid (p < t.size) := hpl
                  clear hend
                  go_wp2_with fail
                  refine (read_any (x := (t.get! p).toNat) HS.out HLV.out (by have := HPP.out; have := HT.out; omega) (UInt8.toNat_lt _) w7 HF6.out).mono ?_
                  rintro e w8 ⟨⟨v8, rfl⟩, hb8, hf8⟩
                  have HB8 : Hid (Below w.heap.size w w8) := HB6.out.trans (hb8.mono HWS.out)
                  have HF8 : Hid _ := hf8
                  clear hb8 hf8 hix
                  go_wp2_with fail
                  go_roundg (s.length - (i + 1))
                  case measure => have := HI.out; have := HPP.out; have := HSL.out; have := HPL.out; omega
                  case rel =>
                    have hil : i < s.length := by have := HPP.out; have := HSL.out; have := HPL.out; omega
                    refine ⟨i + 1, x, by rw [show (p : Int) + 1 = ((a + (i + 1) : Nat) : Int) by have := HPP.out; omega], rfl, ?_, HBE1, HOP1, HB8, ⟨hil, rfl⟩⟩
                    have e1 : s.take (i + 1) = s.take i ++ [(t.get! p).toNat] := by
                      rw [List.take_add_one]
                      congr 1
                      rw [← HSD.out, List.getElem?_drop, HPP.out, bts_get t p HPL.out]
                      rfl
                    rw [e1, show 1 + (i + 1) = 1 + i + 1 by omega]
                    exact HF8
            · have HBE1 : Hid (Best N s a (i + 1) (p : Int)) := by
                have h := Best.yes (a := a) (HD.out.1 rfl)
                have e : (a : Int) + i = (p : Int) := by have := HPP.out; omega
                rw [e] at h
                exact h
              go_wp2_with fail
              refine (open_any HLV.out w6 HF6.out).mono ?_
              rintro e w7 ⟨⟨o, rfl, ho⟩, rfl⟩
              have HO : Hid (o = true ↔ N.Op (s.take i)) := ho
              clear ho
              cases o
              · go_wp2_with fail
                go_ret2
                obtain ⟨e1, hA, hE⟩ := HBE1.out.ans (f := i) HI.out.1 HOP.out (.inl ⟨rfl, fun h => by have := HO.out.2 h; cases this⟩)
                refine ⟨⟨_, _, rfl, .inr ⟨a, rfl, H1.out, e1, i, ?_, hE, by have := HPP.out; omega⟩⟩, HB6.out⟩
                rw [HSD.out]; exact hA
              · have HOP1 : Hid (∀ j, j < i + 1 → N.Op (s.take j)) := fun j hj => (by omega : j < i ∨ j = i).elim (HOP.out j) (fun e => e ▸ HO.out.1 rfl)
                by_cases hend : p = t.size
                · have HPE : Hid (p = t.size) := hend
                  have hpe : ((p : Int) == (t.size : Int)) = true := by rw [hend]; simp
                  subst hend
                  go_wp2_with fail
                  go_ret2
                  obtain ⟨e1, hA, hE⟩ := HBE1.out.ans (f := s.length + 1) HI.out.1 (fun j hj => HOP1.out j (by have := HPP.out; have := HSL.out; omega)) (.inr ⟨rfl, by have := HPP.out; have := HSL.out; have := H1.out; omega⟩)
                  refine ⟨⟨_, _, rfl, .inr ⟨a, rfl, H1.out, e1, s.length + 1, ?_, hE, by have := HPP.out; have := HSL.out; have := H1.out; omega⟩⟩, HB6.out⟩
                  rw [HSD.out]; exact hA
                · have hpe : ((p : Int) == (t.size : Int)) = false := by rw [beq_eq_false_iff_ne]; omega
                  have hpl : p < t.size := by have := HPP.out; have := HSL.out; have := HI.out.1; have := H1.out; omega
                  have hix := idx_fact t p hpl
                  have HPL : Hid (p < t.size) := hpl
                  clear hend
                  go_wp2_with fail
                  refine (read_any (x := (t.get! p).toNat) HS.out HLV.out (by have := HPP.out; have := HT.out; omega) (UInt8.toNat_lt _) w7 HF6.out).mono ?_
                  rintro e w8 ⟨⟨v8, rfl⟩, hb8, hf8⟩
                  have HB8 : Hid (Below w.heap.size w w8) := HB6.out.trans (hb8.mono HWS.out)
                  have HF8 : Hid _ := hf8
                  clear hb8 hf8 hix
                  go_wp2_with fail
                  go_roundg (s.length - (i + 1))
                  case measure => have := HI.out; have := HPP.out; have := HSL.out; have := HPL.out; omega
                  case rel =>
                    have hil : i < s.length := by have := HPP.out; have := HSL.out; have := HPL.out; omega
                    refine ⟨i + 1, (p : Int), by rw [show (p : Int) + 1 = ((a + (i + 1) : Nat) : Int) by have := HPP.out; omega], rfl, ?_, HBE1, HOP1, HB8, ⟨hil, rfl⟩⟩
                    have e1 : s.take (i + 1) = s.take i ++ [(t.get! p).toNat] := by
                      rw [List.take_add_one]
                      congr 1
                      rw [← HSD.out, List.getElem?_drop, HPP.out, bts_get t p HPL.out]
                      rfl
                    rw [e1, show 1 + (i + 1) = 1 + i + 1 by omega]
                    exact HF8

set_option maxRecDepth 100000 in
set_option maxHeartbeats 2000000 in
theorem accepts_any {vo vt vf : Value} {N : Mc} (hs : Small N) (t : ByteArray) (ht : t.size ≤ 140737488355328) (w : World) (hp : Parts w.heap.size w vo vt vf N) :
    Calls Try.prog 11 #[nfV vo vt vf N, .string t] w fun e w' => (∃ d, e = .returned (.bool d) ∧ (d = true ↔ N.Tk (bts t))) ∧ Below w.heap.size w w' := by
  obtain ⟨a1, c1, a2, c2, a3, c3, rfl, rfl, rfl⟩ := hp.shape
  have hr := run_any hs t ht 0 (w.alloc (.cells #[.slice a1 N.on.length c1, .slice a2 N.tos.length c2, .slice a3 N.free.length c3, .int .i64 N.start, .int .i64 N.fin] 26)) (hp.mono (bel_up _ _) (by simp))
  have HR : Hid _ := hr
  clear hr hp hs ht
  go_enter Try.func11, Try.ntmps11
  go_wp2_with fail
  refine Calls.mono HR.out ?_
  rintro e w1 ⟨⟨x, y, rfl, h⟩, hb⟩
  have HX : Hid ((x == (t.size : Int)) = true ↔ N.Tk (bts t)) := by
    rcases h with ⟨h1, h2, h3⟩ | ⟨a, e0, _, e1, f, hA, h2, h3⟩
    · omega
    · have ea : a = 0 := by omega
      subst ea
      rw [List.drop_zero] at hA
      have h4 := hA.whole
      rw [bts_len] at h4
      show (x == (t.size : Int)) = true ↔ _
      rw [← h4, beq_iff_eq, h2]
      by_cases e : e1 = -1
      · subst e; simp
      · rw [if_neg e]; simp
  have HB : Hid _ := hb
  clear h hb
  go_wp2_with fail
  go_ret
  exact ⟨⟨_, rfl, HX.out⟩, below_trans (bel_up _ _) HB.out⟩
end Go.Proofs.Ytkjljnneghnpiaa
