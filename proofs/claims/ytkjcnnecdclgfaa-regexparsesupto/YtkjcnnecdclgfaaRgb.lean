import Derived.Test.YtkjcnnecdclgfaaRga
namespace Go.Proofs.Ytkjcnnecdclgfaa
open Go.RowKit
/-- What a reader's step answers. -/
def SRes (B b : Nat) (s : ByteArray) (w : World) (r : Except (Int × Nat) Mc) (e : Ending) (w' : World) : Prop :=
  (match r with
  | .ok M => e = .returned (errV 0 0) ∧ IsR B b s M w'
  | .error (c, p) => e = .returned (errV c (p : Int))) ∧ FR B b w w'
theorem SRes.good {B b : Nat} {s : ByteArray} {w w' : World} {r : Except (Int × Nat) Mc} {M : Mc} (hr : r = .ok M) (h : IsR B b s M w') (hf : FR B b w w') : SRes B b s w r (.returned (errV 0 0)) w' := by
  rw [hr]
  exact ⟨⟨rfl, h⟩, hf⟩
theorem SRes.bad {B b : Nat} {s : ByteArray} {w w' : World} {r : Except (Int × Nat) Mc} {c : Int} {p : Nat} (hr : r = .error (c, p)) (hf : FR B b w w') : SRes B b s w r (.returned (errV c (p : Int))) w' := by
  rw [hr]
  exact ⟨rfl, hf⟩
theorem own_take {w : World} {B : Nat} {e : TypeId} {z n g cap k : Nat} {xs : List Value} (h : w.ownsRow B e z (.slice (some ⟨g, 0, none⟩) n cap) n xs) (hk : k ≤ n) : w.ownsRow B e z (.slice (some ⟨g, 0, none⟩) k cap) k (xs.take (k * z)) := by
  obtain ⟨h1, h2⟩ := h
  rcases h2 with ⟨h0, _⟩ | ⟨g', cap', cur, hv, hg, hh, hn, hcap, hsz, htake⟩
  · cases h0
  · cases hv
    have hkz : k * z ≤ n * z := Nat.mul_le_mul_right z hk
    refine ⟨by rw [List.length_take, h1]; omega, .inr ⟨g, cap, cur, rfl, hg, hh, by omega, hcap, hsz, ?_⟩⟩
    rw [← htake, List.take_take]
    congr 1
    omega
theorem own_cap {w : World} {B : Nat} {e : TypeId} {z n g cap : Nat} {xs : List Value} (h : w.ownsRow B e z (.slice (some ⟨g, 0, none⟩) n cap) n xs) : n ≤ cap := by
  obtain ⟨h1, h2⟩ := h
  rcases h2 with ⟨h0, _⟩ | ⟨g', cap', cur, hv, hg, hh, hn, hcap, hsz, htake⟩
  · cases h0
  · cases hv
    omega
theorem IsG.pop {B b gg cap : Nat} {s : ByteArray} {i : Nat} {o : List Nd} {g x : Grp} {t : List Grp} {w : World} (h : IsG B b gg cap s ⟨i, o, g, x :: t⟩ w) : IsG B b gg cap s ⟨i, o, x, t⟩ (w.setCell ⟨b, 3, none⟩ (.slice (some ⟨gg, 0, none⟩) (t.length + 1) cap)) := by
  obtain ⟨v, hv, ho⟩ := h.h
  have hu := own_take h.u (k := t.length + 1) (by simp)
  have e : ((gcs (x :: t).reverse ++ gc g).take ((t.length + 1) * 3)) = gcs t.reverse ++ gc x := by
    rw [List.reverse_cons, gcs_app, gcs_one]
    have : (gcs t.reverse ++ gc x).length = (t.length + 1) * 3 := by
      rw [List.length_append, gcs_len, List.length_reverse]
      show _ + 3 = _
      omega
    rw [List.take_append_of_le_length (by omega), List.take_of_length_le (by omega)]
  dsimp only at hu
  rw [e] at hu
  refine ⟨h.le, by simpa using h.sz, ⟨v, ?_, own_set ho hv (by decide)⟩, own_set hu hv (by decide)⟩
  simp [World.setCell, Array.getElem?_modify, hv]
theorem fld62_0 (x y z : Int) (W : World) : (Instr.field 62 (.agg #[.int .i64 x, .int .i64 y, .int .i64 z]) 0).run Try.prog W = .ok (.int .i64 x) W := by kernel_rfl
theorem fld62_2 (x y z : Int) (W : World) : (Instr.field 62 (.agg #[.int .i64 x, .int .i64 y, .int .i64 z]) 2).run Try.prog W = .ok (.int .i64 z) W := by kernel_rfl
/-- A round bracket that closes. -/
def mcl (M : Mc) : Except (Int × Nat) Mc := match M.st with
    | [] => .error (40, M.i)
    | h :: t => if M.g.alt < 0 ∧ M.g.cat < 0 ∧ M.g.part < 0 then .ok ⟨M.i + 1, M.out ++ [zn 2 (-1) (-1)], ⟨h.alt, h.cat, (M.out.length : Int)⟩, t⟩
      else if M.g.part < 0 then .error (40, M.i) else .ok ⟨M.i + 1, (brn M.out M.g).1, ⟨h.alt, h.cat, (brn M.out M.g).2.alt⟩, t⟩
def frs (g : Grp) : Bool := decide (g.alt < 0) && (decide (g.cat < 0) && decide (g.part < 0))
set_option maxRecDepth 100000 in
set_option maxHeartbeats 8000000 in
theorem closes_any (B b gg cap : Nat) (s : ByteArray) (M : Mc) (w : World) (h : IsG B b gg cap s M w) (hst : M.st.length ≤ 128) (hl : M.out.length ≤ 2300000000000) (hi : M.i < 2000000000000) :
    Calls Try.prog 58 #[.pointer (some ⟨b, 0, none⟩)] w fun e w' => SRes B b s w (mcl M) e w' := by
  obtain ⟨i, o, g, st⟩ := M
  dsimp only at hst hl hi
  have HIG : Hid (IsG B b gg cap s ⟨i, o, g, st⟩ w) := h
  have P0 : Hid (IsG B b gg cap s ⟨i, o, g, st⟩ (w.alloc (.cells #[.int .i64 0, .int .i64 0] 66))) := h.mono (bel_up _ _)
  have E0 : Hid (AtV (w.alloc (.cells #[.int .i64 0, .int .i64 0] 66)) w.heap.size #[.int .i64 0, .int .i64 0] 66) := AtV.new _ _ _
  have F0 : Hid (FG B b gg w (w.alloc (.cells #[.int .i64 0, .int .i64 0] 66))) := FG.of (bel_up _ _) h.sz
  have HL : Hid _ := hl
  have HST : Hid _ := hst
  have HSZ : Hid _ := h.sz
  have HLE : Hid _ := h.le
  have HI : Hid _ := hi
  have N0 : Hid (w.heap.size ≠ b ∧ w.heap.size ≠ gg) := by
    have := h.lt
    exact ⟨by omega, by omega⟩
  clear h hst hl hi
  go_enter Try.func58, Try.ntmps58
  go_wp2_with fail
  refine (rtop_any B b gg cap s i o g st _ P0.out HST.out).mono ?_
  rintro e w1 ⟨rfl, hb1⟩
  have P1 : Hid (IsG B b gg cap s ⟨i, o, g, st⟩ (w1.alloc (.cells (gA g) 62))) := (P0.out.mono hb1).mono (bel_up _ _)
  have A1 : Hid (AtV (w1.alloc (.cells (gA g) 62)) w1.heap.size (gA g) 62) := AtV.new _ _ _
  have E1 : Hid (AtV (w1.alloc (.cells (gA g) 62)) w.heap.size #[.int .i64 0, .int .i64 0] 66) := (E0.out.mono hb1).up _
  have F1 : Hid (FG B b gg w (w1.alloc (.cells (gA g) 62))) := F0.out.trans (FG.of (below_trans hb1 (bel_up _ _)) P0.out.sz)
  clear hb1 P0 E0 F0
  go_upto_region 2 with fail
  obtain ⟨q, hq⟩ : ∃ q, w1.heap.size = q := ⟨_, rfl⟩
  obtain ⟨W1, hW1⟩ : ∃ W1, w1.alloc (.cells (gA g) 62) = W1 := ⟨_, rfl⟩
  have hW2 : w1.alloc (.cells #[.int .i64 g.alt, .int .i64 g.cat, .int .i64 g.part] 62) = W1 := hW1
  rw [hq] at A1 ⊢
  rw [hW1] at A1 P1 F1 E1
  rw [hW2]
  clear hW1 hW2 hq
  obtain ⟨a0, a1, a2, af⟩ := A1.out.c3
  obtain ⟨c0, c1, c3, cf⟩ := P1.out.cells
  dsimp only at c1 c3
  go_cut [4] from 6 (fun v wd => v = .bool (frs g) ∧ wd = W1)
  case first =>
    clear c0 c1 c3 cf
    by_cases h1 : g.alt < 0
    · by_cases h2 : g.cat < 0
      · by_cases h3 : g.part < 0
        · go_wp2_with fail
          go_meet
          exact ⟨by unfold frs; rw [decide_eq_true h1, decide_eq_true h2, decide_eq_true h3]; rfl, rfl⟩
        · go_wp2_with fail
          go_meet
          exact ⟨by unfold frs; rw [decide_eq_true h1, decide_eq_true h2, decide_eq_false (by omega)]; rfl, rfl⟩
      · go_wp2_with fail
        go_meet
        exact ⟨by unfold frs; rw [decide_eq_true h1, decide_eq_false (by omega)]; rfl, rfl⟩
    · go_wp2_with fail
      go_meet
      exact ⟨by unfold frs; rw [decide_eq_false (by omega)]; rfl, rfl⟩
  case rest =>
    obtain ⟨rfl, rfl⟩ := hcut
    obtain ⟨fr, hfr⟩ : ∃ fr, frs g = fr := ⟨_, rfl⟩
    have HFR : Hid _ := hfr
    rw [hfr]
    clear hfr
    obtain ⟨n, hn⟩ : ∃ n, st.length + 1 = n := ⟨_, rfl⟩
    have HN : Hid _ := hn
    rw [hn] at c3
    clear hn
    go_upto_region 3 with fail
    go_cut [35] from 6 (fun v wd => v = .bool (decide (n = 1) || (decide (g.part < 0) && !fr)) ∧ wd = wc)
    case first =>
      by_cases h1 : n = 1
      · have e1 : ((n : Int) == 1) = true := by rw [h1]; rfl
        have H1 : Hid _ := h1
        clear h1
        go_wp2_with fail
        go_meet
        exact ⟨by rw [decide_eq_true H1.out]; rfl, rfl⟩
      · have e1 : ((n : Int) == 1) = false := by rw [beq_eq_false_iff_ne]; omega
        have H1 : Hid _ := h1
        clear h1
        by_cases h3 : g.part < 0
        · go_wp2_with fail
          go_meet
          exact ⟨by rw [decide_eq_false H1.out, decide_eq_true h3]; rfl, rfl⟩
        · go_wp2_with fail
          go_meet
          exact ⟨by rw [decide_eq_false H1.out, decide_eq_false (by omega)]; rfl, rfl⟩
    case rest =>
      obtain ⟨rfl, rfl⟩ := hcut
      have ffr : fr = true ↔ (g.alt < 0 ∧ g.cat < 0 ∧ g.part < 0) := by
        rw [← HFR.out]
        unfold frs
        simp
      by_cases hcd : (decide (n = 1) || (decide (g.part < 0) && !fr)) = true
      · have HR : Hid (mcl ⟨i, o, g, st⟩ = .error (40, i)) := by
          have hn := HN.out
          cases st with
          | nil => rfl
          | cons x t =>
            have h1 : ¬ n = 1 := by rw [← hn]; simp
            simp [h1] at hcd
            obtain ⟨h2, h3⟩ := hcd
            have h4 : ¬ (g.alt < 0 ∧ g.cat < 0 ∧ g.part < 0) := by
              intro h4
              rw [ffr.mpr h4] at h3
              cases h3
            unfold mcl
            dsimp only
            rw [if_neg h4, if_pos h2]
            rfl
        rw [hcd]
        clear hcd ffr
        obtain ⟨e0, e1, ef⟩ := E1.out.c2
        go_wp2_with fail
        refine bodyPost_ret (v := errV 40 (i : Int)) ?_ rfl (SRes.bad HR.out ?_)
        · rw [results_cell1 rfl]; go_simp
        · exact ((F1.out.asideq (Nat.le_refl _) HSZ.out 0 _).asideq (Nat.le_refl _) HSZ.out 1 _).toFR HIG.out
      · rw [Bool.not_eq_true] at hcd
        rw [hcd]
        simp at hcd
        obtain ⟨hn1, hpf⟩ := hcd
        cases st with
        | nil => exact absurd HN.out.symm (by simpa using hn1)
        | cons x t =>
          have HPF : Hid (fr = false → ¬ g.part < 0) := by
            intro h1 h2
            have := hpf (by omega)
            rw [h1] at this
            cases this
          have HFF : Hid _ := ffr
          clear hn1 hpf a0 a1 a2 af c0 c1 c3 cf ffr
          go_upto_if 41 with fail
          go_cut [5] from 6 (fun v wd => ∃ (root : Int) (o' : List Nd) (g' : Grp), v = .int .i64 root ∧ IsG B b gg cap s ⟨i, o', g', x :: t⟩ wd ∧ AtV wd w.heap.size #[.int .i64 0, .int .i64 0] 66 ∧ FG B b gg w wd ∧ mcl ⟨i, o, g, x :: t⟩ = .ok ⟨i + 1, o', ⟨x.alt, x.cat, root⟩, t⟩)
          case first =>
            cases fr with
            | true =>
              go_wp2_with fail
              refine (node0_any B b gg cap s i o g (x :: t) 2 (-1) (-1) _ P1.out (by have := HL.out; omega)).mono ?_
              rintro e w2 ⟨rfl, p2, f2⟩
              have P2 : Hid _ := p2
              have F2 : Hid _ := F1.out.trans f2
              have E2 : Hid _ := E1.out.fg f2 N0.out.1 N0.out.2 (by decide)
              clear p2 f2
              go_wp2_with fail
              go_meet
              refine ⟨_, _, _, rfl, P2.out, E2.out, F2.out, ?_⟩
              unfold mcl
              dsimp only
              rw [if_pos (HFF.out.mp (by first | rfl | trivial))]
            | false =>
              have H3 : Hid (¬ g.part < 0) := HPF.out rfl
              have BR := branch_any B b gg cap s i o g (x :: t) _ P1.out HST.out HL.out
              obtain ⟨ob, gb, hbr⟩ : ∃ ob gb, brn o g = (ob, gb) := ⟨_, _, rfl⟩
              rw [hbr] at BR
              dsimp only at BR
              have HBR : Hid _ := hbr
              clear hbr
              go_wp2_with fail
              refine BR.mono ?_
              clear BR
              rintro e w2 ⟨rfl, p2, f2⟩
              have P2 : Hid _ := p2
              have F2 : Hid _ := F1.out.trans f2
              have E2 : Hid _ := E1.out.fg f2 N0.out.1 N0.out.2 (by decide)
              clear p2 f2
              go_wp2_with fail
              refine (rtop_any B b gg cap s i ob gb (x :: t) _ P2.out HST.out).mono ?_
              rintro e w3 ⟨rfl, hb3⟩
              have P3 : Hid _ := P2.out.mono hb3
              have F3 : Hid _ := F2.out.trans (FG.of hb3 P2.out.sz)
              have E3 : Hid _ := E2.out.mono hb3
              have hfld := fld62_0 gb.alt gb.cat gb.part
              clear hb3
              go_wp2_with fail
              go_meet
              refine ⟨_, _, _, rfl, P3.out, E3.out, F3.out, ?_⟩
              unfold mcl
              dsimp only
              rw [if_neg (by have := H3.out; omega), if_neg (by have := H3.out; omega), HBR.out]
          case rest =>
            obtain ⟨root, o', g', rfl, p4, e4, f4, hm4⟩ := hcut
            have HM4 : Hid _ := hm4
            have P5 := p4.pop
            have E5 := e4.aside (q := b) N0.out.1 3 (.slice (some ⟨gg, 0, none⟩) (t.length + 1) cap)
            have F5 := f4.trans (FG.set (gg := gg) wc 3 (.slice (some ⟨gg, 0, none⟩) (t.length + 1) cap) HLE.out)
            have hcap := own_cap p4.u
            obtain ⟨c0, c1, c3, cf⟩ := p4.cells
            dsimp only at c1 c3 hcap
            obtain ⟨k, hk⟩ : ∃ k, t.length + 1 = k := ⟨_, rfl⟩
            obtain ⟨k2, hk2⟩ : ∃ k2, k + 1 = k2 := ⟨_, rfl⟩
            rw [show (x :: t).length + 1 = k2 by rw [← hk2, ← hk]; rfl] at c3 hcap
            rw [hk] at P5 E5 F5
            have HP5 : Hid _ := P5
            have HE5 : Hid _ := E5
            have HF5 : Hid _ := F5
            have hwk : wrap64 ((k2 : Int) - 1) = (k : Int) := by
              have := HST.out
              simp at this
              unfold wrap64
              omega
            have hkc : k ≤ cap := by omega
            have HT : Hid (t.length ≤ 128) := by
              have := HST.out
              simp at this
              exact (by omega : t.length ≤ 128)
            have HKK : Hid _ := hk
            clear p4 e4 f4 hm4 P5 E5 F5 hk hk2 hcap P1 A1 E1 F1 HPF HFF HFR HN HST HL
            go_wp2_with fail
            go_region
            have HP6 : Hid _ := HP5.out.drew
            have HE6 : Hid _ := HE5.out.dr
            have HF6 : Hid _ := HF5.out.trans FG.dr
            clear HP5 HE5 HF5 c0 c1 c3 cf
            go_wp2_with fail
            refine (rpart_any B b gg cap s i o' x t root _ HP6.out HT.out).mono ?_
            rintro e w7 ⟨rfl, p7, f7⟩
            have P7 : Hid _ := p7
            have E7 : Hid _ := HE6.out.fg f7 N0.out.1 N0.out.2 (by decide)
            have F7 : Hid _ := HF6.out.trans f7
            obtain ⟨c0, c1, c3, cf⟩ := p7.cells
            obtain ⟨e0, e1, ef⟩ := E7.out.c2
            dsimp only at c1
            have hwi := w64 i (by have := HI.out; omega)
            have nb1 : ¬ w.heap.size = b := N0.out.1
            have nb2 : ¬ b = w.heap.size := fun e => N0.out.1 e.symm
            clear p7 f7 HP6 HE6 HF6 c3
            go_wp2_with fail
            refine bodyPost_ret (v := errV 0 0) ?_ rfl (SRes.good HM4.out ?_ ?_)
            · rw [results_cell1 rfl]; go_simp
            · have e1 : ((i : Int) + 1) = ((i + 1 : Nat) : Int) := by omega
              rw [e1]
              exact (((P7.out.at_ (i + 1)).aside (E7.out.aside N0.out.1 1 _) N0.out.1 N0.out.2 (by decide) 0 _).aside ((E7.out.aside N0.out.1 1 _).put 0 _) N0.out.1 N0.out.2 (by decide) 1 _).toR
            · exact (((F7.out.trans (FG.set _ _ _ HLE.out)).asideq (Nat.le_refl _) HSZ.out 0 _).asideq (Nat.le_refl _) HSZ.out 1 _).toFR HIG.out
end Go.Proofs.Ytkjcnnecdclgfaa
namespace Go.Proofs.Ytkjcnnecdclgfaa
open Go.RowKit
/-- A sign: a bracket, a bar, a star and the like. -/
def msg (x : Nat) (M : Mc) : Except (Int × Nat) Mc :=
  if x = 40 then (if 128 ≤ M.st.length then .error (42, M.i) else .ok ⟨M.i + 1, (stl M.out M.g).1, frG, (stl M.out M.g).2 :: M.st⟩)
  else if x = 41 then mcl M
  else (if M.g.part < 0 then .error (40, M.i)
     else if x = 124 then .ok ⟨M.i + 1, (brn M.out M.g).1, (brn M.out M.g).2, M.st⟩
     else .ok ⟨M.i + 1, M.out ++ [zn (if x = 42 then 5 else if x = 43 then 6 else 7) M.g.part (-1)], ⟨M.g.alt, M.g.cat, (M.out.length : Int)⟩, M.st⟩)
/-- The way up to the groups' look. -/
abbrev RS (B b : Nat) (s : ByteArray) (M : Mc) (x : Nat) (w : World) : Prop := Calls Try.prog 40 #[.pointer (some ⟨b, 0, none⟩), .int .u8 (x : Int)] w fun e w' => SRes B b s w (msg x M) e w'
/-- What a sign's walk knows behind the first look. -/
structure Sg (B b gg cap q : Nat) (s : ByteArray) (M : Mc) (w W : World) : Prop where
  p : IsG B b gg cap s M W
  a : AtV W q (gA M.g) 62
  e : AtV W w.heap.size #[.int .i64 0, .int .i64 0] 66
  f : FG B b gg w W
  n1 : w.heap.size ≠ b
  n2 : w.heap.size ≠ gg
  sz : B ≤ w.heap.size
  q1 : w.heap.size < q
theorem Sg.of {B b gg cap : Nat} {s : ByteArray} {M : Mc} {w w1 : World} (h : IsG B b gg cap s M w) (hb : Below (w.alloc (.cells #[.int .i64 0, .int .i64 0] 66)).heap.size (w.alloc (.cells #[.int .i64 0, .int .i64 0] 66)) w1) : Sg B b gg cap w1.heap.size s M w (w1.alloc (.cells (gA M.g) 62)) := by
  have hl := h.lt
  have p0 : IsG B b gg cap s M (w.alloc (.cells #[.int .i64 0, .int .i64 0] 66)) := h.mono (bel_up _ _)
  have hs := hb.size
  rw [World.size_alloc] at hs
  exact ⟨(p0.mono hb).mono (bel_up _ _), AtV.new _ _ _, ((AtV.new w _ 66).mono hb).up _, (FG.of (bel_up _ _) h.sz).trans (FG.of (below_trans hb (bel_up _ _)) p0.sz), by omega, by omega, h.sz, by omega⟩
theorem Sg.err {B b gg cap q : Nat} {s : ByteArray} {M : Mc} {w W : World} (h : Sg B b gg cap q s M w W) (hg : IsG B b gg cap s M w) (x y : Value) : FR B b w ((W.setCell ⟨w.heap.size, 0, none⟩ x).setCell ⟨w.heap.size, 1, none⟩ y) :=
  ((h.f.asideq (Nat.le_refl _) h.sz 0 _).asideq (Nat.le_refl _) h.sz 1 _).toFR hg
set_option maxRecDepth 100000 in
set_option maxHeartbeats 8000000 in
theorem sign_deep (B b gg cap : Nat) (s : ByteArray) (M : Mc) (w : World) (h : IsG B b gg cap s M w) (hst : M.st.length = 128) : RS B b s M 40 w := by
  have T := rtop_any B b gg cap s M.i M.out M.g M.st _ (h.mono (bel_up w (.cells #[.int .i64 0, .int .i64 0] 66))) (by omega)
  have S0 := fun w1 hb => Sg.of (w1 := w1) h hb
  have HG : Hid _ := h
  have HR : Hid (msg 40 M = .error (42, M.i)) := (by unfold msg; rw [if_pos rfl, if_pos (by omega)] : msg 40 M = .error (42, M.i))
  have HST : Hid _ := hst
  clear h hst
  go_enter Try.func40, Try.ntmps40
  go_wp2_with fail
  refine T.mono ?_
  clear T
  rintro e w1 ⟨rfl, hb1⟩
  have s0 := S0 w1 hb1
  have S1 : Hid _ := s0
  clear hb1 S0 s0
  go_upto_region 3 with fail
  obtain ⟨q, hq⟩ : ∃ q, w1.heap.size = q := ⟨_, rfl⟩
  obtain ⟨W1, hW1⟩ : ∃ W1, w1.alloc (.cells (gA M.g) 62) = W1 := ⟨_, rfl⟩
  have hW2 : w1.alloc (.cells #[.int .i64 M.g.alt, .int .i64 M.g.cat, .int .i64 M.g.part] 62) = W1 := hW1
  rw [hW1, hq] at S1
  rw [hW2, hq]
  clear hW1 hW2 hq
  obtain ⟨c0, c1, c3, cf⟩ := S1.out.p.cells
  obtain ⟨e0, e1, ef⟩ := S1.out.e.c2
  rw [HST.out] at c3
  go_wp2_with fail
  refine bodyPost_ret (v := errV 42 (M.i : Int)) ?_ rfl (SRes.bad HR.out ?_)
  · rw [results_cell1 rfl]; go_simp
  · exact S1.out.err HG.out _ _
theorem IsR.aside {B b : Nat} {s : ByteArray} {M : Mc} {w : World} (h : IsR B b s M w) {q : Nat} {vs : Array Value} {t : TypeId} (hq : AtV w q vs t) (h1 : q ≠ b) (h3 : t ≠ 34) (h4 : t ≠ 62) (j : Nat) (x : Value) : IsR B b s M (w.setCell ⟨q, j, none⟩ x) := by
  obtain ⟨gg, cap, hg⟩ := h.toG
  refine (hg.aside hq h1 ?_ h3 j x).toR
  intro e
  subst e
  obtain ⟨_, cs, hh⟩ := own_heap hg.u
  have := hq.h
  rw [hh] at this
  injection this with this
  injection this with _ h5 _
  exact h4 h5.symm
/-- A group is opened. -/
theorem IsG.push {B b gg cap : Nat} {s : ByteArray} {i : Nat} {o : List Nd} {g : Grp} {st : List Grp} {W W' : World} {v1 : Value} (h : IsG B b gg cap s ⟨i, o, g, st⟩ W) (hg : W.grownBy W' (some gg)) (ho : W'.ownsRow B 62 3 v1 (st.length + 1 + 1) (gcs st.reverse ++ gc g ++ gc frG)) : IsR B b s ⟨i, o, frG, g :: st⟩ (W'.setCell ⟨b, 3, none⟩ v1) ∧ FR B b W (W'.setCell ⟨b, 3, none⟩ v1) := by
  obtain ⟨v, hv, hn⟩ := h.h
  have hl := h.lt
  obtain ⟨_, cs, hh⟩ := own_heap h.u
  have hv' : W'.heap[b]? = some (.cells #[.string s, .int .i64 (i : Int), v, .slice (some ⟨gg, 0, none⟩) (st.length + 1) cap] 65 (0, 0)) := by
    rw [hg.block b hl.1 (fun e => hl.2.2.2 (by injection e with e; exact e.symm))]
    exact hv
  have hn' : W'.ownsRow B 34 7 v o.length (ncs o) := hn.kept hg (Or.inr (own_ne hn hh (by decide)))
  have hbel : Below B W W' := (Below.refl B W).grown hg h.sz (fun q hq => by injection hq with hq; rw [← hq]; exact hl.2.2.1)
  obtain ⟨g', cap', hv1, _⟩ := own_form ho (by omega)
  subst hv1
  refine ⟨⟨h.le, ?_, v, g', cap', ?_, ?_, ?_⟩, ?_⟩
  · have := hbel.size
    have := h.sz
    simp
    omega
  · simp [World.setCell, Array.getElem?_modify, hv']
  · exact own_set hn' hv' (by decide)
  · have e : gcs (g :: st).reverse ++ gc frG = gcs st.reverse ++ gc g ++ gc frG := by rw [List.reverse_cons, gcs_app, gcs_one]
    dsimp only
    rw [e]
    exact own_set ho hv' (by decide)
  · refine (FR.trans ⟨hbel, ?_⟩ (FR.set W' 3 _ h.le))
    intro k vs t fz h1 h2 h3 h4
    rw [hg.block k (lt_of_heap h1) (fun e => ?_)]
    · exact h1
    · injection e with e
      subst e
      rw [hh] at h1
      injection h1 with h1
      injection h1 with _ h5 _
      exact h4 h5.symm
theorem info62 : (Try.prog.info? 62).map (fun i => (i.zero, i.size, i.bytes)) = some (some (.agg #[.int .i64 0, .int .i64 0, .int .i64 0]), 3, 24) := by kernel_rfl
theorem cell3_new (w : World) (x y z : Value) (t : TypeId) : ∀ j u, [x, y, z][j]? = some u → (w.alloc (.cells #[x, y, z] t)).cell? ((⟨w.heap.size, 0, none⟩ : Addr).add j) = some u := by
  have h := (AtV.new w #[x, y, z] t).h
  intro j u hu
  have hadd : (⟨w.heap.size, 0, none⟩ : Addr).add j = ⟨w.heap.size, j, none⟩ := by unfold Addr.add; split <;> simp_all
  rw [hadd, Lib.cell_of_heap h]
  simpa using hu
set_option maxRecDepth 100000 in
set_option maxHeartbeats 8000000 in
theorem sign_open (B b gg cap : Nat) (s : ByteArray) (M : Mc) (w : World) (h : IsG B b gg cap s M w) (hst : M.st.length < 128) (hl : M.out.length ≤ 2300000000000) (hi : M.i < 2000000000000) : RS B b s M 40 w := by
  have T := rtop_any B b gg cap s M.i M.out M.g M.st _ (h.mono (bel_up w (.cells #[.int .i64 0, .int .i64 0] 66))) (by omega)
  have S0 := fun w1 hb => Sg.of (w1 := w1) h hb
  have HG : Hid _ := h
  have HR0 : Hid (msg 40 M = .ok ⟨M.i + 1, (stl M.out M.g).1, frG, (stl M.out M.g).2 :: M.st⟩) := (by unfold msg; rw [if_pos rfl, if_neg (by omega)] : msg 40 M = .ok ⟨M.i + 1, (stl M.out M.g).1, frG, (stl M.out M.g).2 :: M.st⟩)
  have HST : Hid _ := hst
  have HL : Hid _ := hl
  have HI : Hid _ := hi
  clear h hst hl hi
  go_enter Try.func40, Try.ntmps40
  go_wp2_with fail
  refine T.mono ?_
  clear T
  rintro e w1 ⟨rfl, hb1⟩
  have s0 := S0 w1 hb1
  have S1 : Hid _ := s0
  clear hb1 S0 s0
  go_upto_region 3 with fail
  obtain ⟨q, hq⟩ : ∃ q, w1.heap.size = q := ⟨_, rfl⟩
  obtain ⟨W1, hW1⟩ : ∃ W1, w1.alloc (.cells (gA M.g) 62) = W1 := ⟨_, rfl⟩
  have hW2 : w1.alloc (.cells #[.int .i64 M.g.alt, .int .i64 M.g.cat, .int .i64 M.g.part] 62) = W1 := hW1
  rw [hW1, hq] at S1
  rw [hW2, hq]
  clear hW1 hW2 hq
  obtain ⟨c0, c1, c3, cf⟩ := S1.out.p.cells
  obtain ⟨n, hn⟩ : ∃ n, M.st.length + 1 = n := ⟨_, rfl⟩
  rw [hn] at c3
  have hnI : decide ((128 : Int) < (n : Int)) = false := by have := HST.out; rw [decide_eq_false_iff_not]; omega
  have HN : Hid _ := hn
  have T2 := settle_any B b gg cap s M.i M.out M.g M.st W1 S1.out.p (by have := HST.out; omega) (by have := HL.out; omega)
  obtain ⟨o2, g2, hstl⟩ : ∃ o2 g2, stl M.out M.g = (o2, g2) := ⟨_, _, rfl⟩
  rw [hstl] at T2 HR0
  dsimp only at T2
  clear hn hstl
  go_wp2_with fail
  refine T2.mono ?_
  clear T2
  rintro e w2 ⟨rfl, p2, f2⟩
  have E2 : Hid _ := S1.out.e.fg f2 S1.out.n1 S1.out.n2 (by decide)
  have F2 : Hid _ := S1.out.f.trans f2
  have P2 : Hid (IsG B b gg cap s ⟨M.i, o2, g2, M.st⟩ (w2.alloc (.cells #[.int .i64 (-1), .int .i64 (-1), .int .i64 (-1)] 62))) := p2.mono (bel_up _ _)
  have F3 : Hid (FG B b gg w (w2.alloc (.cells #[.int .i64 (-1), .int .i64 (-1), .int .i64 (-1)] 62))) := F2.out.trans (FG.of (bel_up _ _) p2.sz)
  have E3 : Hid (AtV (w2.alloc (.cells #[.int .i64 (-1), .int .i64 (-1), .int .i64 (-1)] 62)) w.heap.size #[.int .i64 0, .int .i64 0] 66) := E2.out.up _
  obtain ⟨i62, hi62, hz62, hs62, hy62⟩ := info_parts info62
  have hO : Hid ((w2.alloc (.cells #[.int .i64 (-1), .int .i64 (-1), .int .i64 (-1)] 62)).ownsRow B 62 3 (.slice (some ⟨gg, 0, none⟩) n cap) n (gcs M.st.reverse ++ gc g2)) := by
    have := P2.out.u
    dsimp only at this
    rw [HN.out] at this
    exact this
  clear c0 c1 c3 cf hnI
  obtain ⟨c0, c1, c3, cf⟩ := p2.cells
  dsimp only at c1 c3
  rw [HN.out] at c3
  have hn8 : n ≤ 1000 := by have := HST.out; have := HN.out; omega
  clear p2 f2 E2 F2
  have hbase : B ≤ (w2.alloc (.cells #[.int .i64 (-1), .int .i64 (-1), .int .i64 (-1)] 62)).heap.size := P2.out.sz
  go_wp2_with (at_builtin; refine wpList_append_own _ rfl (.tmp 40) (.tmp 42) 63 rfl B 62 i62 (.agg #[.int .i64 0, .int .i64 0, .int .i64 0]) 3 24 Try.underlying63 hi62 hz62 hs62 hy62 rfl (by decide) _ _ _ rfl hO.out ⟨w2.heap.size, 0, none⟩ 1 1 [.int .i64 (-1), .int .i64 (-1), .int .i64 (-1)] rfl rfl ?c1 ?c2 ?c3 ?c4 ?c5 ?_)
  case c1 => exact cell3_new _ _ _ _ _
  case c2 => intro y hy; simp at hy; rcases hy with rfl | rfl | rfl <;> rfl
  case c3 => unfold maxLen; omega
  case c4 => omega
  case c5 => exact hbase
  intro v1 w8 hown1 hgrow1 _
  rw [← HN.out, ← List.append_assoc] at hown1
  obtain ⟨p9, f9⟩ := P2.out.push hgrow1 hown1
  have P9 : Hid _ := p9
  have F9 : Hid _ := f9
  have E9 : Hid _ := E3.out.fr_ f9 S1.out.n1 (by decide) (by decide)
  obtain ⟨g', cap', hv1, _⟩ := own_form hown1 (by omega)
  have hb8 : ∃ u v, w8.heap[b]? = some (.cells #[.string s, .int .i64 (M.i : Int), u, v] 65 (0, 0)) := by
    obtain ⟨v, hv, _⟩ := P2.out.h
    refine ⟨v, .slice (some ⟨gg, 0, none⟩) (M.st.length + 1) cap, ?_⟩
    rw [hgrow1.block b P2.out.lt.1 (fun e => P2.out.lt.2.2.2 (by injection e with e; exact e.symm))]
    exact hv
  obtain ⟨u8, v8, hb8⟩ := hb8
  have k1 : w8.cell? ⟨b, 1, none⟩ = some (.int .i64 (M.i : Int)) := by rw [Lib.cell_of_heap hb8]; rfl
  have k3 : w8.cell? ⟨b, 3, none⟩ = some v8 := by rw [Lib.cell_of_heap hb8]; rfl
  have kf : ∀ o, w8.frozen? ⟨b, o, none⟩ = false := fun o => Lib.frozen_of_heap hb8 o
  have e8 : AtV w8 w.heap.size #[.int .i64 0, .int .i64 0] 66 := by
    refine ⟨?_⟩
    have := E9.out.h
    rw [Below.heap_setCell _ _ _ _ (fun e => S1.out.n1 e)] at this
    exact this
  obtain ⟨x0, x1, xf⟩ := e8.c2
  have nb1 : ¬ w.heap.size = b := S1.out.n1
  have nb2 : ¬ b = w.heap.size := fun e => S1.out.n1 e.symm
  have hwi := w64 M.i (by have := HI.out; omega)
  subst hv1
  clear hown1 hgrow1 p9 f9 hb8 e8 hO hbase hi62 hz62 hs62 hy62 c0 c1 c3 cf hn8 P2
  go_wp2_with fail
  refine bodyPost_ret (v := errV 0 0) ?_ rfl (SRes.good HR0.out ?_ ?_)
  · rw [results_cell1 rfl]; go_simp
  · have e1 : ((M.i : Int) + 1) = ((M.i + 1 : Nat) : Int) := by omega
    rw [e1]
    exact ((P9.out.at_ (M.i + 1)).aside (E9.out.aside S1.out.n1 1 _) S1.out.n1 (by decide) (by decide) 0 _).aside ((E9.out.aside S1.out.n1 1 _).put 0 _) S1.out.n1 (by decide) (by decide) 1 _
  · exact ((((F3.out.toFR HG.out).trans F9.out).trans (FR.set _ _ _ HG.out.le)).asideq (Nat.le_refl _) S1.out.sz 0 _).asideq (Nat.le_refl _) S1.out.sz 1 _
end Go.Proofs.Ytkjcnnecdclgfaa
namespace Go.Proofs.Ytkjcnnecdclgfaa
open Go.RowKit
set_option maxRecDepth 100000 in
set_option maxHeartbeats 8000000 in
theorem sign_close (B b gg cap : Nat) (s : ByteArray) (M : Mc) (w : World) (h : IsG B b gg cap s M w) (hst : M.st.length ≤ 128) (hl : M.out.length ≤ 2300000000000) (hi : M.i < 2000000000000) : RS B b s M 41 w := by
  have T := rtop_any B b gg cap s M.i M.out M.g M.st _ (h.mono (bel_up w (.cells #[.int .i64 0, .int .i64 0] 66))) (by omega)
  have S0 := fun w1 hb => Sg.of (w1 := w1) h hb
  have HG : Hid _ := h
  have HR : Hid (msg 41 M = mcl M) := (by unfold msg; rw [if_neg (by decide), if_pos rfl] : msg 41 M = mcl M)
  have HST : Hid _ := hst
  have HL : Hid _ := hl
  have HI : Hid _ := hi
  clear h hst hl hi
  go_enter Try.func40, Try.ntmps40
  go_wp2_with fail
  refine T.mono ?_
  clear T
  rintro e w1 ⟨rfl, hb1⟩
  have s0 := S0 w1 hb1
  have S1 : Hid _ := s0
  clear hb1 S0 s0
  go_upto_region 3 with fail
  obtain ⟨q, hq⟩ : ∃ q, w1.heap.size = q := ⟨_, rfl⟩
  obtain ⟨W1, hW1⟩ : ∃ W1, w1.alloc (.cells (gA M.g) 62) = W1 := ⟨_, rfl⟩
  have hW2 : w1.alloc (.cells #[.int .i64 M.g.alt, .int .i64 M.g.cat, .int .i64 M.g.part] 62) = W1 := hW1
  rw [hW1, hq] at S1
  rw [hW2, hq]
  clear hW1 hW2 hq
  obtain ⟨a0, a1, a2, af⟩ := S1.out.a.c3
  have nb1 : ¬ w.heap.size = b := S1.out.n1
  have nb2 : ¬ b = w.heap.size := fun e => S1.out.n1 e.symm
  clear a0 a1 a2 af
  go_wp2_with fail
  refine (closes_any B b gg cap s M _ S1.out.p HST.out HL.out HI.out).mono ?_
  intro e w2 hr
  unfold SRes at hr
  obtain ⟨hr, f2⟩ := hr
  have E2 : Hid _ := S1.out.e.fr_ f2 S1.out.n1 (by decide) (by decide)
  have F2 : Hid _ := (S1.out.f.toFR HG.out).trans f2
  clear f2
  obtain ⟨e0, e1, ef⟩ := E2.out.c2
  cases hm : mcl M with
  | ok M2 =>
    rw [hm] at hr
    obtain ⟨rfl, p2⟩ := hr
    have P2 : Hid _ := p2
    have HM : Hid (msg 41 M = .ok M2) := HR.out.trans hm
    clear p2 hm
    go_wp2_with fail
    refine bodyPost_ret (v := errV 0 0) ?_ rfl (SRes.good HM.out ?_ ?_)
    · rw [results_cell1 rfl]; go_simp
    · exact (P2.out.aside E2.out S1.out.n1 (by decide) (by decide) 0 _).aside (E2.out.put 0 _) S1.out.n1 (by decide) (by decide) 1 _
    · exact (F2.out.asideq (Nat.le_refl _) S1.out.sz 0 _).asideq (Nat.le_refl _) S1.out.sz 1 _
  | error ce =>
    obtain ⟨c, p⟩ := ce
    rw [hm] at hr
    dsimp only at hr
    subst hr
    have HM : Hid (msg 41 M = .error (c, p)) := HR.out.trans hm
    clear hm
    go_wp2_with fail
    refine bodyPost_ret (v := errV c (p : Int)) ?_ rfl (SRes.bad HM.out ?_)
    · rw [results_cell1 rfl]; go_simp
    · exact (F2.out.asideq (Nat.le_refl _) S1.out.sz 0 _).asideq (Nat.le_refl _) S1.out.sz 1 _
set_option maxRecDepth 100000 in
set_option maxHeartbeats 8000000 in
theorem sign_none124 (B b gg cap : Nat) (s : ByteArray) (M : Mc) (hp : M.g.part < 0) (w : World) (h : IsG B b gg cap s M w) (hst : M.st.length ≤ 128) (hl : M.out.length ≤ 2300000000000) (hi : M.i < 2000000000000) : RS B b s M 124 w := by
  have T := rtop_any B b gg cap s M.i M.out M.g M.st _ (h.mono (bel_up w (.cells #[.int .i64 0, .int .i64 0] 66))) (by omega)
  have S0 := fun w1 hb => Sg.of (w1 := w1) h hb
  have HG : Hid _ := h
  have HR : Hid (msg 124 M = .error (40, M.i)) := (by unfold msg; rw [if_neg (by decide), if_neg (by decide), if_pos hp] : msg 124 M = .error (40, M.i))
  have hpI : decide (M.g.part < 0) = true := decide_eq_true hp
  clear hp
  have HST : Hid _ := hst
  have HL : Hid _ := hl
  have HI : Hid _ := hi
  clear h hst hl hi
  go_enter Try.func40, Try.ntmps40
  go_wp2_with fail
  refine T.mono ?_
  clear T
  rintro e w1 ⟨rfl, hb1⟩
  have s0 := S0 w1 hb1
  have S1 : Hid _ := s0
  clear hb1 S0 s0
  go_upto_region 3 with fail
  obtain ⟨q, hq⟩ : ∃ q, w1.heap.size = q := ⟨_, rfl⟩
  obtain ⟨W1, hW1⟩ : ∃ W1, w1.alloc (.cells (gA M.g) 62) = W1 := ⟨_, rfl⟩
  have hW2 : w1.alloc (.cells #[.int .i64 M.g.alt, .int .i64 M.g.cat, .int .i64 M.g.part] 62) = W1 := hW1
  rw [hW1, hq] at S1
  rw [hW2, hq]
  clear hW1 hW2 hq
  obtain ⟨a0, a1, a2, af⟩ := S1.out.a.c3
  have nb1 : ¬ w.heap.size = b := S1.out.n1
  have nb2 : ¬ b = w.heap.size := fun e => S1.out.n1 e.symm
  obtain ⟨c0, c1, c3, cf⟩ := S1.out.p.cells
  obtain ⟨e0, e1, ef⟩ := S1.out.e.c2
  go_wp2_with fail
  refine bodyPost_ret (v := errV 40 (M.i : Int)) ?_ rfl (SRes.bad HR.out ?_)
  · rw [results_cell1 rfl]; go_simp
  · exact S1.out.err HG.out _ _
set_option maxRecDepth 100000 in
set_option maxHeartbeats 8000000 in
theorem sign_none42 (B b gg cap : Nat) (s : ByteArray) (M : Mc) (hp : M.g.part < 0) (w : World) (h : IsG B b gg cap s M w) (hst : M.st.length ≤ 128) (hl : M.out.length ≤ 2300000000000) (hi : M.i < 2000000000000) : RS B b s M 42 w := by
  have T := rtop_any B b gg cap s M.i M.out M.g M.st _ (h.mono (bel_up w (.cells #[.int .i64 0, .int .i64 0] 66))) (by omega)
  have S0 := fun w1 hb => Sg.of (w1 := w1) h hb
  have HG : Hid _ := h
  have HR : Hid (msg 42 M = .error (40, M.i)) := (by unfold msg; rw [if_neg (by decide), if_neg (by decide), if_pos hp] : msg 42 M = .error (40, M.i))
  have hpI : decide (M.g.part < 0) = true := decide_eq_true hp
  clear hp
  have HST : Hid _ := hst
  have HL : Hid _ := hl
  have HI : Hid _ := hi
  clear h hst hl hi
  go_enter Try.func40, Try.ntmps40
  go_wp2_with fail
  refine T.mono ?_
  clear T
  rintro e w1 ⟨rfl, hb1⟩
  have s0 := S0 w1 hb1
  have S1 : Hid _ := s0
  clear hb1 S0 s0
  go_upto_region 3 with fail
  obtain ⟨q, hq⟩ : ∃ q, w1.heap.size = q := ⟨_, rfl⟩
  obtain ⟨W1, hW1⟩ : ∃ W1, w1.alloc (.cells (gA M.g) 62) = W1 := ⟨_, rfl⟩
  have hW2 : w1.alloc (.cells #[.int .i64 M.g.alt, .int .i64 M.g.cat, .int .i64 M.g.part] 62) = W1 := hW1
  rw [hW1, hq] at S1
  rw [hW2, hq]
  clear hW1 hW2 hq
  obtain ⟨a0, a1, a2, af⟩ := S1.out.a.c3
  have nb1 : ¬ w.heap.size = b := S1.out.n1
  have nb2 : ¬ b = w.heap.size := fun e => S1.out.n1 e.symm
  obtain ⟨c0, c1, c3, cf⟩ := S1.out.p.cells
  obtain ⟨e0, e1, ef⟩ := S1.out.e.c2
  go_wp2_with fail
  refine bodyPost_ret (v := errV 40 (M.i : Int)) ?_ rfl (SRes.bad HR.out ?_)
  · rw [results_cell1 rfl]; go_simp
  · exact S1.out.err HG.out _ _
set_option maxRecDepth 100000 in
set_option maxHeartbeats 8000000 in
theorem sign_none43 (B b gg cap : Nat) (s : ByteArray) (M : Mc) (hp : M.g.part < 0) (w : World) (h : IsG B b gg cap s M w) (hst : M.st.length ≤ 128) (hl : M.out.length ≤ 2300000000000) (hi : M.i < 2000000000000) : RS B b s M 43 w := by
  have T := rtop_any B b gg cap s M.i M.out M.g M.st _ (h.mono (bel_up w (.cells #[.int .i64 0, .int .i64 0] 66))) (by omega)
  have S0 := fun w1 hb => Sg.of (w1 := w1) h hb
  have HG : Hid _ := h
  have HR : Hid (msg 43 M = .error (40, M.i)) := (by unfold msg; rw [if_neg (by decide), if_neg (by decide), if_pos hp] : msg 43 M = .error (40, M.i))
  have hpI : decide (M.g.part < 0) = true := decide_eq_true hp
  clear hp
  have HST : Hid _ := hst
  have HL : Hid _ := hl
  have HI : Hid _ := hi
  clear h hst hl hi
  go_enter Try.func40, Try.ntmps40
  go_wp2_with fail
  refine T.mono ?_
  clear T
  rintro e w1 ⟨rfl, hb1⟩
  have s0 := S0 w1 hb1
  have S1 : Hid _ := s0
  clear hb1 S0 s0
  go_upto_region 3 with fail
  obtain ⟨q, hq⟩ : ∃ q, w1.heap.size = q := ⟨_, rfl⟩
  obtain ⟨W1, hW1⟩ : ∃ W1, w1.alloc (.cells (gA M.g) 62) = W1 := ⟨_, rfl⟩
  have hW2 : w1.alloc (.cells #[.int .i64 M.g.alt, .int .i64 M.g.cat, .int .i64 M.g.part] 62) = W1 := hW1
  rw [hW1, hq] at S1
  rw [hW2, hq]
  clear hW1 hW2 hq
  obtain ⟨a0, a1, a2, af⟩ := S1.out.a.c3
  have nb1 : ¬ w.heap.size = b := S1.out.n1
  have nb2 : ¬ b = w.heap.size := fun e => S1.out.n1 e.symm
  obtain ⟨c0, c1, c3, cf⟩ := S1.out.p.cells
  obtain ⟨e0, e1, ef⟩ := S1.out.e.c2
  go_wp2_with fail
  refine bodyPost_ret (v := errV 40 (M.i : Int)) ?_ rfl (SRes.bad HR.out ?_)
  · rw [results_cell1 rfl]; go_simp
  · exact S1.out.err HG.out _ _
set_option maxRecDepth 100000 in
set_option maxHeartbeats 8000000 in
theorem sign_none63 (B b gg cap : Nat) (s : ByteArray) (M : Mc) (hp : M.g.part < 0) (w : World) (h : IsG B b gg cap s M w) (hst : M.st.length ≤ 128) (hl : M.out.length ≤ 2300000000000) (hi : M.i < 2000000000000) : RS B b s M 63 w := by
  have T := rtop_any B b gg cap s M.i M.out M.g M.st _ (h.mono (bel_up w (.cells #[.int .i64 0, .int .i64 0] 66))) (by omega)
  have S0 := fun w1 hb => Sg.of (w1 := w1) h hb
  have HG : Hid _ := h
  have HR : Hid (msg 63 M = .error (40, M.i)) := (by unfold msg; rw [if_neg (by decide), if_neg (by decide), if_pos hp] : msg 63 M = .error (40, M.i))
  have hpI : decide (M.g.part < 0) = true := decide_eq_true hp
  clear hp
  have HST : Hid _ := hst
  have HL : Hid _ := hl
  have HI : Hid _ := hi
  clear h hst hl hi
  go_enter Try.func40, Try.ntmps40
  go_wp2_with fail
  refine T.mono ?_
  clear T
  rintro e w1 ⟨rfl, hb1⟩
  have s0 := S0 w1 hb1
  have S1 : Hid _ := s0
  clear hb1 S0 s0
  go_upto_region 3 with fail
  obtain ⟨q, hq⟩ : ∃ q, w1.heap.size = q := ⟨_, rfl⟩
  obtain ⟨W1, hW1⟩ : ∃ W1, w1.alloc (.cells (gA M.g) 62) = W1 := ⟨_, rfl⟩
  have hW2 : w1.alloc (.cells #[.int .i64 M.g.alt, .int .i64 M.g.cat, .int .i64 M.g.part] 62) = W1 := hW1
  rw [hW1, hq] at S1
  rw [hW2, hq]
  clear hW1 hW2 hq
  obtain ⟨a0, a1, a2, af⟩ := S1.out.a.c3
  have nb1 : ¬ w.heap.size = b := S1.out.n1
  have nb2 : ¬ b = w.heap.size := fun e => S1.out.n1 e.symm
  obtain ⟨c0, c1, c3, cf⟩ := S1.out.p.cells
  obtain ⟨e0, e1, ef⟩ := S1.out.e.c2
  go_wp2_with fail
  refine bodyPost_ret (v := errV 40 (M.i : Int)) ?_ rfl (SRes.bad HR.out ?_)
  · rw [results_cell1 rfl]; go_simp
  · exact S1.out.err HG.out _ _
set_option maxRecDepth 100000 in
set_option maxHeartbeats 8000000 in
theorem sign_bar (B b gg cap : Nat) (s : ByteArray) (M : Mc) (hp : ¬ M.g.part < 0) (w : World) (h : IsG B b gg cap s M w) (hst : M.st.length ≤ 128) (hl : M.out.length ≤ 2300000000000) (hi : M.i < 2000000000000) : RS B b s M 124 w := by
  have T := rtop_any B b gg cap s M.i M.out M.g M.st _ (h.mono (bel_up w (.cells #[.int .i64 0, .int .i64 0] 66))) (by omega)
  have S0 := fun w1 hb => Sg.of (w1 := w1) h hb
  have HG : Hid _ := h
  have HR : Hid (msg 124 M = .ok ⟨M.i + 1, (brn M.out M.g).1, (brn M.out M.g).2, M.st⟩) := (by unfold msg; rw [if_neg (by decide), if_neg (by decide), if_neg hp, if_pos rfl] : msg 124 M = .ok ⟨M.i + 1, (brn M.out M.g).1, (brn M.out M.g).2, M.st⟩)
  have hpI : decide (M.g.part < 0) = false := decide_eq_false hp
  clear hp
  have HST : Hid _ := hst
  have HL : Hid _ := hl
  have HI : Hid _ := hi
  clear h hst hl hi
  go_enter Try.func40, Try.ntmps40
  go_wp2_with fail
  refine T.mono ?_
  clear T
  rintro e w1 ⟨rfl, hb1⟩
  have s0 := S0 w1 hb1
  have S1 : Hid _ := s0
  clear hb1 S0 s0
  go_upto_region 3 with fail
  obtain ⟨q, hq⟩ : ∃ q, w1.heap.size = q := ⟨_, rfl⟩
  obtain ⟨W1, hW1⟩ : ∃ W1, w1.alloc (.cells (gA M.g) 62) = W1 := ⟨_, rfl⟩
  have hW2 : w1.alloc (.cells #[.int .i64 M.g.alt, .int .i64 M.g.cat, .int .i64 M.g.part] 62) = W1 := hW1
  rw [hW1, hq] at S1
  rw [hW2, hq]
  clear hW1 hW2 hq
  obtain ⟨a0, a1, a2, af⟩ := S1.out.a.c3
  have nb1 : ¬ w.heap.size = b := S1.out.n1
  have nb2 : ¬ b = w.heap.size := fun e => S1.out.n1 e.symm
  have BR := branch_any B b gg cap s M.i M.out M.g M.st W1 S1.out.p HST.out HL.out
  obtain ⟨ob, gb, hbr⟩ : ∃ ob gb, brn M.out M.g = (ob, gb) := ⟨_, _, rfl⟩
  rw [hbr] at BR HR
  dsimp only at BR
  clear hbr
  go_wp2_with fail
  refine BR.mono ?_
  clear BR
  rintro e w2 ⟨rfl, p2, f2⟩
  have E2 : Hid _ := S1.out.e.fg f2 S1.out.n1 S1.out.n2 (by decide)
  have F2 : Hid _ := S1.out.f.trans f2
  have P2 : Hid _ := p2
  obtain ⟨c0, c1, c3, cf⟩ := p2.cells
  obtain ⟨e0, e1, ef⟩ := E2.out.c2
  dsimp only at c1
  have hwi := w64 M.i (by have := HI.out; omega)
  clear p2 f2 c3 a0 a1 a2 af
  go_wp2_with fail
  refine bodyPost_ret (v := errV 0 0) ?_ rfl (SRes.good HR.out ?_ ?_)
  · rw [results_cell1 rfl]; go_simp
  · have e1 : ((M.i : Int) + 1) = ((M.i + 1 : Nat) : Int) := by omega
    rw [e1]
    exact (((P2.out.at_ (M.i + 1)).aside (E2.out.aside S1.out.n1 1 _) S1.out.n1 S1.out.n2 (by decide) 0 _).aside ((E2.out.aside S1.out.n1 1 _).put 0 _) S1.out.n1 S1.out.n2 (by decide) 1 _).toR
  · exact (((F2.out.trans (FG.set _ _ _ HG.out.le)).asideq (Nat.le_refl _) S1.out.sz 0 _).asideq (Nat.le_refl _) S1.out.sz 1 _).toFR HG.out
set_option maxRecDepth 100000 in
set_option maxHeartbeats 8000000 in
theorem sign_m42 (B b gg cap : Nat) (s : ByteArray) (M : Mc) (hp : ¬ M.g.part < 0) (w : World) (h : IsG B b gg cap s M w) (hst : M.st.length ≤ 128) (hl : M.out.length ≤ 2300000000000) (hi : M.i < 2000000000000) : RS B b s M 42 w := by
  have T := rtop_any B b gg cap s M.i M.out M.g M.st _ (h.mono (bel_up w (.cells #[.int .i64 0, .int .i64 0] 66))) (by omega)
  have S0 := fun w1 hb => Sg.of (w1 := w1) h hb
  have HG : Hid _ := h
  have HR : Hid (msg 42 M = .ok ⟨M.i + 1, M.out ++ [zn 5 M.g.part (-1)], ⟨M.g.alt, M.g.cat, (M.out.length : Int)⟩, M.st⟩) := (by unfold msg; rw [if_neg (by decide), if_neg (by decide), if_neg hp, if_neg (by decide)]; rfl : msg 42 M = .ok ⟨M.i + 1, M.out ++ [zn 5 M.g.part (-1)], ⟨M.g.alt, M.g.cat, (M.out.length : Int)⟩, M.st⟩)
  have hpI : decide (M.g.part < 0) = false := decide_eq_false hp
  clear hp
  have HST : Hid _ := hst
  have HL : Hid _ := hl
  have HI : Hid _ := hi
  clear h hst hl hi
  go_enter Try.func40, Try.ntmps40
  go_wp2_with fail
  refine T.mono ?_
  clear T
  rintro e w1 ⟨rfl, hb1⟩
  have s0 := S0 w1 hb1
  have S1 : Hid _ := s0
  clear hb1 S0 s0
  go_upto_region 3 with fail
  obtain ⟨q, hq⟩ : ∃ q, w1.heap.size = q := ⟨_, rfl⟩
  obtain ⟨W1, hW1⟩ : ∃ W1, w1.alloc (.cells (gA M.g) 62) = W1 := ⟨_, rfl⟩
  have hW2 : w1.alloc (.cells #[.int .i64 M.g.alt, .int .i64 M.g.cat, .int .i64 M.g.part] 62) = W1 := hW1
  rw [hW1, hq] at S1
  rw [hW2, hq]
  clear hW1 hW2 hq
  obtain ⟨a0, a1, a2, af⟩ := S1.out.a.c3
  have nb1 : ¬ w.heap.size = b := S1.out.n1
  have nb2 : ¬ b = w.heap.size := fun e => S1.out.n1 e.symm
  go_wp2_with fail
  refine (node0_any B b gg cap s M.i M.out M.g M.st 5 M.g.part (-1) _ S1.out.p (by have := HL.out; omega)).mono ?_
  rintro e w2 ⟨rfl, p2, f2⟩
  have E2 : Hid _ := S1.out.e.fg f2 S1.out.n1 S1.out.n2 (by decide)
  have F2 : Hid _ := S1.out.f.trans f2
  have P2 : Hid _ := p2
  clear p2 f2 a0 a1 a2 af
  go_wp2_with fail
  refine (rpart_any B b gg cap s M.i _ M.g M.st _ _ P2.out HST.out).mono ?_
  rintro e w3 ⟨rfl, p3, f3⟩
  have E3 : Hid _ := E2.out.fg f3 S1.out.n1 S1.out.n2 (by decide)
  have F3 : Hid _ := F2.out.trans f3
  have P3 : Hid _ := p3
  obtain ⟨c0, c1, c3, cf⟩ := p3.cells
  obtain ⟨e0, e1, ef⟩ := E3.out.c2
  dsimp only at c1
  have hwi := w64 M.i (by have := HI.out; omega)
  clear p3 f3 c3 E2 F2 P2
  go_wp2_with fail
  refine bodyPost_ret (v := errV 0 0) ?_ rfl (SRes.good HR.out ?_ ?_)
  · rw [results_cell1 rfl]; go_simp
  · have e1 : ((M.i : Int) + 1) = ((M.i + 1 : Nat) : Int) := by omega
    rw [e1]
    exact (((P3.out.at_ (M.i + 1)).aside (E3.out.aside S1.out.n1 1 _) S1.out.n1 S1.out.n2 (by decide) 0 _).aside ((E3.out.aside S1.out.n1 1 _).put 0 _) S1.out.n1 S1.out.n2 (by decide) 1 _).toR
  · exact (((F3.out.trans (FG.set _ _ _ HG.out.le)).asideq (Nat.le_refl _) S1.out.sz 0 _).asideq (Nat.le_refl _) S1.out.sz 1 _).toFR HG.out
set_option maxRecDepth 100000 in
set_option maxHeartbeats 8000000 in
theorem sign_m43 (B b gg cap : Nat) (s : ByteArray) (M : Mc) (hp : ¬ M.g.part < 0) (w : World) (h : IsG B b gg cap s M w) (hst : M.st.length ≤ 128) (hl : M.out.length ≤ 2300000000000) (hi : M.i < 2000000000000) : RS B b s M 43 w := by
  have T := rtop_any B b gg cap s M.i M.out M.g M.st _ (h.mono (bel_up w (.cells #[.int .i64 0, .int .i64 0] 66))) (by omega)
  have S0 := fun w1 hb => Sg.of (w1 := w1) h hb
  have HG : Hid _ := h
  have HR : Hid (msg 43 M = .ok ⟨M.i + 1, M.out ++ [zn 6 M.g.part (-1)], ⟨M.g.alt, M.g.cat, (M.out.length : Int)⟩, M.st⟩) := (by unfold msg; rw [if_neg (by decide), if_neg (by decide), if_neg hp, if_neg (by decide)]; rfl : msg 43 M = .ok ⟨M.i + 1, M.out ++ [zn 6 M.g.part (-1)], ⟨M.g.alt, M.g.cat, (M.out.length : Int)⟩, M.st⟩)
  have hpI : decide (M.g.part < 0) = false := decide_eq_false hp
  clear hp
  have HST : Hid _ := hst
  have HL : Hid _ := hl
  have HI : Hid _ := hi
  clear h hst hl hi
  go_enter Try.func40, Try.ntmps40
  go_wp2_with fail
  refine T.mono ?_
  clear T
  rintro e w1 ⟨rfl, hb1⟩
  have s0 := S0 w1 hb1
  have S1 : Hid _ := s0
  clear hb1 S0 s0
  go_upto_region 3 with fail
  obtain ⟨q, hq⟩ : ∃ q, w1.heap.size = q := ⟨_, rfl⟩
  obtain ⟨W1, hW1⟩ : ∃ W1, w1.alloc (.cells (gA M.g) 62) = W1 := ⟨_, rfl⟩
  have hW2 : w1.alloc (.cells #[.int .i64 M.g.alt, .int .i64 M.g.cat, .int .i64 M.g.part] 62) = W1 := hW1
  rw [hW1, hq] at S1
  rw [hW2, hq]
  clear hW1 hW2 hq
  obtain ⟨a0, a1, a2, af⟩ := S1.out.a.c3
  have nb1 : ¬ w.heap.size = b := S1.out.n1
  have nb2 : ¬ b = w.heap.size := fun e => S1.out.n1 e.symm
  go_wp2_with fail
  refine (node0_any B b gg cap s M.i M.out M.g M.st 6 M.g.part (-1) _ S1.out.p (by have := HL.out; omega)).mono ?_
  rintro e w2 ⟨rfl, p2, f2⟩
  have E2 : Hid _ := S1.out.e.fg f2 S1.out.n1 S1.out.n2 (by decide)
  have F2 : Hid _ := S1.out.f.trans f2
  have P2 : Hid _ := p2
  clear p2 f2 a0 a1 a2 af
  go_wp2_with fail
  refine (rpart_any B b gg cap s M.i _ M.g M.st _ _ P2.out HST.out).mono ?_
  rintro e w3 ⟨rfl, p3, f3⟩
  have E3 : Hid _ := E2.out.fg f3 S1.out.n1 S1.out.n2 (by decide)
  have F3 : Hid _ := F2.out.trans f3
  have P3 : Hid _ := p3
  obtain ⟨c0, c1, c3, cf⟩ := p3.cells
  obtain ⟨e0, e1, ef⟩ := E3.out.c2
  dsimp only at c1
  have hwi := w64 M.i (by have := HI.out; omega)
  clear p3 f3 c3 E2 F2 P2
  go_wp2_with fail
  refine bodyPost_ret (v := errV 0 0) ?_ rfl (SRes.good HR.out ?_ ?_)
  · rw [results_cell1 rfl]; go_simp
  · have e1 : ((M.i : Int) + 1) = ((M.i + 1 : Nat) : Int) := by omega
    rw [e1]
    exact (((P3.out.at_ (M.i + 1)).aside (E3.out.aside S1.out.n1 1 _) S1.out.n1 S1.out.n2 (by decide) 0 _).aside ((E3.out.aside S1.out.n1 1 _).put 0 _) S1.out.n1 S1.out.n2 (by decide) 1 _).toR
  · exact (((F3.out.trans (FG.set _ _ _ HG.out.le)).asideq (Nat.le_refl _) S1.out.sz 0 _).asideq (Nat.le_refl _) S1.out.sz 1 _).toFR HG.out
set_option maxRecDepth 100000 in
set_option maxHeartbeats 8000000 in
theorem sign_m63 (B b gg cap : Nat) (s : ByteArray) (M : Mc) (hp : ¬ M.g.part < 0) (w : World) (h : IsG B b gg cap s M w) (hst : M.st.length ≤ 128) (hl : M.out.length ≤ 2300000000000) (hi : M.i < 2000000000000) : RS B b s M 63 w := by
  have T := rtop_any B b gg cap s M.i M.out M.g M.st _ (h.mono (bel_up w (.cells #[.int .i64 0, .int .i64 0] 66))) (by omega)
  have S0 := fun w1 hb => Sg.of (w1 := w1) h hb
  have HG : Hid _ := h
  have HR : Hid (msg 63 M = .ok ⟨M.i + 1, M.out ++ [zn 7 M.g.part (-1)], ⟨M.g.alt, M.g.cat, (M.out.length : Int)⟩, M.st⟩) := (by unfold msg; rw [if_neg (by decide), if_neg (by decide), if_neg hp, if_neg (by decide)]; rfl : msg 63 M = .ok ⟨M.i + 1, M.out ++ [zn 7 M.g.part (-1)], ⟨M.g.alt, M.g.cat, (M.out.length : Int)⟩, M.st⟩)
  have hpI : decide (M.g.part < 0) = false := decide_eq_false hp
  clear hp
  have HST : Hid _ := hst
  have HL : Hid _ := hl
  have HI : Hid _ := hi
  clear h hst hl hi
  go_enter Try.func40, Try.ntmps40
  go_wp2_with fail
  refine T.mono ?_
  clear T
  rintro e w1 ⟨rfl, hb1⟩
  have s0 := S0 w1 hb1
  have S1 : Hid _ := s0
  clear hb1 S0 s0
  go_upto_region 3 with fail
  obtain ⟨q, hq⟩ : ∃ q, w1.heap.size = q := ⟨_, rfl⟩
  obtain ⟨W1, hW1⟩ : ∃ W1, w1.alloc (.cells (gA M.g) 62) = W1 := ⟨_, rfl⟩
  have hW2 : w1.alloc (.cells #[.int .i64 M.g.alt, .int .i64 M.g.cat, .int .i64 M.g.part] 62) = W1 := hW1
  rw [hW1, hq] at S1
  rw [hW2, hq]
  clear hW1 hW2 hq
  obtain ⟨a0, a1, a2, af⟩ := S1.out.a.c3
  have nb1 : ¬ w.heap.size = b := S1.out.n1
  have nb2 : ¬ b = w.heap.size := fun e => S1.out.n1 e.symm
  go_wp2_with fail
  refine (node0_any B b gg cap s M.i M.out M.g M.st 7 M.g.part (-1) _ S1.out.p (by have := HL.out; omega)).mono ?_
  rintro e w2 ⟨rfl, p2, f2⟩
  have E2 : Hid _ := S1.out.e.fg f2 S1.out.n1 S1.out.n2 (by decide)
  have F2 : Hid _ := S1.out.f.trans f2
  have P2 : Hid _ := p2
  clear p2 f2 a0 a1 a2 af
  go_wp2_with fail
  refine (rpart_any B b gg cap s M.i _ M.g M.st _ _ P2.out HST.out).mono ?_
  rintro e w3 ⟨rfl, p3, f3⟩
  have E3 : Hid _ := E2.out.fg f3 S1.out.n1 S1.out.n2 (by decide)
  have F3 : Hid _ := F2.out.trans f3
  have P3 : Hid _ := p3
  obtain ⟨c0, c1, c3, cf⟩ := p3.cells
  obtain ⟨e0, e1, ef⟩ := E3.out.c2
  dsimp only at c1
  have hwi := w64 M.i (by have := HI.out; omega)
  clear p3 f3 c3 E2 F2 P2
  go_wp2_with fail
  refine bodyPost_ret (v := errV 0 0) ?_ rfl (SRes.good HR.out ?_ ?_)
  · rw [results_cell1 rfl]; go_simp
  · have e1 : ((M.i : Int) + 1) = ((M.i + 1 : Nat) : Int) := by omega
    rw [e1]
    exact (((P3.out.at_ (M.i + 1)).aside (E3.out.aside S1.out.n1 1 _) S1.out.n1 S1.out.n2 (by decide) 0 _).aside ((E3.out.aside S1.out.n1 1 _).put 0 _) S1.out.n1 S1.out.n2 (by decide) 1 _).toR
  · exact (((F3.out.trans (FG.set _ _ _ HG.out.le)).asideq (Nat.le_refl _) S1.out.sz 0 _).asideq (Nat.le_refl _) S1.out.sz 1 _).toFR HG.out
theorem sign_any (B b gg cap : Nat) (s : ByteArray) (M : Mc) (x : Nat) (w : World) (h : IsG B b gg cap s M w) (hst : M.st.length ≤ 128) (hl : M.out.length ≤ 2300000000000) (hi : M.i < 2000000000000) (hx : x = 40 ∨ x = 41 ∨ x = 124 ∨ x = 42 ∨ x = 43 ∨ x = 63) : RS B b s M x w := by
  rcases hx with rfl | rfl | hx
  · by_cases h1 : M.st.length = 128
    · exact sign_deep B b gg cap s M w h h1
    · exact sign_open B b gg cap s M w h (by omega) hl hi
  · exact sign_close B b gg cap s M w h hst hl hi
  · by_cases hp : M.g.part < 0
    · rcases hx with rfl | rfl | rfl | rfl
      · exact sign_none124 B b gg cap s M hp w h hst hl hi
      · exact sign_none42 B b gg cap s M hp w h hst hl hi
      · exact sign_none43 B b gg cap s M hp w h hst hl hi
      · exact sign_none63 B b gg cap s M hp w h hst hl hi
    · rcases hx with rfl | rfl | rfl | rfl
      · exact sign_bar B b gg cap s M hp w h hst hl hi
      · exact sign_m42 B b gg cap s M hp w h hst hl hi
      · exact sign_m43 B b gg cap s M hp w h hst hl hi
      · exact sign_m63 B b gg cap s M hp w h hst hl hi
end Go.Proofs.Ytkjcnnecdclgfaa
