import Derived.Test.YtkaciochlemjiabGde
import Derived.Test.YtkaciochlemjiabGpr
import Derived.Test.YtkaciochlemjiabDcs
namespace Go.Proofs.Ytkaciochlemjiab
open Go.RowKit Go.Maps

/-- A part keeps to the limits. -/
def Lpt (s : Stt) : Nat → Prop
  | 0 => s.ind.length ≤ 32 ∧ ∀ x ∈ s.ind, okI 65536 x
  | 1 => -1 ≤ s.pen ∧ s.pen ≤ 65536
  | 2 => s.que.length ≤ 8 ∧ ∀ x ∈ s.que, okT x
  | 3 => s.frm.length ≤ 16 ∧ ∀ x ∈ s.frm, okW x
  | 4 => s.flg ≤ 65535
  | _ => True
/-- What reading a part answers. -/
def Dpr (p B r b : Nat) (d : ByteArray) (s : Stt) (W : World) (e : Ending) (W' : World) : Prop :=
  Below B W W' ∧
  ((∃ s' d' vi vq vf, Nx B W' b vi vq vf s' ∧ Rdr W' r d' ∧ d'.size ≤ d.size ∧ Lpt s' p ∧ d.data.toList = prt s' p ++ d'.data.toList ∧ (∀ q, q < p → prt s' q = prt s q ∧ (Lpt s q → Lpt s' q)) ∧ e = .returned (.int .i64 0)) ∨
   ((∀ s' q, Lpt s' p → d.data.toList ≠ prt s' p ++ q) ∧ e = .returned (.int .i64 65)))
theorem Nx.via {B r b : Nat} {d : ByteArray} {W w2 : World} {vi vq vf : Value} {s : Stt} (h : Nx B W b vi vq vf s) (hr : Rdr W r d) (hbr : b ≠ r) (hg : W.grownBy w2 (some r)) : Nx B w2 b vi vq vf s :=
  ⟨by rw [hg.block b (lt_of_heap h.blk) (by simpa using hbr)]; exact h.blk,
   ⟨h.own.i.kept hg (.inr (tag_ne_blk h.own.i hr (by decide))), h.own.q.kept hg (.inr (tag_ne_blk h.own.q hr (by decide))), h.own.f.kept hg (.inr (tag_ne_blk h.own.f hr (by decide)))⟩, h.lo, Nat.le_trans h.lB hg.size⟩
theorem bel_gb {B r : Nat} {W w2 : World} (hg : W.grownBy w2 (some r)) (hB : B ≤ W.heap.size) (hr : B ≤ r) : Below B W w2 :=
  ⟨hg.os, hg.tape, hg.output, hg.size, fun k hk => hg.block k (by omega) (by simp; omega)⟩
section
variable {B b : Nat} {w : World} {vi vq vf v : Value} {s : Stt}
theorem Nx.put0 (h : Nx B w b vi vq vf s) {B' : Nat} {l : List Int} (hv : w.ownsRow B' 3 1 v l.length (iC l)) (hB : B ≤ B') : Nx B (w.setCell ⟨b, 0, none⟩ v) b v vq vf { s with ind := l } :=
  ⟨by rw [blk_set v h.blk]; rfl, (⟨row_base hv hB, h.own.q, h.own.f⟩ : Own B w v vq vf { s with ind := l }).off h.blk, h.lo, by simp; exact h.lB⟩
theorem Nx.put2 (h : Nx B w b vi vq vf s) {B' : Nat} {l : List ByteArray} (hv : w.ownsRow B' 9 1 v l.length (qC l)) (hB : B ≤ B') : Nx B (w.setCell ⟨b, 2, none⟩ v) b vi v vf { s with que := l } :=
  ⟨by rw [blk_set v h.blk]; rfl, (⟨h.own.i, row_base hv hB, h.own.f⟩ : Own B w vi v vf { s with que := l }).off h.blk, h.lo, by simp; exact h.lB⟩
theorem Nx.put3 (h : Nx B w b vi vq vf s) {B' : Nat} {l : List (Int × ByteArray)} (hv : w.ownsRow B' 42 2 v l.length (fC l)) (hB : B ≤ B') : Nx B (w.setCell ⟨b, 3, none⟩ v) b vi vq v { s with frm := l } :=
  ⟨by rw [blk_set v h.blk]; rfl, (⟨h.own.i, h.own.q, row_base hv hB⟩ : Own B w vi vq v { s with frm := l }).off h.blk, h.lo, by simp; exact h.lB⟩
theorem Nx.put1 (h : Nx B w b vi vq vf s) (x : Int) : Nx B (w.setCell ⟨b, 1, none⟩ (.int .i64 x)) b vi vq vf { s with pen := x } :=
  ⟨by rw [blk_set _ h.blk]; rfl, (⟨h.own.i, h.own.q, h.own.f⟩ : Own B w vi vq vf { s with pen := x }).off h.blk, h.lo, by simp; exact h.lB⟩
theorem Nx.put4 (h : Nx B w b vi vq vf s) (x : Nat) : Nx B (w.setCell ⟨b, 4, none⟩ (.int .u16 (x : Int))) b vi vq vf { s with flg := x } :=
  ⟨by rw [blk_set _ h.blk]; rfl, (⟨h.own.i, h.own.q, h.own.f⟩ : Own B w vi vq vf { s with flg := x }).off h.blk, h.lo, by simp; exact h.lB⟩
end

set_option maxRecDepth 100000 in
set_option maxHeartbeats 8000000 in
theorem rpart0_any {B r b : Nat} {d : ByteArray} {vi vq vf : Value} {s : Stt} (hz : d.size ≤ 140737488355328) (W : World) (hR : Rdr W r d) (hN : Nx B W b vi vq vf s) (hbr : b ≠ r) (hBr : B ≤ r) :
    Calls Try.prog 26 #[.pointer (some ⟨r, 0, none⟩), .pointer (some ⟨b, 0, none⟩), .int .i64 0] W fun e W' => Dpr 0 B r b d s W e W' := by
  have HC : Hid _ := lis53_any hz W hR
  have HVIA : Hid (∀ w2, W.grownBy w2 (some r) → Nx B w2 b vi vq vf s ∧ Below B W w2) := fun w2 hg => ⟨hN.via hR hbr hg, bel_gb hg hN.lB hBr⟩
  have HLB : Hid (B ≤ W.heap.size ∧ B ≤ b ∧ r ≠ b) := ⟨hN.lB, hN.lo, fun e => hbr e.symm⟩
  clear hz hR hN hbr hBr
  go_enter Try.func26, Try.ntmps26
  go_wp2_with fail
  refine Calls.mono HC.out ?_
  rintro e w2 ⟨hg, d', hr2, hl2, hh⟩
  obtain ⟨hn2, hb2⟩ := HVIA.out w2 hg
  have HN2 : Hid (Nx B w2 b vi vq vf s) := hn2
  have HB2 : Hid (Below B W w2) := hb2
  have HR2 : Hid (Rdr w2 r d') := hr2
  have HL2 : Hid (d'.size ≤ d.size) := hl2
  have k0 := HN2.out.cell 0 _ rfl
  have kf := HN2.out.frz 0
  clear hg hn2 hb2 hr2 hl2
  rcases hh with ⟨l, h1, h2, h3, v, rfl, h5⟩ | ⟨hno, rfl⟩
  · obtain ⟨va, vc, hv⟩ := row_shape h5
    subst hv
    have H1 : Hid _ := h1
    have H2 : Hid _ := h2
    have H3 : Hid _ := h3
    have H5 : Hid _ := h5
    clear h1 h2 h3 h5
    go_wp2_with fail
    go_ret
    exact ⟨HB2.out.trans ((Below.refl B w2).setCell (p := ⟨b, 0, none⟩) HLB.out.2.1 _), .inl ⟨{ s with ind := l }, d', _, _, _, HN2.out.put0 H5.out HLB.out.1, HR2.out.off HLB.out.2.2, HL2.out, ⟨H1.out, H2.out⟩, H3.out, fun q hq => (by rcases q with _ | _ | _ | _ | q <;> first | exact ⟨rfl, id⟩ | omega), rfl⟩⟩
  · have HX : Hid _ := hno
    clear hno
    go_wp2_with fail
    go_ret
    exact ⟨HB2.out.trans ((Below.refl B w2).setCell (p := ⟨b, 0, none⟩) HLB.out.2.1 _), .inr ⟨fun s' q h => HX.out s'.ind q h.1 h.2, rfl⟩⟩

set_option maxRecDepth 100000 in
set_option maxHeartbeats 8000000 in
theorem rpart1_any {B r b : Nat} {d : ByteArray} {vi vq vf : Value} {s : Stt} (hz : d.size ≤ 140737488355328) (W : World) (hR : Rdr W r d) (hN : Nx B W b vi vq vf s) (hbr : b ≠ r) (hBr : B ≤ r) :
    Calls Try.prog 26 #[.pointer (some ⟨r, 0, none⟩), .pointer (some ⟨b, 0, none⟩), .int .i64 1] W fun e W' => Dpr 1 B r b d s W e W' := by
  have HC : Hid _ := num_rd 65537 (by omega) hz W hR
  have HVIA : Hid (∀ w2, W.grownBy w2 (some r) → Nx B w2 b vi vq vf s ∧ Below B W w2) := fun w2 hg => ⟨hN.via hR hbr hg, bel_gb hg hN.lB hBr⟩
  have HLB : Hid (B ≤ W.heap.size ∧ B ≤ b ∧ r ≠ b) := ⟨hN.lB, hN.lo, fun e => hbr e.symm⟩
  clear hz hR hN hbr hBr
  go_enter Try.func26, Try.ntmps26
  go_wp2_with fail
  refine Calls.mono HC.out ?_
  rintro e w2 ⟨hg, hh⟩
  obtain ⟨hn2, hb2⟩ := HVIA.out w2 hg
  have HN2 : Hid (Nx B w2 b vi vq vf s) := hn2
  have HB2 : Hid (Below B W w2) := hb2
  have k0 := HN2.out.cell 1 _ rfl
  have kf := HN2.out.frz 1
  clear hg hn2 hb2
  rcases hh with ⟨n, d', h1, h2, hr2, hl2, rfl⟩ | ⟨hno, hr2, rfl⟩
  · have H1 : Hid (n ≤ 65537) := h1
    have H2 : Hid (d.data.toList = nm n ++ d'.data.toList) := h2
    have HR2 : Hid (Rdr w2 r d') := hr2
    have HL2 : Hid (d'.size ≤ d.size) := hl2
    have hw : wrap64 ((n : Int) - 1) = (n : Int) - 1 := by unfold wrap64; omega
    clear h1 h2 hr2 hl2
    go_wp2_with fail
    go_ret
    refine ⟨HB2.out.trans (((Below.refl B w2).setCell (p := ⟨b, 1, none⟩) HLB.out.2.1 _).setCell (p := ⟨b, 1, none⟩) HLB.out.2.1 _), .inl ⟨{ s with pen := (n : Int) - 1 }, d', _, _, _, (HN2.out.put1 _).put1 _, (HR2.out.off HLB.out.2.2).off HLB.out.2.2, HL2.out, ⟨?_, ?_⟩, ?_, fun q hq => (by rcases q with _ | q <;> first | exact ⟨rfl, id⟩ | omega), rfl⟩⟩
    · show (-1 : Int) ≤ (n : Int) - 1; omega
    · show (n : Int) - 1 ≤ 65536; have := H1.out; omega
    · show d.data.toList = nm ((n : Int) - 1 + 1).toNat ++ d'.data.toList
      rw [show ((n : Int) - 1 + 1).toNat = n by omega]; exact H2.out
  · have HX : Hid _ := hno
    clear hno hr2
    go_wp2_with fail
    go_ret
    exact ⟨HB2.out.trans (((Below.refl B w2).setCell (p := ⟨b, 1, none⟩) HLB.out.2.1 _).setCell (p := ⟨b, 1, none⟩) HLB.out.2.1 _), .inr ⟨fun s' q h => HX.out (s'.pen + 1).toNat q (by have := h.1; have := h.2; omega), rfl⟩⟩

set_option maxRecDepth 100000 in
set_option maxHeartbeats 8000000 in
theorem rpart2_any {B r b : Nat} {d : ByteArray} {vi vq vf : Value} {s : Stt} (hz : d.size ≤ 140737488355328) (W : World) (hR : Rdr W r d) (hN : Nx B W b vi vq vf s) (hbr : b ≠ r) (hBr : B ≤ r) :
    Calls Try.prog 26 #[.pointer (some ⟨r, 0, none⟩), .pointer (some ⟨b, 0, none⟩), .int .i64 2] W fun e W' => Dpr 2 B r b d s W e W' := by
  have HC : Hid _ := lis56_any hz W hR
  have HVIA : Hid (∀ w2, W.grownBy w2 (some r) → Nx B w2 b vi vq vf s ∧ Below B W w2) := fun w2 hg => ⟨hN.via hR hbr hg, bel_gb hg hN.lB hBr⟩
  have HLB : Hid (B ≤ W.heap.size ∧ B ≤ b ∧ r ≠ b) := ⟨hN.lB, hN.lo, fun e => hbr e.symm⟩
  clear hz hR hN hbr hBr
  go_enter Try.func26, Try.ntmps26
  go_wp2_with fail
  refine Calls.mono HC.out ?_
  rintro e w2 ⟨hg, d', hr2, hl2, hh⟩
  obtain ⟨hn2, hb2⟩ := HVIA.out w2 hg
  have HN2 : Hid (Nx B w2 b vi vq vf s) := hn2
  have HB2 : Hid (Below B W w2) := hb2
  have HR2 : Hid (Rdr w2 r d') := hr2
  have HL2 : Hid (d'.size ≤ d.size) := hl2
  have k0 := HN2.out.cell 2 _ rfl
  have kf := HN2.out.frz 2
  clear hg hn2 hb2 hr2 hl2
  rcases hh with ⟨l, h1, h2, h3, v, rfl, h5⟩ | ⟨hno, rfl⟩
  · obtain ⟨va, vc, hv⟩ := row_shape h5
    subst hv
    have H1 : Hid _ := h1
    have H2 : Hid _ := h2
    have H3 : Hid _ := h3
    have H5 : Hid _ := h5
    clear h1 h2 h3 h5
    go_wp2_with fail
    go_ret
    exact ⟨HB2.out.trans ((Below.refl B w2).setCell (p := ⟨b, 2, none⟩) HLB.out.2.1 _), .inl ⟨{ s with que := l }, d', _, _, _, HN2.out.put2 H5.out HLB.out.1, HR2.out.off HLB.out.2.2, HL2.out, ⟨H1.out, H2.out⟩, H3.out, fun q hq => (by rcases q with _ | _ | _ | _ | q <;> first | exact ⟨rfl, id⟩ | omega), rfl⟩⟩
  · have HX : Hid _ := hno
    clear hno
    go_wp2_with fail
    go_ret
    exact ⟨HB2.out.trans ((Below.refl B w2).setCell (p := ⟨b, 2, none⟩) HLB.out.2.1 _), .inr ⟨fun s' q h => HX.out s'.que q h.1 h.2, rfl⟩⟩

set_option maxRecDepth 100000 in
set_option maxHeartbeats 8000000 in
theorem rpart3_any {B r b : Nat} {d : ByteArray} {vi vq vf : Value} {s : Stt} (hz : d.size ≤ 140737488355328) (W : World) (hR : Rdr W r d) (hN : Nx B W b vi vq vf s) (hbr : b ≠ r) (hBr : B ≤ r) :
    Calls Try.prog 26 #[.pointer (some ⟨r, 0, none⟩), .pointer (some ⟨b, 0, none⟩), .int .i64 3] W fun e W' => Dpr 3 B r b d s W e W' := by
  have HC : Hid _ := lis58_any hz W hR
  have HVIA : Hid (∀ w2, W.grownBy w2 (some r) → Nx B w2 b vi vq vf s ∧ Below B W w2) := fun w2 hg => ⟨hN.via hR hbr hg, bel_gb hg hN.lB hBr⟩
  have HLB : Hid (B ≤ W.heap.size ∧ B ≤ b ∧ r ≠ b) := ⟨hN.lB, hN.lo, fun e => hbr e.symm⟩
  clear hz hR hN hbr hBr
  go_enter Try.func26, Try.ntmps26
  go_wp2_with fail
  refine Calls.mono HC.out ?_
  rintro e w2 ⟨hg, d', hr2, hl2, hh⟩
  obtain ⟨hn2, hb2⟩ := HVIA.out w2 hg
  have HN2 : Hid (Nx B w2 b vi vq vf s) := hn2
  have HB2 : Hid (Below B W w2) := hb2
  have HR2 : Hid (Rdr w2 r d') := hr2
  have HL2 : Hid (d'.size ≤ d.size) := hl2
  have k0 := HN2.out.cell 3 _ rfl
  have kf := HN2.out.frz 3
  clear hg hn2 hb2 hr2 hl2
  rcases hh with ⟨l, h1, h2, h3, v, rfl, h5⟩ | ⟨hno, rfl⟩
  · obtain ⟨va, vc, hv⟩ := row_shape h5
    subst hv
    have H1 : Hid _ := h1
    have H2 : Hid _ := h2
    have H3 : Hid _ := h3
    have H5 : Hid _ := h5
    clear h1 h2 h3 h5
    go_wp2_with fail
    go_ret
    exact ⟨HB2.out.trans ((Below.refl B w2).setCell (p := ⟨b, 3, none⟩) HLB.out.2.1 _), .inl ⟨{ s with frm := l }, d', _, _, _, HN2.out.put3 H5.out HLB.out.1, HR2.out.off HLB.out.2.2, HL2.out, ⟨H1.out, H2.out⟩, H3.out, fun q hq => (by rcases q with _ | _ | _ | _ | q <;> first | exact ⟨rfl, id⟩ | omega), rfl⟩⟩
  · have HX : Hid _ := hno
    clear hno
    go_wp2_with fail
    go_ret
    exact ⟨HB2.out.trans ((Below.refl B w2).setCell (p := ⟨b, 3, none⟩) HLB.out.2.1 _), .inr ⟨fun s' q h => HX.out s'.frm q h.1 h.2, rfl⟩⟩

set_option maxRecDepth 100000 in
set_option maxHeartbeats 8000000 in
theorem rpart4_any {B r b : Nat} {d : ByteArray} {vi vq vf : Value} {s : Stt} (hz : d.size ≤ 140737488355328) (W : World) (hR : Rdr W r d) (hN : Nx B W b vi vq vf s) (hbr : b ≠ r) (hBr : B ≤ r) :
    Calls Try.prog 26 #[.pointer (some ⟨r, 0, none⟩), .pointer (some ⟨b, 0, none⟩), .int .i64 4] W fun e W' => Dpr 4 B r b d s W e W' := by
  have HC : Hid _ := num_rd 65535 (by omega) hz W hR
  have HVIA : Hid (∀ w2, W.grownBy w2 (some r) → Nx B w2 b vi vq vf s ∧ Below B W w2) := fun w2 hg => ⟨hN.via hR hbr hg, bel_gb hg hN.lB hBr⟩
  have HLB : Hid (B ≤ W.heap.size ∧ B ≤ b ∧ r ≠ b) := ⟨hN.lB, hN.lo, fun e => hbr e.symm⟩
  clear hz hR hN hbr hBr
  go_enter Try.func26, Try.ntmps26
  go_wp2_with fail
  refine Calls.mono HC.out ?_
  rintro e w2 ⟨hg, hh⟩
  obtain ⟨hn2, hb2⟩ := HVIA.out w2 hg
  have HN2 : Hid (Nx B w2 b vi vq vf s) := hn2
  have HB2 : Hid (Below B W w2) := hb2
  have k0 := HN2.out.cell 4 _ rfl
  have kf := HN2.out.frz 4
  clear hg hn2 hb2
  rcases hh with ⟨n, d', h1, h2, hr2, hl2, rfl⟩ | ⟨hno, hr2, rfl⟩
  · have H1 : Hid (n ≤ 65535) := h1
    have H2 : Hid (d.data.toList = nm n ++ d'.data.toList) := h2
    have HR2 : Hid (Rdr w2 r d') := hr2
    have HL2 : Hid (d'.size ≤ d.size) := hl2
    have hw : (n : Int) % 65536 = (n : Int) := by omega
    clear h1 h2 hr2 hl2
    go_wp2_with fail
    go_ret
    exact ⟨HB2.out.trans ((Below.refl B w2).setCell (p := ⟨b, 4, none⟩) HLB.out.2.1 _), .inl ⟨{ s with flg := n }, d', _, _, _, HN2.out.put4 n, HR2.out.off HLB.out.2.2, HL2.out, H1.out, H2.out, fun q hq => (by rcases q with _ | _ | _ | _ | q <;> first | exact ⟨rfl, id⟩ | omega), rfl⟩⟩
  · have HX : Hid _ := hno
    clear hno hr2
    go_wp2_with fail
    go_ret
    exact ⟨HB2.out.trans ((Below.refl B w2).setCell (p := ⟨b, 4, none⟩) HLB.out.2.1 _), .inr ⟨fun s' q h => HX.out s'.flg q h, rfl⟩⟩

theorem rpart_any {B r b : Nat} {d : ByteArray} {vi vq vf : Value} {s : Stt} (p : Nat) (hp : p < 5) (hz : d.size ≤ 140737488355328) (W : World) (hR : Rdr W r d) (hN : Nx B W b vi vq vf s) (hbr : b ≠ r) (hBr : B ≤ r) :
    Calls Try.prog 26 #[.pointer (some ⟨r, 0, none⟩), .pointer (some ⟨b, 0, none⟩), .int .i64 (p : Int)] W fun e W' => Dpr p B r b d s W e W' := by
  match p, hp with
  | 0, _ => exact rpart0_any hz W hR hN hbr hBr
  | 1, _ => exact rpart1_any hz W hR hN hbr hBr
  | 2, _ => exact rpart2_any hz W hR hN hbr hBr
  | 3, _ => exact rpart3_any hz W hR hN hbr hBr
  | 4, _ => exact rpart4_any hz W hR hN hbr hBr
end Go.Proofs.Ytkaciochlemjiab
namespace Go.Proofs.Ytkaciochlemjiab
open Go.RowKit Go.Maps

theorem lpt_of {s : Stt} (h : s.shp = true) (hf : s.flg < 65536) (q : Nat) : Lpt s q := by
  have hl := Lim.of h hf
  match q with
  | 0 => exact ⟨hl.i, hl.iv⟩
  | 1 => exact ⟨hl.p0, hl.p1⟩
  | 2 => exact ⟨hl.q, hl.qv⟩
  | 3 => exact ⟨hl.f, fun f hm => ⟨⟨(hl.fv f hm).1, (hl.fv f hm).2.1⟩, (hl.fv f hm).2.2⟩⟩
  | 4 => exact Nat.le_of_lt_succ hf
  | _ + 5 => exact trivial
/-- The same in a part. -/
def Feq (s s' : Stt) : Nat → Prop
  | 0 => s.ind = s'.ind
  | 1 => s.pen = s'.pen
  | 2 => s.que = s'.que
  | 3 => s.frm = s'.frm
  | 4 => s.flg = s'.flg
  | _ => True
theorem lst_pfx {α : Type} {en : α → List UInt8} {ok : α → Prop} (hp : Pfx en ok) {l l' : List α} {x y : List UInt8} (h : ∀ z ∈ l, ok z) (h' : ∀ z ∈ l', ok z) (e : nm l.length ++ l.flatMap en ++ x = nm l'.length ++ l'.flatMap en ++ y) : l = l' ∧ x = y := by
  rw [List.append_assoc, List.append_assoc] at e
  obtain ⟨e1, e2⟩ := nm_pf e
  obtain ⟨l'', h3, h4⟩ := flat_split hp l l' x y h h' (by omega) e2
  have : l'' = [] := by
    rw [h3, List.length_append] at e1
    exact List.length_eq_zero_iff.1 (by omega)
  subst this
  exact ⟨by rw [h3, List.append_nil], by rw [h4]; rfl⟩
theorem prt_pfx {s s' : Stt} (p : Nat) (hp : p < 5) {x y : List UInt8} (h : Lpt s p) (h' : Lpt s' p) (e : prt s p ++ x = prt s' p ++ y) : Feq s s' p ∧ x = y := by
  match p, hp with
  | 0, _ => exact lst_pfx (nmi_pfx 65536) h.2 h'.2 e
  | 1, _ =>
    obtain ⟨e1, e2⟩ := nm_pf e
    refine ⟨?_, e2⟩
    have := h.1; have := h'.1
    show s.pen = s'.pen
    omega
  | 2, _ => exact lst_pfx tx_pfx h.2 h'.2 e
  | 3, _ => exact lst_pfx frb_pfx h.2 h'.2 e
  | 4, _ => exact nm_pf e
theorem pre_pfx {s s' : Stt} : ∀ p, p ≤ 5 → (∀ q, q < p → Lpt s q) → (∀ q, q < p → Lpt s' q) → ∀ x y, pre s p ++ x = pre s' p ++ y → (∀ q, q < p → Feq s s' q) ∧ x = y
  | 0, _, _, _, x, y, e => ⟨fun q hq => absurd hq (by omega), by simpa [pre] using e⟩
  | p + 1, hp, h, h', x, y, e => by
    simp only [pre, List.append_assoc] at e
    obtain ⟨h1, h2⟩ := pre_pfx p (by omega) (fun q hq => h q (by omega)) (fun q hq => h' q (by omega)) _ _ e
    obtain ⟨h3, h4⟩ := prt_pfx p (by omega) (h p (by omega)) (h' p (by omega)) h2
    refine ⟨fun q hq => ?_, h4⟩
    rcases Nat.lt_or_eq_of_le (Nat.le_of_lt_succ hq) with h | h
    · exact h1 q h
    · subst h; exact h3
theorem enc_pfx {s s' : Stt} (hs : s.shp = true) (hf : s.flg < 65536) (hs' : s'.shp = true) (hf' : s'.flg < 65536) {x y : List UInt8} (e : enc s ++ x = enc s' ++ y) : s = s' ∧ x = y := by
  rw [← pre_five, ← pre_five] at e
  obtain ⟨h1, h2⟩ := pre_pfx 5 (by omega) (fun q _ => lpt_of hs hf q) (fun q _ => lpt_of hs' hf' q) _ _ e
  refine ⟨?_, h2⟩
  have a0 : s.ind = s'.ind := h1 0 (by omega)
  have a1 : s.pen = s'.pen := h1 1 (by omega)
  have a2 : s.que = s'.que := h1 2 (by omega)
  have a3 : s.frm = s'.frm := h1 3 (by omega)
  have a4 : s.flg = s'.flg := h1 4 (by omega)
  cases s; cases s'
  simp only at a0 a1 a2 a3 a4
  subst a0 a1 a2 a3 a4
  rfl
theorem pre_same {s s' : Stt} : ∀ p, (∀ q, q < p → prt s' q = prt s q) → pre s' p = pre s p
  | 0, _ => rfl
  | p + 1, h => by rw [pre, pre, pre_same p (fun q hq => h q (by omega)), h p (by omega)]
theorem pre_ext (s : Stt) : ∀ p k, ∃ z, pre s (p + k) = pre s p ++ z
  | p, 0 => ⟨[], by simp⟩
  | p, k + 1 => by
    obtain ⟨z, hz⟩ := pre_ext s p k
    exact ⟨z ++ prt s (p + k), by rw [← Nat.add_assoc, pre, hz, List.append_assoc]⟩
theorem enc_at (s : Stt) (p : Nat) (hp : p < 5) : ∃ z, enc s = pre s p ++ (prt s p ++ z) := by
  obtain ⟨z, hz⟩ := pre_ext s (p + 1) (5 - (p + 1))
  refine ⟨z, ?_⟩
  rw [← pre_five, ← List.append_assoc]
  rw [show p + 1 + (5 - (p + 1)) = 5 by omega] at hz
  exact hz
/-- A part that can't be read: no shaped state's bytes. -/
theorem no_state {s : Stt} {p : Nat} {t d : List UInt8} (hp : p < 5) (ht : t = pre s p ++ d) (hl : ∀ q, q < p → Lpt s q) (hno : ∀ (s' : Stt) q, Lpt s' p → d ≠ prt s' p ++ q) (s' : Stt) (hs : s'.shp = true) (hf : s'.flg < 65536) : t ≠ enc s' := by
  intro e
  obtain ⟨z, hz⟩ := enc_at s' p hp
  rw [ht, hz] at e
  exact hno s' z (lpt_of hs hf p) (pre_pfx p (by omega) hl (fun q _ => lpt_of hs hf q) _ _ e).2
end Go.Proofs.Ytkaciochlemjiab
namespace Go.Proofs.Ytkaciochlemjiab
open Go.RowKit Go.Maps

/-- What Decode answers. -/
def Dcd (t : ByteArray) (w : World) (e : Ending) (w' : World) : Prop :=
  Below w.heap.size w w' ∧
  ((∃ s vi vq vf, s.shp = true ∧ s.flg < 65536 ∧ t.data.toList = enc s ∧ e = .returned (.tuple #[sv vi vq vf s, .int .i64 0]) ∧ Own w.heap.size w' vi vq vf s) ∨
   ((∀ s : Stt, s.shp = true → s.flg < 65536 → t.data.toList ≠ enc s) ∧ e = .returned (.tuple #[.agg #[.slice none 0 0, .int .i64 0, .slice none 0 0, .slice none 0 0, .int .u16 0], .int .i64 65])))
theorem emp_list {d : ByteArray} (h : d.size = 0) : d.data.toList = [] := by
  have : d.data.toList.length = 0 := by rw [Array.length_toList]; exact h
  exact List.length_eq_zero_iff.1 this
theorem enc_head (s : Stt) : ∃ l, enc s = 83 :: l := ⟨_, rfl⟩
theorem head_split {t : ByteArray} (h : 0 < t.size) : t.data.toList = t.get! 0 :: (t.extract 1 t.size).data.toList := by
  have hl : 0 < t.data.toList.length := by rw [Array.length_toList]; exact h
  rw [ext_list, get_list t 0 h]
  have := List.drop_eq_getElem_cons hl
  rw [List.drop_zero] at this
  exact this

set_option maxRecDepth 100000 in
set_option maxHeartbeats 4000000 in
theorem decode_bad (t : ByteArray) (w : World) (h : t.size = 0 ∨ t.get! 0 ≠ 83) : Calls Try.prog 13 #[.string t] w fun e w' => Dcd t w e w' := by
  obtain ⟨W1, hW1⟩ : ∃ W1, W1 = w.alloc (.cells #[.slice none 0 0, .int .i64 0, .slice none 0 0, .slice none 0 0, .int .u16 0] 27) := ⟨_, rfl⟩
  have hz1 : W1.heap[w.heap.size]? = some (.cells zrC 27 (0, 0)) := by rw [hW1]; exact heap_new w _
  have z0 : W1.cell? ⟨w.heap.size, 0, none⟩ = some (.slice none 0 0) := by rw [Lib.cell_of_heap hz1]; rfl
  have z1 : W1.cell? ⟨w.heap.size, 1, none⟩ = some (.int .i64 0) := by rw [Lib.cell_of_heap hz1]; rfl
  have z2 : W1.cell? ⟨w.heap.size, 2, none⟩ = some (.slice none 0 0) := by rw [Lib.cell_of_heap hz1]; rfl
  have z3 : W1.cell? ⟨w.heap.size, 3, none⟩ = some (.slice none 0 0) := by rw [Lib.cell_of_heap hz1]; rfl
  have z4 : W1.cell? ⟨w.heap.size, 4, none⟩ = some (.int .u16 0) := by rw [Lib.cell_of_heap hz1]; rfl
  have zf : ∀ k, W1.frozen? ⟨w.heap.size, k, none⟩ = false := fun k => Lib.frozen_of_heap hz1 k
  have HBW : Hid (Below w.heap.size w W1) := by rw [hW1]; exact bel_up _ _
  have HW : Hid (W1 = w.alloc (.cells #[.slice none 0 0, .int .i64 0, .slice none 0 0, .slice none 0 0, .int .u16 0] 27)) := hW1
  clear hz1 hW1
  rcases Nat.eq_zero_or_pos t.size with h0 | h0
  · have ht : t = ⟨#[]⟩ := bytes_ext (emp_list h0)
    subst ht
    clear h h0
    go_enter Try.func13, Try.ntmps13
    go_upto_region 1 with fail
    rw [← HW.out]
    go_wp2_with fail
    (try simp only [Exit.inBlock, Exit.then])
    refine bodyPost_ret (v := .tuple #[.agg #[.slice none 0 0, .int .i64 0, .slice none 0 0, .slice none 0 0, .int .u16 0], .int .i64 65]) ?_ rfl ⟨?_, .inr ⟨fun s _ _ e => ?_, rfl⟩⟩
    · rw [results_cell_tmp rfl]; go_simp
    · exact bel_five HBW.out (Nat.le_refl _)
    · obtain ⟨l, hl⟩ := enc_head s
      rw [hl] at e
      cases e
  · have hne : t.get! 0 ≠ 83 := by
      rcases h with h | h
      · omega
      · exact h
    have hix := idx_fact t 0 h0
    have hem : t.toList.isEmpty = false := toL_emp t h0
    have HS : Hid _ := head_split h0
    have HNE : Hid (t.get! 0 ≠ 83) := hne
    obtain ⟨b, hb⟩ : ∃ b, t.get! 0 = b := ⟨_, rfl⟩
    rw [hb] at hix hne HS HNE
    obtain ⟨bn, hbn⟩ : ∃ bn : Nat, b.toNat = bn := ⟨_, rfl⟩
    rw [hbn] at hix
    have hix2 : ∀ W : World, (Instr.index 9 (.string t) (.int .i64 0)).run Try.prog W = .ok (.int .u8 (bn : Int)) W := hix
    have n0 : bn ≠ 83 := fun e => hne (UInt8.toNat_inj.1 (by rw [hbn, e]; rfl))
    have n1 : ((bn : Int) == 83) = false := by rw [beq_eq_false_iff_ne]; omega
    have n2 : (bn == 83) = false := by rw [beq_eq_false_iff_ne]; exact n0
    have n3 : ¬ ((bn : Int) = 83) := by omega
    clear h h0 hb hbn hne hix
    go_enter Try.func13, Try.ntmps13
    go_upto_region 1 with fail
    rw [← HW.out]
    go_wp2_with fail
    (try simp only [Exit.inBlock, Exit.then])
    refine bodyPost_ret (v := .tuple #[.agg #[.slice none 0 0, .int .i64 0, .slice none 0 0, .slice none 0 0, .int .u16 0], .int .i64 65]) ?_ rfl ⟨?_, .inr ⟨fun s _ _ e => ?_, rfl⟩⟩
    · rw [results_cell_tmp rfl]; go_simp
    · exact bel_five HBW.out (Nat.le_refl _)
    · obtain ⟨l, hl⟩ := enc_head s
      rw [hl, HS.out] at e
      exact HNE.out (List.cons.inj e).1

set_option maxRecDepth 100000 in
set_option maxHeartbeats 8000000 in
theorem decode_any (t : ByteArray) (hz : t.size ≤ 140737488355328) (w : World) : Calls Try.prog 13 #[.string t] w fun e w' => Dcd t w e w' := by
  by_cases hbad : t.size = 0 ∨ t.get! 0 ≠ 83
  · exact decode_bad t w hbad
  have h0 : 0 < t.size := by
    rcases Nat.eq_zero_or_pos t.size with h | h
    · exact absurd (.inl h) hbad
    · exact h
  have hb0 : t.get! 0 = 83 := by
    by_cases h : t.get! 0 = 83
    · exact h
    · exact absurd (.inr h) hbad
  obtain ⟨d0, hd0⟩ : ∃ d0, t.extract 1 t.size = d0 := ⟨_, rfl⟩
  have HT : Hid (t.data.toList = 83 :: d0.data.toList) := by
    have := head_split h0
    rw [hb0, hd0] at this
    exact this
  have HZT : Hid (t.size ≤ 140737488355328 ∧ d0.size ≤ t.size) := ⟨hz, left_le (l := [83]) HT.out⟩
  obtain ⟨W1, hW1⟩ : ∃ W1, W1 = ((w.alloc (.cells #[.slice none 0 0, .int .i64 0, .slice none 0 0, .slice none 0 0, .int .u16 0] 27)).alloc (.cells #[.slice none 0 0, .int .i64 0, .slice none 0 0, .slice none 0 0, .int .u16 0] 27)).alloc (.cells #[.string d0] 56) := ⟨_, rfl⟩
  have HZ : Hid (W1.heap[w.heap.size]? = some (.cells zrC 27 (0, 0))) := by
    rw [hW1, (bel_up _ _).block _ (by simp; omega), (bel_up _ _).block _ (by simp)]; exact heap_new w _
  have HB : Hid (W1.heap[w.heap.size + 1]? = some (.cells #[.slice none 0 0, .int .i64 0, .slice none 0 0, .slice none 0 0, .int .u16 0] 27 (0, 0))) := by
    rw [hW1, (bel_up _ _).block _ (by simp)]
    have := heap_new (w.alloc (.cells #[.slice none 0 0, .int .i64 0, .slice none 0 0, .slice none 0 0, .int .u16 0] 27)) (.cells #[.slice none 0 0, .int .i64 0, .slice none 0 0, .slice none 0 0, .int .u16 0] 27)
    rw [World.size_alloc] at this
    exact this
  have HR : Hid (Rdr W1 (w.heap.size + 2) d0) := by
    rw [hW1]
    have := heap_new ((w.alloc (.cells #[.slice none 0 0, .int .i64 0, .slice none 0 0, .slice none 0 0, .int .u16 0] 27)).alloc (.cells #[.slice none 0 0, .int .i64 0, .slice none 0 0, .slice none 0 0, .int .u16 0] 27)) (.cells #[.string d0] 56)
    rw [World.size_alloc, World.size_alloc] at this
    exact this
  have HBW : Hid (Below w.heap.size w W1) := by rw [hW1]; exact below_trans (below_trans (bel_up _ _) (bel_up _ _)) (bel_up _ _)
  have HN : Hid (Nx (w.heap.size + 1) W1 (w.heap.size + 1) (.slice none 0 0) (.slice none 0 0) (.slice none 0 0) ⟨[], 0, [], [], 0⟩) := by
    refine ⟨HB.out, ⟨World.ownsRow_nil _ _ _ _, World.ownsRow_nil _ _ _ _, World.ownsRow_nil _ _ _ _⟩, Nat.le_refl _, ?_⟩
    rw [hW1]; simp
  have HW : Hid (W1 = ((w.alloc (.cells #[.slice none 0 0, .int .i64 0, .slice none 0 0, .slice none 0 0, .int .u16 0] 27)).alloc (.cells #[.slice none 0 0, .int .i64 0, .slice none 0 0, .slice none 0 0, .int .u16 0] 27)).alloc (.cells #[.string d0] 56)) := hW1
  have hix := idx_fact t 0 h0
  rw [hb0] at hix
  have hix2 : ∀ W : World, (Instr.index 9 (.string t) (.int .i64 0)).run Try.prog W = .ok (.int .u8 83) W := fun W => hix W
  have hem : t.toList.isEmpty = false := toL_emp t h0
  have hs1 : (1 : Int) ≤ (t.size : Int) := by omega
  have hs2 : 1 ≤ t.size := h0
  clear hW1 hix hbad hb0 h0 hz
  go_enter Try.func13, Try.ntmps13
  go_upto_region 6 with fail
  rw [← HW.out]
  clear hs1 hs2 hix2 hem hd0
  go_loopg [19] 5 (fun gm v wr => ∃ (p : Nat) (s : Stt) (dp : ByteArray) (vi vq vf : Value), v = .int .i64 (p : Int) ∧ Hid (p ≤ 5 ∧ gm = 5 - p) ∧ Hid (Rdr wr (w.heap.size + 2) dp) ∧ Hid (dp.size ≤ t.size) ∧ Hid (Nx (w.heap.size + 1) wr (w.heap.size + 1) vi vq vf s) ∧ Hid (Below (w.heap.size + 1) W1 wr) ∧ Hid (t.data.toList = pre s p ++ dp.data.toList) ∧ Hid (∀ q, q < p → Lpt s q))
  case atStart => exact ⟨0, ⟨[], 0, [], [], 0⟩, d0, _, _, _, rfl, ⟨by omega, rfl⟩, HR, HZT.out.2, HN, Below.refl _ _, HT, fun q hq => absurd hq (by omega)⟩
  case round =>
    obtain ⟨p, s, dp, vi, vq, vf, rfl, HI, HRP, HLP, HNP, HBE, HTP, HQ⟩ := hrel
    have HZZ : Hid (wr.heap[w.heap.size]? = some (.cells zrC 27 (0, 0))) := by rw [HBE.out.block _ (by omega)]; exact HZ.out
    have HBL : Hid (Below w.heap.size w wr) := HBW.out.trans (HBE.out.mono (by omega))
    by_cases hp : p < 5
    · have e1 : decide ((p : Int) < 5) = true := by rw [decide_eq_true_eq]; omega
      have e2 : decide (p < 5) = true := by rw [decide_eq_true_eq]; omega
      have HPL : Hid (p < 5) := hp
      have hwr := w64n p (by omega)
      clear hp
      go_wp2_with fail
      refine (rpart_any p HPL.out (Nat.le_trans HLP.out HZT.out.1) wr HRP.out HNP.out (by omega) (by omega)).mono ?_
      rintro e w5 ⟨hb5, hh⟩
      have H1 : Hid (Below (w.heap.size + 1) W1 w5) := HBE.out.trans hb5
      have hz5 : w5.heap[w.heap.size]? = some (.cells zrC 27 (0, 0)) := by rw [hb5.block _ (by omega)]; exact HZZ.out
      have HBL5 : Hid (Below w.heap.size w w5) := HBW.out.trans (H1.out.mono (by omega))
      clear hb5
      rcases hh with ⟨s', d', vi', vq', vf', g1, g2, g3, g4, g5, g6, rfl⟩ | ⟨hno, rfl⟩
      · have G1 : Hid _ := g1
        have G2 : Hid _ := g2
        have G3 : Hid (d'.size ≤ dp.size) := g3
        have G4 : Hid (Lpt s' p) := g4
        have G5 : Hid (dp.data.toList = prt s' p ++ d'.data.toList) := g5
        have G6 : Hid (∀ q, q < p → prt s' q = prt s q ∧ (Lpt s q → Lpt s' q)) := g6
        clear g1 g2 g3 g4 g5 g6 hz5
        go_wp2_with fail
        go_roundg (5 - (p + 1))
        case measure => have := HI.out; have := HPL.out; omega
        case rel =>
          refine ⟨p + 1, s', d', vi', vq', vf', by first | rfl | (rw [show (p : Int) + 1 = ((p + 1 : Nat) : Int) by omega]), ⟨HPL.out, rfl⟩, G2, Nat.le_trans G3.out HLP.out, G1, H1, ?_, ?_⟩
          · show t.data.toList = _
            rw [HTP.out, G5.out, pre, pre_same p (fun q hq => (G6.out q hq).1), List.append_assoc]
          · intro q hq
            rcases Nat.lt_or_eq_of_le (Nat.le_of_lt_succ hq) with h | h
            · exact (G6.out q h).2 (HQ.out q h)
            · subst h; exact G4.out
      · have HX : Hid (∀ s' q, Lpt s' p → dp.data.toList ≠ prt s' p ++ q) := hno
        clear hno
        have z0 : w5.cell? ⟨w.heap.size, 0, none⟩ = some (.slice none 0 0) := by rw [Lib.cell_of_heap hz5]; rfl
        have z1 : w5.cell? ⟨w.heap.size, 1, none⟩ = some (.int .i64 0) := by rw [Lib.cell_of_heap hz5]; rfl
        have z2 : w5.cell? ⟨w.heap.size, 2, none⟩ = some (.slice none 0 0) := by rw [Lib.cell_of_heap hz5]; rfl
        have z3 : w5.cell? ⟨w.heap.size, 3, none⟩ = some (.slice none 0 0) := by rw [Lib.cell_of_heap hz5]; rfl
        have z4 : w5.cell? ⟨w.heap.size, 4, none⟩ = some (.int .u16 0) := by rw [Lib.cell_of_heap hz5]; rfl
        have zf : ∀ k, w5.frozen? ⟨w.heap.size, k, none⟩ = false := fun k => Lib.frozen_of_heap hz5 k
        clear hz5
        go_wp2_with fail
        (try simp only [Exit.inBlock, Exit.then])
        refine bodyPost_ret (v := .tuple #[.agg #[.slice none 0 0, .int .i64 0, .slice none 0 0, .slice none 0 0, .int .u16 0], .int .i64 65]) ?_ rfl ⟨?_, .inr ⟨no_state HPL.out HTP.out HQ.out HX.out, rfl⟩⟩
        · rw [results_cell_tmp rfl]; go_simp
        · exact bel_five HBL5.out (Nat.le_refl _)
    · have e1 : decide ((p : Int) < 5) = false := by rw [decide_eq_false_iff_not]; omega
      have e2 : decide (p < 5) = false := by rw [decide_eq_false_iff_not]; omega
      have hp5 : p = 5 := by have := HI.out; omega
      subst hp5
      have kr := HRP.out.cell
      obtain ⟨a1, c1, a2, c2, a3, c3, hv1, hv2, hv3⟩ := HNP.out.own.stm.form
      subst hv1 hv2 hv3
      have HSAME : Hid (∀ s' : Stt, s'.shp = true → s'.flg < 65536 → t.data.toList = enc s' → s = s' ∧ dp.data.toList = []) := fun s' hs hf e => by
        rw [HTP.out, ← pre_five, ← List.append_nil (pre s' 5)] at e
        obtain ⟨h1, h2⟩ := pre_pfx 5 (by omega) HQ.out (fun q _ => lpt_of hs hf q) _ _ e
        refine ⟨?_, h2⟩
        have a0 : s.ind = s'.ind := h1 0 (by omega)
        have a1 : s.pen = s'.pen := h1 1 (by omega)
        have a2 : s.que = s'.que := h1 2 (by omega)
        have a3 : s.frm = s'.frm := h1 3 (by omega)
        have a4 : s.flg = s'.flg := h1 4 (by omega)
        cases s; cases s'
        simp only at a0 a1 a2 a3 a4
        subst a0 a1 a2 a3 a4
        rfl
      rcases Nat.eq_zero_or_pos dp.size with hd | hd
      · have hde : dp = ⟨#[]⟩ := bytes_ext (emp_list hd)
        subst hde
        obtain ⟨k0, k1, k2, k3, k4⟩ := HNP.out.cells
        have C16 : Hid _ := shaped_any wr HNP.out.own.stm
        clear hp hd
        go_wp2_with fail
        refine Calls.mono C16.out ?_
        rintro e w6 ⟨rfl, hb6⟩
        have HB6 : Hid (Below wr.heap.size wr w6) := hb6
        have hz6 : w6.heap[w.heap.size]? = some (.cells zrC 27 (0, 0)) := by rw [hb6.block _ (lt_of_heap HZZ.out)]; exact HZZ.out
        have HZ6 : Hid _ := hz6
        have z0 : w6.cell? ⟨w.heap.size, 0, none⟩ = some (.slice none 0 0) := by rw [Lib.cell_of_heap hz6]; rfl
        have z1 : w6.cell? ⟨w.heap.size, 1, none⟩ = some (.int .i64 0) := by rw [Lib.cell_of_heap hz6]; rfl
        have z2 : w6.cell? ⟨w.heap.size, 2, none⟩ = some (.slice none 0 0) := by rw [Lib.cell_of_heap hz6]; rfl
        have z3 : w6.cell? ⟨w.heap.size, 3, none⟩ = some (.slice none 0 0) := by rw [Lib.cell_of_heap hz6]; rfl
        have z4 : w6.cell? ⟨w.heap.size, 4, none⟩ = some (.int .u16 0) := by rw [Lib.cell_of_heap hz6]; rfl
        have zf : ∀ k, w6.frozen? ⟨w.heap.size, k, none⟩ = false := fun k => Lib.frozen_of_heap hz6 k
        have m0 := below_cell hb6 k0
        have m1 := below_cell hb6 k1
        have m2 := below_cell hb6 k2
        have m3 := below_cell hb6 k3
        have m4 := below_cell hb6 k4
        clear hb6 hz6 k0 k1 k2 k3 k4 kr
        obtain ⟨B, hB⟩ : ∃ B, s.shp = B := ⟨_, rfl⟩
        have HSB : Hid (s.shp = B) := hB
        rw [hB]
        clear hB
        cases B
        · go_wp2_with fail
          (try simp only [Exit.inBlock, Exit.then])
          refine bodyPost_ret (v := .tuple #[.agg #[.slice none 0 0, .int .i64 0, .slice none 0 0, .slice none 0 0, .int .u16 0], .int .i64 65]) ?_ rfl ⟨?_, .inr ⟨fun s' hs hf e => ?_, rfl⟩⟩
          · rw [results_cell_tmp rfl]; go_simp
          · exact bel_five (below_trans HBL.out HB6.out) (Nat.le_refl _)
          · obtain ⟨h1, -⟩ := HSAME.out s' hs hf e
            have := HSB.out
            rw [h1, hs] at this
            cases this
        · go_wp2_with fail
          (try simp only [Exit.inBlock, Exit.then])
          refine bodyPost_ret (v := .tuple #[sv (.slice a1 s.ind.length c1) (.slice a2 s.que.length c2) (.slice a3 s.frm.length c3) s, .int .i64 0]) ?_ rfl ⟨?_, .inl ⟨s, _, _, _, HSB.out, ?_, ?_, rfl, ?_⟩⟩
          · rw [results_cell_tmp rfl]; go_simp
          · exact bel_five (below_trans HBL.out HB6.out) (Nat.le_refl _)
          · exact Nat.lt_succ_of_le (HQ.out 4 (by omega))
          · rw [← pre_five, HTP.out]; simp
          · have ho := HNP.out.own.up HB6.out
            exact ⟨row_five HZ6.out (row_base ho.i (by omega)) (by decide), row_five HZ6.out (row_base ho.q (by omega)) (by decide), row_five HZ6.out (row_base ho.f (by omega)) (by decide)⟩
      · have hem : dp.toList.isEmpty = false := toL_emp dp hd
        have hz6 := HZZ.out
        have z0 : wr.cell? ⟨w.heap.size, 0, none⟩ = some (.slice none 0 0) := by rw [Lib.cell_of_heap hz6]; rfl
        have z1 : wr.cell? ⟨w.heap.size, 1, none⟩ = some (.int .i64 0) := by rw [Lib.cell_of_heap hz6]; rfl
        have z2 : wr.cell? ⟨w.heap.size, 2, none⟩ = some (.slice none 0 0) := by rw [Lib.cell_of_heap hz6]; rfl
        have z3 : wr.cell? ⟨w.heap.size, 3, none⟩ = some (.slice none 0 0) := by rw [Lib.cell_of_heap hz6]; rfl
        have z4 : wr.cell? ⟨w.heap.size, 4, none⟩ = some (.int .u16 0) := by rw [Lib.cell_of_heap hz6]; rfl
        have zf : ∀ k, wr.frozen? ⟨w.heap.size, k, none⟩ = false := fun k => Lib.frozen_of_heap hz6 k
        have HDN : Hid (dp.data.toList ≠ []) := fun e => by
          have : dp.data.toList.length = dp.size := Array.length_toList
          rw [e] at this
          simp at this
          omega
        clear hp hd hz6
        go_wp2_with fail
        (try simp only [Exit.inBlock, Exit.then])
        refine bodyPost_ret (v := .tuple #[.agg #[.slice none 0 0, .int .i64 0, .slice none 0 0, .slice none 0 0, .int .u16 0], .int .i64 65]) ?_ rfl ⟨?_, .inr ⟨fun s' hs hf e => HDN.out (HSAME.out s' hs hf e).2, rfl⟩⟩
        · rw [results_cell_tmp rfl]; go_simp
        · exact bel_five HBL.out (Nat.le_refl _)
end Go.Proofs.Ytkaciochlemjiab
