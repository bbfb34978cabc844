import Derived.Test.YtkaciochlemjiaaLis
import Derived.Test.YtkaciochlemjiaaGpr
namespace Go.Proofs.Ytkaciochlemjiaa
open Go.RowKit Go.Maps

/-- A part keeps to the limits. -/
def Lpt (s : Stt) : Nat → Prop
  | 0 => s.ind.length ≤ 32 ∧ ∀ x ∈ s.ind, okI 65536 x
  | 1 => -1 ≤ s.pen ∧ s.pen ≤ 65536
  | 2 => s.que.length ≤ 8 ∧ ∀ x ∈ s.que, okT x
  | 3 => s.frm.length ≤ 16 ∧ ∀ x ∈ s.frm, okW x
  | 4 => s.flg ≤ 65535
  | _ => True
/-- What reading a part answers. -/
def Dpr (p B r b : Nat) (d : ByteArray) (s : Stt) (W : World) (e : Ending) (W' : World) : Prop :=
  Below B W W' ∧
  ((∃ s' d' vi vq vf, Nx B W' b vi vq vf s' ∧ Rdr W' r d' ∧ d'.size ≤ d.size ∧ Lpt s' p ∧ d.data.toList = prt s' p ++ d'.data.toList ∧ (∀ q, q < p → prt s' q = prt s q ∧ (Lpt s q → Lpt s' q)) ∧ e = .returned (.int .i64 0)) ∨
   ((∀ s' q, Lpt s' p → d.data.toList ≠ prt s' p ++ q) ∧ e = .returned (.int .i64 65)))
theorem Nx.via {B r b : Nat} {d : ByteArray} {W w2 : World} {vi vq vf : Value} {s : Stt} (h : Nx B W b vi vq vf s) (hr : Rdr W r d) (hbr : b ≠ r) (hg : W.grownBy w2 (some r)) : Nx B w2 b vi vq vf s :=
  ⟨by rw [hg.block b (lt_of_heap h.blk) (by simpa using hbr)]; exact h.blk,
   ⟨h.own.i.kept hg (.inr (tag_ne_blk h.own.i hr (by decide))), h.own.q.kept hg (.inr (tag_ne_blk h.own.q hr (by decide))), h.own.f.kept hg (.inr (tag_ne_blk h.own.f hr (by decide)))⟩, h.lo, Nat.le_trans h.lB hg.size⟩
theorem bel_gb {B r : Nat} {W w2 : World} (hg : W.grownBy w2 (some r)) (hB : B ≤ W.heap.size) (hr : B ≤ r) : Below B W w2 :=
  ⟨hg.os, hg.tape, hg.output, hg.size, fun k hk => hg.block k (by omega) (by simp; omega)⟩
section
variable {B b : Nat} {w : World} {vi vq vf v : Value} {s : Stt}
theorem Nx.put0 (h : Nx B w b vi vq vf s) {B' : Nat} {l : List Int} (hv : w.ownsRow B' 3 1 v l.length (iC l)) (hB : B ≤ B') : Nx B (w.setCell ⟨b, 0, none⟩ v) b v vq vf { s with ind := l } :=
  ⟨by rw [blk_set v h.blk]; rfl, (⟨row_base hv hB, h.own.q, h.own.f⟩ : Own B w v vq vf { s with ind := l }).off h.blk, h.lo, by simp; exact h.lB⟩
theorem Nx.put2 (h : Nx B w b vi vq vf s) {B' : Nat} {l : List ByteArray} (hv : w.ownsRow B' 9 1 v l.length (qC l)) (hB : B ≤ B') : Nx B (w.setCell ⟨b, 2, none⟩ v) b vi v vf { s with que := l } :=
  ⟨by rw [blk_set v h.blk]; rfl, (⟨h.own.i, row_base hv hB, h.own.f⟩ : Own B w vi v vf { s with que := l }).off h.blk, h.lo, by simp; exact h.lB⟩
theorem Nx.put3 (h : Nx B w b vi vq vf s) {B' : Nat} {l : List (Int × ByteArray)} (hv : w.ownsRow B' 54 2 v l.length (fC l)) (hB : B ≤ B') : Nx B (w.setCell ⟨b, 3, none⟩ v) b vi vq v { s with frm := l } :=
  ⟨by rw [blk_set v h.blk]; rfl, (⟨h.own.i, h.own.q, row_base hv hB⟩ : Own B w vi vq v { s with frm := l }).off h.blk, h.lo, by simp; exact h.lB⟩
theorem Nx.put1 (h : Nx B w b vi vq vf s) (x : Int) : Nx B (w.setCell ⟨b, 1, none⟩ (.int .i64 x)) b vi vq vf { s with pen := x } :=
  ⟨by rw [blk_set _ h.blk]; rfl, (⟨h.own.i, h.own.q, h.own.f⟩ : Own B w vi vq vf { s with pen := x }).off h.blk, h.lo, by simp; exact h.lB⟩
theorem Nx.put4 (h : Nx B w b vi vq vf s) (x : Nat) : Nx B (w.setCell ⟨b, 4, none⟩ (.int .u16 (x : Int))) b vi vq vf { s with flg := x } :=
  ⟨by rw [blk_set _ h.blk]; rfl, (⟨h.own.i, h.own.q, h.own.f⟩ : Own B w vi vq vf { s with flg := x }).off h.blk, h.lo, by simp; exact h.lB⟩
end

set_option maxRecDepth 100000 in
set_option maxHeartbeats 8000000 in
theorem rpart0_any {B r b : Nat} {d : ByteArray} {vi vq vf : Value} {s : Stt} (hz : d.size ≤ 140737488355328) (W : World) (hR : Rdr W r d) (hN : Nx B W b vi vq vf s) (hbr : b ≠ r) (hBr : B ≤ r) :
    Calls Try.prog 32 #[.pointer (some ⟨r, 0, none⟩), .pointer (some ⟨b, 0, none⟩), .int .i64 0] W fun e W' => Dpr 0 B r b d s W e W' := by
  have HC : Hid _ := lis53_any hz W hR
  have HVIA : Hid (∀ w2, W.grownBy w2 (some r) → Nx B w2 b vi vq vf s ∧ Below B W w2) := fun w2 hg => ⟨hN.via hR hbr hg, bel_gb hg hN.lB hBr⟩
  have HLB : Hid (B ≤ W.heap.size ∧ B ≤ b ∧ r ≠ b) := ⟨hN.lB, hN.lo, fun e => hbr e.symm⟩
  clear hz hR hN hbr hBr
  go_enter Try.func32, Try.ntmps32
  go_wp2_with fail
  refine Calls.mono HC.out ?_
  rintro e w2 ⟨hg, d', hr2, hl2, hh⟩
  obtain ⟨hn2, hb2⟩ := HVIA.out w2 hg
  have HN2 : Hid (Nx B w2 b vi vq vf s) := hn2
  have HB2 : Hid (Below B W w2) := hb2
  have HR2 : Hid (Rdr w2 r d') := hr2
  have HL2 : Hid (d'.size ≤ d.size) := hl2
  have k0 := HN2.out.cell 0 _ rfl
  have kf := HN2.out.frz 0
  clear hg hn2 hb2 hr2 hl2
  rcases hh with ⟨l, h1, h2, h3, v, rfl, h5⟩ | ⟨hno, rfl⟩
  · obtain ⟨va, vc, hv⟩ := row_shape h5
    subst hv
    have H1 : Hid _ := h1
    have H2 : Hid _ := h2
    have H3 : Hid _ := h3
    have H5 : Hid _ := h5
    clear h1 h2 h3 h5
    go_wp2_with fail
    go_ret
    exact ⟨HB2.out.trans ((Below.refl B w2).setCell (p := ⟨b, 0, none⟩) HLB.out.2.1 _), .inl ⟨{ s with ind := l }, d', _, _, _, HN2.out.put0 H5.out HLB.out.1, HR2.out.off HLB.out.2.2, HL2.out, ⟨H1.out, H2.out⟩, H3.out, fun q hq => (by rcases q with _ | _ | _ | _ | q <;> first | exact ⟨rfl, id⟩ | omega), rfl⟩⟩
  · have HX : Hid _ := hno
    clear hno
    go_wp2_with fail
    go_ret
    exact ⟨HB2.out.trans ((Below.refl B w2).setCell (p := ⟨b, 0, none⟩) HLB.out.2.1 _), .inr ⟨fun s' q h => HX.out s'.ind q h.1 h.2, rfl⟩⟩

set_option maxRecDepth 100000 in
set_option maxHeartbeats 8000000 in
theorem rpart1_any {B r b : Nat} {d : ByteArray} {vi vq vf : Value} {s : Stt} (hz : d.size ≤ 140737488355328) (W : World) (hR : Rdr W r d) (hN : Nx B W b vi vq vf s) (hbr : b ≠ r) (hBr : B ≤ r) :
    Calls Try.prog 32 #[.pointer (some ⟨r, 0, none⟩), .pointer (some ⟨b, 0, none⟩), .int .i64 1] W fun e W' => Dpr 1 B r b d s W e W' := by
  have HC : Hid _ := num_rd 65537 (by omega) hz W hR
  have HVIA : Hid (∀ w2, W.grownBy w2 (some r) → Nx B w2 b vi vq vf s ∧ Below B W w2) := fun w2 hg => ⟨hN.via hR hbr hg, bel_gb hg hN.lB hBr⟩
  have HLB : Hid (B ≤ W.heap.size ∧ B ≤ b ∧ r ≠ b) := ⟨hN.lB, hN.lo, fun e => hbr e.symm⟩
  clear hz hR hN hbr hBr
  go_enter Try.func32, Try.ntmps32
  go_wp2_with fail
  refine Calls.mono HC.out ?_
  rintro e w2 ⟨hg, hh⟩
  obtain ⟨hn2, hb2⟩ := HVIA.out w2 hg
  have HN2 : Hid (Nx B w2 b vi vq vf s) := hn2
  have HB2 : Hid (Below B W w2) := hb2
  have k0 := HN2.out.cell 1 _ rfl
  have kf := HN2.out.frz 1
  clear hg hn2 hb2
  rcases hh with ⟨n, d', h1, h2, hr2, hl2, rfl⟩ | ⟨hno, hr2, rfl⟩
  · have H1 : Hid (n ≤ 65537) := h1
    have H2 : Hid (d.data.toList = nm n ++ d'.data.toList) := h2
    have HR2 : Hid (Rdr w2 r d') := hr2
    have HL2 : Hid (d'.size ≤ d.size) := hl2
    have hw : wrap64 ((n : Int) - 1) = (n : Int) - 1 := by unfold wrap64; omega
    clear h1 h2 hr2 hl2
    go_wp2_with fail
    go_ret
    refine ⟨HB2.out.trans (((Below.refl B w2).setCell (p := ⟨b, 1, none⟩) HLB.out.2.1 _).setCell (p := ⟨b, 1, none⟩) HLB.out.2.1 _), .inl ⟨{ s with pen := (n : Int) - 1 }, d', _, _, _, (HN2.out.put1 _).put1 _, (HR2.out.off HLB.out.2.2).off HLB.out.2.2, HL2.out, ⟨?_, ?_⟩, ?_, fun q hq => (by rcases q with _ | q <;> first | exact ⟨rfl, id⟩ | omega), rfl⟩⟩
    · show (-1 : Int) ≤ (n : Int) - 1; omega
    · show (n : Int) - 1 ≤ 65536; have := H1.out; omega
    · show d.data.toList = nm ((n : Int) - 1 + 1).toNat ++ d'.data.toList
      rw [show ((n : Int) - 1 + 1).toNat = n by omega]; exact H2.out
  · have HX : Hid _ := hno
    clear hno hr2
    go_wp2_with fail
    go_ret
    exact ⟨HB2.out.trans (((Below.refl B w2).setCell (p := ⟨b, 1, none⟩) HLB.out.2.1 _).setCell (p := ⟨b, 1, none⟩) HLB.out.2.1 _), .inr ⟨fun s' q h => HX.out (s'.pen + 1).toNat q (by have := h.1; have := h.2; omega), rfl⟩⟩

set_option maxRecDepth 100000 in
set_option maxHeartbeats 8000000 in
theorem rpart2_any {B r b : Nat} {d : ByteArray} {vi vq vf : Value} {s : Stt} (hz : d.size ≤ 140737488355328) (W : World) (hR : Rdr W r d) (hN : Nx B W b vi vq vf s) (hbr : b ≠ r) (hBr : B ≤ r) :
    Calls Try.prog 32 #[.pointer (some ⟨r, 0, none⟩), .pointer (some ⟨b, 0, none⟩), .int .i64 2] W fun e W' => Dpr 2 B r b d s W e W' := by
  have HC : Hid _ := lis56_any hz W hR
  have HVIA : Hid (∀ w2, W.grownBy w2 (some r) → Nx B w2 b vi vq vf s ∧ Below B W w2) := fun w2 hg => ⟨hN.via hR hbr hg, bel_gb hg hN.lB hBr⟩
  have HLB : Hid (B ≤ W.heap.size ∧ B ≤ b ∧ r ≠ b) := ⟨hN.lB, hN.lo, fun e => hbr e.symm⟩
  clear hz hR hN hbr hBr
  go_enter Try.func32, Try.ntmps32
  go_wp2_with fail
  refine Calls.mono HC.out ?_
  rintro e w2 ⟨hg, d', hr2, hl2, hh⟩
  obtain ⟨hn2, hb2⟩ := HVIA.out w2 hg
  have HN2 : Hid (Nx B w2 b vi vq vf s) := hn2
  have HB2 : Hid (Below B W w2) := hb2
  have HR2 : Hid (Rdr w2 r d') := hr2
  have HL2 : Hid (d'.size ≤ d.size) := hl2
  have k0 := HN2.out.cell 2 _ rfl
  have kf := HN2.out.frz 2
  clear hg hn2 hb2 hr2 hl2
  rcases hh with ⟨l, h1, h2, h3, v, rfl, h5⟩ | ⟨hno, rfl⟩
  · obtain ⟨va, vc, hv⟩ := row_shape h5
    subst hv
    have H1 : Hid _ := h1
    have H2 : Hid _ := h2
    have H3 : Hid _ := h3
    have H5 : Hid _ := h5
    clear h1 h2 h3 h5
    go_wp2_with fail
    go_ret
    exact ⟨HB2.out.trans ((Below.refl B w2).setCell (p := ⟨b, 2, none⟩) HLB.out.2.1 _), .inl ⟨{ s with que := l }, d', _, _, _, HN2.out.put2 H5.out HLB.out.1, HR2.out.off HLB.out.2.2, HL2.out, ⟨H1.out, H2.out⟩, H3.out, fun q hq => (by rcases q with _ | _ | _ | _ | q <;> first | exact ⟨rfl, id⟩ | omega), rfl⟩⟩
  · have HX : Hid _ := hno
    clear hno
    go_wp2_with fail
    go_ret
    exact ⟨HB2.out.trans ((Below.refl B w2).setCell (p := ⟨b, 2, none⟩) HLB.out.2.1 _), .inr ⟨fun s' q h => HX.out s'.que q h.1 h.2, rfl⟩⟩

set_option maxRecDepth 100000 in
set_option maxHeartbeats 8000000 in
theorem rpart3_any {B r b : Nat} {d : ByteArray} {vi vq vf : Value} {s : Stt} (hz : d.size ≤ 140737488355328) (W : World) (hR : Rdr W r d) (hN : Nx B W b vi vq vf s) (hbr : b ≠ r) (hBr : B ≤ r) :
    Calls Try.prog 32 #[.pointer (some ⟨r, 0, none⟩), .pointer (some ⟨b, 0, none⟩), .int .i64 3] W fun e W' => Dpr 3 B r b d s W e W' := by
  have HC : Hid _ := lis58_any hz W hR
  have HVIA : Hid (∀ w2, W.grownBy w2 (some r) → Nx B w2 b vi vq vf s ∧ Below B W w2) := fun w2 hg => ⟨hN.via hR hbr hg, bel_gb hg hN.lB hBr⟩
  have HLB : Hid (B ≤ W.heap.size ∧ B ≤ b ∧ r ≠ b) := ⟨hN.lB, hN.lo, fun e => hbr e.symm⟩
  clear hz hR hN hbr hBr
  go_enter Try.func32, Try.ntmps32
  go_wp2_with fail
  refine Calls.mono HC.out ?_
  rintro e w2 ⟨hg, d', hr2, hl2, hh⟩
  obtain ⟨hn2, hb2⟩ := HVIA.out w2 hg
  have HN2 : Hid (Nx B w2 b vi vq vf s) := hn2
  have HB2 : Hid (Below B W w2) := hb2
  have HR2 : Hid (Rdr w2 r d') := hr2
  have HL2 : Hid (d'.size ≤ d.size) := hl2
  have k0 := HN2.out.cell 3 _ rfl
  have kf := HN2.out.frz 3
  clear hg hn2 hb2 hr2 hl2
  rcases hh with ⟨l, h1, h2, h3, v, rfl, h5⟩ | ⟨hno, rfl⟩
  · obtain ⟨va, vc, hv⟩ := row_shape h5
    subst hv
    have H1 : Hid _ := h1
    have H2 : Hid _ := h2
    have H3 : Hid _ := h3
    have H5 : Hid _ := h5
    clear h1 h2 h3 h5
    go_wp2_with fail
    go_ret
    exact ⟨HB2.out.trans ((Below.refl B w2).setCell (p := ⟨b, 3, none⟩) HLB.out.2.1 _), .inl ⟨{ s with frm := l }, d', _, _, _, HN2.out.put3 H5.out HLB.out.1, HR2.out.off HLB.out.2.2, HL2.out, ⟨H1.out, H2.out⟩, H3.out, fun q hq => (by rcases q with _ | _ | _ | _ | q <;> first | exact ⟨rfl, id⟩ | omega), rfl⟩⟩
  · have HX : Hid _ := hno
    clear hno
    go_wp2_with fail
    go_ret
    exact ⟨HB2.out.trans ((Below.refl B w2).setCell (p := ⟨b, 3, none⟩) HLB.out.2.1 _), .inr ⟨fun s' q h => HX.out s'.frm q h.1 h.2, rfl⟩⟩

set_option maxRecDepth 100000 in
set_option maxHeartbeats 8000000 in
theorem rpart4_any {B r b : Nat} {d : ByteArray} {vi vq vf : Value} {s : Stt} (hz : d.size ≤ 140737488355328) (W : World) (hR : Rdr W r d) (hN : Nx B W b vi vq vf s) (hbr : b ≠ r) (hBr : B ≤ r) :
    Calls Try.prog 32 #[.pointer (some ⟨r, 0, none⟩), .pointer (some ⟨b, 0, none⟩), .int .i64 4] W fun e W' => Dpr 4 B r b d s W e W' := by
  have HC : Hid _ := num_rd 65535 (by omega) hz W hR
  have HVIA : Hid (∀ w2, W.grownBy w2 (some r) → Nx B w2 b vi vq vf s ∧ Below B W w2) := fun w2 hg => ⟨hN.via hR hbr hg, bel_gb hg hN.lB hBr⟩
  have HLB : Hid (B ≤ W.heap.size ∧ B ≤ b ∧ r ≠ b) := ⟨hN.lB, hN.lo, fun e => hbr e.symm⟩
  clear hz hR hN hbr hBr
  go_enter Try.func32, Try.ntmps32
  go_wp2_with fail
  refine Calls.mono HC.out ?_
  rintro e w2 ⟨hg, hh⟩
  obtain ⟨hn2, hb2⟩ := HVIA.out w2 hg
  have HN2 : Hid (Nx B w2 b vi vq vf s) := hn2
  have HB2 : Hid (Below B W w2) := hb2
  have k0 := HN2.out.cell 4 _ rfl
  have kf := HN2.out.frz 4
  clear hg hn2 hb2
  rcases hh with ⟨n, d', h1, h2, hr2, hl2, rfl⟩ | ⟨hno, hr2, rfl⟩
  · have H1 : Hid (n ≤ 65535) := h1
    have H2 : Hid (d.data.toList = nm n ++ d'.data.toList) := h2
    have HR2 : Hid (Rdr w2 r d') := hr2
    have HL2 : Hid (d'.size ≤ d.size) := hl2
    have hw : (n : Int) % 65536 = (n : Int) := by omega
    clear h1 h2 hr2 hl2
    go_wp2_with fail
    go_ret
    exact ⟨HB2.out.trans ((Below.refl B w2).setCell (p := ⟨b, 4, none⟩) HLB.out.2.1 _), .inl ⟨{ s with flg := n }, d', _, _, _, HN2.out.put4 n, HR2.out.off HLB.out.2.2, HL2.out, H1.out, H2.out, fun q hq => (by rcases q with _ | _ | _ | _ | q <;> first | exact ⟨rfl, id⟩ | omega), rfl⟩⟩
  · have HX : Hid _ := hno
    clear hno hr2
    go_wp2_with fail
    go_ret
    exact ⟨HB2.out.trans ((Below.refl B w2).setCell (p := ⟨b, 4, none⟩) HLB.out.2.1 _), .inr ⟨fun s' q h => HX.out s'.flg q h, rfl⟩⟩

theorem rpart_any {B r b : Nat} {d : ByteArray} {vi vq vf : Value} {s : Stt} (p : Nat) (hp : p < 5) (hz : d.size ≤ 140737488355328) (W : World) (hR : Rdr W r d) (hN : Nx B W b vi vq vf s) (hbr : b ≠ r) (hBr : B ≤ r) :
    Calls Try.prog 32 #[.pointer (some ⟨r, 0, none⟩), .pointer (some ⟨b, 0, none⟩), .int .i64 (p : Int)] W fun e W' => Dpr p B r b d s W e W' := by
  match p, hp with
  | 0, _ => exact rpart0_any hz W hR hN hbr hBr
  | 1, _ => exact rpart1_any hz W hR hN hbr hBr
  | 2, _ => exact rpart2_any hz W hR hN hbr hBr
  | 3, _ => exact rpart3_any hz W hR hN hbr hBr
  | 4, _ => exact rpart4_any hz W hR hN hbr hBr
end Go.Proofs.Ytkaciochlemjiaa
