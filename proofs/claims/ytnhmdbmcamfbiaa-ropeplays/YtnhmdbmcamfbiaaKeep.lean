import Derived.Test.YtnhmdbmcamfbiaaBack
import Derived.Deep.LoopGhost
import Derived.Deep.RegionWith
import Derived.Deep.Cut
import Derived.Deep.CutRange
namespace Go.Proofs.Ytnhmdbmcamfbiaa
open Go.RowKit

theorem tmod_bd (q : Int) (n : Nat) (hn : 0 < n) : -(n : Int) < q.tmod n ∧ q.tmod n < n := by
  have h1 : (q.tmod n).natAbs = q.natAbs % n := by rw [Int.natAbs_tmod]; simp
  have h2 := Nat.mod_lt q.natAbs hn
  omega

set_option maxRecDepth 100000 in
set_option maxHeartbeats 400000 in
theorem pick_any (q : Int) (n : Nat) (w : World) (hn : 0 < n) (hn2 : n ≤ 1000000000000000) :
    Calls Try.prog 25 #[.int .i64 q, .int .i64 (n : Int)] w fun e w' => ∃ k : Nat, e = .returned (.int .i64 (k : Int)) ∧ k < n ∧ w = w' := by
  have hz : ((n : Int) == 0) = false := by rw [beq_eq_false_iff_ne]; omega
  have hb := tmod_bd q n hn
  have hb1 := hb.1
  have hb2 := hb.2
  clear hb
  by_cases hs : q.tmod n < 0
  · go_enter Try.func25, Try.ntmps25
    go_wp2_with fail
    go_ret
    exact ⟨(q.tmod n + n).toNat, ret_int (by omega), by omega, rfl⟩
  · have hs' : 0 ≤ q.tmod n := by omega
    clear hs
    go_enter Try.func25, Try.ntmps25
    go_wp2_with fail
    go_ret
    exact ⟨(q.tmod n).toNat, ret_int (by omega), by omega, rfl⟩

/-- where a script of changes stands: the ropes and their texts -/
structure St (w0 w : World) (rv tv : Value) (bs : List Nat) (ss : List ByteArray) : Prop where
  ropes : w.ownsRow w0.heap.size 24 1 rv bs.length (bs.map fun b => Value.pointer (some ⟨b, 0, none⟩))
  texts : w.ownsRow w0.heap.size 9 1 tv ss.length (ss.map Value.string)
  same : bs.length = ss.length
  pos : 0 < bs.length
  each : ∀ (k b : Nat) (s : ByteArray), bs[k]? = some b → ss[k]? = some s → IsRope w b s.data.toList
  below : Below w0.heap.size w0 w

theorem grown_none {w w' : World} (h : Below w.heap.size w w') : w.grownBy w' none := ⟨h.os, h.tape, h.output, h.size, fun k hk _ => h.block k hk⟩
theorem St.mono {w0 w w' : World} {rv tv : Value} {bs : List Nat} {ss : List ByteArray} (h : St w0 w rv tv bs ss) (hb : Below w.heap.size w w') : St w0 w' rv tv bs ss :=
  ⟨h.ropes.kept (grown_none hb) (by cases hv : rv.ownBlock <;> simp), h.texts.kept (grown_none hb) (by cases hv : tv.ownBlock <;> simp), h.same, h.pos, fun k b s h1 h2 => (h.each k b s h1 h2).mono hb, below_trans h.below hb⟩

/-- a slice of the call's own, with an element -/
theorem own_slice {w : World} {base e : Nat} {v : Value} {n : Nat} {xs : List Value} (h : w.ownsRow base e 1 v n xs) (hn : 0 < n) :
    ∃ g cap, v = .slice (some ⟨g, 0, none⟩) n cap ∧ n ≤ cap ∧ base ≤ g ∧ g < w.heap.size ∧ (∀ k u, xs[k]? = some u → w.cell? ⟨g, k, none⟩ = some u) := by
  have hc := h
  obtain ⟨h1, h2⟩ := h
  rcases h2 with ⟨_, h2⟩ | ⟨g, cap, cur, rfl, hg, hh, hcap, _⟩
  · omega
  · refine ⟨g, cap, rfl, hcap, hg, (Array.getElem?_eq_some_iff.1 hh).1, fun k u hu => ?_⟩
    have := hc.cells (g := g) rfl k u hu
    have hadd : (⟨g, 0, none⟩ : Addr).add k = ⟨g, k, none⟩ := by unfold Addr.add; split <;> simp_all
    rwa [hadd] at this

theorem own_cell {w : World} {base e : Nat} {g c : Nat} {n : Nat} {xs : List Value} (h : w.ownsRow base e 1 (.slice (some ⟨g, 0, none⟩) n c) n xs) (hn : 0 < n) (k : Nat) (u : Value) (hk : xs[k]? = some u) : w.cell? ⟨g, k, none⟩ = some u := by
  obtain ⟨g', cap, hv, _, _, _, hc⟩ := own_slice h hn
  have e1 : g = g' := (by simpa using hv : g = g' ∧ c = cap).1
  subst e1
  exact hc k u hk
/-- what is written into rows of pointers or strings turns no tree -/
theorem IsTree.grown {w w' : World} {g : Nat} {u : Value} (hu : w.cell? ⟨g, 0, none⟩ = some u) (hn : ∀ t x, u ≠ .iface t x) (hg : w.grownBy w' (some g)) {v : Value} {t : Rp.T} (h : IsTree w v t) : IsTree w' v t := by
  induction h with
  | leaf s => exact .leaf s
  | branch b vl vr l r h0 h1 h2 h3 hl hr il ir =>
    have hne : some b ≠ some g := by
      intro e
      have e' : b = g := by simpa using e
      subst e'
      rw [hu] at h0
      obtain ⟨uu, xx, hv⟩ := hl.val
      exact hn uu xx (by rw [← hv]; simpa using h0)
    have hbl := hg.block b (cell_lt h0) hne
    exact .branch b vl vr l r (by rw [World.cell?_of_block (w := w) hbl]; exact h0) (by rw [World.cell?_of_block (w := w) hbl]; exact h1) (by rw [World.cell?_of_block (w := w) hbl]; exact h2) (by rw [World.cell?_of_block (w := w) hbl]; exact h3) il ir
theorem IsRope.grown {w w' : World} {g b : Nat} {u : Value} {txt : List UInt8} (hu : w.cell? ⟨g, 0, none⟩ = some u) (hn : ∀ t x, u ≠ .iface t x) (hg : w.grownBy w' (some g)) (h : IsRope w b txt) : IsRope w' b txt := by
  obtain ⟨⟨v, t, h0, h1, h2, h3⟩, h4⟩ := h
  obtain ⟨uu, xx, rfl⟩ := h1.val
  have hne : some b ≠ some g := by
    intro e
    have e' : b = g := by simpa using e
    subst e'
    rw [hu] at h0
    exact hn uu xx (by simpa using h0)
  exact ⟨⟨_, t, by rw [World.cell?_of_block (w := w) (hg.block b (cell_lt h0) hne)]; exact h0, h1.grown hu hn hg, h2, h3⟩, h4⟩

theorem own_apart {w : World} {base : Nat} {v v2 : Value} {n n2 : Nat} {xs xs2 : List Value} (h : w.ownsRow base 24 1 v n xs) (h2 : w.ownsRow base 9 1 v2 n2 xs2) (hn : 0 < n) : v.ownBlock ≠ v2.ownBlock := by
  obtain ⟨_, h⟩ := h
  obtain ⟨_, h2⟩ := h2
  rcases h with ⟨_, h⟩ | ⟨g, cap, cur, rfl, _, hg, _⟩
  · omega
  · rcases h2 with ⟨rfl, _⟩ | ⟨g2, cap2, cur2, rfl, _, hg2, _⟩
    · simp [Value.ownBlock]
    · intro e
      have e' : g = g2 := by simpa [Value.ownBlock] using e
      subst e'
      rw [hg] at hg2
      simp at hg2

theorem own_first {w : World} {base e : Nat} {v : Value} {n : Nat} {xs : List Value} (h : w.ownsRow base e 1 v n xs) (hn : 0 < n) :
    ∃ g u, v.ownBlock = some g ∧ base ≤ g ∧ xs[0]? = some u ∧ w.cell? ⟨g, 0, none⟩ = some u := by
  have hl := h.1
  obtain ⟨g, cap, rfl, _, hg, _, hc⟩ := own_slice h hn
  have h0 : 0 < xs.length := by omega
  exact ⟨g, xs[0], rfl, hg, List.getElem?_eq_getElem h0, hc 0 _ (List.getElem?_eq_getElem h0)⟩

theorem St.texts_after {w0 w w1 : World} {rv tv : Value} {bs : List Nat} {ss : List ByteArray} (h : St w0 w rv tv bs ss) (hg : w.grownBy w1 rv.ownBlock) : w1.ownsRow w0.heap.size 9 1 tv ss.length (ss.map Value.string) :=
  h.texts.kept hg (Or.inr (fun e => own_apart h.ropes h.texts h.pos e.symm))
/-- a rope more, a text more -/
theorem St.push {w0 w w1 w2 w3 : World} {rv tv rv' tv' : Value} {bs : List Nat} {ss : List ByteArray} {b : Nat} {s : ByteArray} (h : St w0 w rv tv bs ss) (hr : IsRope w b s.data.toList)
    (hown : w1.ownsRow w0.heap.size 24 1 rv' (bs.length + 1) ((bs.map fun b => Value.pointer (some ⟨b, 0, none⟩)) ++ [.pointer (some ⟨b, 0, none⟩)])) (hg : w.grownBy w1 rv.ownBlock)
    (hb : Below w1.heap.size w1 w2)
    (hown2 : w3.ownsRow w0.heap.size 9 1 tv' (ss.length + 1) (ss.map Value.string ++ [.string s])) (hg2 : w2.grownBy w3 tv.ownBlock) :
    St w0 w3 rv' tv' (bs ++ [b]) (ss ++ [s]) := by
  have hpos := h.pos
  have hsame := h.same
  obtain ⟨g, u, e1, q1, e2, e3⟩ := own_first h.ropes hpos
  have hu : ∀ t x, u ≠ .iface t x := by
    intro t x hh
    rw [List.getElem?_map] at e2
    cases hb0 : bs[0]? with
    | none => rw [hb0] at e2; simp at e2
    | some b0 => rw [hb0] at e2; simp at e2; rw [← e2] at hh; simp at hh
  rw [e1] at hg
  have t1 := h.texts.kept hg (Or.inr (fun e => own_apart h.ropes h.texts hpos (by rw [e1, e])))
  have ea1 : ∀ (k b : Nat) (s : ByteArray), bs[k]? = some b → ss[k]? = some s → IsRope w1 b s.data.toList := fun k b s h1 h2 => (h.each k b s h1 h2).grown e3 hu hg
  have r1 := hr.grown e3 hu hg
  have b1 : Below w0.heap.size w0 w1 := h.below.grown hg h.below.size (fun k hk => by cases hk; exact q1)
  have t2 := t1.kept (grown_none hb) (by cases hv : tv.ownBlock <;> simp)
  have o2 := hown.kept (grown_none hb) (by cases hv : rv'.ownBlock <;> simp)
  have r2 := r1.mono hb
  have b2 := below_trans b1 hb
  obtain ⟨g', u', e1', q1', e2', e3'⟩ := own_first t2 (by omega)
  have hu' : ∀ t x, u' ≠ .iface t x := by
    intro t x hh
    rw [List.getElem?_map] at e2'
    cases hb0 : ss[0]? with
    | none => rw [hb0] at e2'; simp at e2'
    | some b0 => rw [hb0] at e2'; simp at e2'; rw [← e2'] at hh; simp at hh
  have ap := own_apart o2 t2 (by omega)
  rw [e1'] at hg2 ap
  have o3 := o2.kept hg2 (Or.inr ap)
  have r3 := r2.grown e3' hu' hg2
  refine ⟨by simpa using o3, by simpa using hown2, by simp [hsame], by simp, ?_, b2.grown hg2 b2.size (fun k hk => by cases hk; exact q1')⟩
  intro k b' s' h1 h2
  by_cases hk : k < bs.length
  · rw [List.getElem?_append_left hk] at h1
    rw [List.getElem?_append_left (by omega)] at h2
    exact ((ea1 k b' s' h1 h2).mono hb).grown e3' hu' hg2
  · rw [List.getElem?_append_right (by omega)] at h1
    rw [List.getElem?_append_right (by omega), ← hsame] at h2
    have hk0 : k - bs.length = 0 := by
      rcases Nat.eq_zero_or_pos (k - bs.length) with h | h
      · exact h
      · rw [List.getElem?_eq_none (by simp; omega)] at h1; simp at h1
    rw [hk0] at h1 h2
    simp at h1 h2
    subst h1 h2
    exact r3

/-- the cells of the changes that came in: four a change -/
def IsChanges (w : World) (a0 : Option Addr) (len : Nat) : Prop :=
  ∀ i, i < len → ∃ blk off, a0 = some ⟨blk, off, none⟩ ∧ ∃ (q a d : Int) (ins : ByteArray), ins.size ≤ 9223372036854775807 ∧
    w.cell? ⟨blk, off + i * 4, none⟩ = some (.int .i64 q) ∧ w.cell? ⟨blk, off + i * 4 + 1, none⟩ = some (.int .i64 a) ∧ w.cell? ⟨blk, off + i * 4 + 1 + 1, none⟩ = some (.int .i64 d) ∧ w.cell? ⟨blk, off + i * 4 + 1 + 2, none⟩ = some (.string ins)

theorem st_init {w w2 : World} {b : Nat} {s : ByteArray} (hb : Below w.heap.size w w2) (hr : IsRope w2 b s.data.toList) :
    St w ((w2.alloc (.cells #[.pointer (some ⟨b, 0, none⟩)] 24)).alloc (.cells #[.string s] 9)) (.slice (some ⟨w2.heap.size, 0, none⟩) 1 1) (.slice (some ⟨w2.heap.size + 1, 0, none⟩) 1 1) [b] [s] := by
  have hsz := hb.size
  have b1 : Below w2.heap.size w2 (w2.alloc (.cells #[.pointer (some ⟨b, 0, none⟩)] 24)) := (Below.refl _ _).alloc (Nat.le_refl _) _
  have b2 : Below (w2.alloc (.cells #[.pointer (some ⟨b, 0, none⟩)] 24)).heap.size (w2.alloc (.cells #[.pointer (some ⟨b, 0, none⟩)] 24)) ((w2.alloc (.cells #[.pointer (some ⟨b, 0, none⟩)] 24)).alloc (.cells #[.string s] 9)) := (Below.refl _ _).alloc (Nat.le_refl _) _
  have o1 : (w2.alloc (.cells #[.pointer (some ⟨b, 0, none⟩)] 24)).ownsRow w.heap.size 24 1 (.slice (some ⟨w2.heap.size, 0, none⟩) 1 1) 1 [.pointer (some ⟨b, 0, none⟩)] := World.ownsRow_lit w2 _ 1 hsz (by unfold maxLen; omega) rfl
  have o2 := World.ownsRow_lit (base := w.heap.size) (e := 9) (size := 1) (w2.alloc (.cells #[.pointer (some ⟨b, 0, none⟩)] 24)) #[.string s] 1 (by simp; omega) (by unfold maxLen; omega) rfl
  refine ⟨o1.alloc _, by simpa using o2, rfl, by simp, ?_, below_trans hb (below_trans b1 b2)⟩
  intro k b' s' h1 h2
  have hk : k = 0 := by
    rcases Nat.eq_zero_or_pos k with h | h
    · exact h
    · rw [List.getElem?_eq_none (by simp; omega)] at h1; simp at h1
  subst hk
  simp at h1 h2
  subst h1 h2
  exact (hr.mono b1).mono b2

theorem info24 : (Try.prog.info? 24).map (fun i => (i.zero, i.size, i.bytes)) = some (some (.pointer none), 1, 8) := by kernel_rfl
theorem info9 : (Try.prog.info? 9).map (fun i => (i.zero, i.size, i.bytes)) = some (some (.string ⟨#[]⟩), 1, 16) := by kernel_rfl

def Rel1 (w0 : World) (len k : Nat) (rv tv i : Value) (wr : World) : Prop :=
  ∃ (bs : List Nat) (ss : List ByteArray) (j : Nat), i = .int .i64 (j : Int) ∧ St w0 wr rv tv bs ss ∧ bs.length ≤ j + 1 ∧ j ≤ len ∧ k = len - j
def Rel2 (w0 : World) (bs : List Nat) (ss : List ByteArray) (rv tv : Value) (k : Nat) (i : Value) (wr : World) : Prop :=
  ∃ (j : Nat), i = .int .i64 (j : Int) ∧ St w0 wr rv tv bs ss ∧ j ≤ bs.length ∧ k = bs.length - j

set_option maxRecDepth 100000 in
set_option maxHeartbeats 2000000 in
theorem keep_walk (s : ByteArray) (a0 : Option Addr) (len cap : Nat) (w : World) (hs : s.size ≤ 1048576) (hlen : len ≤ 4000000000000) (hch : IsChanges w a0 len) :
    Calls Try.prog 7 #[.string s, .slice a0 len cap] w fun e w' => e = .returned (.bool true) ∧ Below w.heap.size w w' := by
  have HC : Hid _ := hch
  have HS : Hid _ := hs
  have hsB : decide ((1048576 : Int) < (s.size : Int)) = false := by rw [decide_eq_false_iff_not]; omega
  clear hch hs
  go_enter Try.func7, Try.ntmps7
  go_wp2_with fail
  refine (new_any s _ HS.out).mono ?_
  rintro e w1 ⟨b, rfl, hr, hb⟩
  have HR : Hid _ := hr
  have B1 : Hid _ := hb
  clear hb hr
  go_wp2_with fail
  refine (same_any b s _ HR.out).mono ?_
  rintro e w2 ⟨rfl, hb⟩
  have HR2 : Hid _ := HR.out.mono hb
  have B2 : Hid _ := below_trans B1.out hb
  clear hb
  go_wp2_with fail
  have hst : Hid _ := st_init B2.out HR2.out
  go_loopg [6, 7, 8] len (fun k rv tv i wr => Rel1 w len k rv tv i wr)
  case atStart => exact ⟨[b], [s], 0, rfl, hst.out, by simp, Nat.zero_le _, by omega⟩
  case round =>
    clear HR HR2 B1 B2 hst
    obtain ⟨bs, ss, j, rfl, hst, hbj, hjl, hk⟩ := hrel
    have ST : Hid _ := hst
    have HK : Hid _ := hk
    have hsame := hst.same
    have hpos := hst.pos
    obtain ⟨g, c1, hv1, hc1, _, hg1, hcell1⟩ := own_slice hst.ropes hpos
    obtain ⟨g2, c2, hv2, hc2, _, hg2, hcell2⟩ := own_slice hst.texts (by omega)
    obtain ⟨n, hn⟩ : ∃ n, n = bs.length := ⟨_, rfl⟩
    rw [← hsame, ← hn] at hv2 hc2
    rw [← hn] at hv1 hc1 hpos hbj
    subst hv1 hv2
    have HN : Hid _ := hn
    have HN2 : Hid (n = ss.length) := hn.trans hsame
    clear hn hsame
    have HB : Hid _ := hst.below
    have C1 : Hid _ := hcell1
    have C2 : Hid _ := hcell2
    clear hst hk hcell1 hcell2
    by_cases hlt : j < len
    · obtain ⟨blk, off, rfl, q, a, d, ins, hins, k0, k1, k2, k3⟩ := HC.out j hlt
      have k0' := below_cell HB.out k0
      have k1' := below_cell HB.out k1
      have k2' := below_cell HB.out k2
      have k3' := below_cell HB.out k3
      clear k0 k1 k2 k3
      go_wp2_with fail
      refine (pick_any q n _ hpos (by omega)).mono ?_
      rintro e w' ⟨p, rfl, hp, rfl⟩
      obtain ⟨bp, hbp⟩ : ∃ bp, bs[p]? = some bp := ⟨_, List.getElem?_eq_getElem (by rw [← HN.out]; exact hp)⟩
      obtain ⟨sp, hsp⟩ : ∃ sp, ss[p]? = some sp := ⟨_, List.getElem?_eq_getElem (by rw [← HN2.out]; exact hp)⟩
      have cr := C1.out p (.pointer (some ⟨bp, 0, none⟩)) (by rw [List.getElem?_map, hbp]; rfl)
      have ct := C2.out p (.string sp) (by rw [List.getElem?_map, hsp]; rfl)
      have RP : Hid _ := ST.out.each p bp sp hbp hsp
      have hps : Hid (sp.size ≤ 1048576) := by rw [Lib.size_eq]; exact RP.out.len
      clear hbp hsp
      by_cases hfit : (ins.size : Int) ≤ 1048576 - ((sp.size : Int) - cl d (sp.size - cl a sp.size))
      · have HF : Hid _ := hfit
        clear hfit
        have HS1 : Hid (∀ W, Below wr.heap.size wr W → Calls Try.prog 11 #[.pointer (some ⟨bp, 0, none⟩), .agg #[.int .i64 a, .int .i64 d, .string ins]] W fun e w' => ∃ b' : Nat, e = .returned (.tuple #[.pointer (some ⟨b', 0, none⟩), .int .i64 0]) ∧ IsRope w' b' (after sp.data.toList a d ins) ∧ Below W.heap.size W w') := fun W hW => splice_ok bp _ a d ins W (RP.out.mono hW) (by rw [← Lib.size_eq]; exact HF.out)
        go_upto_region 12 with fail
        go_cut [10, 11] from 31 to 94 (fun r e wc => ∃ b' : Nat, r = .pointer (some ⟨b', 0, none⟩) ∧ e = .int .i64 0 ∧ IsRope wc b' (after sp.data.toList a d ins) ∧ Below wr.heap.size wr wc)
        case first =>
          go_region_with (go_at_call 11; refine (HS1.out _ ?_).mono ?_; exact (Below.refl _ _).drew; rintro e w2 ⟨b', rfl, hr2, hb2⟩; have HR2 : Hid _ := hr2; have B3 : Hid _ := hb2; clear hr2 hb2)
          all_goals
            go_wp2_with fail
            go_meet
            exact ⟨b', rfl, rfl, HR2.out, Below.trans ((Below.refl _ _).drew) (B3.out.mono (Nat.le_refl _))⟩
        case rest =>
          obtain ⟨b', rfl, rfl, hr2, hb2⟩ := hcut
          have HR2 : Hid _ := hr2
          have B2 : Hid _ := hb2
          have ct2 := below_cell hb2 ct
          have k1b := below_cell hb2 k1'
          have k2b := below_cell hb2 k2'
          have k3b := below_cell hb2 k3'
          have ST2 : Hid _ := ST.out.mono hb2
          clear hr2 hb2 ct k1' k2' k3' cr k0' HS1
          have HC1 : Hid (∀ W, Calls Try.prog 16 #[.string sp, .agg #[.int .i64 a, .int .i64 d, .string ins]] W fun e w' => ∃ r : ByteArray, e = .returned (.tuple #[.string r, .bool true]) ∧ r.data.toList = after sp.data.toList a d ins ∧ Below W.heap.size W w') := fun W => cut_yes sp a d ins W hps.out HF.out
          go_upto_region 13 with fail
          go_cut [12, 13] from 31 to 94 (fun x y wd => ∃ r : ByteArray, x = .string r ∧ y = .bool true ∧ r.data.toList = after sp.data.toList a d ins ∧ Below wc.heap.size wc wd)
          case first =>
            go_region_with (go_at_call 16; refine (HC1.out _).mono ?_; rintro e w2 ⟨r, rfl, hr2, hb2⟩; have HR3 : Hid _ := hr2; have B3 : Hid _ := hb2; clear hr2 hb2)
            all_goals
              go_wp2_with fail
              go_meet
              exact ⟨r, rfl, rfl, HR3.out, Below.trans ((Below.refl _ _).drew) (B3.out.mono (Nat.le_refl _))⟩
          case rest =>
            obtain ⟨r, rfl, rfl, hr3, hb3⟩ := hcut
            clear ct2 k1b k2b k3b HC1
            have HR3 : Hid _ := hr3
            have ST3 : Hid _ := ST2.out.mono hb3
            have HRR : Hid _ := HR2.out.mono hb3
            rw [← hr3] at HRR
            clear hb3 hr3
            go_wp2_with fail
            refine (same_any b' r _ HRR.out).mono ?_
            rintro e w5 ⟨rfl, hb5⟩
            have ST5 : Hid _ := ST3.out.mono (Below.trans hb5 ((Below.refl _ w5).alloc (by exact hb5.size) (.cells #[.pointer (some ⟨b', 0, none⟩)] 24)))
            have HR5 : Hid _ := (HRR.out.mono hb5).mono ((Below.refl _ w5).alloc (Nat.le_refl _) (.cells #[.pointer (some ⟨b', 0, none⟩)] 24))
            have hbase : w.heap.size ≤ (w5.alloc (.cells #[.pointer (some ⟨b', 0, none⟩)] 24)).heap.size := ST5.out.below.size
            have hO1 : Hid ((w5.alloc (.cells #[.pointer (some ⟨b', 0, none⟩)] 24)).ownsRow w.heap.size 24 1 (.slice (some ⟨g, 0, none⟩) n c1) n (bs.map fun b => Value.pointer (some ⟨b, 0, none⟩))) := by have := ST5.out.ropes; rw [← HN.out] at this; exact this
            clear hb5
            obtain ⟨i24, hi24, hz24, hs24, hy24⟩ := info_parts info24
            obtain ⟨i9, hi9, hz9, hs9, hy9⟩ := info_parts info9
            go_wp2_with (at_builtin; refine wpList_append_own _ rfl (.tmp 87) (.tmp 89) 50 rfl w.heap.size 24 i24 (.pointer none) 1 8 Try.underlying50 hi24 hz24 hs24 hy24 rfl (by decide) _ _ _ rfl hO1.out ⟨w5.heap.size, 0, none⟩ 1 1 [.pointer (some ⟨b', 0, none⟩)] rfl rfl ?c1 ?c2 ?c3 ?c4 ?c5 ?_)
            case c1 => exact cell_one_new _ _ _
            case c2 => intro u hu; simp at hu; subst hu; rfl
            case c3 => unfold maxLen; omega
            case c4 => omega
            case c5 => exact hbase
            intro v1 w6 hown1 hgrow1 _
            have hT6 := ST5.out.texts_after hgrow1
            have hsz6 := hgrow1.size
            have hbase2 : w.heap.size ≤ (w6.alloc (.cells #[.string r] 9)).heap.size := Nat.le_trans ST5.out.below.size (Nat.le_trans hsz6 (by simp))
            have hO2 : Hid ((w6.alloc (.cells #[.string r] 9)).ownsRow w.heap.size 9 1 (.slice (some ⟨g2, 0, none⟩) n c2) n (ss.map Value.string)) := by have := hT6.alloc (.cells #[.string r] 9); rw [← HN2.out] at this; exact this
            have OW1 : Hid _ := hown1
            have GR1 : Hid _ := hgrow1
            clear hown1 hgrow1 hT6 hO1 hsz6 hbase
            go_wp2_with (at_builtin; refine wpList_append_own _ rfl (.tmp 91) (.tmp 93) 51 rfl w.heap.size 9 i9 (.string ⟨#[]⟩) 1 16 Try.underlying51 hi9 hz9 hs9 hy9 rfl (by decide) _ _ _ rfl hO2.out ⟨w6.heap.size, 0, none⟩ 1 1 [.string r] rfl rfl ?d1 ?d2 ?d3 ?d4 ?d5 ?_)
            case d1 => exact cell_one_new _ _ _
            case d2 => intro u hu; simp at hu; subst hu; rfl
            case d3 => unfold maxLen; omega
            case d4 => omega
            case d5 => exact hbase2
            intro v2 w7 hown2 hgrow2 _
            have FIN : Hid _ := ST5.out.push HR5.out (by rw [← HN.out]; exact OW1.out) GR1.out ((Below.refl _ w6).alloc (Nat.le_refl _) (.cells #[.string r] 9)) (by rw [← HN2.out]; exact hown2) hgrow2
            clear hown2 hgrow2 hO2 hbase2 OW1 GR1 hi24 hz24 hs24 hy24 hi9 hz9 hs9 hy9
            go_wp2_with fail
            go_roundg (len - (j + 1))
            case measure => have := HK.out; omega
            case rel => exact ⟨_, _, j + 1, by go_num, FIN.out, by rw [List.length_append, ← HN.out]; simp only [List.length_cons, List.length_nil]; omega, by omega, rfl⟩
      · have hbig : 1048576 - ((sp.size : Int) - cl d (sp.size - cl a sp.size)) < (ins.size : Int) := by omega
        have HF : Hid _ := hbig
        clear hfit hbig
        have HS1 : Hid (∀ W, Below wr.heap.size wr W → Calls Try.prog 11 #[.pointer (some ⟨bp, 0, none⟩), .agg #[.int .i64 a, .int .i64 d, .string ins]] W fun e w' => e = .returned (.tuple #[.pointer none, .int .i64 10]) ∧ Below W.heap.size W w') := fun W hW => splice_big bp _ a d ins W (RP.out.mono hW) (by rw [← Lib.size_eq]; exact HF.out)
        go_upto_region 12 with fail
        go_cut [10, 11] from 31 to 94 (fun r e wc => r = .pointer none ∧ e = .int .i64 10 ∧ Below wr.heap.size wr wc)
        case first =>
          go_region_with (go_at_call 11; refine (HS1.out _ ?_).mono ?_; exact (Below.refl _ _).drew; rintro e w2 ⟨rfl, hb2⟩; have B3 : Hid _ := hb2; clear hb2)
          all_goals
            go_wp2_with fail
            go_meet
            exact ⟨rfl, rfl, Below.trans ((Below.refl _ _).drew) (B3.out.mono (Nat.le_refl _))⟩
        case rest =>
          obtain ⟨rfl, rfl, hb2⟩ := hcut
          have ct2 := below_cell hb2 ct
          have k1b := below_cell hb2 k1'
          have k2b := below_cell hb2 k2'
          have k3b := below_cell hb2 k3'
          have ST2 : Hid _ := ST.out.mono hb2
          clear hb2 ct k1' k2' k3' cr k0' HS1
          have HC1 : Hid (∀ W, Calls Try.prog 16 #[.string sp, .agg #[.int .i64 a, .int .i64 d, .string ins]] W fun e w' => e = .returned (.tuple #[.string ⟨#[]⟩, .bool false]) ∧ Below W.heap.size W w') := fun W => cut_no sp a d ins W hps.out hins HF.out
          go_upto_region 13 with fail
          go_cut [12, 13] from 31 to 94 (fun _ y wd => y = .bool false ∧ Below wc.heap.size wc wd)
          case first =>
            go_region_with (go_at_call 16; refine (HC1.out _).mono ?_; rintro e w2 ⟨rfl, hb2⟩; have B3 : Hid _ := hb2; clear hb2)
            all_goals
              go_wp2_with fail
              go_meet
              exact ⟨rfl, Below.trans ((Below.refl _ _).drew) (B3.out.mono (Nat.le_refl _))⟩
          case rest =>
            obtain ⟨rfl, hb3⟩ := hcut
            clear ct2 k1b k2b k3b HC1
            have ST3 : Hid _ := ST2.out.mono hb3
            clear hb3
            go_wp2_with fail
            go_roundg (len - (j + 1))
            case measure => have := HK.out; omega
            case rel => exact ⟨bs, ss, j + 1, by go_num, ST3.out, by rw [← HN.out]; omega, by omega, rfl⟩
    · have hdB : decide (j < len) = false := by rw [decide_eq_false_iff_not]; omega
      clear hlt
      go_wp2_with fail
      go_loopg [14] n (fun k i wr => Rel2 w bs ss (.slice (some ⟨g, 0, none⟩) n c1) (.slice (some ⟨g2, 0, none⟩) n c2) k i wr)
      case atStart => exact ⟨0, rfl, ST.out, Nat.zero_le _, by have := HN.out; omega⟩
      case round =>
        clear ST HB C1 C2 HK hdB
        obtain ⟨m, rfl, hst, hml, hk⟩ := hrel
        have ST : Hid _ := hst
        have HK : Hid _ := hk
        have HML : Hid _ := hml
        clear hst hk hml
        by_cases hlt : m < n
        · obtain ⟨bp, hbp⟩ : ∃ bp, bs[m]? = some bp := ⟨_, List.getElem?_eq_getElem (by rw [← HN.out]; exact hlt)⟩
          obtain ⟨sp, hsp⟩ : ∃ sp, ss[m]? = some sp := ⟨_, List.getElem?_eq_getElem (by rw [← HN2.out]; exact hlt)⟩
          have cr := own_cell (n := n) (by have := ST.out.ropes; rw [← HN.out] at this; exact this) hpos m (.pointer (some ⟨bp, 0, none⟩)) (by rw [List.getElem?_map, hbp]; rfl)
          have ct := own_cell (n := n) (by have := ST.out.texts; rw [← HN2.out] at this; exact this) hpos m (.string sp) (by rw [List.getElem?_map, hsp]; rfl)
          have RP : Hid _ := ST.out.each m bp sp hbp hsp
          have HS1 : Hid (∀ W, Below wr.heap.size wr W → Calls Try.prog 18 #[.pointer (some ⟨bp, 0, none⟩), .string sp] W fun e w' => e = .returned (.bool true) ∧ Below W.heap.size W w') := fun W hW => same_any bp sp W (RP.out.mono hW)
          clear hbp hsp
          go_wp2_with fail
          go_region_with (go_at_call 18; refine (HS1.out _ ?_).mono ?_; exact (Below.refl _ _).drew; rintro e w2 ⟨rfl, hb2⟩; have B3 : Hid _ := hb2; clear hb2)
          all_goals
            go_wp2_with fail
            go_roundg (n - (m + 1))
            case measure => have := HK.out; have := HN.out; omega
            case rel => exact ⟨m + 1, by go_num, ST.out.mono (Below.trans ((Below.refl _ _).drew) (B3.out.mono (Nat.le_refl _))), by have := HN.out; omega, by rw [← HN.out]⟩
        · have hdB : decide (m < n) = false := by rw [decide_eq_false_iff_not]; omega
          clear hlt
          go_wp2_with fail
          go_ret
          exact ⟨rfl, ST.out.below⟩

set_option maxRecDepth 100000 in
set_option maxHeartbeats 1000000 in
theorem keep_big (s : ByteArray) (v : Value) (w : World) (hs : 1048576 < s.size) :
    Calls Try.prog 7 #[.string s, v] w fun e w' => e = .returned (.bool true) ∧ Below w.heap.size w w' := by
  go_enter Try.func7, Try.ntmps7
  go_wp2_with fail
  refine (new_big s _ hs).mono ?_
  rintro e w' ⟨rfl, rfl⟩
  go_wp2_with fail
  go_ret
  exact ⟨rfl, Below.refl _ _⟩

end Go.Proofs.Ytnhmdbmcamfbiaa
