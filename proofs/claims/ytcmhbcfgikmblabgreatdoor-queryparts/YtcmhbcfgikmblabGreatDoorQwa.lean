import Derived.Test.YtcmhbcfgikmblabGreatDoorQsj
import Derived.Test.YtcmhbcfgikmblabGreatDoorQyo
import Derived.Test.YtcmhbcfgikmblabGreatDoorQyd
namespace Go.Proofs.YtcmhbcfgikmblabGreatDoor.Qy
open Go.RowKit Go.Maps

/-- The nodes that are left to write, below a block. -/
def Lp (B : Nat) (W : World) (v : Value) (l : List Pn) : Prop :=
  ∃ a c, v = .slice a l.length c ∧ l.length ≤ c ∧ (l ≠ [] → ∃ g o, a = some ⟨g, o, none⟩ ∧ g < B ∧ ∀ j u, (flat pf l)[j]? = some u → W.cell? ⟨g, o + j, none⟩ = some u)
theorem Lp.up {B : Nat} {W W' : World} {v : Value} {l : List Pn} (h : Lp B W v l) (hb : Below B W W') : Lp B W' v l := by
  obtain ⟨a, c, e, hn, hc⟩ := h
  refine ⟨a, c, e, hn, fun hl => ?_⟩
  obtain ⟨g, o, e1, hg, hu⟩ := hc hl
  exact ⟨g, o, e1, hg, fun j u h => bel_cell hb (hu j u h) hg⟩
theorem Lp.at {B : Nat} {W : World} {v : Value} {p : Pn} {l : List Pn} (h : Lp B W v (p :: l)) : ∃ g o c, v = .slice (some ⟨g, o, none⟩) (l.length + 1) c ∧ l.length + 1 ≤ c ∧ W.cell? ⟨g, o, none⟩ = some (.string p.nm) ∧ W.cell? ⟨g, o + 1, none⟩ = some (.bool p.lit) ∧ W.cell? ⟨g, o + 2, none⟩ = some (.string p.fd) ∧ W.cell? ⟨g, o + 3, none⟩ = some (.string p.cp) ∧ W.cell? ⟨g, o + 4, none⟩ = some (.int .i64 p.kd) ∧ Lp B W (.slice (if c = 1 then some ⟨g, o, none⟩ else some ⟨g, o + 5, none⟩) l.length (c - 1)) l := by
  obtain ⟨a, c, e, hn, hc⟩ := h
  obtain ⟨g, o, rfl, hg, hu⟩ := hc (by simp)
  rw [List.length_cons] at hn
  refine ⟨g, o, c, e, hn, hu 0 _ rfl, hu 1 _ rfl, hu 2 _ rfl, hu 3 _ rfl, hu 4 _ rfl, ⟨_, c - 1, rfl, by omega, fun hl => ?_⟩⟩
  have hl0 : 0 < l.length := List.length_pos_iff.2 hl
  refine ⟨g, o + 5, by rw [if_neg (by omega)], hg, fun j u hj => ?_⟩
  rw [Nat.add_assoc]
  refine hu (5 + j) u ?_
  show (pf p ++ flat pf l)[5 + j]? = some u
  rw [List.getElem?_append_right (by rw [pf_len]; omega), pf_len, Nat.add_sub_cancel_left]
  exact hj
/-- The writer in its block. -/
structure Wq (B : Nat) (W : World) (q : Nat) (l : List Pn) (o : List Wd) : Prop where
  lt : B ≤ q
  ex : ∃ vl vo, W.heap[q]? = some (.cells #[vl, vo] 81 (0, 0)) ∧ Lp B W vl l ∧ W.ownsRow B 77 4 vo o.length (wC o)
theorem Wq.up {B : Nat} {W W' : World} {q : Nat} {l : List Pn} {o : List Wd} (h : Wq B W q l o) (hb : Below W.heap.size W W') : Wq B W' q l o := by
  obtain ⟨vl, vo, h1, h2, h3⟩ := h.ex
  exact ⟨h.lt, vl, vo, (hb.block _ (lt_of_heap h1)).trans h1, h2.up (hb.mono (Nat.le_trans h.lt (Nat.le_of_lt (lt_of_heap h1)))), row_up h3 hb⟩
theorem Wq.size {B : Nat} {W : World} {q : Nat} {l : List Pn} {o : List Wd} (h : Wq B W q l o) : B ≤ W.heap.size := by
  obtain ⟨vl, vo, h1, _⟩ := h.ex
  have := lt_of_heap h1
  have := h.lt
  omega
set_option maxRecDepth 100000 in
theorem sign_any (t : ByteArray) (w : World) : Calls Tryz.prog 49 #[.string t] w fun e w' => e = .returned (.agg #[.int .i64 5, .string t, .int .i64 0, .int .i64 0]) ∧ Below w.heap.size w w' := by
  obtain ⟨w1, hw1⟩ : ∃ w1, w1 = w.alloc (.cells #[.int .i64 0, .string ⟨#[]⟩, .int .i64 0, .int .i64 0] 77) := ⟨_, rfl⟩
  have HB1 : Hid (Below w.heap.size w w1) := by rw [hw1]; exact bel_up _ _
  have hb := heap_new w (.cells #[.int .i64 0, .string ⟨#[]⟩, .int .i64 0, .int .i64 0] 77)
  rw [← hw1] at hb
  have q0 := rcell hb 0 _ rfl
  have q1 := rcell hb 1 _ rfl
  have q2 := rcell hb 2 _ rfl
  have q3 := rcell hb 3 _ rfl
  have f0 := Lib.frozen_of_heap hb 0
  have f1 := Lib.frozen_of_heap hb 1
  have f2 := Lib.frozen_of_heap hb 2
  have f3 := Lib.frozen_of_heap hb 3
  clear hb
  go_enter Tryz.func49, Tryz.ntmps49
  go_upto_region 1 with fail
  rw [← hw1]
  clear hw1
  go_wp2_with fail
  refine bodyPost_ret (v := .agg #[.int .i64 5, .string t, .int .i64 0, .int .i64 0]) ?_ rfl ⟨rfl, ?_⟩
  · rw [results_cell1 rfl]; go_simp
  · exact Below.setCell (Below.setCell (Below.setCell (Below.setCell HB1.out (Nat.le_refl _) _) (Nat.le_refl _) _) (Nat.le_refl _) _) (Nat.le_refl _) _
set_option maxRecDepth 100000 in
theorem quote_any (t : ByteArray) (w : World) : Calls Tryz.prog 50 #[.string t] w fun e w' => e = .returned (.agg #[.int .i64 2, .string t, .int .i64 0, .int .i64 0]) ∧ Below w.heap.size w w' := by
  obtain ⟨w1, hw1⟩ : ∃ w1, w1 = w.alloc (.cells #[.int .i64 0, .string ⟨#[]⟩, .int .i64 0, .int .i64 0] 77) := ⟨_, rfl⟩
  have HB1 : Hid (Below w.heap.size w w1) := by rw [hw1]; exact bel_up _ _
  have hb := heap_new w (.cells #[.int .i64 0, .string ⟨#[]⟩, .int .i64 0, .int .i64 0] 77)
  rw [← hw1] at hb
  have q0 := rcell hb 0 _ rfl
  have q1 := rcell hb 1 _ rfl
  have q2 := rcell hb 2 _ rfl
  have q3 := rcell hb 3 _ rfl
  have f0 := Lib.frozen_of_heap hb 0
  have f1 := Lib.frozen_of_heap hb 1
  have f2 := Lib.frozen_of_heap hb 2
  have f3 := Lib.frozen_of_heap hb 3
  clear hb
  go_enter Tryz.func50, Tryz.ntmps50
  go_upto_region 1 with fail
  rw [← hw1]
  clear hw1
  go_wp2_with fail
  refine bodyPost_ret (v := .agg #[.int .i64 2, .string t, .int .i64 0, .int .i64 0]) ?_ rfl ⟨rfl, ?_⟩
  · rw [results_cell1 rfl]; go_simp
  · exact Below.setCell (Below.setCell (Below.setCell (Below.setCell HB1.out (Nat.le_refl _) _) (Nat.le_refl _) _) (Nat.le_refl _) _) (Nat.le_refl _) _
/-- Boxes of nodes and conditions stay. -/
def Fw (w w' : World) : Prop := ∀ (b : Nat) (cs : Array Value) (t : TypeId), (t = 46 ∨ t = 38 ∨ t = 25) → w.heap[b]? = some (.cells cs t (0, 0)) → w'.heap[b]? = some (.cells cs t (0, 0))
theorem Fw.trans {a b c : World} (h : Fw a b) (k : Fw b c) : Fw a c := fun x cs t ht hx => k x cs t ht (h x cs t ht hx)
theorem Fw.bel {w w' : World} (h : Below w.heap.size w w') : Fw w w' := fun b _ _ _ hx => (h.block b (lt_of_heap hx)).trans hx
theorem Fw.refl (w : World) : Fw w w := fun _ _ _ _ hx => hx
set_option maxRecDepth 100000 in
set_option maxHeartbeats 8000000 in
theorem put_any {B q g : Nat} {l : List Pn} {o ws : List Wd} (m : Nat) (w : World) (h : Wq B w q l o) (hm : ws.length = m) (hg : ∀ j u, (wC ws)[j]? = some u → w.cell? ⟨g, j, none⟩ = some u) (hl : o.length + m ≤ 1000000) : Calls Tryz.prog 47 #[.pointer (some ⟨q, 0, none⟩), .slice (some ⟨g, 0, none⟩) m m] w fun e w' => e = .returned (.tuple #[]) ∧ Wq B w' q l (o ++ ws) ∧ Below B w w' ∧ Fw w w' := by
  obtain ⟨iW, hiW, hx0, hx1, hx2⟩ := info_parts infoW
  have HB0 : Hid (B ≤ w.heap.size) := h.size
  obtain ⟨vl, vo, h1, h2, h3⟩ := h.ex
  obtain ⟨ra, rc, rfl⟩ := row_shape h3
  have k0 := rcell h1 0 _ rfl
  have k1 := rcell h1 1 _ rfl
  obtain ⟨n, hn⟩ : ∃ n, o.length = n := ⟨_, rfl⟩
  rw [hn] at h3 h1 k1 hl
  have HN : Hid (o.length = n) := hn
  have HO : Hid (w.ownsRow B 77 4 (.slice ra n rc) n (wC o)) := h3
  have HK : Hid (w.heap[q]? = some (.cells #[vl, .slice ra n rc] 81 (0, 0))) := h1
  have HP : Hid (Lp B w vl l) := h2
  have HLT : Hid (B ≤ q) := h.lt
  have HL : Hid (n + m ≤ 1000000) := hl
  have HM : Hid ((wC ws).length = m * 4) := by show _ = _; rw [wC_len, hm]
  have HG : Hid (∀ j u, (wC ws)[j]? = some u → w.cell? ((⟨g, 0, none⟩ : Addr).add j) = some u) := fun j u hu => by rw [addPl, Nat.zero_add]; exact hg j u hu
  have HWL : Hid (ws.length = m) := hm
  clear h h1 h2 h3 hn hm hg hl
  go_enter Tryz.func47, Tryz.ntmps47
  go_wp2_with (at_builtin; refine wpList_append_own _ rfl _ _ 72 rfl B 77 iW (.agg #[.int .i64 0, .string ⟨#[]⟩, .int .i64 0, .int .i64 0]) 4 40 Tryz.underlying72 hiW hx0 hx1 hx2 rfl (by decide) _ _ _ rfl HO.out ⟨g, 0, none⟩ m m (wC ws) rfl HM.out HG.out (wC_one ws) (by have := HL.out; unfold maxLen; omega) (by have := HL.out; omega) HB0.out ?_; intro v5 w5 ho5 hg5 _; have HO5 : Hid (w5.ownsRow B 77 4 v5 (n + m) (wC o ++ wC ws)) := ho5; have HG5 : Hid (w.grownBy w5 (Value.ownBlock (.slice ra n rc))) := hg5; obtain ⟨qa, qc, rfl⟩ := row_shape ho5; have c5 : w5.cell? ⟨q, 1, none⟩ = some (.slice ra n rc) := cel_of HG5.out HK.out HO.out (by decide) rfl; have z5 : w5.frozen? ⟨q, 1, none⟩ = false := froz_of HG5.out HK.out HO.out (by decide); clear ho5 hg5)
  go_end0
  have hb : Below B w w5 := (Below.refl B w).grown HG5.out HB0.out (fun r hr => (row_tag HO.out r hr).1)
  have hk5 : w5.heap[q]? = some (.cells #[vl, .slice ra n rc] 81 (0, 0)) := (HG5.out.block q (lt_of_heap HK.out) (fun e => tag_ne_blk HO.out HK.out (by decide) e.symm)).trans HK.out
  have hb2 : Below B w (w5.setCell ⟨q, 1, none⟩ (.slice qa (n + m) qc)) := Below.setCell hb HLT.out _
  refine ⟨rfl, ⟨HLT.out, vl, .slice qa (n + m) qc, by rw [blk_set _ hk5]; rfl, HP.out.up hb2, ?_⟩, hb2, ?_⟩
  · have h9 := (row_off (k := 1) (u := .slice qa (n + m) qc) hk5 HO5.out (by decide)).1
    rw [wC_app, List.length_append, HN.out, HWL.out]
    exact h9
  · intro b cs t ht hx
    have hne : b ≠ q := by
      rintro rfl
      rw [HK.out] at hx
      cases hx
      rcases ht with h | h | h <;> cases h
    rw [heap_far hne]
    refine (HG5.out.block b (lt_of_heap hx) (fun e => tag_ne_blk HO.out hx ?_ e.symm)).trans hx
    rintro rfl
    rcases ht with h | h | h <;> cases h
end Go.Proofs.YtcmhbcfgikmblabGreatDoor.Qy
