import Derived.Test.YtgdmoeocgflhgaaDoorDac
namespace Go.Proofs.YtgdmoeocgflhgaaDoor
open Go.RowKit Go.Maps

theorem actR_le {n p q : Nat} {s : ByteArray} {x : Ak} (h : actR n s p = .ok (x, q)) (hp : p ≤ s.size) : q ≤ s.size := by
  unfold actR at h
  cases hn : num s 0 9223372036854775807 p with
  | error b => rw [hn] at h; cases h
  | ok y =>
    obtain ⟨k, q'⟩ := y
    rw [hn] at h
    dsimp only at h
    by_cases hf : fts n (aco k) = true
    · rw [if_pos hf] at h; cases h; exact (num_le hn hp).1
    · rw [if_neg hf] at h; cases h
theorem entR_le {n p q : Nat} {s : ByteArray} {x : Int} (h : entR n s p = .ok (x, q)) (hp : p ≤ s.size) : q ≤ s.size := by
  unfold entR at h
  cases hn : num s 0 n p with
  | error b => rw [hn] at h; cases h
  | ok y =>
    obtain ⟨k, q'⟩ := y
    rw [hn] at h
    cases h
    exact (num_le hn hp).1
theorem Fr.new {w W : World} {r b k : Nat} {v : Value} (h : Fr w W r) (hb : w.heap.size ≤ b) : Fr w (W.setCell ⟨b, k, none⟩ v) r :=
  ⟨h.os, h.tape, h.output, by have := h.size; simpa using this, fun j hj hne => (Below.heap_setCell W ⟨b, k, none⟩ v j (by intro e; have e' : j = b := e; omega)).trans (h.block j hj hne)⟩
theorem blk_off {W : World} {b c k : Nat} {v : Value} {cs cb : Array Value} {t t' : TypeId} (h : W.heap[c]? = some (.cells cs t (0, 0))) (hb : W.heap[b]? = some (.cells cb t' (0, 0))) (hne : t ≠ t') : (W.setCell ⟨b, k, none⟩ v).heap[c]? = some (.cells cs t (0, 0)) :=
  (Below.heap_setCell W ⟨b, k, none⟩ v c (fun q => by have q' : c = b := q; rw [q', hb] at h; cases h; exact hne rfl)).trans h
theorem Er.off {W : World} {sa : Addr} {e v : Value} {p b k : Nat} {cb : Array Value} {t : TypeId} (h : Er W sa e p) (hb : W.heap[b]? = some (.cells cb t (0, 0))) (h1 : 43 ≠ t) (h2 : 58 ≠ t) : Er (W.setCell ⟨b, k, none⟩ v) sa e p := by
  rcases h with ⟨c, e1, hc⟩ | ⟨c, e1, hc⟩
  · exact Or.inl ⟨c, e1, blk_off hc hb h1⟩
  · exact Or.inr ⟨c, e1, blk_off hc hb h2⟩
theorem Rd.off {W : World} {s : ByteArray} {v : Value} {r p b k : Nat} {cb : Array Value} {t : TypeId} (h : Rd W r s p) (hb : W.heap[b]? = some (.cells cb t (0, 0))) (h1 : 61 ≠ t) : Rd (W.setCell ⟨b, k, none⟩ v) r s p := blk_off h hb h1
theorem Sn.off {W : World} {sa : Addr} {v : Value} {b k : Nat} (h : Sn W sa) (hb : b ≠ 0) : Sn (W.setCell ⟨b, k, none⟩ v) sa := by
  have h1 : W.grownBy (W.setCell ⟨b, k, none⟩ v) (some b) := grown_set
  exact h1.cell h (fun e => hb (Option.some.inj e).symm)
/-- The answer's block is written: nothing else of what is known turns. -/
theorem ans2 {W : World} {b : Nat} {x y u v : Value} (hb : W.heap[b]? = some (.cells #[u, v] 52 (0, 0))) : ((W.setCell ⟨b, 0, none⟩ x).setCell ⟨b, 1, none⟩ y).heap[b]? = some (.cells #[x, y] 52 (0, 0)) := by
  rw [blk_set y (blk_set x hb)]
  rfl
set_option maxRecDepth 100000 in
set_option maxHeartbeats 16000000 in
theorem action_any {r p n : Nat} {s : ByteArray} {sa : Addr} (hs : s.size ≤ 140737488355328) (hp : p ≤ s.size) (w : World) (hr : Rd w r s p) (hn : Sn w sa) (h0 : r ≠ 0) :
    Calls Tryd.prog 18 #[.pointer (some ⟨r, 0, none⟩), .int .i64 (n : Int)] w fun e w' => Cr r s sa (fun x : Ak => .agg #[.int .i64 x.1, .int .i64 x.2]) (.agg #[.int .i64 0, .int .i64 0]) (actR n s p) e w' ∧ Fr w w' r ∧ Sn w' sa := by
  obtain ⟨W1, hW1⟩ : ∃ W1, W1 = w.alloc (.cells #[.int .i64 0, .int .i64 0] 52) := ⟨_, rfl⟩
  have HB1 : Hid (Below w.heap.size w W1) := by rw [hW1]; exact bel_up _ _
  have HX1 : Hid (W1.heap[w.heap.size]? = some (.cells #[.int .i64 0, .int .i64 0] 52 (0, 0))) := by rw [hW1]; exact heap_new _ _
  have HR1 : Hid (Rd W1 r s p) := hr.up HB1.out
  have HCT : Hid (Calls Tryd.prog 30 #[.pointer (some ⟨r, 0, none⟩), .int .i64 0, .int .i64 9223372036854775807] W1 fun e w' => Cr r s sa (fun v : Nat => .int .i64 (v : Int)) (.int .i64 0) (num s 0 9223372036854775807 p) e w' ∧ Fr W1 w' r ∧ Sn w' sa) := count_any (lo := 0) (hi := 9223372036854775807) hs hp (by omega) (by omega) W1 HR1.out (hn.up HB1.out) h0
  have HLE : Hid (∀ v q, num s 0 9223372036854775807 p = .ok (v, q) → v < 9223372036854775808 ∧ q ≤ s.size) := fun v q h => ⟨(num_le h hp).2.2.2.1, (num_le h hp).1⟩
  have HE : Hid (actR n s p = match num s 0 9223372036854775807 p with
    | .error b => .error b
    | .ok (k, q) => if fts n (aco k) = true then .ok (aco k, q) else .error p) := rfl
  have HF1 : Hid (Fr w W1 r) := Fr.of_below HB1.out
  obtain ⟨N, hN⟩ : ∃ N, num s 0 9223372036854775807 p = N := ⟨_, rfl⟩
  obtain ⟨E, hE⟩ : ∃ E, actR n s p = E := ⟨_, rfl⟩
  rw [hN] at HCT HLE HE
  rw [hE] at HE ⊢
  have HRB : Hid (w.heap.size ≠ 0) := by have := cell_lt hn; show _ ≠ _; intro e; rw [e] at this; exact absurd this (Nat.not_lt_zero _)
  have HPS : Hid (p ≤ s.size) := hp
  clear hN hE hs hp hr hn h0
  go_enter Tryd.func18, Tryd.ntmps18
  go_upto_region 1 with fail
  rw [← hW1]
  clear hW1
  obtain ⟨rb, hrb⟩ : ∃ rb, w.heap.size = rb := ⟨_, rfl⟩
  have HRW : Hid (w.heap.size ≤ rb ∧ rb ≠ 0) := by have := HRB.out; show _ ∧ _; omega
  rw [hrb] at HX1 ⊢
  clear hrb
  have c1 := rcell HR1.out 1 _ rfl
  cases N with
  | error b =>
    have HEE : Hid (E = .error b) := HE.out
    go_upto_region 3 with (go_at_call 30; refine Calls.mono HCT.out ?_; rintro e W2 ⟨⟨ev, q, rfl, her, hrd, hq⟩, hfr, hsn⟩; have H2 : Hid (Er W2 sa ev b ∧ Rd W2 r s q ∧ q ≤ s.size ∧ Fr W1 W2 r ∧ Sn W2 sa) := ⟨her, hrd, hq, hfr, hsn⟩; obtain ⟨et, evv, rfl⟩ := her.form; clear her hrd hq hfr hsn)
    clear c1
    have X2 : Hid (W2.heap[rb]? = some (.cells #[.int .i64 0, .int .i64 0] 52 (0, 0))) := H2.out.2.2.2.1.box HX1.out HR1.out (by decide)
    have r0 := rcell X2.out 0 _ rfl
    have r1 := rcell X2.out 1 _ rfl
    have z0 : W2.frozen? ⟨rb, 0, none⟩ = false := Lib.frozen_of_heap X2.out 0
    have z1 : W2.frozen? ⟨rb, 1, none⟩ = false := Lib.frozen_of_heap X2.out 1
    go_wp2_with fail
    have hf := ans2 (x := .int .i64 0) (y := .int .i64 0) X2.out
    have k0 := rcell hf 0 _ rfl
    have k1 := rcell hf 1 _ rfl
    have hb1 := blk_set (k := 0) (.int .i64 0) X2.out
    refine bodyPost_ret (v := .tuple #[.agg #[.int .i64 0, .int .i64 0], .iface et evv]) (by simp [results, Tryd.results18, go_sem, k0, k1]) rfl ⟨by rw [HEE.out]; exact ⟨_, q, rfl, (H2.out.1.off X2.out (by decide) (by decide)).off hb1 (by decide) (by decide), (H2.out.2.1.off X2.out (by decide)).off hb1 (by decide), H2.out.2.2.1⟩, Fr.new (Fr.new (HF1.out.trans H2.out.2.2.2.1) HRW.out.1) HRW.out.1, (H2.out.2.2.2.2.off HRW.out.2).off HRW.out.2⟩
  | ok y =>
    obtain ⟨k, q⟩ := y
    have HEE : Hid (E = if fts n (aco k) = true then .ok (aco k, q) else .error p) := HE.out
    have HKQ : Hid (k < 9223372036854775808 ∧ q ≤ s.size) := HLE.out k q rfl
    go_upto_region 5 with (go_at_call 30; refine Calls.mono HCT.out ?_; rintro e W2 ⟨⟨rfl, hrd⟩, hfr, hsn⟩; have H2 : Hid (Rd W2 r s q ∧ Fr W1 W2 r ∧ Sn W2 sa) := ⟨hrd, hfr, hsn⟩; clear hrd hfr hsn)
    clear c1
    have X2 : Hid (W2.heap[rb]? = some (.cells #[.int .i64 0, .int .i64 0] 52 (0, 0))) := H2.out.2.1.box HX1.out HR1.out (by decide)
    obtain ⟨x, hx⟩ : ∃ x, aco k = x := ⟨_, rfl⟩
    have HAO : Hid (Calls Tryd.prog 31 #[.int .i64 (k : Int)] W2 fun e w' => e = .returned (.agg #[.int .i64 x.1, .int .i64 x.2]) ∧ Below W2.heap.size W2 w') := by rw [← hx]; exact actionOf_any k HKQ.out.1 W2
    rw [hx] at HEE
    clear hx
    go_upto_region 6 with (go_at_call 31; refine Calls.mono HAO.out ?_; rintro e W3 ⟨rfl, hb3⟩; have B3 : Hid (Below W2.heap.size W2 W3) := hb3; clear hb3)
    obtain ⟨W4, hW4⟩ : ∃ W4, W4 = W3.alloc (.cells #[.int .i64 x.1, .int .i64 x.2] 52) := ⟨_, rfl⟩
    rw [← hW4]
    have HX4 : Hid (W4.heap[W3.heap.size]? = some (.cells #[.int .i64 x.1, .int .i64 x.2] 52 (0, 0))) := by rw [hW4]; exact heap_new _ _
    have B4 : Hid (Below W2.heap.size W2 W4) := by rw [hW4]; exact below_trans B3.out (bel_up _ _)
    clear hW4
    obtain ⟨ab, hab⟩ : ∃ ab, W3.heap.size = ab := ⟨_, rfl⟩
    rw [hab] at HX4 ⊢
    clear hab
    have a0 := rcell HX4.out 0 _ rfl
    have a1 := rcell HX4.out 1 _ rfl
    cases hf : fts n x with
    | false =>
      have HFF : Hid (fts n x = false) := hf
      clear hf
      have HEF : Hid (E = .error p) := by show _ = _; rw [HEE.out, if_neg (by rw [HFF.out]; simp)]
      go_upto_region 7 with (go_at_call 32; refine (mayDo_any n x W4).mono ?_; rintro e W5 ⟨rfl, hb5⟩; have B5 : Hid (Below W4.heap.size W4 W5) := hb5; clear hb5; rw [HFF.out])
      clear a0 a1
      have B6 : Hid (Below W2.heap.size W2 W5) := below_trans B4.out B5.out
      have X5 : Hid (W5.heap[rb]? = some (.cells #[.int .i64 0, .int .i64 0] 52 (0, 0))) := (B6.out.block _ (lt_of_heap X2.out)).trans X2.out
      go_wp2_with (go_at_call 11; refine (broken_any p sa W5).mono ?_; rintro e W6 ⟨ev, rfl, her, hb6⟩; have B7 : Hid (Below W5.heap.size W5 W6) := hb6; have HE6 : Hid (Er W6 sa ev p) := her; obtain ⟨et, evv, rfl⟩ := her.form; clear her hb6; have X6 : Hid (W6.heap[rb]? = some (.cells #[.int .i64 0, .int .i64 0] 52 (0, 0))) := (B7.out.block _ (lt_of_heap X5.out)).trans X5.out; have r0 := rcell X6.out 0 _ rfl; have r1 := rcell X6.out 1 _ rfl; have z0 : W6.frozen? ⟨rb, 0, none⟩ = false := Lib.frozen_of_heap X6.out 0; have z1 : W6.frozen? ⟨rb, 1, none⟩ = false := Lib.frozen_of_heap X6.out 1)
      have B8 : Hid (Below W2.heap.size W2 W6) := below_trans B6.out B7.out
      have hf := ans2 (x := .int .i64 0) (y := .int .i64 0) X6.out
      have k0 := rcell hf 0 _ rfl
      have k1 := rcell hf 1 _ rfl
      have hb1 := blk_set (k := 0) (.int .i64 0) X6.out
      refine bodyPost_ret (v := .tuple #[.agg #[.int .i64 0, .int .i64 0], .iface et evv]) (by simp [results, Tryd.results18, go_sem, k0, k1]) rfl ⟨by rw [HEF.out]; exact ⟨_, q, rfl, (HE6.out.off X6.out (by decide) (by decide)).off hb1 (by decide) (by decide), ((H2.out.1.up B8.out).off X6.out (by decide)).off hb1 (by decide), HKQ.out.2⟩, Fr.new (Fr.new ((HF1.out.trans H2.out.2.1).trans (Fr.of_below B8.out)) HRW.out.1) HRW.out.1, ((H2.out.2.2.up B8.out).off HRW.out.2).off HRW.out.2⟩
    | true =>
      have HFF : Hid (fts n x = true) := hf
      clear hf
      have HEF : Hid (E = .ok (x, q)) := by show _ = _; rw [HEE.out, if_pos HFF.out]
      go_upto_region 8 with (go_at_call 32; refine (mayDo_any n x W4).mono ?_; rintro e W5 ⟨rfl, hb5⟩; have B5 : Hid (Below W4.heap.size W4 W5) := hb5; clear hb5; rw [HFF.out])
      clear a0 a1
      have B6 : Hid (Below W2.heap.size W2 W5) := below_trans B4.out B5.out
      have X5 : Hid (W5.heap[rb]? = some (.cells #[.int .i64 0, .int .i64 0] 52 (0, 0))) := (B6.out.block _ (lt_of_heap X2.out)).trans X2.out
      have a0 := below_cell B5.out (rcell HX4.out 0 _ rfl)
      have a1 := below_cell B5.out (rcell HX4.out 1 _ rfl)
      have r0 := rcell X5.out 0 _ rfl
      have r1 := rcell X5.out 1 _ rfl
      have z0 : W5.frozen? ⟨rb, 0, none⟩ = false := Lib.frozen_of_heap X5.out 0
      have z1 : W5.frozen? ⟨rb, 1, none⟩ = false := Lib.frozen_of_heap X5.out 1
      go_wp2_with fail
      have hf := ans2 (x := .int .i64 x.1) (y := .int .i64 x.2) X5.out
      have k0 := rcell hf 0 _ rfl
      have k1 := rcell hf 1 _ rfl
      have hb1 := blk_set (k := 0) (.int .i64 x.1) X5.out
      refine bodyPost_ret (v := .tuple #[.agg #[.int .i64 x.1, .int .i64 x.2], .nilIface]) (by simp [results, Tryd.results18, go_sem, k0, k1]) rfl ⟨by rw [HEF.out]; exact ⟨rfl, ((H2.out.1.up B6.out).off X5.out (by decide)).off hb1 (by decide)⟩, Fr.new (Fr.new ((HF1.out.trans H2.out.2.1).trans (Fr.of_below B6.out)) HRW.out.1) HRW.out.1, ((H2.out.2.2.up B6.out).off HRW.out.2).off HRW.out.2⟩
end Go.Proofs.YtgdmoeocgflhgaaDoor
