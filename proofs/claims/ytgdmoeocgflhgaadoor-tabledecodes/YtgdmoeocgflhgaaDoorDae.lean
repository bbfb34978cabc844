import Derived.Test.YtgdmoeocgflhgaaDoorDad
namespace Go.Proofs.YtgdmoeocgflhgaaDoor
open Go.RowKit Go.Maps

/-- What the closures hold: where the reader is, how many states there are. -/
structure Env (W : World) (c1 c2 r n : Nat) : Prop where
  a : W.heap[c1]? = some (.cells #[.pointer (some ⟨r, 0, none⟩)] 59 (0, 0))
  b : W.heap[c2]? = some (.cells #[.int .i64 (n : Int)] 3 (0, 0))
theorem Env.up {W W' : World} {c1 c2 r n : Nat} (h : Env W c1 c2 r n) (hb : Below W.heap.size W W') : Env W' c1 c2 r n := ⟨(hb.block _ (lt_of_heap h.a)).trans h.a, (hb.block _ (lt_of_heap h.b)).trans h.b⟩
theorem Env.fr {W W' : World} {c1 c2 r n : Nat} {cs : Array Value} (h : Env W c1 c2 r n) (hf : Fr W W' r) (hr : W.heap[r]? = some (.cells cs 61 (0, 0))) : Env W' c1 c2 r n := ⟨hf.box h.a hr (by decide), hf.box h.b hr (by decide)⟩
set_option maxRecDepth 100000 in
set_option maxHeartbeats 16000000 in
theorem oneA_any {r p n c1 c2 : Nat} {s : ByteArray} {sa : Addr} (hs : s.size ≤ 140737488355328) (hp : p ≤ s.size) (w : World) (he : Env w c1 c2 r n) (hr : Rd w r s p) (hn : Sn w sa) (h0 : r ≠ 0) :
    Calls Tryd.prog 17 #[.pointer (some ⟨c1, 0, none⟩), .pointer (some ⟨c2, 0, none⟩)] w fun e w' => Cr r s sa (fun x : Ak => .agg #[.int .i64 x.1, .int .i64 x.2]) (.agg #[.int .i64 0, .int .i64 0]) (actR n s p) e w' ∧ Fr w w' r ∧ Sn w' sa := by
  obtain ⟨W1, hW1⟩ : ∃ W1, W1 = w.alloc (.cells #[.int .i64 0, .int .i64 0] 52) := ⟨_, rfl⟩
  have HB1 : Hid (Below w.heap.size w W1) := by rw [hW1]; exact bel_up _ _
  have HX1 : Hid (W1.heap[w.heap.size]? = some (.cells #[.int .i64 0, .int .i64 0] 52 (0, 0))) := by rw [hW1]; exact heap_new _ _
  have HR1 : Hid (Rd W1 r s p) := hr.up HB1.out
  have HE1 : Hid (Env W1 c1 c2 r n) := he.up HB1.out
  have HAC : Hid (Calls Tryd.prog 18 #[.pointer (some ⟨r, 0, none⟩), .int .i64 (n : Int)] W1 fun e w' => Cr r s sa (fun x : Ak => .agg #[.int .i64 x.1, .int .i64 x.2]) (.agg #[.int .i64 0, .int .i64 0]) (actR n s p) e w' ∧ Fr W1 w' r ∧ Sn w' sa) := action_any hs hp W1 HR1.out (hn.up HB1.out) h0
  have HF1 : Hid (Fr w W1 r) := Fr.of_below HB1.out
  have HRB : Hid (w.heap.size ≠ 0) := by have := cell_lt hn; show _ ≠ _; intro e; rw [e] at this; exact absurd this (Nat.not_lt_zero _)
  obtain ⟨E, hE⟩ : ∃ E, actR n s p = E := ⟨_, rfl⟩
  rw [hE] at HAC ⊢
  clear hE hs hp hr hn h0 he
  go_enter Tryd.func17, Tryd.ntmps17
  go_upto_region 1 with fail
  rw [← hW1]
  clear hW1
  obtain ⟨rb, hrb⟩ : ∃ rb, w.heap.size = rb := ⟨_, rfl⟩
  have HRW : Hid (w.heap.size ≤ rb ∧ rb ≠ 0) := by have := HRB.out; show _ ∧ _; omega
  rw [hrb] at HX1 ⊢
  clear hrb
  have d1 := rcell HE1.out.a 0 _ rfl
  have d2 := rcell HE1.out.b 0 _ rfl
  cases E with
  | error b =>
    go_wp2_with (go_at_call 18; refine Calls.mono HAC.out ?_; rintro e W2 ⟨⟨ev, q, rfl, her, hrd, hq⟩, hfr, hsn⟩; have H2 : Hid (Er W2 sa ev b ∧ Rd W2 r s q ∧ q ≤ s.size ∧ Fr W1 W2 r ∧ Sn W2 sa) := ⟨her, hrd, hq, hfr, hsn⟩; obtain ⟨et, evv, rfl⟩ := her.form; clear her hrd hq hfr hsn d1 d2; have X2 : Hid (W2.heap[rb]? = some (.cells #[.int .i64 0, .int .i64 0] 52 (0, 0))) := H2.out.2.2.2.1.box HX1.out HR1.out (by decide); have r0 := rcell X2.out 0 _ rfl; have r1 := rcell X2.out 1 _ rfl; have z0 : W2.frozen? ⟨rb, 0, none⟩ = false := Lib.frozen_of_heap X2.out 0; have z1 : W2.frozen? ⟨rb, 1, none⟩ = false := Lib.frozen_of_heap X2.out 1)
    have hf := ans2 (x := .int .i64 0) (y := .int .i64 0) X2.out
    have k0 := rcell hf 0 _ rfl
    have k1 := rcell hf 1 _ rfl
    have hb1 := blk_set (k := 0) (.int .i64 0) X2.out
    refine bodyPost_ret (v := .tuple #[.agg #[.int .i64 0, .int .i64 0], .iface et evv]) (by simp [results, Tryd.results17, go_sem, k0, k1]) rfl ⟨⟨_, q, rfl, (H2.out.1.off X2.out (by decide) (by decide)).off hb1 (by decide) (by decide), (H2.out.2.1.off X2.out (by decide)).off hb1 (by decide), H2.out.2.2.1⟩, Fr.new (Fr.new (HF1.out.trans H2.out.2.2.2.1) HRW.out.1) HRW.out.1, (H2.out.2.2.2.2.off HRW.out.2).off HRW.out.2⟩
  | ok y =>
    obtain ⟨x, q⟩ := y
    obtain ⟨xa, xb⟩ := x
    go_wp2_with (go_at_call 18; refine Calls.mono HAC.out ?_; rintro e W2 ⟨⟨rfl, hrd⟩, hfr, hsn⟩; have H2 : Hid (Rd W2 r s q ∧ Fr W1 W2 r ∧ Sn W2 sa) := ⟨hrd, hfr, hsn⟩; clear hrd hfr hsn d1 d2; have X2 : Hid (W2.heap[rb]? = some (.cells #[.int .i64 0, .int .i64 0] 52 (0, 0))) := H2.out.2.1.box HX1.out HR1.out (by decide); have r0 := rcell X2.out 0 _ rfl; have r1 := rcell X2.out 1 _ rfl; have z0 : W2.frozen? ⟨rb, 0, none⟩ = false := Lib.frozen_of_heap X2.out 0; have z1 : W2.frozen? ⟨rb, 1, none⟩ = false := Lib.frozen_of_heap X2.out 1)
    have hf := ans2 (x := .int .i64 xa) (y := .int .i64 xb) X2.out
    have k0 := rcell hf 0 _ rfl
    have k1 := rcell hf 1 _ rfl
    have hb1 := blk_set (k := 0) (.int .i64 xa) X2.out
    refine bodyPost_ret (v := .tuple #[.agg #[.int .i64 xa, .int .i64 xb], .nilIface]) (by simp [results, Tryd.results17, go_sem, k0, k1]) rfl ⟨⟨rfl, (H2.out.1.off X2.out (by decide)).off hb1 (by decide)⟩, Fr.new (Fr.new (HF1.out.trans H2.out.2.1) HRW.out.1) HRW.out.1, (H2.out.2.2.off HRW.out.2).off HRW.out.2⟩
set_option maxRecDepth 100000 in
set_option maxHeartbeats 16000000 in
theorem oneG_any {r p n c1 c2 : Nat} {s : ByteArray} {sa : Addr} (hs : s.size ≤ 140737488355328) (hp : p ≤ s.size) (hn2 : n ≤ 2048) (w : World) (he : Env w c1 c2 r n) (hr : Rd w r s p) (hn : Sn w sa) (h0 : r ≠ 0) :
    Calls Tryd.prog 20 #[.pointer (some ⟨c1, 0, none⟩), .pointer (some ⟨c2, 0, none⟩)] w fun e w' => Cr r s sa (fun v : Int => .int .i64 v) (.int .i64 0) (entR n s p) e w' ∧ Fr w w' r ∧ Sn w' sa := by
  have HAC : Hid (Calls Tryd.prog 21 #[.pointer (some ⟨r, 0, none⟩), .int .i64 (n : Int)] w fun e w' => Cr r s sa (fun v : Int => .int .i64 v) (.int .i64 0) (entR n s p) e w' ∧ Fr w w' r ∧ Sn w' sa) := entry_any hs hp hn2 w hr hn h0
  have d1 := rcell he.a 0 _ rfl
  have d2 := rcell he.b 0 _ rfl
  obtain ⟨E, hE⟩ : ∃ E, entR n s p = E := ⟨_, rfl⟩
  rw [hE] at HAC ⊢
  clear hE hs hp hr hn h0 he hn2
  go_enter Tryd.func20, Tryd.ntmps20
  cases E with
  | error b =>
    go_wp2_with (go_at_call 21; refine Calls.mono HAC.out ?_; rintro e W2 ⟨⟨ev, q, rfl, her, hrd, hq⟩, hfr, hsn⟩; have H2 : Hid (Er W2 sa ev b ∧ Rd W2 r s q ∧ q ≤ s.size ∧ Fr w W2 r ∧ Sn W2 sa) := ⟨her, hrd, hq, hfr, hsn⟩; clear her hrd hq hfr hsn)
    go_ret2
    exact ⟨⟨_, q, rfl, H2.out.1, H2.out.2.1, H2.out.2.2.1⟩, H2.out.2.2.2.1, H2.out.2.2.2.2⟩
  | ok y =>
    obtain ⟨x, q⟩ := y
    go_wp2_with (go_at_call 21; refine Calls.mono HAC.out ?_; rintro e W2 ⟨⟨rfl, hrd⟩, hfr, hsn⟩; have H2 : Hid (Rd W2 r s q ∧ Fr w W2 r ∧ Sn W2 sa) := ⟨hrd, hfr, hsn⟩; clear hrd hfr hsn)
    go_ret2
    exact ⟨⟨rfl, H2.out.1⟩, H2.out.2.1, H2.out.2.2⟩
end Go.Proofs.YtgdmoeocgflhgaaDoor
