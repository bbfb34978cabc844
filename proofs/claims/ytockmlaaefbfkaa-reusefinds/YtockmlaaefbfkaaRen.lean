import Derived.Test.YtockmlaaefbfkaaRcl
import Derived.Laws.IdiomStrings
namespace Go.Proofs.Ytockmlaaefbfkaa
open Go.RowKit Go.Maps

theorem info5 : (Try.prog.info? 5).map (fun i => (i.zero, i.size, i.bytes)) = some (some (.int .u8 0), 1, 1) := by kernel_rfl
/-- A row of bytes of the call's own. -/
abbrev Byt (B : Nat) (W : World) (v : Value) (l : List UInt8) : Prop := W.ownsRow B 5 1 v l.length (Lib.byteCells l)
theorem byt_app {B : Nat} {W : World} {v : Value} {l : List UInt8} {x : UInt8} (h : W.ownsRow B 5 1 v (l.length + 1) (Lib.byteCells l ++ [.int .u8 (x.toNat : Int)])) : Byt B W v (l ++ [x]) := by
  unfold Byt
  rw [List.length_append]
  have e : Lib.byteCells (l ++ [x]) = Lib.byteCells l ++ [.int .u8 (x.toNat : Int)] := by simp [Lib.byteCells]
  rw [e]
  exact h
set_option maxRecDepth 100000 in
set_option maxHeartbeats 4000000 in
theorem num0_any {B : Nat} {v : Value} {l : List UInt8} (w : World) (h : Byt B w v l) (hl : l.length ≤ 1000000000) (hB : B ≤ w.heap.size) :
    Calls Try.prog 38 #[v, .int .i64 0] w fun e w' => ∃ v', e = .returned v' ∧ Byt B w' v' (l ++ [0]) ∧ Below B w w' ∧ w.grownBy w' v.ownBlock := by
  obtain ⟨i5, hi5, hx0, hx1, hx2⟩ := info_parts info5
  have HH : Hid (Byt B w v l) := h
  have HLL : Hid (l.length ≤ 1000000000) := hl
  have HSB : Hid (B ≤ w.heap.size) := hB
  have HROW : Hid ((w.alloc (.cells #[.int .u8 0] 5)).ownsRow B 5 1 v l.length (Lib.byteCells l)) := h.alloc _
  obtain ⟨ra, rc, rfl⟩ := row_shape HH.out
  clear h hl hB
  go_enter Try.func38, Try.ntmps38
  go_wp2_with fail
  go_loopg [0, 1] 0 (fun gm v0 v1 wr => v0 = .slice ra l.length rc ∧ v1 = .int .i64 0 ∧ w = wr)
  case atStart => exact ⟨rfl, rfl, rfl⟩
  case round =>
    obtain ⟨rfl, rfl, rfl⟩ := hrel
    go_wp2_with (at_builtin; refine wpList_append_own_at _ rfl _ _ 75 rfl B 5 i5 (.int .u8 0) 1 1 Try.underlying75 hi5 hx0 hx1 hx2 rfl (by decide) _ _ _ rfl HROW.out ⟨w.heap.size, 0, none⟩ 1 1 [.int .u8 0] rfl rfl (cell_one_new _ _ _) (by simp [Value.oneCell']) (by have := HLL.out; unfold maxLen; omega) (by have := HLL.out; omega) (by have := HSB.out; simp; omega) ?_; intro v5 w5 ho5 hg5 _ ha5; have HO5 : Hid (Byt B w5 v5 (l ++ [0])) := byt_app (x := 0) ho5; have HG5 : Hid (Below B w w5) := ((bel_up w _).mono HSB.out).grown hg5 (by have := HSB.out; simp; omega) (fun q hq => (row_tag HH.out q hq).1); have HW5 : Hid (w.grownBy w5 (Value.slice ra l.length rc).ownBlock) := (World.grownBy_alloc w _ _).trans hg5; obtain ⟨qa, qc, rfl⟩ := row_shape ho5; clear ho5 hg5 ha5)
    go_ret
    exact ⟨_, rfl, HO5.out, HG5.out, HW5.out⟩
def startv : Value := .agg #[.slice none 0 0, .int .i64 (-1), .slice none 0 0, .slice none 0 0, .int .u16 0]
set_option maxRecDepth 100000 in
set_option maxHeartbeats 4000000 in
theorem part0_any {B : Nat} {v : Value} {l : List UInt8} (w : World) (h : Byt B w v l) (hl : l.length ≤ 1000000000) (hB : B ≤ w.heap.size) :
    Calls Try.prog 28 #[v, startv, .int .i64 0] w fun e w' => ∃ v', e = .returned v' ∧ Byt B w' v' (l ++ [0]) ∧ Below B w w' ∧ w.grownBy w' v.ownBlock := by
  obtain ⟨W1, hW1⟩ : ∃ W1, W1 = w.alloc (.cells #[.slice none 0 0, .int .i64 (-1), .slice none 0 0, .slice none 0 0, .int .u16 0] 55) := ⟨_, rfl⟩
  have HB1 : Hid (Below w.heap.size w W1) := by rw [hW1]; exact bel_up _ _
  have HX : Hid (W1.heap[w.heap.size]? = some (.cells #[.slice none 0 0, .int .i64 (-1), .slice none 0 0, .slice none 0 0, .int .u16 0] 55 (0, 0))) := by rw [hW1]; exact heap_new w _
  have HH : Hid (Byt B W1 v l) := row_up h HB1.out
  have HN : Hid (Calls Try.prog 38 #[v, .int .i64 0] W1 fun e w' => ∃ v', e = .returned v' ∧ Byt B w' v' (l ++ [0]) ∧ Below B W1 w' ∧ W1.grownBy w' v.ownBlock) := num0_any W1 HH.out hl (Nat.le_trans hB HB1.out.size)
  have HSB : Hid (B ≤ w.heap.size) := hB
  obtain ⟨ra, rc, rfl⟩ := row_shape h
  obtain ⟨M, hM⟩ : ∃ M, l ++ [0] = M := ⟨_, rfl⟩
  rw [hM] at HN ⊢
  obtain ⟨m, hm⟩ : ∃ m, M.length = m := ⟨_, rfl⟩
  have HM : Hid (M.length = m) := hm
  obtain ⟨n, hn⟩ : ∃ n, l.length = n := ⟨_, rfl⟩
  rw [hn] at HH HN ⊢
  have HLN : Hid (l.length = n) := hn
  clear h hl hB hm hM hn
  unfold startv
  go_enter Try.func28, Try.ntmps28
  go_upto_region 1 with fail
  rw [← hW1]
  clear hW1
  have x0 := rcell HX.out 0 _ rfl
  go_upto_region 5 with (go_at_call 38; refine Calls.mono HN.out ?_; rintro ee w5 ⟨v5, rfl, ho5, hg5, hw5⟩; have HO5 : Hid (Byt B w5 v5 M) := ho5; have HG5 : Hid (Below B w w5 ∧ w.grownBy w5 (Value.slice ra n rc).ownBlock) := ⟨(HB1.out.mono HSB.out).trans hg5, ((grown_of_below HB1.out).but _).trans hw5⟩; have y0 := cel_of (k := 0) hw5 HX.out (by have h7 := HH.out; exact h7) (by decide) rfl; obtain ⟨qa, qc, rfl⟩ := row_shape ho5; rw [HM.out] at HO5 ⊢; clear ho5 hg5 hw5)
  clear x0 y0
  go_loopg [0, 24] 0 (fun gm v0 v24 wr => v0 = .slice qa m qc ∧ v24 = .int .i64 0 ∧ w5 = wr)
  case atStart => exact ⟨rfl, rfl, rfl⟩
  case round =>
    obtain ⟨rfl, rfl, rfl⟩ := hrel
    go_wp2_with fail
    go_ret
    exact ⟨_, rfl, HO5.out, HG5.out.1, HG5.out.2⟩
set_option maxRecDepth 100000 in
set_option maxHeartbeats 4000000 in
theorem part1_any {B : Nat} {v : Value} {l : List UInt8} (w : World) (h : Byt B w v l) (hl : l.length ≤ 1000000000) (hB : B ≤ w.heap.size) :
    Calls Try.prog 28 #[v, startv, .int .i64 1] w fun e w' => ∃ v', e = .returned v' ∧ Byt B w' v' (l ++ [0]) ∧ Below B w w' ∧ w.grownBy w' v.ownBlock := by
  obtain ⟨W1, hW1⟩ : ∃ W1, W1 = w.alloc (.cells #[.slice none 0 0, .int .i64 (-1), .slice none 0 0, .slice none 0 0, .int .u16 0] 55) := ⟨_, rfl⟩
  have HB1 : Hid (Below w.heap.size w W1) := by rw [hW1]; exact bel_up _ _
  have HX : Hid (W1.heap[w.heap.size]? = some (.cells #[.slice none 0 0, .int .i64 (-1), .slice none 0 0, .slice none 0 0, .int .u16 0] 55 (0, 0))) := by rw [hW1]; exact heap_new w _
  have HH : Hid (Byt B W1 v l) := row_up h HB1.out
  have HN : Hid (Calls Try.prog 38 #[v, .int .i64 0] W1 fun e w' => ∃ v', e = .returned v' ∧ Byt B w' v' (l ++ [0]) ∧ Below B W1 w' ∧ W1.grownBy w' v.ownBlock) := num0_any W1 HH.out hl (Nat.le_trans hB HB1.out.size)
  have HSB : Hid (B ≤ w.heap.size) := hB
  obtain ⟨ra, rc, rfl⟩ := row_shape h
  obtain ⟨M, hM⟩ : ∃ M, l ++ [0] = M := ⟨_, rfl⟩
  rw [hM] at HN ⊢
  obtain ⟨m, hm⟩ : ∃ m, M.length = m := ⟨_, rfl⟩
  have HM : Hid (M.length = m) := hm
  obtain ⟨n, hn⟩ : ∃ n, l.length = n := ⟨_, rfl⟩
  rw [hn] at HH HN ⊢
  have HLN : Hid (l.length = n) := hn
  clear h hl hB hm hM hn
  unfold startv
  go_enter Try.func28, Try.ntmps28
  go_upto_region 1 with fail
  rw [← hW1]
  clear hW1
  have x1 := rcell HX.out 1 _ rfl
  go_wp2_with (go_at_call 38; refine Calls.mono HN.out ?_; rintro ee w5 ⟨v5, rfl, ho5, hg5, hw5⟩; have HO5 : Hid (Byt B w5 v5 M) := ho5; have HG5 : Hid (Below B w w5 ∧ w.grownBy w5 (Value.slice ra n rc).ownBlock) := ⟨(HB1.out.mono HSB.out).trans hg5, ((grown_of_below HB1.out).but _).trans hw5⟩; obtain ⟨qa, qc, rfl⟩ := row_shape ho5; rw [HM.out] at HO5 ⊢; clear ho5 hg5 hw5)
  go_ret
  exact ⟨_, rfl, HO5.out, HG5.out.1, HG5.out.2⟩
set_option maxRecDepth 100000 in
set_option maxHeartbeats 4000000 in
theorem part2_any {B : Nat} {v : Value} {l : List UInt8} (w : World) (h : Byt B w v l) (hl : l.length ≤ 1000000000) (hB : B ≤ w.heap.size) :
    Calls Try.prog 28 #[v, startv, .int .i64 2] w fun e w' => ∃ v', e = .returned v' ∧ Byt B w' v' (l ++ [0]) ∧ Below B w w' ∧ w.grownBy w' v.ownBlock := by
  obtain ⟨W1, hW1⟩ : ∃ W1, W1 = w.alloc (.cells #[.slice none 0 0, .int .i64 (-1), .slice none 0 0, .slice none 0 0, .int .u16 0] 55) := ⟨_, rfl⟩
  have HB1 : Hid (Below w.heap.size w W1) := by rw [hW1]; exact bel_up _ _
  have HX : Hid (W1.heap[w.heap.size]? = some (.cells #[.slice none 0 0, .int .i64 (-1), .slice none 0 0, .slice none 0 0, .int .u16 0] 55 (0, 0))) := by rw [hW1]; exact heap_new w _
  have HH : Hid (Byt B W1 v l) := row_up h HB1.out
  have HN : Hid (Calls Try.prog 38 #[v, .int .i64 0] W1 fun e w' => ∃ v', e = .returned v' ∧ Byt B w' v' (l ++ [0]) ∧ Below B W1 w' ∧ W1.grownBy w' v.ownBlock) := num0_any W1 HH.out hl (Nat.le_trans hB HB1.out.size)
  have HSB : Hid (B ≤ w.heap.size) := hB
  obtain ⟨ra, rc, rfl⟩ := row_shape h
  obtain ⟨M, hM⟩ : ∃ M, l ++ [0] = M := ⟨_, rfl⟩
  rw [hM] at HN ⊢
  obtain ⟨m, hm⟩ : ∃ m, M.length = m := ⟨_, rfl⟩
  have HM : Hid (M.length = m) := hm
  obtain ⟨n, hn⟩ : ∃ n, l.length = n := ⟨_, rfl⟩
  rw [hn] at HH HN ⊢
  have HLN : Hid (l.length = n) := hn
  clear h hl hB hm hM hn
  unfold startv
  go_enter Try.func28, Try.ntmps28
  go_upto_region 1 with fail
  rw [← hW1]
  clear hW1
  have x2 := rcell HX.out 2 _ rfl
  go_upto_region 14 with (go_at_call 38; refine Calls.mono HN.out ?_; rintro ee w5 ⟨v5, rfl, ho5, hg5, hw5⟩; have HO5 : Hid (Byt B w5 v5 M) := ho5; have HG5 : Hid (Below B w w5 ∧ w.grownBy w5 (Value.slice ra n rc).ownBlock) := ⟨(HB1.out.mono HSB.out).trans hg5, ((grown_of_below HB1.out).but _).trans hw5⟩; have y2 := cel_of (k := 2) hw5 HX.out (by have h7 := HH.out; exact h7) (by decide) rfl; obtain ⟨qa, qc, rfl⟩ := row_shape ho5; rw [HM.out] at HO5 ⊢; clear ho5 hg5 hw5)
  clear x2 y2
  go_loopg [0, 49] 0 (fun gm v0 v49 wr => v0 = .slice qa m qc ∧ v49 = .int .i64 0 ∧ w5 = wr)
  case atStart => exact ⟨rfl, rfl, rfl⟩
  case round =>
    obtain ⟨rfl, rfl, rfl⟩ := hrel
    go_wp2_with fail
    go_ret
    exact ⟨_, rfl, HO5.out, HG5.out.1, HG5.out.2⟩
set_option maxRecDepth 100000 in
set_option maxHeartbeats 4000000 in
theorem part3_any {B : Nat} {v : Value} {l : List UInt8} (w : World) (h : Byt B w v l) (hl : l.length ≤ 1000000000) (hB : B ≤ w.heap.size) :
    Calls Try.prog 28 #[v, startv, .int .i64 3] w fun e w' => ∃ v', e = .returned v' ∧ Byt B w' v' (l ++ [0]) ∧ Below B w w' ∧ w.grownBy w' v.ownBlock := by
  obtain ⟨W1, hW1⟩ : ∃ W1, W1 = w.alloc (.cells #[.slice none 0 0, .int .i64 (-1), .slice none 0 0, .slice none 0 0, .int .u16 0] 55) := ⟨_, rfl⟩
  have HB1 : Hid (Below w.heap.size w W1) := by rw [hW1]; exact bel_up _ _
  have HX : Hid (W1.heap[w.heap.size]? = some (.cells #[.slice none 0 0, .int .i64 (-1), .slice none 0 0, .slice none 0 0, .int .u16 0] 55 (0, 0))) := by rw [hW1]; exact heap_new w _
  have HH : Hid (Byt B W1 v l) := row_up h HB1.out
  have HN : Hid (Calls Try.prog 38 #[v, .int .i64 0] W1 fun e w' => ∃ v', e = .returned v' ∧ Byt B w' v' (l ++ [0]) ∧ Below B W1 w' ∧ W1.grownBy w' v.ownBlock) := num0_any W1 HH.out hl (Nat.le_trans hB HB1.out.size)
  have HSB : Hid (B ≤ w.heap.size) := hB
  obtain ⟨ra, rc, rfl⟩ := row_shape h
  obtain ⟨M, hM⟩ : ∃ M, l ++ [0] = M := ⟨_, rfl⟩
  rw [hM] at HN ⊢
  obtain ⟨m, hm⟩ : ∃ m, M.length = m := ⟨_, rfl⟩
  have HM : Hid (M.length = m) := hm
  obtain ⟨n, hn⟩ : ∃ n, l.length = n := ⟨_, rfl⟩
  rw [hn] at HH HN ⊢
  have HLN : Hid (l.length = n) := hn
  clear h hl hB hm hM hn
  unfold startv
  go_enter Try.func28, Try.ntmps28
  go_upto_region 1 with fail
  rw [← hW1]
  clear hW1
  have x3 := rcell HX.out 3 _ rfl
  go_upto_region 21 with (go_at_call 38; refine Calls.mono HN.out ?_; rintro ee w5 ⟨v5, rfl, ho5, hg5, hw5⟩; have HO5 : Hid (Byt B w5 v5 M) := ho5; have HG5 : Hid (Below B w w5 ∧ w.grownBy w5 (Value.slice ra n rc).ownBlock) := ⟨(HB1.out.mono HSB.out).trans hg5, ((grown_of_below HB1.out).but _).trans hw5⟩; have y3 := cel_of (k := 3) hw5 HX.out (by have h7 := HH.out; exact h7) (by decide) rfl; obtain ⟨qa, qc, rfl⟩ := row_shape ho5; rw [HM.out] at HO5 ⊢; clear ho5 hg5 hw5)
  clear x3 y3
  go_loopg [0, 67] 0 (fun gm v0 v67 wr => v0 = .slice qa m qc ∧ v67 = .int .i64 0 ∧ w5 = wr)
  case atStart => exact ⟨rfl, rfl, rfl⟩
  case round =>
    obtain ⟨rfl, rfl, rfl⟩ := hrel
    go_wp2_with fail
    go_ret
    exact ⟨_, rfl, HO5.out, HG5.out.1, HG5.out.2⟩
set_option maxRecDepth 100000 in
set_option maxHeartbeats 4000000 in
theorem part4_any {B : Nat} {v : Value} {l : List UInt8} (w : World) (h : Byt B w v l) (hl : l.length ≤ 1000000000) (hB : B ≤ w.heap.size) :
    Calls Try.prog 28 #[v, startv, .int .i64 4] w fun e w' => ∃ v', e = .returned v' ∧ Byt B w' v' (l ++ [0]) ∧ Below B w w' ∧ w.grownBy w' v.ownBlock := by
  obtain ⟨W1, hW1⟩ : ∃ W1, W1 = w.alloc (.cells #[.slice none 0 0, .int .i64 (-1), .slice none 0 0, .slice none 0 0, .int .u16 0] 55) := ⟨_, rfl⟩
  have HB1 : Hid (Below w.heap.size w W1) := by rw [hW1]; exact bel_up _ _
  have HX : Hid (W1.heap[w.heap.size]? = some (.cells #[.slice none 0 0, .int .i64 (-1), .slice none 0 0, .slice none 0 0, .int .u16 0] 55 (0, 0))) := by rw [hW1]; exact heap_new w _
  have HH : Hid (Byt B W1 v l) := row_up h HB1.out
  have HN : Hid (Calls Try.prog 38 #[v, .int .i64 0] W1 fun e w' => ∃ v', e = .returned v' ∧ Byt B w' v' (l ++ [0]) ∧ Below B W1 w' ∧ W1.grownBy w' v.ownBlock) := num0_any W1 HH.out hl (Nat.le_trans hB HB1.out.size)
  have HSB : Hid (B ≤ w.heap.size) := hB
  obtain ⟨ra, rc, rfl⟩ := row_shape h
  obtain ⟨M, hM⟩ : ∃ M, l ++ [0] = M := ⟨_, rfl⟩
  rw [hM] at HN ⊢
  obtain ⟨m, hm⟩ : ∃ m, M.length = m := ⟨_, rfl⟩
  have HM : Hid (M.length = m) := hm
  obtain ⟨n, hn⟩ : ∃ n, l.length = n := ⟨_, rfl⟩
  rw [hn] at HH HN ⊢
  have HLN : Hid (l.length = n) := hn
  clear h hl hB hm hM hn
  unfold startv
  go_enter Try.func28, Try.ntmps28
  go_upto_region 1 with fail
  rw [← hW1]
  clear hW1
  have x4 := rcell HX.out 4 _ rfl
  go_wp2_with (go_at_call 38; refine Calls.mono HN.out ?_; rintro ee w5 ⟨v5, rfl, ho5, hg5, hw5⟩; have HO5 : Hid (Byt B w5 v5 M) := ho5; have HG5 : Hid (Below B w w5 ∧ w.grownBy w5 (Value.slice ra n rc).ownBlock) := ⟨(HB1.out.mono HSB.out).trans hg5, ((grown_of_below HB1.out).but _).trans hw5⟩; obtain ⟨qa, qc, rfl⟩ := row_shape ho5; rw [HM.out] at HO5 ⊢; clear ho5 hg5 hw5)
  go_ret
  exact ⟨_, rfl, HO5.out, HG5.out.1, HG5.out.2⟩
theorem part_any {B : Nat} {v : Value} {l : List UInt8} (k : Nat) (hk : k < 5) (w : World) (h : Byt B w v l) (hl : l.length ≤ 1000000000) (hB : B ≤ w.heap.size) :
    Calls Try.prog 28 #[v, startv, .int .i64 (k : Int)] w fun e w' => ∃ v', e = .returned v' ∧ Byt B w' v' (l ++ [0]) ∧ Below B w w' ∧ w.grownBy w' v.ownBlock := by
  match k, hk with
  | 0, _ => exact part0_any w h hl hB
  | 1, _ => exact part1_any w h hl hB
  | 2, _ => exact part2_any w h hl hB
  | 3, _ => exact part3_any w h hl hB
  | 4, _ => exact part4_any w h hl hB
set_option maxRecDepth 100000 in
theorem rising_nil (w : World) : Calls Try.prog 35 #[.slice none 0 0] w fun e w' => e = .returned (.bool true) ∧ w = w' := by
  go_enter Try.func35, Try.ntmps35
  go_upto_region 5 with fail
  go_loopg [11] 0 (fun gm v11 wr => v11 = .int .i64 0 ∧ w = wr)
  case atStart => exact ⟨rfl, rfl⟩
  case round =>
    obtain ⟨rfl, rfl⟩ := hrel
    go_wp2_with fail
    go_ret
    exact ⟨rfl, rfl⟩
set_option maxRecDepth 100000 in
theorem queue_nil (w : World) : Calls Try.prog 36 #[.slice none 0 0] w fun e w' => e = .returned (.bool true) ∧ w = w' := by
  go_enter Try.func36, Try.ntmps36
  go_upto_region 4 with fail
  go_loopg [10] 0 (fun gm v10 wr => v10 = .int .i64 0 ∧ w = wr)
  case atStart => exact ⟨rfl, rfl⟩
  case round =>
    obtain ⟨rfl, rfl⟩ := hrel
    go_wp2_with fail
    go_ret
    exact ⟨rfl, rfl⟩
set_option maxRecDepth 100000 in
theorem frames_nil (w : World) : Calls Try.prog 37 #[.slice none 0 0] w fun e w' => e = .returned (.bool true) ∧ w = w' := by
  go_enter Try.func37, Try.ntmps37
  go_upto_region 4 with fail
  go_loopg [10] 0 (fun gm v10 wr => v10 = .int .i64 0 ∧ w = wr)
  case atStart => exact ⟨rfl, rfl⟩
  case round =>
    obtain ⟨rfl, rfl⟩ := hrel
    go_wp2_with fail
    go_ret
    exact ⟨rfl, rfl⟩
set_option maxRecDepth 100000 in
set_option maxHeartbeats 4000000 in
theorem shaped_start (w : World) : Calls Try.prog 27 #[startv] w fun e w' => e = .returned (.bool true) ∧ Below w.heap.size w w' := by
  unfold startv
  go_enter Try.func27, Try.ntmps27
  go_wp2_with first | (go_at_call 35; refine Calls.mono (rising_nil _) ?_; rintro ee w5 ⟨rfl, rfl⟩) | (go_at_call 36; refine Calls.mono (queue_nil _) ?_; rintro ee w5 ⟨rfl, rfl⟩) | (go_at_call 37; refine Calls.mono (frames_nil _) ?_; rintro ee w5 ⟨rfl, rfl⟩)
  go_ret
  exact ⟨rfl, bel_up _ _⟩
set_option maxRecDepth 100000 in
theorem res5 {fn : Func} {p : Tmp} (hf : fn.results = #[.cell p 55]) {tmps : Array Value} {b : Nat} (ht : tmps.getD p undef = .pointer (some ⟨b, 0, none⟩)) {W : World} (h : W.heap[b]? = some (.cells #[.slice none 0 0, .int .i64 (-1), .slice none 0 0, .slice none 0 0, .int .u16 0] 55 (0, 0))) : (results fn tmps).run Try.prog W = .ok startv W := by
  rw [results_cell1 hf, ht]
  have r0 := rcell h 0 _ rfl
  have r1 := rcell h 1 _ rfl
  have r2 := rcell h 2 _ rfl
  have r3 := rcell h 3 _ rfl
  have r4 := rcell h 4 _ rfl
  unfold startv
  clear h
  go_simp
set_option maxRecDepth 100000 in
set_option maxHeartbeats 4000000 in
theorem start_any (w : World) : Calls Try.prog 16 #[] w fun e w' => e = .returned startv ∧ Below w.heap.size w w' := by
  go_enter Try.func16, Try.ntmps16
  go_wp2_with fail
  exact bodyPost_ret (v := startv) (res5 rfl rfl (heap_new w _)) rfl ⟨rfl, bel_up _ _⟩
/-- The bytes of the state at the beginning. -/
def sbl : List UInt8 := [83, 0, 0, 0, 0, 0]
def sb0 : ByteArray := ⟨sbl.toArray⟩
def prs (k : Nat) : List UInt8 := 83 :: List.replicate k 0
theorem prs_succ (k : Nat) : prs (k + 1) = prs k ++ [0] := by unfold prs; rw [List.replicate_succ']; rfl
set_option maxRecDepth 100000 in
set_option maxHeartbeats 4000000 in
theorem encode_start (w : World) : Calls Try.prog 15 #[startv] w fun e w' => e = .returned (.tuple #[.string sb0, .int .i64 0]) ∧ Below w.heap.size w w' := by
  obtain ⟨W1, hW1⟩ : ∃ W1, W1 = w.alloc (.cells #[.slice none 0 0, .int .i64 (-1), .slice none 0 0, .slice none 0 0, .int .u16 0] 55) := ⟨_, rfl⟩
  have HB1 : Hid (Below w.heap.size w W1) := by rw [hW1]; exact bel_up _ _
  have HX : Hid (W1.heap[w.heap.size]? = some (.cells #[.slice none 0 0, .int .i64 (-1), .slice none 0 0, .slice none 0 0, .int .u16 0] 55 (0, 0))) := by rw [hW1]; exact heap_new w _
  have HSS : Hid (∀ W, Calls Try.prog 27 #[startv] W fun e w' => e = .returned (.bool true) ∧ Below W.heap.size W w') := shaped_start
  have HPA : Hid (∀ (W : World) (v : Value) (l : List UInt8) (k : Nat), k < 5 → Byt w.heap.size W v l → l.length ≤ 1000000000 → w.heap.size ≤ W.heap.size → Calls Try.prog 28 #[v, startv, .int .i64 (k : Int)] W fun e w' => ∃ v', e = .returned v' ∧ Byt w.heap.size w' v' (l ++ [0]) ∧ Below w.heap.size W w' ∧ W.grownBy w' v.ownBlock) := fun W v l k hk h hl hB => part_any k hk W h hl hB
  unfold startv at HSS HPA ⊢
  go_enter Try.func15, Try.ntmps15
  go_upto_region 1 with fail
  rw [← hW1]
  clear hW1
  have x0 := rcell HX.out 0 _ rfl; have x1 := rcell HX.out 1 _ rfl; have x2 := rcell HX.out 2 _ rfl; have x3 := rcell HX.out 3 _ rfl; have x4 := rcell HX.out 4 _ rfl
  go_upto_region 5 with (go_at_call 27; refine Calls.mono (HSS.out _) ?_; rintro ee w2 ⟨rfl, hb2⟩; have HB2 : Hid (Below W1.heap.size W1 w2) := hb2; clear hb2)
  clear x0 x1 x2 x3 x4
  obtain ⟨W3, hW3⟩ : ∃ W3, W3 = w2.alloc (.cells #[.int .u8 83] 5) := ⟨_, rfl⟩
  rw [← hW3]
  have HB3 : Hid (Below W1.heap.size W1 W3) := by rw [hW3]; exact below_trans HB2.out (bel_up _ _)
  have HX3 : Hid (W3.heap[w.heap.size]? = some (.cells #[.slice none 0 0, .int .i64 (-1), .slice none 0 0, .slice none 0 0, .int .u16 0] 55 (0, 0))) := (HB3.out.block _ (lt_of_heap HX.out)).trans HX.out
  have HV3 : Hid (Byt w.heap.size W3 (.slice (some ⟨w2.heap.size, 0, none⟩) 1 1) (prs 0)) := by
    rw [hW3]
    exact ⟨rfl, .inr ⟨_, _, _, rfl, Nat.le_trans HB1.out.size HB2.out.size, heap_new w2 _, Nat.le_refl 1, by unfold maxLen; decide, rfl, rfl⟩⟩
  have HW3 : Hid (Below w.heap.size w W3) := below_trans HB1.out HB3.out
  clear hW3 HB2 HB3 HX HB1
  go_loopg [4, 10] 5 (fun gm v4 v10 wr => ∃ p : Nat, v10 = .int .i64 (p : Int) ∧ Hid (p ≤ 5 ∧ gm = 5 - p) ∧ Hid (Byt w.heap.size wr v4 (prs p)) ∧ Hid (wr.heap[w.heap.size]? = some (.cells #[.slice none 0 0, .int .i64 (-1), .slice none 0 0, .slice none 0 0, .int .u16 0] 55 (0, 0))) ∧ Hid (Below w.heap.size w wr))
  case atStart => exact ⟨0, rfl, ⟨by omega, rfl⟩, HV3, HX3, HW3⟩
  case round =>
    obtain ⟨p, rfl, HI, HV, HXR, HB⟩ := hrel
    clear HV3 HX3 HW3
    obtain ⟨t, ht⟩ : ∃ t, prs p = t := ⟨_, rfl⟩
    rw [ht] at HV
    obtain ⟨n, hn⟩ : ∃ n, t.length = n := ⟨_, rfl⟩
    obtain ⟨rb, rd, hrv⟩ := row_shape HV.out
    subst hrv
    by_cases hp : p < 5
    · have e1 : decide ((p : Int) < 5) = true := by rw [decide_eq_true_eq]; omega
      have e2 : decide (p < 5) = true := by rw [decide_eq_true_eq]; omega
      have HPL : Hid (p < 5) := hp
      have hwr := w64n p (by omega)
      have HNX : Hid (t ++ [0] = prs (p + 1)) := by rw [← ht]; exact (prs_succ p).symm
      have HQ : Hid _ := HPA.out wr (.slice rb t.length rd) t p hp HV.out (by rw [← ht]; unfold prs; rw [List.length_cons, List.length_replicate]; omega) HB.out.size
      rw [hn] at HV HQ ⊢
      have HNN : Hid (t.length = n) := hn
      have x0 := rcell HXR.out 0 _ rfl; have x1 := rcell HXR.out 1 _ rfl; have x2 := rcell HXR.out 2 _ rfl; have x3 := rcell HXR.out 3 _ rfl; have x4 := rcell HXR.out 4 _ rfl
      clear hp ht hn
      go_wp2_with fail
      refine Calls.mono HQ.out ?_
      rintro ee w5 ⟨v5, rfl, h5, g5, k5⟩
      have HR5 : Hid (Byt w.heap.size w5 v5 (prs (p + 1))) := (by rw [← HNX.out]; exact h5)
      have HG5 : Hid (Below w.heap.size w w5) := HB.out.trans g5
      have HX5 : Hid (w5.heap[w.heap.size]? = some (.cells #[.slice none 0 0, .int .i64 (-1), .slice none 0 0, .slice none 0 0, .int .u16 0] 55 (0, 0))) := (k5.block _ (lt_of_heap HXR.out) (fun e => tag_ne_blk HV.out HXR.out (by decide) e.symm)).trans HXR.out
      clear h5 g5 k5
      obtain ⟨t5, ht5⟩ : ∃ t5, prs (p + 1) = t5 := ⟨_, rfl⟩
      have HT5 : Hid (prs (p + 1) = t5) := ht5
      rw [ht5] at HR5
      clear ht5
      obtain ⟨n5, hn5⟩ : ∃ n5, t5.length = n5 := ⟨_, rfl⟩
      obtain ⟨rx, ry, hrx⟩ := row_shape HR5.out
      subst hrx
      rw [hn5] at HR5 ⊢
      clear hn5
      go_wp2_with fail
      clear x0 x1 x2 x3 x4
      go_roundg (5 - (p + 1))
      case measure => have := HI.out; have := HPL.out; omega
      case rel => exact ⟨p + 1, by first | rfl | (rw [show (p : Int) + 1 = ((p + 1 : Nat) : Int) by omega]), ⟨HPL.out, rfl⟩, by rw [HT5.out]; exact HR5, HX5, HG5⟩
    · have e1 : decide ((p : Int) < 5) = false := by rw [decide_eq_false_iff_not]; omega
      have e2 : decide (p < 5) = false := by rw [decide_eq_false_iff_not]; omega
      have hp5 : p = 5 := by have := HI.out; omega
      have HTE : Hid (t = sbl) := by rw [← ht, hp5]; exact rfl
      have htp : 0 < t.length := by rw [HTE.out]; decide
      obtain ⟨g, cp, hgf, -, -, -⟩ := row_form HV.out htp
      obtain ⟨rfl, -, rfl⟩ := Value.slice.inj hgf
      have hcv : ∀ W : World, W = wr → (convert 75 9 (.slice (some ⟨g, 0, none⟩) t.length rd)).run Try.prog W = .ok (.string ⟨t.toArray⟩) W := fun W hW => by
        subst hW
        refine run_convert_bytes_back W 75 9 5 ⟨g, 0, none⟩ rd t Try.underlying75 Try.underlying5 Try.underlying9 (fun j hj => ?_)
        rw [addPl, Nat.zero_add, HV.out.cellAt j (by omega)]
        simp [Lib.byteCells, List.getElem?_eq_getElem hj]
      have hcw := hcv wr rfl
      clear hp ht hp5 htp hgf hcv hn
      go_wp2_with fail
      go_ret2
      exact ⟨by rw [HTE.out]; rfl, HB.out⟩
end Go.Proofs.Ytockmlaaefbfkaa
