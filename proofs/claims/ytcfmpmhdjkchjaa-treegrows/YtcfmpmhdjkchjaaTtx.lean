import Derived.Test.YtcfmpmhdjkchjaaTgi
import Derived.Lib.AppendStr
namespace Go.Proofs.Ytcfmpmhdjkchjaa
open Go.RowKit Go.Maps

theorem infoU8 : (Try.prog.info? 5).map (fun i => (i.zero, i.size, i.bytes)) = some (some (.int .u8 0), 1, 1) := by kernel_rfl
/-- The cells of bytes. -/
def bC (l : List UInt8) : List Value := l.map fun b => Value.int .u8 (b.toNat : Int)
theorem bC_app (l k : List UInt8) : bC (l ++ k) = bC l ++ bC k := by simp [bC]
/-- A row of bytes of the call's own. -/
abbrev Byt (B : Nat) (W : World) (v : Value) (l : List UInt8) : Prop := W.ownsRow B 5 1 v l.length (bC l)
theorem byt_app {B : Nat} {W : World} {v : Value} {l : List UInt8} {x : UInt8} (h : W.ownsRow B 5 1 v (l.length + 1) (bC l ++ [.int .u8 (x.toNat : Int)])) : Byt B W v (l ++ [x]) := by
  unfold Byt
  rw [List.length_append, bC_app]
  exact h
theorem byt_str {B : Nat} {W : World} {v : Value} {l : List UInt8} {s : ByteArray} (h : W.ownsRow B 5 1 v (l.length + s.size) (bC l ++ Lib.strCells s)) : Byt B W v (l ++ s.data.toList) := by
  unfold Byt
  rw [List.length_append, bC_app, Array.length_toList]
  exact h
theorem row_keep {W W' : World} {B B0 : Nat} {e : TypeId} {size n : Nat} {v : Value} {xs : List Value} (h : W.ownsRow B0 e size v n xs) (hb : Below B W W') (hlt : ∀ r, v.ownBlock = some r → r < B) : W'.ownsRow B0 e size v n xs := by
  refine ⟨h.1, ?_⟩
  rcases h.2 with h1 | ⟨g, cap, cur, rfl, h1, h2, h3⟩
  · exact .inl h1
  · exact .inr ⟨g, cap, cur, rfl, h1, (hb.block g (hlt g rfl)).trans h2, h3⟩
theorem str_len (s : ByteArray) : s.data.toList.length = s.size := Array.length_toList
/-- In brackets? -/
def brk (x : Nd) : Bool := x.nd || decide (0 < x.kd)
def nC (x : Nd) : Value := .agg #[.string x.nm, .bool x.nd, .string x.fd, .int .i64 x.fr, .int .i64 x.tt, .int .i64 x.kd, .int .i64 x.lf]
set_option maxRecDepth 100000 in
set_option maxHeartbeats 8000000 in
theorem inBrackets_any (x : Nd) (w : World) :
    Calls Try.prog 80 #[nC x] w fun e w' => e = .returned (.bool (brk x)) ∧ Below w.heap.size w w' := by
  obtain ⟨nm, nd, fd, fr, tt, kd, lf⟩ := x
  unfold nC brk
  dsimp only
  cases nd with
  | true =>
    go_enter Try.func80, Try.ntmps80
    go_wp2_with fail
    go_ret
    exact ⟨rfl, bel_up _ _⟩
  | false =>
    obtain ⟨b, hb⟩ : ∃ b, decide (0 < kd) = b := ⟨_, rfl⟩
    rw [hb]
    go_enter Try.func80, Try.ntmps80
    go_wp2_with fail
    go_ret
    exact ⟨rfl, bel_up _ _⟩
/-- What closes a node's text. -/
def cls (x : Nd) : List UInt8 := if brk x then [41] else []
theorem cell_b1 (w : World) (x : Value) (t : TypeId) : ∀ j q, [x][j]? = some q → (w.alloc (.cells #[x] t)).cell? ((⟨w.heap.size, 0, none⟩ : Addr).add j) = some q :=
  World.news_of_block (heap_new w (.cells #[x] t))
set_option maxRecDepth 100000 in
set_option maxHeartbeats 8000000 in
theorem appendClose_any {B : Nat} {v : Value} {l : List UInt8} (x : Nd) (w : World) (h : Byt B w v l) (hl : l.length ≤ 70368744177664) (hB : B ≤ w.heap.size) :
    Calls Try.prog 68 #[v, nC x] w fun e w' => ∃ v', e = .returned v' ∧ Byt B w' v' (l ++ cls x) ∧ Below B w w' := by
  obtain ⟨i5, hi5, hx0, hx1, hx2⟩ := info_parts infoU8
  have HH : Hid (Byt B w v l) := h
  have HL : Hid (l.length ≤ 70368744177664) := hl
  have HB : Hid (B ≤ w.heap.size) := hB
  obtain ⟨va, vc, rfl⟩ := row_shape HH.out
  have HIB : Hid (∀ W, Calls Try.prog 80 #[nC x] W fun e w' => e = .returned (.bool (brk x)) ∧ Below W.heap.size W w') := fun W => inBrackets_any x W
  have HC : Hid (cls x = if brk x then [41] else []) := rfl
  obtain ⟨b, hb⟩ : ∃ b, brk x = b := ⟨_, rfl⟩
  rw [hb] at HIB HC
  rw [HC.out]
  obtain ⟨nm, nd, fd, fr, tt, kd, lf⟩ := x
  unfold nC at HIB ⊢
  dsimp only at HIB ⊢
  clear h hl hB hb HC
  obtain ⟨W1, hW1⟩ : ∃ W1, W1 = w.alloc (.cells #[.string nm, .bool nd, .string fd, .int .i64 fr, .int .i64 tt, .int .i64 kd, .int .i64 lf] 33) := ⟨_, rfl⟩
  have HX1 : Hid (W1.heap[w.heap.size]? = some (.cells #[.string nm, .bool nd, .string fd, .int .i64 fr, .int .i64 tt, .int .i64 kd, .int .i64 lf] 33 (0, 0))) := by rw [hW1]; exact heap_new _ _
  have HB1 : Hid (Below w.heap.size w W1) := by rw [hW1]; exact bel_up _ _
  go_enter Try.func68, Try.ntmps68
  go_upto_region 1 with fail
  rw [← hW1]
  clear hW1
  have x0 := rcell HX1.out 0 _ rfl
  have x1 := rcell HX1.out 1 _ rfl
  have x2 := rcell HX1.out 2 _ rfl
  have x3 := rcell HX1.out 3 _ rfl
  have x4 := rcell HX1.out 4 _ rfl
  have x5 := rcell HX1.out 5 _ rfl
  have x6 := rcell HX1.out 6 _ rfl
  cases b with
  | false =>
    go_wp2_with (go_at_call 80; refine Calls.mono (HIB.out _) ?_; rintro ee W2 ⟨rfl, hb5⟩; have HB2 : Hid (Below w.heap.size w W2) := below_trans HB1.out hb5; clear hb5)
    go_ret
    exact ⟨_, rfl, by simpa using row_up HH.out HB2.out, HB2.out.mono HB.out⟩
  | true =>
    go_upto_region 2 with (go_at_call 80; refine Calls.mono (HIB.out _) ?_; rintro ee W2 ⟨rfl, hb5⟩; have HB2 : Hid (Below w.heap.size w W2) := below_trans HB1.out hb5; clear hb5)
    clear x0 x1 x2 x3 x4 x5 x6
    have HROW : Hid ((W2.alloc (.cells #[.int .u8 41] 5)).ownsRow B 5 1 (.slice va l.length vc) l.length (bC l)) := (row_up HH.out HB2.out).alloc _
    have HSB : Hid (B ≤ (W2.alloc (.cells #[.int .u8 41] 5)).heap.size) := Nat.le_trans HB.out (Nat.le_trans HB2.out.size (bel_up W2 _).size)
    have HMX : Hid (l.length + 1 ≤ maxLen ∧ (l.length + 1) * 1 ≤ 140737488355328) := by have := HL.out; show _ ∧ _; unfold maxLen; omega
    go_wp2_with (at_builtin; refine wpList_append_own_at _ rfl _ _ 114 rfl B 5 i5 (.int .u8 0) 1 1 Try.underlying114 hi5 hx0 hx1 hx2 rfl (by decide) _ _ _ rfl HROW.out ⟨W2.heap.size, 0, none⟩ 1 1 [.int .u8 41] rfl rfl (cell_b1 _ _ _) (by simp [Value.oneCell']) HMX.out.1 HMX.out.2 HSB.out ?_; intro v5 w5 ho5 hg5 _ ha5; have HO5 : Hid (Byt B w5 v5 (l ++ [41])) := byt_app ho5; have HG5 : Hid (Below B w w5) := bel_app (HB2.out.mono HB.out) (Nat.le_trans HB.out HB2.out.size) (row_up HH.out HB2.out) hg5; obtain ⟨qa, qc, rfl⟩ := row_shape ho5; clear ho5 hg5 ha5)
    go_ret
    exact ⟨_, rfl, HO5.out, HG5.out⟩
/-- What a named node's text begins with. -/
def bgn (x : Nd) : List UInt8 := ((if x.fd = ⟨#[]⟩ then [] else x.fd.data.toList ++ [58, 32]) ++ [40]) ++ x.nm.data.toList
set_option maxRecDepth 100000 in
set_option maxHeartbeats 8000000 in
theorem appendBegin_any {B : Nat} {v : Value} {l : List UInt8} (x : Nd) (hx : x.nd = true) (w : World) (h : Byt B w v l) (hl : (l ++ bgn x).length ≤ 70368744177664) (hB : B ≤ w.heap.size) :
    Calls Try.prog 67 #[v, nC x] w fun e w' => ∃ v', e = .returned v' ∧ Byt B w' v' (l ++ bgn x) ∧ Below B w w' := by
  obtain ⟨i5, hi5, hx0, hx1, hx2⟩ := info_parts infoU8
  have HH : Hid (Byt B w v l) := h
  have HB : Hid (B ≤ w.heap.size) := hB
  obtain ⟨va, vc, rfl⟩ := row_shape HH.out
  have HIB : Hid (∀ W, Calls Try.prog 80 #[nC x] W fun e w' => e = .returned (.bool true) ∧ Below W.heap.size W w') := fun W => by have h7 := inBrackets_any x W; rw [show brk x = true by unfold brk; rw [hx]; rfl] at h7; exact h7
  obtain ⟨nm, nd, fd, fr, tt, kd, lf⟩ := x
  dsimp only at hx
  subst hx
  have HL : Hid (l.length + (fd.size + 2) + 1 + nm.size ≤ 70368744177664 ∨ fd = ⟨#[]⟩ ∧ l.length + 1 + nm.size ≤ 70368744177664) := by
    show _ ∨ _
    unfold bgn at hl
    dsimp only at hl
    by_cases hfd : fd = ⟨#[]⟩
    · rw [if_pos hfd] at hl
      simp only [List.length_append, List.length_singleton, Array.length_toList, List.length_nil, Nat.zero_add] at hl
      exact .inr ⟨hfd, by have : nm.size = nm.data.size := rfl; omega⟩
    · rw [if_neg hfd] at hl
      simp only [List.length_append, Array.length_toList, List.length_cons, List.length_nil] at hl
      exact .inl (by have : nm.size = nm.data.size := rfl; have : fd.size = fd.data.size := rfl; omega)
  unfold nC bgn at *
  dsimp only at HIB ⊢
  obtain ⟨FF, hFF⟩ : ∃ FF : List UInt8, (if fd = ⟨#[]⟩ then [] else fd.data.toList ++ [58, 32]) = FF := ⟨_, rfl⟩
  rw [hFF]
  have HFF : Hid ((if fd = ⟨#[]⟩ then ([] : List UInt8) else fd.data.toList ++ [58, 32]) = FF) := hFF
  clear h hl hB hFF
  obtain ⟨W1, hW1⟩ : ∃ W1, W1 = w.alloc (.cells #[.string nm, .bool true, .string fd, .int .i64 fr, .int .i64 tt, .int .i64 kd, .int .i64 lf] 33) := ⟨_, rfl⟩
  have HX1 : Hid (W1.heap[w.heap.size]? = some (.cells #[.string nm, .bool true, .string fd, .int .i64 fr, .int .i64 tt, .int .i64 kd, .int .i64 lf] 33 (0, 0))) := by rw [hW1]; exact heap_new _ _
  have HB1 : Hid (Below w.heap.size w W1) := by rw [hW1]; exact bel_up _ _
  have HO1 : Hid (Byt B W1 (.slice va l.length vc) l) := row_up HH.out HB1.out
  have HG1 : Hid (Below B w W1) := HB1.out.mono HB.out
  have HSB : Hid (B ≤ W1.heap.size) := Nat.le_trans HB.out HB1.out.size
  go_enter Try.func67, Try.ntmps67
  go_upto_region 1 with fail
  rw [← hW1]
  clear hW1
  obtain ⟨xb, hxb⟩ : ∃ xb, w.heap.size = xb := ⟨_, rfl⟩
  rw [hxb] at HX1 ⊢
  clear hxb
  have f2 := rcell HX1.out 2 _ rfl
  obtain ⟨bz, hbz⟩ : ∃ bz, fd.toList.isEmpty = bz := ⟨_, rfl⟩
  have HBZ : Hid (fd.toList.isEmpty = bz) := hbz
  go_upto_if 7 with fail
  clear hbz
  go_cut [0] from 7 to 13 (fun v0 wx => ∃ (a1 : Option Addr) (n1 c1 : Nat) (l1 : List UInt8), v0 = .slice a1 n1 c1 ∧ Hid (l1.length = n1) ∧ Hid (l1 = l ++ FF) ∧ Hid (Byt B wx (.slice a1 n1 c1) l1) ∧ Hid (Below B w wx) ∧ Hid (B ≤ wx.heap.size) ∧ Hid (wx.heap[xb]? = some (.cells #[.string nm, .bool true, .string fd, .int .i64 fr, .int .i64 tt, .int .i64 kd, .int .i64 lf] 33 (0, 0))))
  case first =>
    cases bz
    · have hfd : ¬ fd = ⟨#[]⟩ := fun e => by have h7 := HBZ.out; rw [e, emp_yes] at h7; cases h7
      have HNE : Hid (¬ fd = ⟨#[]⟩) := hfd
      have HM : Hid (l.length + fd.size ≤ maxLen ∧ l.length + fd.size ≤ 140737488355328 ∧ l.length + fd.size + 2 ≤ maxLen ∧ l.length + fd.size + 2 ≤ 140737488355328) := by
        have h7 := HL.out
        show _ ∧ _ ∧ _ ∧ _
        unfold maxLen
        rcases h7 with h7 | h7
        · omega
        · exact absurd h7.1 hfd
      clear hfd
      go_upto_region 3 with (at_builtin; refine Lib.wpList_append_own_string _ rfl _ _ 114 9 rfl B 5 i5 Try.underlying114 Try.underlying9 hi5 hx0 hx1 hx2 _ _ _ rfl HO1.out fd rfl HM.out.1 HM.out.2.1 HSB.out ?_; intro v5 w5 ho5 hg5 _; have HO5 : Hid (Byt B w5 v5 (l ++ fd.data.toList)) := byt_str ho5; have HG5 : Hid (Below B w w5) := bel_app0 HG1.out HSB.out HO1.out hg5; have HX5 : Hid (w5.heap[xb]? = some (.cells #[.string nm, .bool true, .string fd, .int .i64 fr, .int .i64 tt, .int .i64 kd, .int .i64 lf] 33 (0, 0))) := (hg5.block xb (lt_of_heap HX1.out) (fun e => tag_ne_blk HO1.out HX1.out (by decide) e.symm)).trans HX1.out; obtain ⟨qa5, qc5, rfl⟩ := row_shape ho5; have HS5 : Hid (B ≤ w5.heap.size) := Nat.le_trans HSB.out hg5.size; clear ho5 hg5)
      obtain ⟨n5, hn5⟩ : ∃ n5, l.length + fd.size = n5 := ⟨_, rfl⟩
      rw [hn5] at HM ⊢
      have HO5' : Hid (w5.ownsRow B 5 1 (.slice qa5 n5 qc5) n5 (bC (l ++ fd.data.toList))) := by have h7 := HO5.out; unfold Byt at h7; rw [List.length_append, str_len, hn5] at h7; exact h7
      have HN5 : Hid ((l ++ fd.data.toList).length = n5) := by rw [List.length_append, str_len]; exact hn5
      clear hn5 HO5
      go_wp2_with (at_builtin; refine Lib.wpList_append_own_string _ rfl _ _ 114 9 rfl B 5 i5 Try.underlying114 Try.underlying9 hi5 hx0 hx1 hx2 _ _ _ rfl HO5'.out ⟨#[58, 32]⟩ rfl HM.out.2.2.1 HM.out.2.2.2 HS5.out ?_; intro v6 w6 ho6 hg6 _; have HO6 : Hid (w6.ownsRow B 5 1 v6 (n5 + 2) (bC ((l ++ fd.data.toList) ++ [58, 32]))) := (by rw [bC_app]; exact ho6); have HG6 : Hid (Below B w w6) := bel_app0 HG5.out HS5.out HO5'.out hg6; have HX6 : Hid (w6.heap[xb]? = some (.cells #[.string nm, .bool true, .string fd, .int .i64 fr, .int .i64 tt, .int .i64 kd, .int .i64 lf] 33 (0, 0))) := (hg6.block xb (lt_of_heap HX5.out) (fun e => tag_ne_blk HO5'.out HX5.out (by decide) e.symm)).trans HX5.out; have HS6 : Hid (B ≤ w6.heap.size) := Nat.le_trans HS5.out hg6.size; obtain ⟨qa6, qc6, rfl⟩ := row_shape ho6; clear ho6 hg6)
      go_meet
      exact ⟨_, _, _, (l ++ fd.data.toList) ++ [58, 32], rfl, by rw [List.length_append, HN5.out]; exact rfl, by rw [← HFF.out, if_neg HNE.out, List.append_assoc]; exact rfl, by show World.ownsRow _ _ _ _ _ _ _; rw [List.length_append, HN5.out]; exact HO6.out, HG6, HS6, HX6⟩
    · have hfd : fd = ⟨#[]⟩ := by
        have h7 := HBZ.out
        rw [List.isEmpty_iff, Lib.toList_data] at h7
        have : fd.data = #[] := Array.toList_eq_nil_iff.1 h7
        cases fd; exact congrArg ByteArray.mk this
      have HNE : Hid (fd = ⟨#[]⟩) := hfd
      clear hfd
      go_wp2_with fail
      go_meet
      exact ⟨_, _, _, l, rfl, rfl, by rw [← HFF.out, if_pos HNE.out, List.append_nil]; exact rfl, HO1, HG1, HSB, HX1⟩
  case rest =>
    clear f2 HO1 HG1 HSB HX1 HBZ
    obtain ⟨a1, n1, c1, l1, rfl, HN1, HL1, HO1, HG1, HSB, HX1⟩ := hcut
    have HO1' : Hid (wc.ownsRow B 5 1 (.slice a1 n1 c1) n1 (bC l1)) := by have h7 := HO1.out; unfold Byt at h7; rw [HN1.out] at h7; exact h7
    have HM : Hid (n1 + 1 + nm.size ≤ 70368744177664) := by
      have h7 := HL.out
      have h8 := congrArg List.length HL1.out
      have h9 := HN1.out
      rw [List.length_append, ← HFF.out] at h8
      by_cases hfd : fd = ⟨#[]⟩
      · rw [if_pos hfd] at h8
        rcases h7 with h7 | h7
        · simp at h8; show _ ≤ _; omega
        · have := h7.2; simp at h8; show _ ≤ _; omega
      · rw [if_neg hfd, List.length_append, Array.length_toList] at h8
        have hsz : fd.size = fd.data.size := rfl
        rcases h7 with h7 | h7
        · simp at h8; show _ ≤ _; omega
        · exact absurd h7.1 hfd
    clear HO1
    have x0 := rcell HX1.out 0 _ rfl
    have x1 := rcell HX1.out 1 _ rfl
    have x2 := rcell HX1.out 2 _ rfl
    have x3 := rcell HX1.out 3 _ rfl
    have x4 := rcell HX1.out 4 _ rfl
    have x5 := rcell HX1.out 5 _ rfl
    have x6 := rcell HX1.out 6 _ rfl
    go_upto_region 5 with (go_at_call 80; refine Calls.mono (HIB.out _) ?_; rintro ee W2 ⟨rfl, hb5⟩; have HB2 : Hid (Below B w W2) := HG1.out.trans (hb5.mono HSB.out); have HO2 : Hid (W2.ownsRow B 5 1 (.slice a1 n1 c1) n1 (bC l1)) := row_up HO1'.out hb5; have HX2 : Hid (W2.heap[xb]? = some (.cells #[.string nm, .bool true, .string fd, .int .i64 fr, .int .i64 tt, .int .i64 kd, .int .i64 lf] 33 (0, 0))) := (hb5.block xb (lt_of_heap HX1.out)).trans HX1.out; have HS2 : Hid (B ≤ W2.heap.size) := Nat.le_trans HSB.out hb5.size; clear hb5)
    clear x0 x1 x2 x3 x4 x5 x6
    have HROW : Hid ((W2.alloc (.cells #[.int .u8 40] 5)).ownsRow B 5 1 (.slice a1 n1 c1) n1 (bC l1)) := HO2.out.alloc _
    have HSA : Hid (B ≤ (W2.alloc (.cells #[.int .u8 40] 5)).heap.size) := Nat.le_trans HS2.out (bel_up W2 _).size
    have HMX : Hid (n1 + 1 ≤ maxLen ∧ (n1 + 1) * 1 ≤ 140737488355328) := by have := HM.out; show _ ∧ _; unfold maxLen; omega
    have HMY : Hid (n1 + 1 + nm.size ≤ maxLen ∧ n1 + 1 + nm.size ≤ 140737488355328) := by have := HM.out; show _ ∧ _; unfold maxLen; omega
    have HXA : Hid ((W2.alloc (.cells #[.int .u8 40] 5)).heap[xb]? = some (.cells #[.string nm, .bool true, .string fd, .int .i64 fr, .int .i64 tt, .int .i64 kd, .int .i64 lf] 33 (0, 0))) := ((bel_up W2 _).block xb (lt_of_heap HX2.out)).trans HX2.out
    go_upto_region 6 with (at_builtin; refine wpList_append_own_at _ rfl _ _ 114 rfl B 5 i5 (.int .u8 0) 1 1 Try.underlying114 hi5 hx0 hx1 hx2 rfl (by decide) _ _ _ rfl HROW.out ⟨W2.heap.size, 0, none⟩ 1 1 [.int .u8 40] rfl rfl (cell_b1 _ _ _) (by simp [Value.oneCell']) HMX.out.1 HMX.out.2 HSA.out ?_; intro v5 w5 ho5 hg5 _ ha5; have HO5 : Hid (w5.ownsRow B 5 1 v5 (n1 + 1) (bC (l1 ++ [40]))) := (by rw [bC_app]; exact ho5); have HG5 : Hid (Below B w w5) := bel_app HB2.out HS2.out HO2.out hg5; have HX5 : Hid (w5.heap[xb]? = some (.cells #[.string nm, .bool true, .string fd, .int .i64 fr, .int .i64 tt, .int .i64 kd, .int .i64 lf] 33 (0, 0))) := (hg5.block xb (lt_of_heap HXA.out) (fun e => tag_ne_blk HROW.out HXA.out (by decide) e.symm)).trans HXA.out; have HS5 : Hid (B ≤ w5.heap.size) := Nat.le_trans HSA.out hg5.size; obtain ⟨qa, qc, rfl⟩ := row_shape ho5; clear ho5 hg5 ha5)
    have x1 := rcell HX5.out 1 _ rfl
    have x0 := rcell HX5.out 0 _ rfl
    obtain ⟨n5, hn5⟩ : ∃ n5, n1 + 1 = n5 := ⟨_, rfl⟩
    rw [hn5] at HO5 HMY ⊢
    have HN5 : Hid (n1 + 1 = n5) := hn5
    clear hn5
    go_wp2_with (at_builtin; refine Lib.wpList_append_own_string _ rfl _ _ 114 9 rfl B 5 i5 Try.underlying114 Try.underlying9 hi5 hx0 hx1 hx2 _ _ _ rfl HO5.out nm rfl HMY.out.1 HMY.out.2 HS5.out ?_; intro v6 w6 ho6 hg6 _; have HO6 : Hid (w6.ownsRow B 5 1 v6 (n5 + nm.size) (bC ((l1 ++ [40]) ++ nm.data.toList))) := (by rw [bC_app]; exact ho6); have HG6 : Hid (Below B w w6) := bel_app0 HG5.out HS5.out HO5.out hg6; obtain ⟨qa6, qc6, rfl⟩ := row_shape ho6; clear ho6 hg6)
    go_ret
    refine ⟨_, rfl, ?_, HG6.out⟩
    have hl6 : (l ++ (FF ++ [40] ++ nm.data.toList)) = (l1 ++ [40]) ++ nm.data.toList := by rw [HL1.out]; simp
    have hl7 : l ++ (FF ++ 40 :: nm.data.toList) = (l1 ++ [40]) ++ nm.data.toList := by rw [HL1.out]; simp
    first | rw [hl6] | rw [hl7]
    have hl8 : ((l1 ++ [40]) ++ nm.data.toList).length = n5 + nm.size := by rw [List.length_append, List.length_append, HN1.out, str_len, ← HN5.out]; rfl
    unfold Byt
    rw [hl8]
    exact HO6.out
end Go.Proofs.Ytcfmpmhdjkchjaa
