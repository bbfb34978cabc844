import Derived.Test.YthlbajkbpceglaaTbo
import Derived.Lib.AppendStr
import Derived.Lib.UnsafeStr
import Derived.Laws.IdiomStrings
import Derived.Maps.Range
import Derived.Maps.RangeWalk
namespace Go.Proofs.Ythlbajkbpceglaa
open Go.RowKit Go.Maps

theorem info5 : (Try.prog.info? 5).map (fun i => (i.zero, i.size, i.bytes)) = some (some (.int .u8 0), 1, 1) := by kernel_rfl
/-- A number's bytes, in groups of seven bits. -/
def nm (n : Nat) : List UInt8 := if n < 128 then [UInt8.ofNat n] else UInt8.ofNat (128 + n % 128) :: nm (n / 128)
termination_by n
decreasing_by omega
/-- A row of bytes of the call's own. -/
abbrev Byt (B : Nat) (W : World) (v : Value) (l : List UInt8) : Prop := W.ownsRow B 5 1 v l.length (Lib.byteCells l)
theorem byt_app {B : Nat} {W : World} {v : Value} {l : List UInt8} {x : UInt8} (h : W.ownsRow B 5 1 v (l.length + 1) (Lib.byteCells l ++ [.int .u8 (x.toNat : Int)])) : Byt B W v (l ++ [x]) := by
  unfold Byt
  rw [List.length_append]
  have e : Lib.byteCells (l ++ [x]) = Lib.byteCells l ++ [.int .u8 (x.toNat : Int)] := by simp [Lib.byteCells]
  rw [e]
  exact h
theorem nm_pos (n : Nat) : 0 < (nm n).length := by
  unfold nm
  split <;> simp
theorem nm_len (n : Nat) : ∀ k, n < 128 ^ k → 0 < k → (nm n).length ≤ k := by
  intro k
  induction k generalizing n with
  | zero => intro _ h; omega
  | succ k ih =>
    intro h _
    unfold nm
    split
    · simp
    · rcases Nat.eq_zero_or_pos k with h0 | h0
      · subst h0; simp at h; omega
      · have := ih (n / 128) (by rw [Nat.pow_succ] at h; exact Nat.div_lt_of_lt_mul (by rw [Nat.mul_comm]; exact h)) h0
        simp; omega

/-- Nothing but a row has turned; where it lies now. -/
def Gr (w w' : World) (v v' : Value) : Prop := w.grownBy w' v.ownBlock ∧ ∀ r, v'.ownBlock = some r → w.heap.size ≤ r ∨ v.ownBlock = some r
theorem Gr.refl (w : World) (v : Value) : Gr w w v v := ⟨World.grownBy.refl _ _, fun _ h => .inr h⟩
theorem Gr.trans {w w1 w2 : World} {v v1 v2 : Value} (h : Gr w w1 v v1) (k : Gr w1 w2 v1 v2) : Gr w w2 v v2 :=
  ⟨h.1.andThen k.1 h.2, fun r hr => (k.2 r hr).elim (fun e => .inl (Nat.le_trans h.1.size e)) (h.2 r)⟩
theorem Gr.up {w w1 w2 : World} {v v1 : Value} (h : Gr w w1 v v1) (hb : Below w1.heap.size w1 w2) : Gr w w2 v v1 :=
  ⟨h.1.andThen (grown_of_below hb) (fun j e => by cases e), h.2⟩
theorem Gr.pre {w w0 w1 : World} {v v1 : Value} (hb : Below w.heap.size w w0) (h : Gr w0 w1 v v1) : Gr w w1 v v1 :=
  ⟨((grown_of_below hb).but v.ownBlock).andThen h.1 (fun _ e => .inr e), fun r hr => (h.2 r hr).elim (fun e => .inl (Nat.le_trans hb.size e)) .inr⟩
theorem Gr.below {B : Nat} {w w' : World} {v v' : Value} (h : Gr w w' v v') (hB : B ≤ w.heap.size) (hv : ∀ r, v.ownBlock = some r → B ≤ r) : Below B w w' := (Below.refl B w).grown h.1 hB hv
theorem gr_app {w w' : World} {o : Obj} {v v' : Value} (h : (w.alloc o).grownBy w' v.ownBlock) (ha : v'.ownBlock = v.ownBlock ∨ v'.ownBlock = some (w.alloc o).heap.size) : Gr w w' v v' :=
  ⟨(World.grownBy_alloc w o v.ownBlock).trans h, fun r hr => ha.elim (fun e => .inr (e ▸ hr)) (fun e => by rw [hr] at e; cases e; exact .inl (by simp))⟩
theorem Gr.cell {w w' : World} {v v' : Value} (h : Gr w w' v v') {a : Addr} {u : Value} (hc : w.cell? a = some u) (hne : v.ownBlock ≠ some a.block) : w'.cell? a = some u := h.1.cell hc (fun e => hne e.symm)
set_option maxRecDepth 100000 in
set_option maxHeartbeats 4000000 in
theorem appendCount_any {B : Nat} {v : Value} {l : List UInt8} (n : Nat) (hn : n < 128 ^ 9) (w : World) (h : Byt B w v l) (hl : l.length ≤ 1000000000) (hB : B ≤ w.heap.size) :
    Calls Try.prog 18 #[v, .int .i64 (n : Int)] w fun e w' => ∃ v', e = .returned v' ∧ Byt B w' v' (l ++ nm n) ∧ Gr w w' v v' := by
  obtain ⟨i5, hi5, hx0, hx1, hx2⟩ := info_parts info5
  have HN : Hid (n < 128 ^ 9) := hn
  have HH : Hid (Byt B w v l) := h
  have HL : Hid (l.length ≤ 1000000000) := hl
  have HB : Hid (B ≤ w.heap.size) := hB
  clear hn h hl hB
  obtain ⟨va, vc, rfl⟩ := row_shape HH.out
  go_enter Try.func18, Try.ntmps18
  go_wp2_with fail
  go_loopg [0, 1] n (fun gm v0 v1 wr => ∃ (k : Nat) (q : List UInt8), v1 = .int .i64 (k : Int) ∧ Hid (gm = k ∧ k < 128 ^ 9) ∧ Hid (q ++ nm k = l ++ nm n) ∧ Hid (Byt B wr v0 q) ∧ Hid (Gr w wr (.slice va l.length vc) v0))
  case atStart => exact ⟨n, l, rfl, ⟨rfl, HN.out⟩, rfl, HH, Gr.refl _ _⟩
  case round =>
    obtain ⟨k, q, rfl, HG, HP, HR, HBW⟩ := hrel
    have hll : q.length ≤ 1000000009 := by
      have h1 := congrArg List.length HP.out
      have h2 := nm_len n 9 HN.out (by omega)
      have h3 := HL.out
      rw [List.length_append, List.length_append] at h1
      omega
    have HLL : Hid (q.length ≤ 1000000009) := hll
    have HSB : Hid (B ≤ wr.heap.size) := Nat.le_trans HB.out HBW.out.1.size
    obtain ⟨ra, rc, hrv⟩ := row_shape HR.out
    subst hrv
    clear hll
    by_cases hk : k < 128
    · have e1 : decide ((128 : Int) ≤ (k : Int)) = false := by rw [decide_eq_false_iff_not]; omega
      have e2 : decide (128 ≤ k) = false := by rw [decide_eq_false_iff_not]; omega
      have HE : Hid (nm k = [UInt8.ofNat k]) := by unfold nm; rw [if_pos hk]; exact rfl
      have HX : Hid (((k : Int) % 256) = ((UInt8.ofNat k).toNat : Int)) := by show (k : Int) % 256 = _; simp
      have HROW : Hid ((wr.alloc (.cells #[.int .u8 ((k : Int) % 256)] 5)).ownsRow B 5 1 (.slice ra q.length rc) q.length (Lib.byteCells q)) := HR.out.alloc _
      clear hk
      go_wp2_with (at_builtin; refine wpList_append_own_at _ rfl _ _ 41 rfl B 5 i5 (.int .u8 0) 1 1 Try.underlying41 hi5 hx0 hx1 hx2 rfl (by decide) _ _ _ rfl HROW.out ⟨wr.heap.size, 0, none⟩ 1 1 [.int .u8 ((k : Int) % 256)] rfl rfl (cell_one_new _ _ _) (by simp [Value.oneCell']) (by have := HLL.out; unfold maxLen; omega) (by have := HLL.out; omega) (by have := HSB.out; simp; omega) ?_; intro v5 w5 ho5 hg5 _ ha5; rw [HX.out] at ho5; have HO5 : Hid _ := byt_app ho5; have HG5 : Hid _ := gr_app hg5 ha5; obtain ⟨qa, qc, rfl⟩ := row_shape ho5; clear ho5 hg5 ha5)
      go_ret
      refine ⟨_, rfl, ?_, ?_⟩
      · have := HO5.out
        rw [← HE.out, HP.out] at this
        exact this
      · exact HBW.out.trans HG5.out
    · have e1 : decide ((128 : Int) ≤ (k : Int)) = true := by rw [decide_eq_true_eq]; omega
      have e2 : decide (128 ≤ k) = true := by rw [decide_eq_true_eq]; omega
      have HKB : Hid (128 ≤ k) := by show 128 ≤ k; omega
      have HE : Hid (nm k = UInt8.ofNat (128 + k % 128) :: nm (k / 128)) := by rw [nm, if_neg hk]; exact rfl
      have HX : Hid (((k : Int) % 128 + 128) = ((UInt8.ofNat (128 + k % 128)).toNat : Int)) := by show (k : Int) % 128 + 128 = _; simp; omega
      have HROW : Hid ((wr.alloc (.cells #[.int .u8 ((k : Int) % 128 + 128)] 5)).ownsRow B 5 1 (.slice ra q.length rc) q.length (Lib.byteCells q)) := HR.out.alloc _
      clear hk
      go_wp2_with (at_builtin; refine wpList_append_own_at _ rfl _ _ 41 rfl B 5 i5 (.int .u8 0) 1 1 Try.underlying41 hi5 hx0 hx1 hx2 rfl (by decide) _ _ _ rfl HROW.out ⟨wr.heap.size, 0, none⟩ 1 1 [.int .u8 ((k : Int) % 128 + 128)] rfl rfl (cell_one_new _ _ _) (by simp [Value.oneCell']) (by have := HLL.out; unfold maxLen; omega) (by have := HLL.out; omega) (by have := HSB.out; simp; omega) ?_; intro v5 w5 ho5 hg5 _ ha5; rw [HX.out] at ho5; have HO5 : Hid _ := byt_app ho5; have HG5 : Hid _ := gr_app hg5 ha5; obtain ⟨qa, qc, rfl⟩ := row_shape ho5; clear ho5 hg5 ha5)
      go_roundg (k / 128)
      case measure => have := HG.out; have := HKB.out; omega
      case rel =>
        refine ⟨k / 128, q ++ [UInt8.ofNat (128 + k % 128)], ?_, ⟨rfl, ?_⟩, ?_, ?_, ?_⟩
        · first | rfl | (congr 1; omega)
        · have := HG.out.2; exact Nat.lt_of_le_of_lt (Nat.div_le_self _ _) this
        · rw [List.append_assoc, List.singleton_append, ← HE.out]; exact HP.out
        · exact HO5.out
        · exact HBW.out.trans HG5.out

set_option maxRecDepth 100000 in
set_option maxHeartbeats 4000000 in
theorem rcount_any (n : Nat) (hn : n < 128 ^ 9) (w : World) :
    Calls Try.prog 16 #[.int .i64 (n : Int)] w fun e w' => ∃ v', e = .returned v' ∧ Byt w.heap.size w' v' (nm n) ∧ Below w.heap.size w w' := by
  obtain ⟨i5, hi5, hx0, hx1, hx2⟩ := info_parts info5
  have HN : Hid (n < 128 ^ 9) := hn
  have HH : Hid (Byt w.heap.size w (.slice none 0 0) []) := World.ownsRow_nil _ _ _ _
  clear hn
  go_enter Try.func16, Try.ntmps16
  go_wp2_with fail
  go_loopg [0, 3] n (fun gm v0 v3 wr => ∃ (k : Nat) (q : List UInt8), v0 = .int .i64 (k : Int) ∧ Hid (gm = k ∧ k < 128 ^ 9) ∧ Hid (q ++ nm k = nm n) ∧ Hid (Byt w.heap.size wr v3 q) ∧ Hid (Gr w wr (.slice none 0 0) v3))
  case atStart => exact ⟨n, [], rfl, ⟨rfl, HN.out⟩, rfl, HH, Gr.refl _ _⟩
  case round =>
    obtain ⟨k, q, rfl, HG, HP, HR, HBW⟩ := hrel
    have hll : q.length ≤ 1000009 := by
      have h1 := congrArg List.length HP.out
      have h2 := nm_len n 9 HN.out (by omega)
      rw [List.length_append] at h1
      omega
    have HLL : Hid (q.length ≤ 1000009) := hll
    have HSB : Hid (w.heap.size ≤ wr.heap.size) := HBW.out.1.size
    obtain ⟨ra, rc, hrv⟩ := row_shape HR.out
    subst hrv
    clear hll
    by_cases hk : k < 128
    · have e1 : decide ((127 : Int) < (k : Int)) = false := by rw [decide_eq_false_iff_not]; omega
      have e2 : decide (127 < k) = false := by rw [decide_eq_false_iff_not]; omega
      have HE : Hid (nm k = [UInt8.ofNat k]) := by unfold nm; rw [if_pos hk]; exact rfl
      have HX : Hid (((k : Int) % 256) = ((UInt8.ofNat k).toNat : Int)) := by show (k : Int) % 256 = _; simp
      have HROW : Hid ((wr.alloc (.cells #[.int .u8 ((k : Int) % 256)] 5)).ownsRow w.heap.size 5 1 (.slice ra q.length rc) q.length (Lib.byteCells q)) := HR.out.alloc _
      clear hk
      go_wp2_with (at_builtin; refine wpList_append_own_at _ rfl _ _ 41 rfl w.heap.size 5 i5 (.int .u8 0) 1 1 Try.underlying41 hi5 hx0 hx1 hx2 rfl (by decide) _ _ _ rfl HROW.out ⟨wr.heap.size, 0, none⟩ 1 1 [.int .u8 ((k : Int) % 256)] rfl rfl (cell_one_new _ _ _) (by simp [Value.oneCell']) (by have := HLL.out; unfold maxLen; omega) (by have := HLL.out; omega) (by have := HSB.out; simp; omega) ?_; intro v5 w5 ho5 hg5 _ ha5; rw [HX.out] at ho5; have HO5 : Hid _ := byt_app ho5; have HG5 : Hid _ := gr_app hg5 ha5; obtain ⟨qa, qc, rfl⟩ := row_shape ho5; clear ho5 hg5 ha5)
      go_ret
      refine ⟨_, rfl, ?_, ?_⟩
      · have := HO5.out
        rw [← HE.out, HP.out] at this
        exact this
      · exact (HBW.out.trans HG5.out).below (Nat.le_refl _) (fun r e => by cases e)
    · have e1 : decide ((127 : Int) < (k : Int)) = true := by rw [decide_eq_true_eq]; omega
      have e2 : decide (127 < k) = true := by rw [decide_eq_true_eq]; omega
      have HKB : Hid (128 ≤ k) := by show 128 ≤ k; omega
      have HE : Hid (nm k = UInt8.ofNat (128 + k % 128) :: nm (k / 128)) := by rw [nm, if_neg hk]; exact rfl
      have HX : Hid (((k : Int) % 128 + 128) = ((UInt8.ofNat (128 + k % 128)).toNat : Int)) := by show (k : Int) % 128 + 128 = _; simp; omega
      have HROW : Hid ((wr.alloc (.cells #[.int .u8 ((k : Int) % 128 + 128)] 5)).ownsRow w.heap.size 5 1 (.slice ra q.length rc) q.length (Lib.byteCells q)) := HR.out.alloc _
      clear hk
      go_wp2_with (at_builtin; refine wpList_append_own_at _ rfl _ _ 41 rfl w.heap.size 5 i5 (.int .u8 0) 1 1 Try.underlying41 hi5 hx0 hx1 hx2 rfl (by decide) _ _ _ rfl HROW.out ⟨wr.heap.size, 0, none⟩ 1 1 [.int .u8 ((k : Int) % 128 + 128)] rfl rfl (cell_one_new _ _ _) (by simp [Value.oneCell']) (by have := HLL.out; unfold maxLen; omega) (by have := HLL.out; omega) (by have := HSB.out; simp; omega) ?_; intro v5 w5 ho5 hg5 _ ha5; rw [HX.out] at ho5; have HO5 : Hid _ := byt_app ho5; have HG5 : Hid _ := gr_app hg5 ha5; obtain ⟨qa, qc, rfl⟩ := row_shape ho5; clear ho5 hg5 ha5)
      go_roundg (k / 128)
      case measure => have := HG.out; have := HKB.out; omega
      case rel =>
        refine ⟨k / 128, q ++ [UInt8.ofNat (128 + k % 128)], ?_, ⟨rfl, ?_⟩, ?_, ?_, ?_⟩
        · first | rfl | (congr 1; have hh := HG.out.2; have e9 : (128 : Nat) ^ 9 = 9223372036854775808 := (by decide); rw [e9] at hh; unfold wrap64; omega)
        · have := HG.out.2; exact Nat.lt_of_le_of_lt (Nat.div_le_self _ _) this
        · rw [List.append_assoc, List.singleton_append, ← HE.out]; exact HP.out
        · exact HO5.out
        · exact HBW.out.trans HG5.out

end Go.Proofs.Ythlbajkbpceglaa
