import Derived.Test.YtkaciochlemjiaaItm
import Derived.Test.YtkaciochlemjiaaRwr
namespace Go.Proofs.Ytkaciochlemjiaa
open Go.RowKit Go.Maps

/-- The reference's cursor: the bytes, and the place. -/
def Cur (W : World) (r : Nat) (b : ByteArray) (k : Nat) : Prop := W.heap[r]? = some (.cells #[.string b, .int .i64 (k : Int)] 66 (0, 0))
theorem Cur.c0 {W : World} {r k : Nat} {b : ByteArray} (h : Cur W r b k) : W.cell? ⟨r, 0, none⟩ = some (.string b) := by rw [Lib.cell_of_heap h]; rfl
theorem Cur.c1 {W : World} {r k : Nat} {b : ByteArray} (h : Cur W r b k) : W.cell? ⟨r, 1, none⟩ = some (.int .i64 (k : Int)) := by rw [Lib.cell_of_heap h]; rfl
theorem Cur.frz {W : World} {r k : Nat} {b : ByteArray} (h : Cur W r b k) : W.frozen? ⟨r, 1, none⟩ = false := Lib.frozen_of_heap h 1
theorem Cur.set {W : World} {r k : Nat} {b : ByteArray} (h : Cur W r b k) (k' : Nat) : Cur (W.setCell ⟨r, 1, none⟩ (.int .i64 (k' : Int))) r b k' := by
  show (W.setCell ⟨r, 1, none⟩ (.int .i64 (k' : Int))).heap[r]? = _
  rw [blk_set _ h]; rfl
theorem Cur.up {W W' : World} {r k : Nat} {b : ByteArray} (h : Cur W r b k) (hb : Below W.heap.size W W') : Cur W' r b k := by
  show W'.heap[r]? = _
  rw [hb.block r (lt_of_heap h)]; exact h
theorem lst_siz' (x : ByteArray) : x.data.toList.length = x.size := Array.length_toList
theorem gb_drew {a b : World} {o : Option Nat} (h : a.grownBy b o) : a.grownBy b.drew o := ⟨h.os, h.tape, h.output, h.size, h.block⟩
/-- A number that stands here is read as it is. -/
def RdC (b : ByteArray) (k : Nat) (n k' : Nat) : Prop := k ≤ k' ∧ k' ≤ b.size ∧ n < 2097152 ∧ ∀ m q, m < 2097152 → b.data.toList.drop k = nm m ++ q → n = m ∧ b.data.toList.drop k' = q
/-- The bytes that were passed over by a number: all go on. -/
theorem rdc_end {b : ByteArray} {k g n : Nat} {x : UInt8} (hk : k + g < b.size) (hx : b.get! (k + g) = x) (hall : ∀ c ∈ (b.data.toList.drop k).take g, 128 ≤ c.toNat) (hl : x.toNat < 128) (hg : g < 3) (hn : n = gv ((b.data.toList.drop k).take g) + x.toNat * 128 ^ g) : RdC b k n (k + g + 1) := by
  have hlen : k + g < b.data.toList.length := by rw [lst_siz']; exact hk
  have hgl : (b.data.toList.drop k)[g]? = some x := by rw [List.getElem?_drop, List.getElem?_eq_getElem hlen, ← hx, get_list b (k + g) hk]
  have hg2 : g < (b.data.toList.drop k).length := by rw [List.length_drop]; omega
  have hsp : b.data.toList.drop k = (b.data.toList.drop k).take g ++ x :: b.data.toList.drop (k + g + 1) := by
    have h1 : (b.data.toList.drop k)[g] = x := by rw [List.getElem?_eq_getElem hg2] at hgl; exact Option.some.inj hgl
    have h2 : (b.data.toList.drop k).drop g = x :: b.data.toList.drop (k + g + 1) := by
      rw [List.drop_eq_getElem_cons hg2, h1, List.drop_drop, Nat.add_assoc]
    rw [← h2, List.take_append_drop]
  have htl : ((b.data.toList.drop k).take g).length = g := by rw [List.length_take]; omega
  refine ⟨by omega, by omega, ?_, ?_⟩
  · have h1 := gv_lt ((b.data.toList.drop k).take g)
    rw [htl] at h1
    obtain rfl | rfl | rfl : g = 0 ∨ g = 1 ∨ g = 2 := by omega
    · rw [hn]; simp at h1 ⊢; omega
    · rw [hn]; simp at h1 ⊢; omega
    · rw [hn]; simp at h1 ⊢; omega
  · intro m q _ e
    obtain ⟨p, b', h1, h2, h3⟩ := nm_form m
    rw [hsp, h1, List.append_assoc] at e
    obtain ⟨e1, e2, e3⟩ := nmf_at hall hl h2.more h2.last e
    subst e2
    exact ⟨by rw [hn, h3, ← e1, htl], e3⟩
/-- No number of three groups stands here. -/
theorem rdc_none {b : ByteArray} {k g : Nat} (hk : k + g ≤ b.size) (hg : g = 3 ∨ k + g = b.size) (hall : ∀ c ∈ (b.data.toList.drop k).take g, 128 ≤ c.toNat) : RdC b k 0 (k + g) := by
  refine ⟨by omega, hk, by omega, ?_⟩
  intro m q hm e
  exfalso
  have hz : b.data.toList.length = b.size := lst_siz' b
  refine nm_none hall (n := m) (by omega) ?_ ⟨(b.data.toList.drop k).drop g, (List.take_append_drop _ _).symm⟩ q e
  rcases hg with h | h
  · left; rw [List.length_take, List.length_drop, hz]; omega
  · right; exact List.take_of_length_le (by rw [List.length_drop, hz]; omega)
end Go.Proofs.Ytkaciochlemjiaa
namespace Go.Proofs.Ytkaciochlemjiaa
open Go.RowKit Go.Maps

theorem gb_set1 {W W' : World} {r k : Nat} {v : Value} (h : W.grownBy W' (some r)) : W.grownBy (W'.setCell ⟨r, k, none⟩ v) (some r) := gb_trans h grown_set
/-- What the cursor's number answers. -/
def NumC (b : ByteArray) (k r : Nat) (W : World) (e : Ending) (W' : World) : Prop := ∃ n k' : Nat, e = .returned (.int .i64 (n : Int)) ∧ RdC b k n k' ∧ Cur W' r b k' ∧ W.grownBy W' (some r)
set_option maxRecDepth 100000 in
set_option maxHeartbeats 8000000 in
theorem cnum_any {r k : Nat} {b : ByteArray} (hz : b.size ≤ 140737488355328) (hk : k ≤ b.size) (W : World) (h : Cur W r b k) :
    Calls Try.prog 34 #[.pointer (some ⟨r, 0, none⟩)] W fun e W' => NumC b k r W e W' := by
  have HZ : Hid (b.size ≤ 140737488355328) := hz
  have HK : Hid (k ≤ b.size) := hk
  have HH : Hid (Cur W r b k) := h
  clear hz hk h
  go_enter Try.func34, Try.ntmps34
  go_wp2_with fail
  go_loopg [3, 4, 5] 4 (fun gm v3 v4 v5 wr => ∃ g N P : Nat, v3 = .int .i64 (N : Int) ∧ v4 = .int .i64 (P : Int) ∧ v5 = .int .i64 (g : Int) ∧ Hid (g ≤ 3 ∧ gm = 4 - g) ∧ Hid (P = 128 ^ g) ∧ Hid (k + g ≤ b.size) ∧ Hid (N = gv ((b.data.toList.drop k).take g)) ∧ Hid (∀ c ∈ (b.data.toList.drop k).take g, 128 ≤ c.toNat) ∧ Hid (Cur wr r b (k + g)) ∧ Hid (W.grownBy wr (some r)))
  case atStart => exact ⟨0, 0, 1, rfl, rfl, rfl, ⟨by omega, rfl⟩, rfl, HK, rfl, (fun c hc => by cases hc), HH, gb_refl _ _⟩
  case round =>
    obtain ⟨g, N, P, rfl, rfl, rfl, HG, HP, HS, HN, HA, HC, HB⟩ := hrel
    obtain ⟨a, ha⟩ : ∃ a, k + g = a := ⟨_, rfl⟩
    rw [ha] at HS HC
    have HAE : Hid (k + g = a) := ha
    have c0 := HC.out.c0
    have c1 := HC.out.c1
    have cf := HC.out.frz
    by_cases hg : g < 3
    · have d1 : decide ((g : Int) < 3) = true := by rw [decide_eq_true_eq]; omega
      have d2 : decide (g < 3) = true := by rw [decide_eq_true_eq]; omega
      have HGL : Hid (g < 3) := hg
      by_cases hl : a < b.size
      · have d3 : decide ((a : Int) < (b.size : Int)) = true := by rw [decide_eq_true_eq]; omega
        have d4 : decide (a < b.size) = true := by rw [decide_eq_true_eq]; omega
        have HL : Hid (a < b.size) := hl
        have hix := idx_fact b a hl
        obtain ⟨x, hx⟩ : ∃ x, b.get! a = x := ⟨_, rfl⟩
        rw [hx] at hix
        have hdl : (b.data.toList.drop k).length = b.size - k := by rw [List.length_drop, lst_siz']
        have hgl : g < (b.data.toList.drop k).length := by rw [hdl]; omega
        have hxl : (b.data.toList.drop k)[g] = x := by
          have h2 : a < b.data.toList.length := by rw [lst_siz']; exact hl
          have : (b.data.toList.drop k)[g]? = some x := by rw [List.getElem?_drop, ha, List.getElem?_eq_getElem h2, ← hx, get_list b a hl]
          rw [List.getElem?_eq_getElem hgl] at this
          exact Option.some.inj this
        have HSN : Hid (gv ((b.data.toList.drop k).take (g + 1)) = N + x.toNat % 128 * P) := by
          show _ = _
          rw [gv_snoc _ g hgl, hxl, ← HN.out, HP.out]
        have HTA : Hid (128 ≤ x.toNat → ∀ c ∈ (b.data.toList.drop k).take (g + 1), 128 ≤ c.toNat) := fun h => take_all (fun c => 128 ≤ c.toNat) _ g hgl HA.out (by rw [hxl]; exact h)
        have HEN : Hid (x.toNat < 128 → RdC b k (N + x.toNat % 128 * P) (a + 1)) := fun h => by
          have := rdc_end (n := N + x.toNat % 128 * P) (by rw [ha]; exact hl) (by rw [ha]; exact hx) HA.out h hg (by rw [← HN.out, HP.out, Nat.mod_eq_of_lt h])
          rw [ha] at this
          exact this
        have hbl : x.toNat < 256 := x.toNat_lt
        obtain ⟨bn, hbn⟩ : ∃ bn : Nat, x.toNat = bn := ⟨_, rfl⟩
        rw [hbn] at hix hbl HSN HTA HEN
        have hpw : P ≤ 16384 ∧ 0 < P := by
          rw [HP.out]
          obtain rfl | rfl | rfl : g = 0 ∨ g = 1 ∨ g = 2 := by omega
          · exact ⟨by decide, by decide⟩
          · exact ⟨by decide, by decide⟩
          · exact ⟨by decide, by decide⟩
        have hNb : N ≤ 2097152 := by
          have h1 := gv_lt ((b.data.toList.drop k).take g)
          rw [← HN.out, List.length_take, Nat.min_eq_left (by omega)] at h1
          have h2 : 128 ^ g ≤ 16384 := by rw [← HP.out]; exact hpw.1
          omega
        obtain ⟨M, hM⟩ : ∃ M : Nat, bn % 128 * P = M := ⟨_, rfl⟩
        obtain ⟨v, hv⟩ : ∃ v : Nat, N + M = v := ⟨_, rfl⟩
        obtain ⟨P2, hP2⟩ : ∃ P2 : Nat, P * 128 = P2 := ⟨_, rfl⟩
        have hMb : M ≤ 127 * 16384 := by
          rw [← hM]
          exact Nat.mul_le_mul (Nat.le_of_lt_succ (Nat.mod_lt _ (by decide))) hpw.1
        rw [hM, hv] at HSN HEN
        have HP2 : Hid (P2 = 128 ^ (g + 1)) := by show _ = _; rw [← hP2, HP.out, Nat.pow_succ]
        have hMi : (bn : Int) % 128 * (P : Int) = (M : Int) := by rw [← hM]; simp
        have HWR : Hid (wrap64 ((bn : Int) % 128 * (P : Int)) = (M : Int) ∧ wrap64 ((N : Int) + (M : Int)) = (v : Int) ∧ wrap64 ((P : Int) * 128) = (P2 : Int) ∧ wrap64 (bn : Int) = (bn : Int) ∧ wrap64 ((a : Int) + 1) = (a : Int) + 1 ∧ wrap64 ((g : Int) + 1) = (g : Int) + 1) := by
          have q1 : M ≤ 1000000000000 := by omega
          have q2 : N + M ≤ 1000000000000 := by omega
          have q3 : bn ≤ 1000000000000 := by omega
          have q4 : P * 128 ≤ 1000000000000 := by have := hpw.1; omega
          have q5 : a + 1 ≤ 140737488355329 := by have := HZ.out; omega
          have q6 : g + 1 ≤ 1000000000000 := by omega
          refine ⟨by rw [hMi]; exact w64_id M q1, by rw [← hv, ← Int.natCast_add]; exact w64_id _ q2, ?_, w64_id bn q3, ?_, w64_id (g + 1) q6⟩
          · rw [← hP2]; exact w64_id (P * 128) q4
          · clear hMi hMb hpw hNb; unfold wrap64; omega
        clear hpw hNb hMi hMb hxl hgl hdl hx hbn hM hP2
        by_cases hb : 128 ≤ bn
        · have f1 : decide ((bn : Int) < 128) = false := by rw [decide_eq_false_iff_not]; omega
          have f2 : decide (bn < 128) = false := by rw [decide_eq_false_iff_not]; omega
          have HBB : Hid (128 ≤ bn) := hb
          clear hb hbl hl hg ha hv
          go_wp2_with fail
          go_quiet (fail)
          go_wp2_with fail
          go_quiet (fail)
          obtain ⟨k1, k2, k3, k4, k5, k6⟩ := HWR.out
          go_wp2_with fail
          clear k1 k2 k3 k4 k5 k6
          go_roundg (4 - (g + 1))
          case measure => have := HG.out; have := HGL.out; omega
          case rel =>
            refine ⟨g + 1, v, P2, ?_, ?_, ?_, ⟨HGL.out, rfl⟩, HP2, ?_, HSN.out.symm, HTA.out HBB.out, ?_, ?_⟩
            · first | rfl | (rw [HWR.out.2.1]; done) | (rw [HWR.out.2.1]; rfl) | (rw [HWR.out.1, HWR.out.2.1]; done)
            · first | rfl | rw [HWR.out.2.2.1]
            · first | rfl | (rw [HWR.out.2.2.2.2.2]; rfl)
            · show k + (g + 1) ≤ b.size; have := HL.out; have := HAE.out; omega
            · have e : k + (g + 1) = a + 1 := by have := HAE.out; omega
              rw [e]
              first | exact HC.out.set (a + 1) | (rw [HWR.out.2.2.2.2.1]; exact HC.out.set (a + 1))
            · exact gb_set1 (gb_trans HB.out (gb_of (below_drewN (Below.refl _ _) _)))
        · have f1 : decide ((bn : Int) < 128) = true := by rw [decide_eq_true_eq]; omega
          have f2 : decide (bn < 128) = true := by rw [decide_eq_true_eq]; omega
          have HBB : Hid (bn < 128) := by show bn < 128; omega
          clear hb hbl hl hg ha hv
          go_wp2_with fail
          go_quiet (fail)
          go_wp2_with fail
          go_quiet (fail)
          obtain ⟨k1, k2, k3, k4, k5, k6⟩ := HWR.out
          go_wp2_with fail
          clear k1 k2 k3 k4 k5 k6
          go_ret
          refine ⟨v, a + 1, ?_, HEN.out HBB.out, ?_, ?_⟩
          · first | rfl | (rw [HWR.out.2.1]; done) | (rw [HWR.out.2.1]; rfl) | (rw [HWR.out.1, HWR.out.2.1]; done)
          · first | exact HC.out.set (a + 1) | (rw [HWR.out.2.2.2.2.1]; exact HC.out.set (a + 1))
          · exact gb_set1 (gb_trans HB.out (gb_of (below_drewN (Below.refl _ _) _)))
      · have d3 : decide ((a : Int) < (b.size : Int)) = false := by rw [decide_eq_false_iff_not]; omega
        have d4 : decide (a < b.size) = false := by rw [decide_eq_false_iff_not]; omega
        have HR : Hid (RdC b k 0 a) := by
          have := rdc_none (b := b) (k := k) (g := g) (by rw [ha]; exact HS.out) (.inr (by rw [ha]; have := HS.out; omega)) HA.out
          rw [ha] at this
          exact this
        clear hl hg ha
        go_wp2_with fail
        go_quiet (fail)
        go_wp2_with fail
        go_ret
        exact ⟨0, a, rfl, HR.out, HC.out, gb_trans HB.out (gb_of (below_drewN (Below.refl _ _) _))⟩
    · have d1 : decide ((g : Int) < 3) = false := by rw [decide_eq_false_iff_not]; omega
      have d2 : decide (g < 3) = false := by rw [decide_eq_false_iff_not]; omega
      have HR : Hid (RdC b k 0 a) := by
        have := rdc_none (b := b) (k := k) (g := g) (by rw [ha]; exact HS.out) (.inl (by have := HG.out; omega)) HA.out
        rw [ha] at this
        exact this
      clear hg ha
      go_wp2_with fail
      go_quiet (fail)
      go_wp2_with fail
      go_ret
      exact ⟨0, a, rfl, HR.out, HC.out, gb_trans HB.out (gb_of (below_drewN (Below.refl _ _) _))⟩
end Go.Proofs.Ytkaciochlemjiaa
namespace Go.Proofs.Ytkaciochlemjiaa
open Go.RowKit Go.Maps

/-- What 'few' answers. -/
def FewC (b : ByteArray) (k r : Nat) (W : World) (e : Ending) (W' : World) : Prop := ∃ n k' : Nat, e = .returned (.int .i64 (n : Int)) ∧ k ≤ k' ∧ n + k' ≤ b.size ∧ n < 2097152 ∧ (∀ m q, m < 2097152 → b.data.toList.drop k = nm m ++ q → m ≤ q.length → n = m ∧ b.data.toList.drop k' = q) ∧ Cur W' r b k' ∧ W.grownBy W' (some r)
/-- What 'text' answers. -/
def TxtC (b : ByteArray) (k r : Nat) (W : World) (e : Ending) (W' : World) : Prop := ∃ (t : ByteArray) (k' : Nat), e = .returned (.string t) ∧ k ≤ k' ∧ k' ≤ b.size ∧ t.size ≤ b.size ∧ (∀ (x : ByteArray) q, x.size < 2097152 → b.data.toList.drop k = tx x ++ q → t = x ∧ b.data.toList.drop k' = q) ∧ Cur W' r b k' ∧ W.grownBy W' (some r)
set_option maxRecDepth 100000 in
set_option maxHeartbeats 8000000 in
theorem cfew_any {r k : Nat} {b : ByteArray} (hz : b.size ≤ 140737488355328) (hk : k ≤ b.size) (W : World) (h : Cur W r b k) :
    Calls Try.prog 33 #[.pointer (some ⟨r, 0, none⟩)] W fun e W' => FewC b k r W e W' := by
  have HZ : Hid (b.size ≤ 140737488355328) := hz
  have HCN : Hid _ := cnum_any hz hk W h
  clear hz hk h
  go_enter Try.func33, Try.ntmps33
  go_wp2_with fail
  refine Calls.mono HCN.out ?_
  rintro e w2 ⟨n, a, rfl, hr, hc, hg⟩
  have HR : Hid (RdC b k n a) := hr
  have HC : Hid (Cur w2 r b a) := hc
  have HG : Hid (W.grownBy w2 (some r)) := hg
  have c0 := hc.c0
  have c1 := hc.c1
  have HWR : Hid (wrap64 ((b.size : Int) - (a : Int)) = (b.size : Int) - (a : Int) ∧ IntKind.i64.wrap ((b.size : Int) - (a : Int)) = (b.size : Int) - (a : Int)) := by
    have h1 := HZ.out
    have h2 := hr.2.1
    refine ⟨?_, ?_⟩
    · unfold wrap64; omega
    · rw [IntKind.wrap_i64]; omega
  by_cases hn : n ≤ b.size - a
  · have d1 : decide ((b.size : Int) - (a : Int) < (n : Int)) = false := by rw [decide_eq_false_iff_not]; have := hr.2.1; omega
    have HN : Hid (n + a ≤ b.size) := by have := hr.2.1; show n + a ≤ b.size; omega
    clear hr hc hg hn
    obtain ⟨k1, k2⟩ := HWR.out
    go_wp2_with fail
    go_quiet (fail)
    go_wp2_with fail
    clear k1 k2
    go_ret
    exact ⟨n, a, rfl, HR.out.1, HN.out, HR.out.2.2.1, fun m q hm e _ => HR.out.2.2.2 m q hm e, HC.out, gb_trans HG.out (gb_of (below_drewN (Below.refl _ _) _))⟩
  · have d1 : decide ((b.size : Int) - (a : Int) < (n : Int)) = true := by rw [decide_eq_true_eq]; have := hr.2.1; omega
    have HN : Hid (b.size < n + a) := by have := hr.2.1; show b.size < n + a; omega
    clear hr hc hg hn
    obtain ⟨k1, k2⟩ := HWR.out
    go_wp2_with fail
    go_quiet (fail)
    go_wp2_with fail
    clear k1 k2
    go_ret
    refine ⟨0, a, rfl, HR.out.1, by have := HR.out.2.1; omega, by omega, fun m q hm e hq => ?_, HC.out, gb_trans HG.out (gb_of (below_drewN (Below.refl _ _) _))⟩
    exfalso
    obtain ⟨h1, h2⟩ := HR.out.2.2.2 m q hm e
    have h3 := congrArg List.length h2
    rw [List.length_drop, lst_siz'] at h3
    have := HN.out
    have := HR.out.2.1
    omega

theorem ext_mid (b : ByteArray) (a n : Nat) : (b.extract a (a + n)).data.toList = (b.data.toList.drop a).take n := by
  rw [ByteArray.data_extract, Array.toList_extract]
  simp
set_option maxRecDepth 100000 in
set_option maxHeartbeats 8000000 in
theorem ctxt_any {r k : Nat} {b : ByteArray} (hz : b.size ≤ 140737488355328) (hk : k ≤ b.size) (W : World) (h : Cur W r b k) :
    Calls Try.prog 35 #[.pointer (some ⟨r, 0, none⟩)] W fun e W' => TxtC b k r W e W' := by
  have HZ : Hid (b.size ≤ 140737488355328) := hz
  have HCN : Hid _ := cnum_any hz hk W h
  clear hz hk h
  go_enter Try.func35, Try.ntmps35
  go_wp2_with fail
  refine Calls.mono HCN.out ?_
  rintro e w2 ⟨n, a, rfl, hr, hc, hg⟩
  have HR : Hid (RdC b k n a) := hr
  have HC : Hid (Cur w2 r b a) := hc
  have HG : Hid (W.grownBy w2 (some r)) := hg
  have c0 := hc.c0
  have c1 := hc.c1
  have cf := hc.frz
  have HWR : Hid (wrap64 ((b.size : Int) - (a : Int)) = (b.size : Int) - (a : Int) ∧ IntKind.i64.wrap ((b.size : Int) - (a : Int)) = (b.size : Int) - (a : Int)) := by
    have h1 := HZ.out
    have h2 := hr.2.1
    refine ⟨?_, ?_⟩
    · unfold wrap64; omega
    · rw [IntKind.wrap_i64]; omega
  by_cases hn : n ≤ b.size - a
  · have d1 : decide ((b.size : Int) - (a : Int) < (n : Int)) = false := by rw [decide_eq_false_iff_not]; have := hr.2.1; omega
    have HN : Hid (n + a ≤ b.size) := by have := hr.2.1; show n + a ≤ b.size; omega
    have HW2 : Hid (wrap64 ((a : Int) + (n : Int)) = (a : Int) + (n : Int)) := by
      have := HN.out; have := HZ.out
      show _ = _
      unfold wrap64; omega
    clear hr hc hg hn
    obtain ⟨k1, k2⟩ := HWR.out
    have k3 := HW2.out
    have g1 : (a : Int) ≤ (a : Int) + (n : Int) := by omega
    have g2 : (a : Int) + (n : Int) ≤ (b.size : Int) := by have := HN.out; omega
    have g3 : a + n ≤ b.size := by have := HN.out; omega
    go_wp2_with fail
    go_quiet (fail)
    go_wp2_with fail
    go_quiet (fail)
    go_wp2_with fail
    clear k1 k2 k3
    go_ret
    refine ⟨b.extract a (a + n), a + n, rfl, by have := HR.out.1; omega, by have := HN.out; omega, by rw [ByteArray.size_extract]; have := HN.out; omega, fun x q hx e => ?_, ?_, gb_set1 (gb_trans HG.out (gb_of (below_drewN (Below.refl _ _) _)))⟩
    · unfold tx at e
      rw [List.append_assoc] at e
      obtain ⟨h1, h2⟩ := HR.out.2.2.2 x.size _ hx e
      subst h1
      have h3 : (b.data.toList.drop a).take x.size = x.data.toList := by rw [h2, ← lst_siz' x, List.take_left]
      have h4 : (b.data.toList.drop a).drop x.size = q := by rw [h2, ← lst_siz' x, List.drop_left]
      refine ⟨bytes_ext (by rw [ext_mid, h3]), ?_⟩
      rw [← h4, List.drop_drop]
    · first | exact HC.out.set (a + n) | (rw [HW2.out]; exact HC.out.set (a + n))
  · have d1 : decide ((b.size : Int) - (a : Int) < (n : Int)) = true := by rw [decide_eq_true_eq]; have := hr.2.1; omega
    have HN : Hid (b.size < n + a) := by have := hr.2.1; show b.size < n + a; omega
    clear hr hc hg hn
    obtain ⟨k1, k2⟩ := HWR.out
    go_wp2_with fail
    go_quiet (fail)
    go_wp2_with fail
    clear k1 k2
    go_ret
    refine ⟨⟨#[]⟩, a, rfl, HR.out.1, HR.out.2.1, Nat.zero_le _, fun x q hx e => ?_, HC.out, gb_trans HG.out (gb_of (below_drewN (Below.refl _ _) _))⟩
    exfalso
    unfold tx at e
    rw [List.append_assoc] at e
    obtain ⟨h1, h2⟩ := HR.out.2.2.2 x.size _ hx e
    have h3 := congrArg List.length h2
    rw [List.length_drop, lst_siz', List.length_append, lst_siz'] at h3
    have := HN.out
    have := HR.out.2.1
    omega
end Go.Proofs.Ytkaciochlemjiaa
