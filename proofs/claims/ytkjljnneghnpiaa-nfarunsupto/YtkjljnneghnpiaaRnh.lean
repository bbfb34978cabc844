import Derived.Test.YtkjljnneghnpiaaRng
import Derived.Test.YtkjljnneghnpiaaRnb
namespace Go.Proofs.Ytkjljnneghnpiaa
open Go.RowKit Go.Maps

theorem nq40 (M : Nat) (W : World) : (binOp .neq 40 (.agg #[.int .u64 (M : Int), .int .u64 1, .int .u64 2, .int .u64 3]) (.agg #[.int .u64 (M : Int), .int .u64 1, .int .u64 2, .int .u64 3])).run Try.prog W = .ok (.bool false) W := by
  have := eq40 9998 M 1 2 3 M 1 2 3 W
  rw [run_neq_struct]
  rw [show (.agg #[.int .u64 (M : Int), .int .u64 1, .int .u64 2, .int .u64 3] : Value) = .agg #[.int .u64 (M : Int), .int .u64 ((1 : Nat) : Int), .int .u64 ((2 : Nat) : Int), .int .u64 ((3 : Nat) : Int)] by rfl, this]
  simp
theorem Sh.cell {B : Nat} {W : World} {e : TypeId} {s : Nat} {g n cap len : Nat} {cs : List Value} (h : Sh B W e s (.slice (some ⟨g, 0, none⟩) n cap) n len cs) {j : Nat} {u : Value} (hj : cs[j]? = some u) : W.cell? ⟨g, j, none⟩ = some u := by
  obtain ⟨a', cap', e1, _, hl, ⟨e2, e3⟩ | ⟨g', c, cur, f1, f2, f3, f4, f5, f6, f7⟩⟩ := h
  · have := (List.getElem?_eq_some_iff.1 hj).1
    rw [e3, Nat.zero_mul] at hl
    omega
  · injection e1 with e1 _ e4
    subst e1 e4
    injection f1 with f1 _ f5
    injection f1 with f1
    injection f1 with f1
    subst f1
    rw [Lib.cell_of_heap f3]
    have hlt := (List.getElem?_eq_some_iff.1 hj).1
    rw [← f7, List.getElem?_take_of_lt (by omega)] at hj
    simpa using hj
/-- A lent machine. -/
structure Ln (W : World) (N : Mc) (g1 q1 g2 q2 g3 q3 : Nat) : Prop where
  c1 : N.on.length + 20 ≤ q1
  c2 : N.tos.length + 20 ≤ q2
  c3 : N.free.length + 20 ≤ q3
  on : ∀ i, i < 20 → W.cell? ⟨g1, (N.on.length + i) * 4, none⟩ = some (.int .u64 ((900 + i : Nat) : Int)) ∧ W.cell? ⟨g1, (N.on.length + i) * 4 + 1, none⟩ = some (.int .u64 1) ∧ W.cell? ⟨g1, (N.on.length + i) * 4 + 2, none⟩ = some (.int .u64 2) ∧ W.cell? ⟨g1, (N.on.length + i) * 4 + 3, none⟩ = some (.int .u64 3)
  tos : ∀ i, i < 20 → W.cell? ⟨g2, N.tos.length + i, none⟩ = some (.int .i64 ((900 + i : Nat) : Int))
  fr : ∀ i, i < 20 → ∃ gu cu, W.cell? ⟨g3, N.free.length + i, none⟩ = some (.slice (some ⟨gu, 0, none⟩) 1 cu) ∧ W.cell? ⟨gu, 0, none⟩ = some (.int .i64 ((900 + i : Nat) : Int))
  el : ∀ i, i < N.free.length → ∃ ge ce, W.cell? ⟨g3, i, none⟩ = some (.slice (some ⟨ge, 0, none⟩) (N.free.getD i []).length ce) ∧ (N.free.getD i []).length + 20 ≤ ce ∧ (∀ k, k < 20 → W.cell? ⟨ge, (N.free.getD i []).length + k, none⟩ = some (.int .i64 ((900 + k : Nat) : Int))) ∧ Ints W.heap.size W (.slice (some ⟨ge, 0, none⟩) (N.free.getD i []).length ce) (N.free.getD i [])
theorem getD_some {α : Type} (l : List α) (d : α) (i : Nat) (h : i < l.length) : l[i]? = some (l.getD i d) := by rw [List.getD_eq_getElem?_getD, List.getElem?_eq_getElem h]; rfl
theorem mkI_g (n i : Nat) (h : i < n) : (mkI n)[i]? = some ((900 + i : Nat) : Int) := by
  unfold mkI; rw [List.getElem?_map, List.getElem?_range h]; rfl
theorem iC_mark (R : List Int) (k : Nat) (hk : k < 20) : (iC (R ++ mkI 20))[R.length + k]? = some (.int .i64 ((900 + k : Nat) : Int)) := by
  unfold iC
  rw [List.getElem?_map, List.getElem?_append_right (by omega), Nat.add_sub_cancel_left, mkI_g 20 k hk]
  rfl
theorem iC_in (R S : List Int) (k : Nat) (hk : k < R.length) : (iC (R ++ S))[k]? = some (.int .i64 (R.getD k 0)) := by
  unfold iC
  rw [List.getElem?_map, List.getElem?_append_left hk, getD_some R 0 k hk]
  rfl
theorem fq_mark (N : Mc) (i : Nat) (hi : i < 20) : (fq N N.free.length).getD (N.free.length + i) [] = [((900 + i : Nat) : Int)] := by
  unfold fq
  rw [List.take_of_length_le (Nat.le_refl _), List.drop_eq_nil_of_le (Nat.le_refl _), List.append_nil, List.getD_eq_getElem?_getD, List.getElem?_append_right (by rw [List.length_map]; omega), List.length_map, Nat.add_sub_cancel_left]
  unfold mkF
  rw [List.getElem?_map, List.getElem?_range hi]
  rfl
theorem fq_in (N : Mc) (i : Nat) (hi : i < N.free.length) : (fq N N.free.length).getD i [] = N.free.getD i [] ++ mkI 20 := by
  unfold fq
  rw [List.take_of_length_le (Nat.le_refl _), List.drop_eq_nil_of_le (Nat.le_refl _), List.append_nil, List.getD_eq_getElem?_getD, List.getElem?_append_left (by rw [List.length_map]; exact hi), List.getElem?_map, getD_some _ [] i hi]
  rfl
theorem nq_mark (N : Mc) (i : Nat) (hi : i < 20) : (nq_ N).getD (N.free.length + i) 0 = 1 := by
  unfold nq_ onz
  rw [List.getD_eq_getElem?_getD, List.getElem?_append_right (by rw [List.length_map]; omega), List.length_map, Nat.add_sub_cancel_left, List.getElem?_replicate, if_pos hi]
  rfl
theorem onC_in (l k : List (Nat → Bool)) (i : Nat) (hi : i < l.length) (j : Nat) (hj : j < 4) : (onC (l ++ k))[i * 4 + j]? = some (.int .u64 (wd (l.getD i (fun _ => false)) j : Nat)) := by
  rw [onC_app, List.getElem?_append_left (by rw [onC_len]; omega)]
  exact onC_get l i hi j hj
theorem onC_mark (l : List (Nat → Bool)) (i : Nat) (hi : i < 20) (j : Nat) (hj : j < 4) : (onC (l ++ mkC 20))[(l.length + i) * 4 + j]? = some (.int .u64 (wd (mc i) j : Nat)) := by
  have h := onC_get (mkC 20) i (by rw [mkC_l]; exact hi) j hj
  rw [onC_app, List.getElem?_append_right (by rw [onC_len]; omega), onC_len, show (l.length + i) * 4 + j - l.length * 4 = i * 4 + j by omega, h]
  have : (mkC 20).getD i (fun _ => false) = mc i := by
    unfold mkC
    rw [List.getD_eq_getElem?_getD, List.getElem?_map, List.getElem?_range hi]; rfl
  rw [this]
theorem Sh.shape2 {B : Nat} {W : World} {e : TypeId} {s : Nat} {v : Value} {n len : Nat} {cs : List Value} (h : Sh B W e s v n len cs) (hl : 0 < len) : ∃ g cap, v = .slice (some ⟨g, 0, none⟩) n cap ∧ len ≤ cap ∧ g < W.heap.size := by
  obtain ⟨a, cap, rfl, hn, hr⟩ := h
  obtain ⟨g, rfl, hc⟩ := Sh.addr (⟨a, cap, rfl, hn, hr⟩ : Sh B W e s (.slice a n cap) n len cs) hl
  obtain ⟨_, c, hh⟩ := row_tag hr g rfl
  exact ⟨g, cap, rfl, hc, lt_of_heap hh⟩
theorem Tr.lent {B : Nat} {W : World} {N : Mc} {fvs : List Value} {xo xt xf : Value} (h : Tr B W (N.on ++ mkC 20) (N.tos ++ mkI 20) fvs (fq N N.free.length) (nq_ N) xo N.on.length xt N.tos.length xf N.free.length) :
    ∃ g1 q1 g2 q2 g3 q3, xo = .slice (some ⟨g1, 0, none⟩) N.on.length q1 ∧ xt = .slice (some ⟨g2, 0, none⟩) N.tos.length q2 ∧ xf = .slice (some ⟨g3, 0, none⟩) N.free.length q3 ∧ Ln W N g1 q1 g2 q2 g3 q3 ∧ Parts W.heap.size W xo xt xf N := by
  have hlf : fvs.length = N.free.length + 20 := by rw [h.len, fq_len N _ (Nat.le_refl _)]
  obtain ⟨g1, q1, rfl, d1, l1⟩ := h.on.shape2 (by rw [List.length_append, mkC_l]; omega)
  obtain ⟨g2, q2, rfl, d2, l2⟩ := h.tos.shape2 (by rw [List.length_append, mkI_l]; omega)
  obtain ⟨g3, q3, rfl, d3, l3⟩ := h.fr.shape2 (by omega)
  rw [List.length_append, mkC_l] at d1
  rw [List.length_append, mkI_l] at d2
  rw [hlf] at d3
  have hel : ∀ i, i < N.free.length → ∃ ge ce, W.cell? ⟨g3, i, none⟩ = some (.slice (some ⟨ge, 0, none⟩) (N.free.getD i []).length ce) ∧ (N.free.getD i []).length + 20 ≤ ce ∧ (∀ k, k < 20 → W.cell? ⟨ge, (N.free.getD i []).length + k, none⟩ = some (.int .i64 ((900 + k : Nat) : Int))) ∧ Ints W.heap.size W (.slice (some ⟨ge, 0, none⟩) (N.free.getD i []).length ce) (N.free.getD i []) := fun i hi => by
    have he := h.el i (by omega)
    rw [fq_in N i hi, nq_get N i hi] at he
    obtain ⟨ge, ce, e1, e2, e3⟩ := he.shape2 (by rw [List.length_append, mkI_l]; omega)
    rw [List.length_append, mkI_l] at e2
    have hc := h.fr.cell (getD_some fvs undef i (by omega))
    rw [e1] at he hc
    refine ⟨ge, ce, hc, e2, fun k hk => he.cell (iC_mark _ k hk), ⟨_, ge, 0, ce, rfl, fun _ => ⟨rfl, e3⟩, fun k hk => ?_⟩⟩
    rw [Nat.zero_add]
    exact he.cell (iC_in _ _ k hk)
  refine ⟨g1, q1, g2, q2, g3, q3, rfl, rfl, rfl, ⟨d1, d2, d3, fun i hi => ?_, fun i hi => h.tos.cell (iC_mark _ i hi), fun i hi => ?_, hel⟩, ⟨?_, ?_, ?_⟩⟩
  · obtain ⟨m0, m1, m2, m3⟩ := mc_wd i hi
    have k0 := h.on.cell (onC_mark N.on i hi 0 (by omega))
    have k1 := h.on.cell (onC_mark N.on i hi 1 (by omega))
    have k2 := h.on.cell (onC_mark N.on i hi 2 (by omega))
    have k3 := h.on.cell (onC_mark N.on i hi 3 (by omega))
    rw [m0] at k0
    rw [m1] at k1
    rw [m2] at k2
    rw [m3] at k3
    exact ⟨k0, k1, k2, k3⟩
  · have he := h.el (N.free.length + i) (by omega)
    rw [fq_mark N i hi, nq_mark N i hi] at he
    obtain ⟨gu, cu, e1, e2, e3⟩ := he.shape2 (by show 0 < 1; omega)
    have hc := h.fr.cell (getD_some fvs undef (N.free.length + i) (by omega))
    rw [e1] at he hc
    exact ⟨gu, cu, hc, he.cell (j := 0) rfl⟩
  · refine ⟨_, g1, 0, q1, rfl, fun _ => ⟨rfl, l1⟩, fun i hi k hk => ?_⟩
    rw [Nat.zero_add]
    exact h.on.cell (onC_in _ _ i hi k hk)
  · refine ⟨_, g2, 0, q2, rfl, fun _ => ⟨rfl, l2⟩, fun i hi => ?_⟩
    rw [Nat.zero_add]
    exact h.tos.cell (iC_in _ _ i hi)
  · refine ⟨_, g3, 0, q3, rfl, fun _ => ⟨rfl, l3⟩, fun i hi => ?_⟩
    obtain ⟨ge, ce, e1, _, _, e4⟩ := hel i hi
    rw [Nat.zero_add]
    exact ⟨_, e1, e4⟩
end Go.Proofs.Ytkjljnneghnpiaa
