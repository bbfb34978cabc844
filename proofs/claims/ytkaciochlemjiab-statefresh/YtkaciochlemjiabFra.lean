import Derived.Test.YtkaciochlemjiabSac
import Derived.Test.YtkaciochlemjiabRsf
namespace Go.Proofs.Ytkaciochlemjiab
open Go.RowKit Go.Maps

/-- What an action answers, as one state and one number. -/
def rsS : Except Int Stt → Stt
  | .ok t => t
  | .error _ => zst
def rsE : Except Int Stt → Int
  | .ok _ => 0
  | .error c => c
theorem own_nil (B : Nat) (W : World) : Own B W (.slice none 0 0) (.slice none 0 0) (.slice none 0 0) zst := ⟨⟨by simp [zst, iC], Or.inl ⟨rfl, rfl⟩⟩, ⟨by simp [zst, qC], Or.inl ⟨rfl, rfl⟩⟩, ⟨by simp [zst, fC], Or.inl ⟨rfl, rfl⟩⟩⟩
theorem as_flat {w w' : World} {r : Except Int Stt} {e : Ending} (h : As w r e w') : ∃ vi vq vf, e = .returned (.tuple #[sv vi vq vf (rsS r), .int .i64 (rsE r)]) ∧ Own w.heap.size w' vi vq vf (rsS r) ∧ Below w.heap.size w w' := by
  obtain ⟨hb, ⟨t, vi, vq, vf, rfl, rfl, ho⟩ | ⟨c, rfl, rfl⟩⟩ := h
  · exact ⟨vi, vq, vf, rfl, ho, hb⟩
  · exact ⟨_, _, _, rfl, own_nil _ _, hb⟩
theorem ral_flat {w w' : World} {r : Except Int Stt} {e : Ending} (h : Ral w r e w') : ∃ vi vq vf, e = .returned (.tuple #[sv vi vq vf (rsS r), .int .i64 (rsE r)]) ∧ Stl w.heap.size w' vi vq vf (rsS r) ∧ Below w.heap.size w w' := by
  obtain ⟨hb, ⟨t, vi, vq, vf, rfl, rfl, ho⟩ | ⟨c, rfl, rfl⟩⟩ := h
  · exact ⟨vi, vq, vf, rfl, ho, hb⟩
  · exact ⟨_, _, _, rfl, (own_nil _ _).stl, hb⟩
/-- One action, by the reference and by the program: one answer. -/
theorem does_both {s : Stt} {p : Int} {f : Nat} (k n mo : Int) (m : ByteArray) (hp : s.pen = p) (hg : s.flg = f) (hf : f < 65536) (hq : ∀ d ∈ s.que, d.size ≤ 9223372036854775807) (hm : m.size ≤ 140737488355328) : ∃ (t : Stt) (E : Int), (t.ind.length ≤ 32 ∧ t.que.length ≤ 8 ∧ t.frm.length ≤ 16) ∧
    (∀ vi vq vf W, Stm W vi vq vf s → Calls Try.prog 19 #[.agg #[vi, .int .i64 p, vq, vf, .int .u16 (f : Int)], av k n mo, .string m] W fun e w' => ∃ ui uq uf, e = .returned (.tuple #[sv ui uq uf t, .int .i64 E]) ∧ Stl W.heap.size w' ui uq uf t ∧ Below W.heap.size W w') ∧
    (∀ vi vq vf W, Stm W vi vq vf s → Calls Try.prog 21 #[.agg #[vi, .int .i64 p, vq, vf, .int .u16 (f : Int)], av k n mo, .string m] W fun e w' => ∃ ui uq uf, e = .returned (.tuple #[sv ui uq uf t, .int .i64 E]) ∧ Own W.heap.size w' ui uq uf t ∧ Below W.heap.size W w') := by
  subst hp hg
  refine ⟨rsS (if s.shp then act s k n mo m else .error 65), rsE (if s.shp then act s k n mo m else .error 65), ?_, fun vi vq vf W h => (rdo_any k n mo m W h hf hq hm).mono fun e w' hh => ral_flat hh, fun vi vq vf W h => (doo_any k n mo m W h hf (by omega)).mono fun e w' hh => as_flat hh⟩
  cases hs : s.shp with
  | false => exact ⟨Nat.zero_le _, Nat.zero_le _, Nat.zero_le _⟩
  | true =>
    rw [if_pos rfl]
    cases ha : act s k n mo m with
    | ok t => exact shp_lim ((act_ok s k n mo m hs).1 t ha)
    | error c => exact ⟨Nat.zero_le _, Nat.zero_le _, Nat.zero_le _⟩
theorem twin_as {vi vq vf : Value} {s : Stt} {p : Int} {f : Nat} (w : World) (h : Stm w vi vq vf s) (hp : s.pen = p) (hg : s.flg = f) (hl1 : s.ind.length * 8 ≤ 140737488355328) (hl2 : s.que.length * 16 ≤ 140737488355328) (hl3 : s.frm.length * 24 ≤ 140737488355328) :
    Calls Try.prog 5 #[.agg #[vi, .int .i64 p, vq, vf, .int .u16 (f : Int)]] w fun e w' => ∃ vi' vq' vf', e = .returned (.agg #[vi', .int .i64 p, vq', vf', .int .u16 (f : Int)]) ∧ Own w.heap.size w' vi' vq' vf' s ∧ Below w.heap.size w w' := by
  subst hp hg; exact twin_any w h hl1 hl2 hl3
theorem rsame_as {vi vq vf ui uq uf : Value} {s : Stt} {p : Int} {f : Nat} (w : World) (h : Stm w vi vq vf s) (k : Stm w ui uq uf s) (hp : s.pen = p) (hg : s.flg = f) (hs1 : s.ind.length ≤ 4611686018427387904) (hs2 : s.que.length ≤ 4611686018427387904) (hs3 : s.frm.length ≤ 4611686018427387904) :
    Calls Try.prog 8 #[.agg #[vi, .int .i64 p, vq, vf, .int .u16 (f : Int)], .agg #[ui, .int .i64 p, uq, uf, .int .u16 (f : Int)]] w fun e w' => e = .returned (.bool true) ∧ Below w.heap.size w w' := by
  subst hp hg
  have := rsame_any w h k hs1 hs2 hs3
  rw [decide_eq_true rfl] at this
  exact this
theorem rooms_as {B : Nat} {vi vq vf : Value} {s : Stt} {p : Int} {f : Nat} (w : World) (h : Rmy B w vi vq vf s) (hp : s.pen = p) (hg : s.flg = f) (l1 : s.ind.length ≤ 140737488355328) (l2 : s.que.length ≤ 140737488355328) (l3 : s.frm.length ≤ 140737488355328) :
    Calls Try.prog 22 #[.agg #[vi, .int .i64 p, vq, vf, .int .u16 (f : Int)]] w fun e w' => e = .returned (.bool true) ∧ Below w.heap.size w w' := by
  subst hp hg; exact rooms_any w h l1 l2 l3
theorem row_kab {w W : World} {B : Nat} {e : TypeId} {size n : Nat} {v : Value} {xs : List Value} (h : w.ownsRow B e size v n xs) (hk : Kab B w W) : W.ownsRow B e size v n xs := by
  refine ⟨h.1, ?_⟩
  rcases h.2 with h0 | ⟨g', cap', cur, e0, hb, hh, hr⟩
  · exact Or.inl h0
  · exact Or.inr ⟨g', cap', cur, e0, hb, (hk g' hb (lt_of_heap hh)).trans hh, hr⟩
theorem Own.kab {w W : World} {B : Nat} {vi vq vf : Value} {s : Stt} (h : Own B w vi vq vf s) (hk : Kab B w W) : Own B W vi vq vf s := ⟨row_kab h.i hk, row_kab h.q hk, row_kab h.f hk⟩
/-- What writes only into a state's own rows lets all below them stay. -/
theorem Cho.below {w W w0 : World} {B : Nat} {vi vq vf : Value} {s : Stt} (hc : Cho w W vi vq vf) (ho : Own B w0 vi vq vf s) (hB : B ≤ w.heap.size) : Below B w W :=
  ⟨hc.os, hc.tape, hc.output, hc.size, fun j hj => hc.block j (by omega) (fun e => by have := (row_tag ho.i j e).1; omega) (fun e => by have := (row_tag ho.q j e).1; omega) (fun e => by have := (row_tag ho.f j e).1; omega)⟩
/-- And all behind them. -/
theorem Cho.kab {w W w0 : World} {B : Nat} {vi vq vf : Value} {s : Stt} (hc : Cho w W vi vq vf) (ho : Own B w0 vi vq vf s) : Kab w0.heap.size w W := fun g h1 h2 => by
  refine hc.block g h2 (fun e => ?_) (fun e => ?_) (fun e => ?_)
  · obtain ⟨_, _, hh⟩ := row_tag ho.i g e
    have := lt_of_heap hh; omega
  · obtain ⟨_, _, hh⟩ := row_tag ho.q g e
    have := lt_of_heap hh; omega
  · obtain ⟨_, _, hh⟩ := row_tag ho.f g e
    have := lt_of_heap hh; omega
theorem Chg.kab {w W : World} {N g1 g2 g3 : Nat} (hc : Chg w W g1 g2 g3) (h1 : g1 < N) (h2 : g2 < N) (h3 : g3 < N) : Kab N w W := fun g l1 l2 => hc.block g l2 (by omega) (by omega) (by omega)
theorem Ty.rmy {B M n1 n2 n3 g1 k1 g2 k2 g3 k3 : Nat} {w W : World} {sb : Array Value} (h : Ty B w W M n1 n2 n3 g1 k1 g2 k2 g3 k3 sb) (p : Int) (f : Nat) : ∃ s : Stt, s.pen = p ∧ s.flg = f ∧ s.ind.length = n1 ∧ s.que.length = n2 ∧ s.frm.length = n3 ∧ (∀ d ∈ s.que, d.size ≤ M) ∧ Rmy B W (.slice (some ⟨g1, 0, none⟩) n1 k1) (.slice (some ⟨g2, 0, none⟩) n2 k2) (.slice (some ⟨g3, 0, none⟩) n3 k3) s := by
  obtain ⟨l1, rfl, r1⟩ := h.ri
  obtain ⟨l2, rfl, s2, r2⟩ := h.rq
  obtain ⟨l3, rfl, s3, r3⟩ := h.rf
  exact ⟨⟨l1, p, l2, l3, f⟩, rfl, rfl, rfl, rfl, rfl, s2, ⟨g1, k1, g2, k2, g3, k3, rfl, rfl, rfl, r1, r2, r3⟩⟩
theorem ty_of {B M : Nat} {W : World} {g1 k1 g2 k2 g3 k3 : Nat} {s : Stt} {sb : Array Value} (r1 : W.ownsRow B 3 1 (.slice (some ⟨g1, 0, none⟩) (s.ind.length + 2) k1) (s.ind.length + 2) (iC s.ind ++ mI)) (r2 : W.ownsRow B 9 1 (.slice (some ⟨g2, 0, none⟩) (s.que.length + 2) k2) (s.que.length + 2) (qC s.que ++ mQ)) (r3 : W.ownsRow B 42 2 (.slice (some ⟨g3, 0, none⟩) (s.frm.length + 2) k3) (s.frm.length + 2) (fC s.frm ++ mF)) (hq : ∀ d ∈ s.que, d.size ≤ M) (hf : ∀ f ∈ s.frm, f.2.size ≤ M) : Ty B W (W.alloc (.cells sb 27)) M s.ind.length s.que.length s.frm.length g1 k1 g2 k2 g3 k3 sb :=
  ⟨heap_new W _, ⟨s.ind, rfl, row_up r1 (bel_up _ _)⟩, ⟨s.que, rfl, hq, row_up r2 (bel_up _ _)⟩, ⟨s.frm, rfl, hf, row_up r3 (bel_up _ _)⟩, (Chg.refl _ _ _ _).up (bel_up _ _)⟩
end Go.Proofs.Ytkaciochlemjiab
