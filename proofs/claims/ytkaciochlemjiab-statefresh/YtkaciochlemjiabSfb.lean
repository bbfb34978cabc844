import Derived.Test.YtkaciochlemjiabSta
import Derived.Test.YtkaciochlemjiabSpx
import Derived.Test.YtkaciochlemjiabGdp
import Derived.Test.YtkaciochlemjiabAli
namespace Go.Proofs.Ytkaciochlemjiab
open Go.RowKit Go.Maps

/-- A row whose block was there at w0 is kept where all below w0's end is kept. -/
theorem row_stay {w0 W W' : World} {B B0 : Nat} {e e0 : TypeId} {size size0 n n0 : Nat} {v : Value} {xs xs0 : List Value} (h0 : w0.ownsRow B0 e0 size0 v n0 xs0) (h : W.ownsRow B e size v n xs) (hb : Below w0.heap.size W W') : W'.ownsRow B e size v n xs := by
  refine ⟨h.1, ?_⟩
  rcases h.2 with h1 | ⟨g, cap, cur, rfl, hB, hh, hr⟩
  · exact Or.inl h1
  · obtain ⟨_, cur0, hh0⟩ := row_tag h0 g rfl
    exact Or.inr ⟨g, cap, cur, rfl, hB, (hb.block g (lt_of_heap hh0)).trans hh, hr⟩
theorem Own.stay {w0 W W' : World} {B B0 : Nat} {vi vq vf : Value} {s s0 : Stt} (h0 : Own B0 w0 vi vq vf s0) (h : Own B W vi vq vf s) (hb : Below w0.heap.size W W') : Own B W' vi vq vf s := ⟨row_stay h0.i h.i hb, row_stay h0.q h.q hb, row_stay h0.f h.f hb⟩
/-- A state whose lists have two marks behind them, seen as a state of its own. -/
theorem own_of_rows {B g1 k1 g2 k2 g3 k3 : Nat} {W : World} {s : Stt} {M1 M2 M3 : List Value} (r1 : W.ownsRow B 3 1 (.slice (some ⟨g1, 0, none⟩) (s.ind.length + 2) k1) (s.ind.length + 2) (iC s.ind ++ M1)) (r2 : W.ownsRow B 9 1 (.slice (some ⟨g2, 0, none⟩) (s.que.length + 2) k2) (s.que.length + 2) (qC s.que ++ M2)) (r3 : W.ownsRow B 42 2 (.slice (some ⟨g3, 0, none⟩) (s.frm.length + 2) k3) (s.frm.length + 2) (fC s.frm ++ M3)) : Own B W (.slice (some ⟨g1, 0, none⟩) s.ind.length k1) (.slice (some ⟨g2, 0, none⟩) s.que.length k2) (.slice (some ⟨g3, 0, none⟩) s.frm.length k3) s := by
  have h1 := row_low r1 (n := s.ind.length) (by omega)
  have h2 := row_low r2 (n := s.que.length) (by omega)
  have h3 := row_low r3 (n := s.frm.length) (by omega)
  rw [← iC_len, List.take_left] at h1
  rw [← qC_len, List.take_left] at h2
  rw [← fC_len, List.take_left] at h3
  exact ⟨h1, h2, h3⟩
theorem aC_app (a b : List (Int × Int × Int)) : aC (a ++ b) = aC a ++ aC b := by
  induction a with
  | nil => rfl
  | cons x a ih => show _ ++ aC (a ++ b) = _; rw [ih]; exact (List.append_assoc _ _ _).symm
theorem take_next {α : Type} (d : α) (l : List α) (k : Nat) (h : k + 1 < l.length) : (l.drop 1).take (k + 1) = (l.drop 1).take k ++ [l.getD (k + 1) d] := by
  rw [List.take_add_one, List.getElem?_drop, List.getD_eq_getElem?_getD, show 1 + k = k + 1 by omega, List.getElem?_eq_getElem h]
  rfl
theorem cell_three_new (w : World) (x y z : Value) (t : TypeId) : ∀ j q, [x, y, z][j]? = some q → (w.alloc (.cells #[x, y, z] t)).cell? ((⟨w.heap.size, 0, none⟩ : Addr).add j) = some q := by
  intro j u hj
  rw [addPl, Nat.zero_add, Lib.cell_of_heap (heap_new w _)]
  simpa using hj
theorem aC_set (l : List (Int × Int × Int)) : ∀ (i : Nat) (x : Int × Int × Int), aC (l.set i x) = (((aC l).set (i * 3) (.int .i64 x.1)).set (i * 3 + 1) (.int .i64 x.2.1)).set (i * 3 + 2) (.int .i64 x.2.2) := by
  induction l with
  | nil => intro i x; rfl
  | cons m l ih =>
    intro i x
    cases i with
    | zero => rfl
    | succ i =>
      show [Value.int .i64 m.1, Value.int .i64 m.2.1, Value.int .i64 m.2.2] ++ aC (l.set i x) = _
      rw [ih i x]
      show _ = ((([Value.int .i64 m.1, Value.int .i64 m.2.1, Value.int .i64 m.2.2] ++ aC l).set ((i + 1) * 3) _).set ((i + 1) * 3 + 1) _).set ((i + 1) * 3 + 2) _
      rw [show (i + 1) * 3 = i * 3 + 1 + 1 + 1 by omega, show i * 3 + 1 + 1 + 1 + 1 = (i * 3 + 1) + 1 + 1 + 1 by omega, show i * 3 + 1 + 1 + 1 + 2 = (i * 3 + 2) + 1 + 1 + 1 by omega]
      rfl
theorem acts_stored {W : World} {B g n c i : Nat} {l : List (Int × Int × Int)} (h : W.ownsRow B 38 3 (.slice (some ⟨g, 0, none⟩) n c) n (aC l)) (x y z : Int) : (((W.setCell ⟨g, i * 3, none⟩ (.int .i64 x)).setCell ⟨g, i * 3 + 1, none⟩ (.int .i64 y)).setCell ⟨g, i * 3 + 2, none⟩ (.int .i64 z)).ownsRow B 38 3 (.slice (some ⟨g, 0, none⟩) n c) n (aC (l.set i (x, y, z))) := by
  have h1 := (h.stored (i * 3) (.int .i64 x)).1
  have h2 := (h1.stored (i * 3 + 1) (.int .i64 y)).1
  have h3 := (h2.stored (i * 3 + 2) (.int .i64 z)).1
  rw [aC_set]
  exact h3
/-- A state's bytes, and what is read of them. -/
theorem enc_dec {s : Stt} {p : Int} {f : Nat} (hp : s.pen = p) (hg : s.flg = f) (hf : f < 65536) : ∃ (X : ByteArray) (G H : Int) (D : Stt), (G = 0 → H = 0) ∧ (D.ind.length ≤ 32 ∧ D.que.length ≤ 8 ∧ D.frm.length ≤ 16) ∧
    (∀ vi vq vf W, Stm W vi vq vf s → Calls Try.prog 12 #[.agg #[vi, .int .i64 p, vq, vf, .int .u16 (f : Int)]] W fun e w' => e = .returned (.tuple #[.string X, .int .i64 G]) ∧ Below W.heap.size W w') ∧
    (∀ W, Calls Try.prog 13 #[.string X] W fun e w' => ∃ ui uq uf, e = .returned (.tuple #[sv ui uq uf D, .int .i64 H]) ∧ Own W.heap.size w' ui uq uf D ∧ Below W.heap.size W w') := by
  subst hp hg
  cases hs : s.shp with
  | true =>
    refine ⟨⟨(enc s).toArray⟩, 0, 0, s, fun _ => rfl, shp_lim hs, fun vi vq vf W h => ?_, fun W => ?_⟩
    · have := encode_any W h hf
      rw [hs, if_pos rfl] at this
      exact this
    · have hz : (⟨(enc s).toArray⟩ : ByteArray).size ≤ 140737488355328 := by
        have h1 := pre_len s (Lim.of hs hf) 5
        rw [pre_five] at h1
        show (enc s).toArray.size ≤ _
        rw [List.size_toArray]
        omega
      refine (decode_any _ hz W).mono ?_
      rintro e w' ⟨hb, ⟨s', ui, uq, uf, h1, h2, h3, rfl, ho⟩ | ⟨h1, -⟩⟩
      · obtain rfl : s = s' := (enc_pfx (x := []) (y := []) hs hf h1 h2 (by rw [List.append_nil, List.append_nil]; exact h3)).1
        exact ⟨ui, uq, uf, rfl, ho, hb⟩
      · exact absurd rfl (h1 s hs hf)
  | false =>
    refine ⟨⟨#[]⟩, 65, 65, zst, fun h => by omega, ⟨Nat.zero_le _, Nat.zero_le _, Nat.zero_le _⟩, fun vi vq vf W h => ?_, fun W => ?_⟩
    · have := encode_any W h hf
      rw [hs, if_neg (by decide)] at this
      exact this
    · refine (decode_any _ (Nat.zero_le _) W).mono ?_
      rintro e w' ⟨hb, ⟨s', ui, uq, uf, h1, h2, h3, rfl, ho⟩ | ⟨-, rfl⟩⟩
      · obtain ⟨l, hl⟩ := enc_head s'
        rw [hl] at h3
        cases h3
      · exact ⟨_, _, _, rfl, own_nil _ _, hb⟩
end Go.Proofs.Ytkaciochlemjiab
