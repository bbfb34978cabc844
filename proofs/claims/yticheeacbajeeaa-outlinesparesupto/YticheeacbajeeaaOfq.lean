import Derived.Test.YticheeacbajeeaaOfr
import Derived.Test.YticheeacbajeeaaZof
import Derived.Test.YticheeacbajeeaaOlg
import Derived.Test.YticheeacbajeeaaPbz
namespace Go.Proofs.Yticheeacbajeeaa
open Go.RowKit Go.Maps

/-- The names known, by the number of the last line that has each. -/
def kn (F : List ByteArray) : Nat → (ByteArray → Option Nat)
  | 0 => fun _ => none
  | i + 1 => mput (kn F i) (F.getD i ⟨#[]⟩) i
/-- Does a name stand in the list? -/
def inF (F : List ByteArray) (t : ByteArray) : Bool := F.any fun y => decide (y = t)
theorem inF_step (F : List ByteArray) (t : ByteArray) (i : Nat) (h : i < F.length) : inF (F.take (i + 1)) t = (inF (F.take i) t || decide (F.getD i ⟨#[]⟩ = t)) := by
  unfold inF
  rw [List.take_add_one, List.getD_eq_getElem?_getD, List.getElem?_eq_getElem h, List.any_append]
  simp
theorem kn_some (F : List ByteArray) (t : ByteArray) : ∀ i, i ≤ F.length → ((kn F i t).isSome = inF (F.take i) t)
  | 0, _ => rfl
  | i + 1, h => by
    have ih := kn_some F t i (by omega)
    rw [inF_step F t i (by omega)]
    unfold kn mput
    by_cases k : t = F.getD i ⟨#[]⟩
    · rw [if_pos k, decide_eq_true k.symm, Bool.or_true]; rfl
    · rw [if_neg k, ih, decide_eq_false (fun e => k e.symm), Bool.or_false]
theorem kn_all (F : List ByteArray) (t : ByteArray) : (kn F F.length t).isSome = inF F t := by
  rw [kn_some F t _ (Nat.le_refl _), List.take_length]
/-- Is a node to be told? -/
def tfd (F : List ByteArray) (x : Nd) : Bool := x.nd && inF F x.nm
noncomputable def rl (F : List ByteArray) (s : ByteArray) (T : List Nd) : List Fd := (T.filter (tfd F)).map fun x => (nfr s x, nlr s x)
noncomputable def fl (F : List ByteArray) (s : ByteArray) (T : List Nd) : List Fd := (rl F s T).filter fun x => decide (x.1 < x.2)
theorem take_nd (T : List Nd) (i : Nat) (h : i < T.length) : T.take (i + 1) = T.take i ++ [T.getD i ndd] := by
  rw [List.take_add_one, List.getD_eq_getElem?_getD, List.getElem?_eq_getElem h]; rfl
theorem rl_step (F : List ByteArray) (s : ByteArray) (T : List Nd) (i : Nat) (h : i < T.length) : rl F s (T.take (i + 1)) = rl F s (T.take i) ++ (if tfd F (T.getD i ndd) then [(nfr s (T.getD i ndd), nlr s (T.getD i ndd))] else []) := by
  unfold rl
  rw [take_nd T i h, List.filter_append, List.map_append]
  congr 1
  by_cases k : tfd F (T.getD i ndd) = true
  · rw [if_pos k, List.filter_cons_of_pos k]; rfl
  · rw [if_neg k, List.filter_cons_of_neg k]; rfl
theorem fl_no (F : List ByteArray) (s : ByteArray) (T : List Nd) (i : Nat) (h : i < T.length) (hk : tfd F (T.getD i ndd) = false ∨ ¬ nfr s (T.getD i ndd) < nlr s (T.getD i ndd)) : fl F s (T.take (i + 1)) = fl F s (T.take i) := by
  unfold fl
  rw [rl_step F s T i h, List.filter_append]
  by_cases k : tfd F (T.getD i ndd) = true
  · rw [if_pos k]
    rcases hk with hk | hk
    · rw [hk] at k; cases k
    · rw [List.filter_cons_of_neg (by rw [decide_eq_true_eq]; exact hk), List.filter_nil, List.append_nil]
  · rw [if_neg k, List.filter_nil, List.append_nil]
theorem fl_yes (F : List ByteArray) (s : ByteArray) (T : List Nd) (i : Nat) (h : i < T.length) (hk : tfd F (T.getD i ndd) = true) (hl : nfr s (T.getD i ndd) < nlr s (T.getD i ndd)) : fl F s (T.take (i + 1)) = fl F s (T.take i) ++ [(nfr s (T.getD i ndd), nlr s (T.getD i ndd))] := by
  unfold fl
  rw [rl_step F s T i h, List.filter_append, if_pos hk, List.filter_cons_of_pos (by rw [decide_eq_true_eq]; exact hl), List.filter_nil]
theorem fl_len (F : List ByteArray) (s : ByteArray) (T : List Nd) : (fl F s T).length ≤ T.length := by
  unfold fl rl
  refine Nat.le_trans (List.length_filter_le _ _) ?_
  rw [List.length_map]
  exact List.length_filter_le _ _
theorem lie_okn {T : List Nd} {s : ByteArray} (h : lie T s.size = true) (i : Nat) (hi : i < T.length) : okn s (T.getD i ndd) := lie_at h i hi
theorem Ss.one {W : World} {a : Option Addr} {n cap : Nat} {l : List ByteArray} (h : Ss W (.slice a n cap) l) (i : Nat) (hi : i < l.length) : ∃ g o, a = some ⟨g, o, none⟩ ∧ ∀ W', Below W.heap.size W W' → W'.cell? ⟨g, o + i, none⟩ = some (.string (l.getD i ⟨#[]⟩)) := by
  obtain ⟨g, o, cap', e, hc⟩ := Rw.place h (by omega)
  obtain ⟨rfl, -, -⟩ := Value.slice.inj e
  refine ⟨g, o, rfl, fun W' hW => ?_⟩
  refine below_cell hW (hc i _ ?_)
  have h9 := flat_get sf_len (⟨#[]⟩ : ByteArray) l i 0 hi (by decide)
  rw [Nat.mul_one, Nat.add_zero] at h9
  rw [h9]; rfl
theorem infoF : (Try.prog.info? 57).map (fun i => (i.zero, i.size, i.bytes)) = some (some (.agg #[.int .i64 0, .int .i64 0]), 2, 16) := by kernel_rfl
theorem cell_two_F (w : World) (a b : Value) (t : TypeId) : ∀ j u, [a, b][j]? = some u → (w.alloc (.cells #[a, b] t)).cell? ((⟨w.heap.size, 0, none⟩ : Addr).add j) = some u := by
  intro j u hj
  match j, hj with
  | 0, hj => simp at hj; subst hj; simp [Addr.add]
  | 1, hj => simp at hj; subst hj; simp [Addr.add]
  | j + 2, hj => simp at hj
end Go.Proofs.Yticheeacbajeeaa
