import Derived.Test.YtkjljnneghnpiaaRne
import Derived.Test.YtkjljnneghnpiaaRnb
namespace Go.Proofs.Ytkjljnneghnpiaa
open Go.RowKit Go.Maps

theorem Sh.addr {B : Nat} {W : World} {e : TypeId} {s : Nat} {a : Option Addr} {n cap len : Nat} {cs : List Value} (h : Sh B W e s (.slice a n cap) n len cs) (hl : 0 < len) : ∃ g, a = some ⟨g, 0, none⟩ ∧ len ≤ cap := by
  obtain ⟨a', cap', e1, _, _, ⟨e2, e3⟩ | ⟨g, c, cur, f1, f2, f3, f4, _⟩⟩ := h
  · omega
  · injection e1 with e1 _ e4
    injection f1 with f1 _ f5
    exact ⟨g, e1.trans f1, by omega⟩
theorem Sh.cell {B : Nat} {W : World} {e : TypeId} {s : Nat} {g n cap len : Nat} {cs : List Value} (h : Sh B W e s (.slice (some ⟨g, 0, none⟩) n cap) n len cs) {j : Nat} {u : Value} (hj : cs[j]? = some u) : W.cell? ⟨g, j, none⟩ = some u := by
  obtain ⟨a', cap', e1, _, hl, ⟨e2, e3⟩ | ⟨g', c, cur, f1, f2, f3, f4, f5, f6, f7⟩⟩ := h
  · have := (List.getElem?_eq_some_iff.1 hj).1
    rw [e3, Nat.zero_mul] at hl
    omega
  · injection e1 with e1 _ e4
    subst e1 e4
    injection f1 with f1 _ f5
    injection f1 with f1
    injection f1 with f1
    subst f1
    rw [Lib.cell_of_heap f3]
    have hlt := (List.getElem?_eq_some_iff.1 hj).1
    rw [← f7, List.getElem?_take_of_lt (by omega)] at hj
    simpa using hj
theorem getD_some {α : Type} (l : List α) (d : α) (i : Nat) (h : i < l.length) : l[i]? = some (l.getD i d) := by rw [List.getD_eq_getElem?_getD, List.getElem?_eq_getElem h]; rfl
theorem iC_in (R S : List Int) (k : Nat) (hk : k < R.length) : (iC (R ++ S))[k]? = some (.int .i64 (R.getD k 0)) := by
  unfold iC
  rw [List.getElem?_map, List.getElem?_append_left hk, getD_some R 0 k hk]
  rfl
theorem Sh.shape2 {B : Nat} {W : World} {e : TypeId} {s : Nat} {v : Value} {n len : Nat} {cs : List Value} (h : Sh B W e s v n len cs) (hl : 0 < len) : ∃ g cap, v = .slice (some ⟨g, 0, none⟩) n cap ∧ len ≤ cap ∧ g < W.heap.size := by
  obtain ⟨a, cap, rfl, hn, hr⟩ := h
  obtain ⟨g, rfl, hc⟩ := Sh.addr (⟨a, cap, rfl, hn, hr⟩ : Sh B W e s (.slice a n cap) n len cs) hl
  obtain ⟨_, c, hh⟩ := row_tag hr g rfl
  exact ⟨g, cap, rfl, hc, lt_of_heap hh⟩
theorem Sh.clss {B : Nat} {W : World} {v : Value} {l : List (Nat → Bool)} (h : Sh B W 40 4 v l.length l.length (onC l)) : Clss W.heap.size W v l := by
  by_cases hl : 0 < l.length
  · obtain ⟨g, cap, rfl, _, hg⟩ := h.shape2 hl
    refine ⟨_, g, 0, cap, rfl, fun _ => ⟨rfl, hg⟩, fun i hi k hk => ?_⟩
    rw [Nat.zero_add]
    exact h.cell (onC_get l i hi k hk)
  · obtain ⟨a, cap, e, _, _⟩ := h
    exact ⟨a, 0, 0, cap, e, fun hn => absurd (List.length_pos_iff.2 hn) hl, fun i hi => by omega⟩
theorem Sh.ints {B : Nat} {W : World} {v : Value} {l : List Int} (h : Sh B W 3 1 v l.length l.length (iC l)) : Ints W.heap.size W v l := by
  by_cases hl : 0 < l.length
  · obtain ⟨g, cap, rfl, _, hg⟩ := h.shape2 hl
    refine ⟨_, g, 0, cap, rfl, fun _ => ⟨rfl, hg⟩, fun i hi => ?_⟩
    rw [Nat.zero_add]
    have := iC_in l [] i hi
    rw [List.append_nil] at this
    exact h.cell this
  · obtain ⟨a, cap, e, _, _⟩ := h
    exact ⟨a, 0, 0, cap, e, fun hn => absurd (List.length_pos_iff.2 hn) hl, fun i hi => by omega⟩
theorem Tr.parts {B : Nat} {W : World} {N : Mc} {fvs : List Value} {xo xt xf : Value} (h : Tr B W N.on N.tos fvs N.free (N.free.map List.length) xo N.on.length xt N.tos.length xf N.free.length) : Parts W.heap.size W xo xt xf N := by
  refine ⟨h.on.clss, h.tos.ints, ?_⟩
  have hlf := h.len
  by_cases hl : 0 < N.free.length
  · have hf := h.fr
    obtain ⟨g, cap, e, _, hg⟩ := hf.shape2 (by omega)
    rw [e] at hf
    refine ⟨_, g, 0, cap, e, fun _ => ⟨rfl, hg⟩, fun i hi => ?_⟩
    rw [Nat.zero_add]
    have he := h.el i (by omega)
    have hn : (N.free.map List.length).getD i 0 = (N.free.getD i []).length := by
      rw [List.getD_eq_getElem?_getD, List.getElem?_map, getD_some _ [] i hi]; rfl
    rw [hn] at he
    exact ⟨_, hf.cell (getD_some fvs undef i (by omega)), he.ints⟩
  · obtain ⟨a, cap, e, _, _⟩ := h.fr
    exact ⟨a, 0, 0, cap, e, fun hn => absurd (List.length_pos_iff.2 hn) hl, fun i hi => by omega⟩
theorem runs_uniq {N : Mc} {t : ByteArray} {at_ x y x' y' : Int} (h : RunS N t at_ x y) (h' : RunS N t at_ x' y') : x = x' ∧ y = y' := by
  rcases h with ⟨h0, h1, h2⟩ | ⟨a, ha, hle, e, f, hA, hx, hy⟩ <;> rcases h' with ⟨k0, k1, k2⟩ | ⟨b, hb, hle', e', f', hA', hx', hy'⟩
  · exact ⟨by omega, by omega⟩
  · exfalso; omega
  · exfalso; omega
  · have : a = b := by omega
    subst this
    obtain ⟨e1, e2⟩ := hA.one hA'
    subst e1 e2
    exact ⟨hx.trans hx'.symm, hy.trans hy'.symm⟩
end Go.Proofs.Ytkjljnneghnpiaa
