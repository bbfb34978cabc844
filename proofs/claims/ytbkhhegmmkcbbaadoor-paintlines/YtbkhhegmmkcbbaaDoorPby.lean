import Derived.Test.YtbkhhegmmkcbbaaDoorPlg
import Derived.Maps.OwnSet
import Derived.Maps.Views
import Derived.StringKeys
namespace Go.Proofs.YtbkhhegmmkcbbaaDoor
open Go.RowKit Go.Maps

/-- The first line that has a name. -/
def fs (L : List Pa) (t : ByteArray) : Option Nat := L.findIdx? (fun x => decide (x.nm = t))
theorem take_pa (L : List Pa) (i : Nat) (h : i < L.length) : L.take (i + 1) = L.take i ++ [L.getD i paz] := by
  rw [List.take_add_one, List.getD_eq_getElem?_getD, List.getElem?_eq_getElem h]; rfl
theorem fs_step (L : List Pa) (i : Nat) (h : i < L.length) (t : ByteArray) : fs (L.take (i + 1)) t = match fs (L.take i) t with
    | some k => some k
    | none => if (L.getD i paz).nm = t then some i else none := by
  unfold fs
  rw [take_pa L i h, List.findIdx?_append]
  cases hq : (L.take i).findIdx? (fun x => decide (x.nm = t)) with
  | some k => rfl
  | none =>
    have hl : (L.take i).length = i := by rw [List.length_take]; omega
    by_cases e : (L.getD i paz).nm = t
    · rw [if_pos e]
      simp only [List.findIdx?_singleton, decide_eq_true e, if_true, Option.map_some, Option.none_or]
      rw [hl]; simp
    · rw [if_neg e]
      simp only [List.findIdx?_singleton, decide_eq_false e, Bool.false_eq_true, if_false, Option.map_none, Option.none_or]
theorem keyS : Keyed Tryd.prog 9 := string_keyed Tryd.underlying9
theorem zeroI (w : World) : (zeroValue 3).run Tryd.prog w = .ok (.int .i64 0) w := by kernel_rfl
abbrev lk (t : ByteArray) : Lit := .string t.data.toList
theorem lk_ne {s t : ByteArray} (h : s ≠ t) : lk s ≠ lk t := fun e => h (by
  injection e with e
  exact ByteArray.ext (Array.toList_inj.1 e))
/-- A map in memory, by what stands at each key. -/
def Mq (W : World) (b n : Nat) (f : ByteArray → Option Nat) : Prop := ∃ D : DataW Unit, W.ownsMap Tryd.prog 9 (plainElem Tryd.prog 3) b n D ∧ ∀ t : ByteArray, Maps.has D (lk t) = (f t).isSome ∧ D.atKey (lk t) (.lit (.int .i64 0)) = .lit (.int .i64 (((f t).getD 0 : Nat) : Int))
theorem Mq.made (w : World) : Mq (w.alloc (.map #[] 0)) w.heap.size 0 (fun _ => none) := ⟨_, World.ownsMap_made w _ _ _, fun _ => ⟨rfl, rfl⟩⟩
theorem Mq.up {W W' : World} {b n : Nat} {f : ByteArray → Option Nat} (h : Mq W b n f) (hb : Below W.heap.size W W') : Mq W' b n f := by
  obtain ⟨D, ⟨es, c, h1, h3⟩, h2⟩ := h
  exact ⟨D, ⟨es, c, (hb.block _ (lt_of_heap h1)).trans h1, h3⟩, h2⟩
theorem Mq.lt {W : World} {b n : Nat} {f : ByteArray → Option Nat} (h : Mq W b n f) : b < W.heap.size := by
  obtain ⟨D, ⟨es, c, h1, h3⟩, h2⟩ := h
  exact lt_of_heap h1
theorem Mq.look {W : World} {b n : Nat} {f : ByteArray → Option Nat} (h : Mq W b n f) {t : ByteArray} (ht : t.size ≤ maxLen) : (Instr.lookup 65 (.map (some b)) (.string t) true).run Tryd.prog W = .ok (.tuple #[.int .i64 (((f t).getD 0 : Nat) : Int), .bool (f t).isSome]) W := by
  obtain ⟨D, h1, h2⟩ := h
  obtain ⟨v, ps, hr, hv⟩ := h1.look_ok keyS Tryd.underlying65 (zeroI W) (plainElem_int Tryd.underlying3 (by decide)) (Go.WideMaps.keyOf_string_mk Tryd.underlying9 ht)
  obtain ⟨c, rfl, hc, hwc⟩ := plainElem_int_inv Tryd.underlying3 hv
  have h3 := congrArg Prod.fst hc
  simp only at h3
  rw [(h2 t).2] at h3
  have h4 : c = (((f t).getD 0 : Nat) : Int) := by
    have h5 := DataW.lit.inj h3
    exact ((Lit.int.inj h5).2).symm
  rw [hr, (h2 t).1, h4]
def mput (f : ByteArray → Option Nat) (k : ByteArray) (v : Nat) : ByteArray → Option Nat := fun j => if j = k then some v else f j
theorem Mq.put {W : World} {b n : Nat} {f : ByteArray → Option Nat} (h : Mq W b n f) (hn : n < maxLen) {t : ByteArray} (ht : t.size ≤ maxLen) (v : Nat) (hv : v ≤ 9223372036854775807) : ∃ W', (Instr.mapUpdate 65 (.map (some b)) (.string t) (.int .i64 (v : Int))).run Tryd.prog W = .ok () W' ∧ Mq W' b (n + 1) (mput f t v) ∧ W.grownBy W' (some b) := by
  obtain ⟨D, h1, h2⟩ := h
  have him : IsMap D := h1.isMap
  have hk := Go.WideMaps.keyOf_string_mk (P := Tryd.prog) Tryd.underlying9 ht
  obtain ⟨W', r1, r2, r3⟩ := h1.update keyS Tryd.underlying65 hn hk (plainElem_int Tryd.underlying3 (a := (v : Int)) (by simp [Lit.wf, IntKind.min, IntKind.max, IntKind.bits, IntKind.signed]; omega))
  refine ⟨W', r1, ⟨_, r2, fun j => ?_⟩, r3⟩
  unfold mput
  by_cases e : j = t
  · subst e
    rw [if_pos rfl, has_put_same him (keyS.key hk), atKey_put_same him (keyS.key hk)]
    exact ⟨rfl, rfl⟩
  · rw [if_neg e, has_put_other (lk_ne e), atKey_put_other (lk_ne e)]
    exact h2 j
end Go.Proofs.YtbkhhegmmkcbbaaDoor
