import Derived.Test.YtbkhhegmmkcbbaaDoorTkd
import Derived.Lib.AppendZeros
import Derived.OwnWalk
namespace Go.Proofs.YtbkhhegmmkcbbaaDoor
open Go.RowKit Go.Maps

/-- Rows of trees may be half as long again as the rows of nodes that came in: a row that grows by one asks for a quarter more. -/
theorem cap_fit (n : Nat) (h : n * 72 ≤ 140737488355328) : Builtin.nextslicecap (n + 1) n * 104 ≤ 281474976710656 := by
  have key : Builtin.nextslicecap (n + 1) n ≤ n + (n + 768) / 4 + 1 := by
    unfold Builtin.nextslicecap
    split
    · omega
    · split
      · omega
      · rw [growBy_four]
        split
        · omega
        · split
          · omega
          · omega
  omega
theorem own_big (w : World) {base size k cap : Nat} {e : TypeId} {z : Array Value} {xs news : List Value} (hb : base ≤ w.heap.size) (hl : xs.length + news.length = k * size) (hz : z.size = size) (hk : k ≤ cap) (hc : cap ≤ maxLen) :
    (w.drew.alloc (.cells (xs.toArray ++ news.toArray ++ Builtin.zeroCells z (cap - k)) e)).ownsRow base e size (.slice (some ⟨w.heap.size, 0, none⟩) k cap) k (xs ++ news) := by
  have hs : (Builtin.zeroCells z (cap - k)).size = (cap - k) * size := by rw [size_zeroCells, hz]
  refine ⟨by rw [List.length_append, hl], Or.inr ⟨w.heap.size, cap, _, rfl, hb, heap_new w.drew _, hk, hc, ?_, ?_⟩⟩
  · rw [Array.size_append, Array.size_append, List.size_toArray, List.size_toArray, hs, hl, ← Nat.add_mul, Nat.add_sub_cancel' hk]
  · rw [Array.toList_append, Array.toList_append, List.take_append_of_le_length (by simp [hl])]
    rw [List.take_of_length_le (by simp [hl])]
/-- One more in a row of the call's own, where the capacity that is asked for fits. -/
theorem wpList_append_one {P : Program} (w : World) {ops : Array Oper} {rest : List Oper} {o : Oper} {a : Act} {Q : Exit → Act → World → Prop} (hgd : o.guard = none) (s x : Operand) (t : TypeId)
    (ho : o.op = .call { callee := .builtin .append, args := #[s, x], argTypes := #[t, t] })
    (base : Nat) (e : TypeId) (i : TypeInfo) (z : Value) (size bytes : Nat) (ht : P.underlying t = some (.slice e)) (hi : P.info? e = some i) (hz : i.zero = some z)
    (hsize : i.size = size) (hby : i.bytes = bytes) (hzs : z.cells.size = size)
    (v : Value) (n : Nat) (xs : List Value) (hs : a.eval s = v) (hown : w.ownsRow base e size v n xs)
    (ad : Addr) (c : Nat) (news : List Value) (hx : a.eval x = .slice (some ad) 1 c) (hl : news.length = size) (hnews : ∀ j u, news[j]? = some u → w.cell? (ad.add j) = some u) (h1 : ∀ u ∈ news, u.oneCell' = true)
    (h63 : n + 1 ≤ maxLen) (hfit : Builtin.nextslicecap (n + 1) n * bytes ≤ 281474976710656) (hbase : base ≤ w.heap.size)
    (h : ∀ v' w', w'.ownsRow base e size v' (n + 1) (xs ++ news) → w.grownBy w' v.ownBlock → (v'.ownBlock = v.ownBlock ∨ v'.ownBlock = some w.heap.size) → wpList P ops Q rest (a.put o.dst v') w') :
    wpList P ops Q (o :: rest) a w := by
  have hmx : (n + 1 : Nat) ≤ 9223372036854775807 := by unfold maxLen at h63; omega
  have hg : ∀ (row : Option Nat) (k : Array Value), w.grownBy (w.drew.alloc (.cells k e)) row := fun row k => ⟨rfl, rfl, rfl, by simp, fun j hj _ => Below.heap_alloc w.drew _ j hj⟩
  have hxl := hown.1
  have hlen : xs.length + news.length = (n + 1) * size := by rw [hxl, hl, Nat.add_mul, Nat.one_mul]
  have hn1 : news.length = 1 * i.size := by rw [hl, hsize, Nat.one_mul]
  rcases hown.2 with ⟨hv, hn⟩ | ⟨g, cap, cur, hv, hb, hgc, hcap, hmxc, hcs, htk⟩
  · subst hn
    have hx0 : xs = [] := List.eq_nil_of_length_eq_zero (by simpa using hxl)
    subst hx0
    have hf : 1 * i.bytes ≤ 281474976710656 := by
      rw [nextslicecap_zero (by omega), ← hby] at hfit
      exact hfit
    have hr := run_append_nil (P := P) w t o.type e i z ht hi hz ad 1 c news hn1 hnews (by omega) (by omega) hf
    refine Lib.wpList_append_run w hgd s x t t ho _ _ (hs.trans hv) hx _ _ hr (h _ _ ?_ (hg _ _) (Or.inr rfl))
    have h9 := own_big w (e := e) (xs := []) (k := 0 + 1) (cap := grownCap w 1 0 e) hbase hlen hzs (grownCap_ge w 1 0 e) (grownCap_le_maxLen w 1 0 e (by exact h63))
    simpa using h9
  · by_cases hr : n + 1 ≤ cap
    · rw [hv] at hown hs h
      refine wpList_append_fits w hgd s x t ho base e i size ht hi hsize g n cap xs hs hown ad 1 c news hx (by rw [hl, Nat.one_mul]) hnews h1 hr (fun w' r1 r2 => ?_)
      exact h _ w' r1 r2 (Or.inl rfl)
    · have hcn : cap = n := by omega
      subst hcn
      rw [hv] at hown hs h
      have hrun := run_append_grow (P := P) w t o.type e i z ht hi hz ⟨g, 0, none⟩ cap cap xs (by rw [hsize]; exact hxl) (hown.cells (g := g) rfl) ad 1 c news hn1 hnews (by omega) (by omega) (by rw [hby]; exact hfit)
      refine Lib.wpList_append_run w hgd s x t t ho _ _ hs hx _ _ hrun (h _ _ ?_ (hg _ _) (Or.inr rfl))
      exact own_big w hbase hlen hzs (grownCap_ge w _ _ e) (grownCap_le_maxLen w _ _ e h63)
end Go.Proofs.YtbkhhegmmkcbbaaDoor
