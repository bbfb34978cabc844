import Derived.Test.YtockmlaaefbfkaaRpu
namespace Go.Proofs.Ytockmlaaefbfkaa
open Go.RowKit Go.Maps

theorem underM : Try.prog.underlying 57 = some (.map 3 66) := Try.underlying57
theorem infoSt : (Try.prog.info? 65).map (fun i => (i.zero, i.size, i.bytes)) = some (some (.agg #[.string ⟨#[]⟩, .int .i64 0, .int .i64 0, .int .i64 0, .int .i64 0, .int .u64 0, .string ⟨#[]⟩]), 7, 72) := by kernel_rfl
theorem infoLf : (Try.prog.info? 36).map (fun i => (i.zero, i.size, i.bytes)) = some (some (.agg #[.int .i64 0, .int .i64 0, .int .i64 0, .int .i64 0, .int .u64 0, .string ⟨#[]⟩]), 6, 56) := by kernel_rfl
theorem zeroS (w : World) : (zeroValue 66).run Try.prog w = .ok (.slice none 0 0) w := by kernel_rfl
def wfi (k : Int) : Prop := -9223372036854775808 ≤ k ∧ k ≤ 9223372036854775807
theorem wf_of {k : Int} (h : wfi k) : (Lit.int .i64 k).wf = true := by
  obtain ⟨h1, h2⟩ := h
  simp [Lit.wf, IntKind.min, IntKind.max, IntKind.bits, IntKind.signed]
  omega
theorem key_of {k : Int} (h : wfi k) : keyOf Try.prog 3 (.int .i64 k) = some (.int .i64 k) := keyOf_int_mk Try.underlying3 (wf_of h)
theorem keyed : Keyed Try.prog 3 := int_keyed Try.underlying3
/-- A map's element as it lies. -/
def hv (v : Value) : Option (DataW Value × List MemPlace) := some (.held v, [])
def nilS : Value := .slice none 0 0
/-- A map in memory, by what stands at each key. -/
def Mp (W : World) (b n : Nat) (f : Int → Value) : Prop := ∃ D : DataW Value, W.ownsMap Try.prog 3 hv b n D ∧ ∀ k, wfi k → D.atKey (.int .i64 k) (.held nilS) = .held (f k)
theorem Mp.made (w : World) : Mp (w.alloc (.map #[] 0)) w.heap.size 0 (fun _ => nilS) := ⟨_, World.ownsMap_made w _ _ _, fun _ _ => rfl⟩
theorem Mp.kept {W W' : World} {b n : Nat} {f : Int → Value} {row : Option Nat} (h : Mp W b n f) (hg : W.grownBy W' row) (hne : some b ≠ row) : Mp W' b n f := by
  obtain ⟨D, h1, h2⟩ := h
  exact ⟨D, h1.kept hg hne, h2⟩
theorem Mp.heap {W : World} {b n : Nat} {f : Int → Value} (h : Mp W b n f) : ∃ es c, W.heap[b]? = some (.map es c) := by
  obtain ⟨D, ⟨es, c, h1, _⟩, _⟩ := h
  exact ⟨es, c, h1⟩
theorem Mp.look {W : World} {b n : Nat} {f : Int → Value} (h : Mp W b n f) {k : Int} (hk : wfi k) : (Instr.lookup 57 (.map (some b)) (.int .i64 k) false).run Try.prog W = .ok (f k) W := by
  obtain ⟨D, h1, h2⟩ := h
  obtain ⟨v, ps, hr, hv'⟩ := h1.lookup (z := nilS) (zd := .held nilS) (zp := []) keyed underM (zeroS W) rfl (key_of hk)
  rw [h2 k hk] at hv'
  have e : v = f k := by
    have h3 := Option.some.inj hv'
    have h4 := congrArg Prod.fst h3
    exact DataW.held.inj h4
  rw [← e]; exact hr
def fput (f : Int → Value) (k : Int) (v : Value) : Int → Value := fun j => if j = k then v else f j
theorem Mp.put {W : World} {b n : Nat} {f : Int → Value} (h : Mp W b n f) (hn : n < maxLen) {k : Int} (hk : wfi k) (v : Value) : ∃ W', (Instr.mapUpdate 57 (.map (some b)) (.int .i64 k) v).run Try.prog W = .ok () W' ∧ Mp W' b (n + 1) (fput f k v) ∧ W.grownBy W' (some b) := by
  obtain ⟨D, h1, h2⟩ := h
  have him : IsMap D := h1.isMap
  obtain ⟨W', r1, r2, r3⟩ := h1.update (d := .held v) (ps := []) (val := v) keyed underM hn (key_of hk) rfl
  refine ⟨W', r1, ⟨_, r2, fun j hj => ?_⟩, r3⟩
  unfold fput
  by_cases e : j = k
  · rw [e, if_pos rfl, atKey_put_same him (keyed.key (key_of hk))]
  · rw [if_neg e, atKey_put_other (fun h => e (by injection h)), h2 j hj]
section
variable {P : Program} {ops : Array Oper} {o : Oper} {a : Act} {w : World} {K : Act → World → Prop} {Q : Exit → Act → World → Prop} {E : Prop}
/-- A look-up, as one step of a region that draws. -/
theorem step_look (hg : o.guard = none) (m x : Operand) (t : TypeId) (hop : o.op = Op.lookup t m x false) (mv key v : Value) (hm : a.eval m = mv) (hx : a.eval x = key) (hrun : (Instr.lookup t mv key false).run P w = .ok v w)
    (hK : K (a.put o.dst v) w) : if Region.wanted o (yielded ops a.tmps) = true then Oper.wp P o a w K Q else E := by
  have hw : Region.wanted o (yielded ops a.tmps) = true := by simp [Region.wanted, hg]
  rw [if_pos hw]
  unfold Oper.wp
  simp [execOp, hop, hm, hx, hrun, Result.andThen]
  exact hK
/-- A store into a map, as one step of a region that draws. -/
theorem step_update (hg : o.guard = none) (m x y : Operand) (t : TypeId) (hop : o.op = Op.mapUpdate t m x y) (mv key v : Value) (w' : World) (hm : a.eval m = mv) (hx : a.eval x = key) (hy : a.eval y = v) (hrun : (Instr.mapUpdate t mv key v).run P w = .ok () w')
    (hK : K (a.put o.dst undef) w') : if Region.wanted o (yielded ops a.tmps) = true then Oper.wp P o a w K Q else E := by
  have hw : Region.wanted o (yielded ops a.tmps) = true := by simp [Region.wanted, hg]
  rw [if_pos hw]
  unfold Oper.wp
  simp [execOp, hop, hm, hx, hy, hrun, Result.andThen]
  exact hK
/-- An append, as one step of a region that draws. -/
theorem step_append (hg : o.guard = none) (s x : Operand) (t : TypeId) (hop : o.op = Op.call { callee := Callee.builtin Builtin.append, args := #[s, x], argTypes := #[t, t] }) (sv xv v : Value) (w' : World) (hs : a.eval s = sv) (hx : a.eval x = xv) (hrun : (Builtin.append_ #[t, t] o.type #[sv, xv]).run P w = .ok v w')
    (hK : K (a.put o.dst v) w') : if Region.wanted o (yielded ops a.tmps) = true then Oper.wp P o a w K Q else E := by
  have hw : Region.wanted o (yielded ops a.tmps) = true := by simp [Region.wanted, hg]
  rw [if_pos hw]
  unfold Oper.wp
  simp [execOp, hop, resolve, invoke, builtin, hs, hx, hrun, Result.andThen]
  exact hK
end
theorem own_big (w : World) {base size k cap : Nat} {e : TypeId} {z : Array Value} {xs news : List Value} (hb : base ≤ w.heap.size) (hl : xs.length + news.length = k * size) (hz : z.size = size) (hk : k ≤ cap) (hc : cap ≤ maxLen) :
    (w.drew.alloc (.cells (xs.toArray ++ news.toArray ++ Builtin.zeroCells z (cap - k)) e)).ownsRow base e size (.slice (some ⟨w.heap.size, 0, none⟩) k cap) k (xs ++ news) := by
  have hs : (Builtin.zeroCells z (cap - k)).size = (cap - k) * size := by rw [size_zeroCells, hz]
  refine ⟨by rw [List.length_append, hl], Or.inr ⟨w.heap.size, cap, _, rfl, hb, heap_new w.drew _, hk, hc, ?_, ?_⟩⟩
  · rw [Array.size_append, Array.size_append, List.size_toArray, List.size_toArray, hs, hl, ← Nat.add_mul, Nat.add_sub_cancel' hk]
  · rw [Array.toList_append, Array.toList_append, List.take_append_of_le_length (by simp [hl])]
    rw [List.take_of_length_le (by simp [hl])]
/-- The run of an append of one to a row of the call's own. -/
theorem run_one {P : Program} (w : World) (t ty : TypeId) (base : Nat) (e : TypeId) (i : TypeInfo) (z : Value) (size bytes : Nat) (ht : P.underlying t = some (.slice e)) (hi : P.info? e = some i) (hz : i.zero = some z)
    (hsize : i.size = size) (hby : i.bytes = bytes) (hzs : z.cells.size = size)
    (v : Value) (n : Nat) (xs : List Value) (hown : w.ownsRow base e size v n xs)
    (ad : Addr) (c : Nat) (news : List Value) (hl : news.length = size) (hnews : ∀ j u, news[j]? = some u → w.cell? (ad.add j) = some u) (h1 : ∀ u ∈ news, u.oneCell' = true)
    (h63 : n + 1 ≤ maxLen) (hfit : Builtin.nextslicecap (n + 1) n * bytes ≤ 281474976710656) (hbase : base ≤ w.heap.size) :
    ∃ v' w', (Builtin.append_ #[t, t] ty #[v, .slice (some ad) 1 c]).run P w = .ok v' w' ∧ w'.ownsRow base e size v' (n + 1) (xs ++ news) ∧ w.grownBy w' v.ownBlock ∧ (v'.ownBlock = v.ownBlock ∨ v'.ownBlock = some w.heap.size) := by
  have hmx : (n + 1 : Nat) ≤ 9223372036854775807 := by unfold maxLen at h63; omega
  have hg : ∀ (row : Option Nat) (k : Array Value), w.grownBy (w.drew.alloc (.cells k e)) row := fun row k => ⟨rfl, rfl, rfl, by simp, fun j hj _ => Below.heap_alloc w.drew _ j hj⟩
  have hxl := hown.1
  have hlen : xs.length + news.length = (n + 1) * size := by rw [hxl, hl, Nat.add_mul, Nat.one_mul]
  have hn1 : news.length = 1 * i.size := by rw [hl, hsize, Nat.one_mul]
  rcases hown.2 with ⟨hv, hn⟩ | ⟨g, cap, cur, hv, hb, hgc, hcap, hmxc, hcs, htk⟩
  · subst hn
    have hx0 : xs = [] := List.eq_nil_of_length_eq_zero (by simpa using hxl)
    subst hx0 hv
    have hf : 1 * i.bytes ≤ 281474976710656 := by
      rw [nextslicecap_zero (by omega), ← hby] at hfit
      exact hfit
    have hr := run_append_nil (P := P) w t ty e i z ht hi hz ad 1 c news hn1 hnews (by omega) (by omega) hf
    refine ⟨_, _, hr, ?_, hg _ _, Or.inr rfl⟩
    have h9 := own_big w (e := e) (xs := []) (k := 0 + 1) (cap := grownCap w 1 0 e) hbase hlen hzs (grownCap_ge w 1 0 e) (grownCap_le_maxLen w 1 0 e (by exact h63))
    simpa using h9
  · subst hv
    by_cases hr : n + 1 ≤ cap
    · obtain ⟨w', hrun, r1, r2⟩ := run_append_fits (P := P) w base t ty e i size ht hi hsize g n cap xs hown ad 1 c news (by rw [hl, Nat.one_mul]) hnews h1 hr
      exact ⟨_, _, hrun, r1, r2, Or.inl rfl⟩
    · have hcn : cap = n := by omega
      subst hcn
      have hrun := run_append_grow (P := P) w t ty e i z ht hi hz ⟨g, 0, none⟩ cap cap xs (by rw [hsize]; exact hxl) (hown.cells (g := g) rfl) ad 1 c news hn1 hnews (by omega) (by omega) (by rw [hby]; exact hfit)
      refine ⟨_, _, hrun, ?_, hg _ _, Or.inr rfl⟩
      exact own_big w hbase hlen hzs (grownCap_ge w _ _ e) (grownCap_le_maxLen w _ _ e h63)
end Go.Proofs.Ytockmlaaefbfkaa
