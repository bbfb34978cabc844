import Derived.Test.YthfijmabagjdkaaQtk
import Derived.Test.YthfijmabagjdkaaQtl
import Derived.Test.YthfijmabagjdkaaQtm
import Derived.Lib.AppendZeros
import Derived.OwnWalk
namespace Go.Proofs.Ythfijmabagjdkaa.Qy
open Go.RowKit Go.Maps

theorem own_big (w : World) {base size k cap : Nat} {e : TypeId} {z : Array Value} {xs news : List Value} (hb : base ≤ w.heap.size) (hl : xs.length + news.length = k * size) (hz : z.size = size) (hk : k ≤ cap) (hc : cap ≤ maxLen) :
    (w.drew.alloc (.cells (xs.toArray ++ news.toArray ++ Builtin.zeroCells z (cap - k)) e)).ownsRow base e size (.slice (some ⟨w.heap.size, 0, none⟩) k cap) k (xs ++ news) := by
  have hs : (Builtin.zeroCells z (cap - k)).size = (cap - k) * size := by rw [size_zeroCells, hz]
  refine ⟨by rw [List.length_append, hl], Or.inr ⟨w.heap.size, cap, _, rfl, hb, heap_new w.drew _, hk, hc, ?_, ?_⟩⟩
  · rw [Array.size_append, Array.size_append, List.size_toArray, List.size_toArray, hs, hl, ← Nat.add_mul, Nat.add_sub_cancel' hk]
  · rw [Array.toList_append, Array.toList_append, List.take_append_of_le_length (by simp [hl])]
    rw [List.take_of_length_le (by simp [hl])]
/-- One more in a row of the call's own: the row as it was still lies there. -/
theorem wpList_append_still {P : Program} (w : World) {ops : Array Oper} {rest : List Oper} {o : Oper} {a : Act} {Q : Exit → Act → World → Prop} (hgd : o.guard = none) (s x : Operand) (t : TypeId)
    (ho : o.op = .call { callee := .builtin .append, args := #[s, x], argTypes := #[t, t] })
    (base : Nat) (e : TypeId) (i : TypeInfo) (z : Value) (size bytes : Nat) (ht : P.underlying t = some (.slice e)) (hi : P.info? e = some i) (hz : i.zero = some z)
    (hsize : i.size = size) (hby : i.bytes = bytes) (hzs : z.cells.size = size)
    (v : Value) (n : Nat) (xs : List Value) (hs : a.eval s = v) (hown : w.ownsRow base e size v n xs)
    (ad : Addr) (c : Nat) (news : List Value) (hx : a.eval x = .slice (some ad) 1 c) (hl : news.length = size) (hnews : ∀ j u, news[j]? = some u → w.cell? (ad.add j) = some u) (h1 : ∀ u ∈ news, u.oneCell' = true)
    (h63 : n + 1 ≤ maxLen) (hfit : Builtin.nextslicecap (n + 1) n * bytes ≤ 281474976710656) (hbase : base ≤ w.heap.size)
    (h : ∀ v' w', w'.ownsRow base e size v' (n + 1) (xs ++ news) → w.grownBy w' v.ownBlock → (v'.ownBlock = v.ownBlock ∨ v'.ownBlock = some w.heap.size) → w'.ownsRow base e size v n xs → wpList P ops Q rest (a.put o.dst v') w') :
    wpList P ops Q (o :: rest) a w := by
  have hmx : (n + 1 : Nat) ≤ 9223372036854775807 := by unfold maxLen at h63; omega
  have hg : ∀ (row : Option Nat) (k : Array Value), w.grownBy (w.drew.alloc (.cells k e)) row := fun row k => ⟨rfl, rfl, rfl, by simp, fun j hj _ => Below.heap_alloc w.drew _ j hj⟩
  have hxl := hown.1
  have hlen : xs.length + news.length = (n + 1) * size := by rw [hxl, hl, Nat.add_mul, Nat.one_mul]
  have hn1 : news.length = 1 * i.size := by rw [hl, hsize, Nat.one_mul]
  have hnn : v.ownBlock = none ∨ v.ownBlock ≠ none := by cases v.ownBlock with | none => exact .inl rfl | some r => exact .inr (fun h => by cases h)
  have hkeep : ∀ k, (w.drew.alloc (.cells k e)).ownsRow base e size v n xs := fun k => hown.kept (hg none k) hnn
  rcases hown.2 with ⟨hv, hn⟩ | ⟨g, cap, cur, hv, hb, hgc, hcap, hmxc, hcs, htk⟩
  · subst hn
    have hx0 : xs = [] := List.eq_nil_of_length_eq_zero (by simpa using hxl)
    subst hx0
    have hf : 1 * i.bytes ≤ 281474976710656 := by
      rw [nextslicecap_zero (by omega), ← hby] at hfit
      exact hfit
    have hr := run_append_nil (P := P) w t o.type e i z ht hi hz ad 1 c news hn1 hnews (by omega) (by omega) hf
    refine Lib.wpList_append_run w hgd s x t t ho _ _ (hs.trans hv) hx _ _ hr (h _ _ ?_ (hg _ _) (Or.inr rfl) (hkeep _))
    have h9 := own_big w (e := e) (xs := []) (k := 0 + 1) (cap := grownCap w 1 0 e) hbase hlen hzs (grownCap_ge w 1 0 e) (grownCap_le_maxLen w 1 0 e (by exact h63))
    simpa using h9
  · by_cases hr : n + 1 ≤ cap
    · rw [hv] at hown hs h
      refine wpList_append_fits w hgd s x t ho base e i size ht hi hsize g n cap xs hs hown ad 1 c news hx (by rw [hl, Nat.one_mul]) hnews h1 hr (fun w' r1 r2 => ?_)
      refine h _ w' r1 r2 (Or.inl rfl) ?_
      have h7 := row_low r1 (n := n) (by omega)
      rw [List.take_append_of_le_length (by rw [hxl]; exact Nat.le_refl _), List.take_of_length_le (by rw [hxl]; exact Nat.le_refl _)] at h7
      exact h7
    · have hcn : cap = n := by omega
      subst hcn
      rw [hv] at hown hs h hkeep
      have hrun := run_append_grow (P := P) w t o.type e i z ht hi hz ⟨g, 0, none⟩ cap cap xs (by rw [hsize]; exact hxl) (hown.cells (g := g) rfl) ad 1 c news hn1 hnews (by omega) (by omega) (by rw [hby]; exact hfit)
      refine Lib.wpList_append_run w hgd s x t t ho _ _ hs hx _ _ hrun (h _ _ ?_ (hg _ _) (Or.inr rfl) (hkeep _))
      exact own_big w hbase hlen hzs (grownCap_ge w _ _ e) (grownCap_le_maxLen w _ _ e h63)
/-- A row that begins another of the same block, or lies elsewhere, while the other grows. -/
theorem row_still {B e s n m : Nat} {W W' : World} {v u : Value} {xs ys : List Value} (hs : 0 < s) (hv : W.ownsRow B e s v n xs) (hu : W.ownsRow B e s u m (xs ++ ys)) (hu' : W'.ownsRow B e s u m (xs ++ ys)) (hg : W.grownBy W' u.ownBlock) : W'.ownsRow B e s v n xs := by
  cases hvb : v.ownBlock with
  | none => exact hv.kept hg (.inl hvb)
  | some r =>
    by_cases hne : u.ownBlock = some r
    · rcases hv.2 with ⟨rfl, _⟩ | ⟨g1, cap1, cur1, e1, _, q1, _, _, q2, _⟩
      · cases hvb
      · rcases hu.2 with ⟨rfl, _⟩ | ⟨g2, cap2, cur2, e2, _, q3, _, _, q4, _⟩
        · cases hne
        · rw [e1] at hvb
          rw [e2] at hne
          cases hvb
          cases hne
          rw [q1] at q3
          cases q3
          have hc : cap1 = cap2 := Nat.eq_of_mul_eq_mul_right hs (q2.symm.trans q4)
          subst hc
          have hlx := hv.1
          have hly := hu.1
          rw [List.length_append, hlx] at hly
          have hnm : n ≤ m := Nat.le_of_mul_le_mul_right (by omega : n * s ≤ m * s) hs
          rw [e2] at hu'
          have h7 := row_low hu' hnm
          rw [List.take_append_of_le_length (by rw [hlx]; exact Nat.le_refl _), List.take_of_length_le (by rw [hlx]; exact Nat.le_refl _)] at h7
          rw [e1]
          exact h7
    · exact hv.kept hg (.inr (by rw [hvb]; exact fun h => hne h.symm))

theorem cap_fit6 (n : Nat) (h : n ≤ 3000000000000) : Builtin.nextslicecap (n + 1) n * 64 ≤ 281474976710656 := by
  have key : Builtin.nextslicecap (n + 1) n ≤ n + (n + 768) / 4 + 1 := by
    unfold Builtin.nextslicecap
    split
    · omega
    · split
      · omega
      · rw [growBy_four]
        split
        · omega
        · split
          · omega
          · omega
  omega
/-! Both lists of a query written over, then made longer. -/
def p77 : Pn := ⟨⟨#[]⟩, false, ⟨#[]⟩, ⟨#[]⟩, 77⟩
def p78 : Pn := ⟨⟨#[]⟩, false, ⟨#[]⟩, ⟨#[]⟩, 78⟩
def cSp : Cd := ⟨false, ⟨#[]⟩, ⟨#[]⟩, ⟨#[115, 112, 111, 105, 108, 116]⟩⟩
def cMo : Cd := ⟨false, ⟨#[]⟩, ⟨#[]⟩, ⟨#[109, 111, 114, 101]⟩⟩
theorem szC : (Try.prog.info? 48).map (·.size) = some 4 := by kernel_rfl
theorem row_there4 {W : World} {B g n cap k l : Nat} {s : List Cd} (h : W.ownsRow B 48 4 (.slice (some ⟨g, 0, none⟩) n cap) l (flat cf s)) (hi : k < s.length) : W.there g (k * 4) 4 := fun j hj => by
  obtain ⟨_, cur, hgh⟩ := row_tag h g rfl
  refine ⟨?_, Lib.frozen_of_heap hgh _⟩
  have hl : k * 4 + j < (flat cf s).length := by rw [flat_len cf_len]; omega
  rw [row_at h (k * 4 + j) _ (List.getElem?_eq_getElem hl)]
  rfl
theorem take_put' {α : Type} (l : List α) (k : Nat) (e : α) (h : k < l.length) : (l.set k e).take (k + 1) = l.take k ++ [e] := by
  rw [List.take_set, List.take_add_one, List.getElem?_eq_getElem h]
  rw [List.set_append_right _ _ (by rw [List.length_take]; omega)]
  rw [List.length_take, Nat.min_eq_left (by omega)]
  simp
/-- The blocks of both lists. -/
def Bo (vn vc : Value) : Nat → Prop := fun j => vn.ownBlock = some j ∨ vc.ownBlock = some j
/-- A query handed in, in its box, both lists of the caller's own. -/
structure Kq (w W : World) (B b : Nat) (vn vc : Value) (l : List Pn) (cs : List Cd) : Prop where
  blk : W.heap[b]? = some (.cells #[vn, vc] 25 (0, 0))
  ns : W.ownsRow B 46 5 vn l.length (flat pf l)
  cs : W.ownsRow B 48 4 vc cs.length (flat cf cs)
  kr : Kr w W (Bo vn vc)
theorem Kq.cells {w W : World} {B b : Nat} {vn vc : Value} {l : List Pn} {cs : List Cd} (h : Kq w W B b vn vc l cs) : W.cell? ⟨b, 0, none⟩ = some vn ∧ W.cell? ⟨b, 1, none⟩ = some vc := ⟨rcell h.blk 0 _ rfl, rcell h.blk 1 _ rfl⟩
theorem Kq.setN {w W : World} {B b g n cap : Nat} {vc : Value} {l : List Pn} {cs : List Cd} (h : Kq w W B b (.slice (some ⟨g, 0, none⟩) n cap) vc l cs) (hn : l.length = n) (i : Nat) (hi : i < n) (p : Pn) : Kq w (W.setCells g (i * 5) (pf p)) B b (.slice (some ⟨g, 0, none⟩) n cap) vc (l.set i p) cs := by
  have hg : W.grownBy (W.setCells g (i * 5) (pf p)) (some g) := grown_cells g _ _ W W ⟨rfl, rfl, rfl, Nat.le_refl _, fun _ _ _ => rfl⟩
  have hns := h.ns
  rw [hn] at hns
  refine ⟨(hg.block b (lt_of_heap h.blk) (fun e => tag_ne_blk h.ns h.blk (by decide) e.symm)).trans h.blk, ?_, h.cs.kept hg (tag_ne h.cs h.ns (by decide)), h.kr.trans (Kr.of_grown hg) (fun j e => .inl (.inl e))⟩
  have h9 := row_ovw (pf p) (i * 5) W _ hns
  rw [flat_ovw pf_len p l i (by rw [hn]; exact hi)] at h9
  rw [List.length_set, hn]
  exact h9
theorem Kq.setC {w W : World} {B b g n cap : Nat} {vn : Value} {l : List Pn} {cs : List Cd} (h : Kq w W B b vn (.slice (some ⟨g, 0, none⟩) n cap) l cs) (hn : cs.length = n) (i : Nat) (hi : i < n) (p : Cd) : Kq w (W.setCells g (i * 4) (cf p)) B b vn (.slice (some ⟨g, 0, none⟩) n cap) l (cs.set i p) := by
  have hg : W.grownBy (W.setCells g (i * 4) (cf p)) (some g) := grown_cells g _ _ W W ⟨rfl, rfl, rfl, Nat.le_refl _, fun _ _ _ => rfl⟩
  have hns := h.cs
  rw [hn] at hns
  refine ⟨(hg.block b (lt_of_heap h.blk) (fun e => tag_ne_blk h.cs h.blk (by decide) e.symm)).trans h.blk, h.ns.kept hg (tag_ne h.ns h.cs (by decide)), ?_, h.kr.trans (Kr.of_grown hg) (fun j e => .inl (.inr e))⟩
  have h9 := row_ovw (cf p) (i * 4) W _ hns
  rw [flat_ovw cf_len p cs i (by rw [hn]; exact hi)] at h9
  rw [List.length_set, hn]
  exact h9
theorem Kq.up {w W W' : World} {B b : Nat} {vn vc : Value} {l : List Pn} {cs : List Cd} (h : Kq w W B b vn vc l cs) (hb : Below W.heap.size W W') : Kq w W' B b vn vc l cs :=
  ⟨(hb.block _ (lt_of_heap h.blk)).trans h.blk, row_up h.ns hb, row_up h.cs hb, h.kr.trans (Kr.of_below (S := fun _ => False) hb) (fun _ e => e.elim)⟩
/-- The same, and both lists made longer. -/
structure Kg (w W : World) (B b : Nat) (vn vc un uc : Value) (l : List Pn) (cs : List Cd) (i j : Nat) : Prop where
  q : Kq w W B b vn vc l cs
  gn : W.ownsRow B 46 5 un (l.length + i) (flat pf l ++ flat pf (List.replicate i p78))
  gc : W.ownsRow B 48 4 uc (cs.length + j) (flat cf cs ++ flat cf (List.replicate j cMo))
  wn : ∀ g, un.ownBlock = some g → vn.ownBlock = some g ∨ w.heap.size ≤ g
  wc : ∀ g, uc.ownBlock = some g → vc.ownBlock = some g ∨ w.heap.size ≤ g
theorem Kg.start {w W : World} {B b : Nat} {vn vc : Value} {l : List Pn} {cs : List Cd} (h : Kq w W B b vn vc l cs) : Kg w W B b vn vc vn vc l cs 0 0 :=
  ⟨h, by show W.ownsRow B 46 5 vn (l.length + 0) (flat pf l ++ []); rw [List.append_nil]; exact h.ns, by show W.ownsRow B 48 4 vc (cs.length + 0) (flat cf cs ++ []); rw [List.append_nil]; exact h.cs, fun _ e => .inl e, fun _ e => .inl e⟩
theorem Kg.up {w W W' : World} {B b i j : Nat} {vn vc un uc : Value} {l : List Pn} {cs : List Cd} (h : Kg w W B b vn vc un uc l cs i j) (hb : Below W.heap.size W W') : Kg w W' B b vn vc un uc l cs i j :=
  ⟨h.q.up hb, row_up h.gn hb, row_up h.gc hb, h.wn, h.wc⟩
theorem Kg.size {w W : World} {B b i j : Nat} {vn vc un uc : Value} {l : List Pn} {cs : List Cd} (h : Kg w W B b vn vc un uc l cs i j) : w.heap.size ≤ W.heap.size := h.q.kr.size
theorem Kg.appN {w W W5 : World} {B b i j : Nat} {vn vc un uc v5 : Value} {l : List Pn} {cs : List Cd} (h : Kg w W B b vn vc un uc l cs i j) (hg : W.grownBy W5 un.ownBlock) (ho : W5.ownsRow B 46 5 v5 (l.length + i + 1) ((flat pf l ++ flat pf (List.replicate i p78)) ++ pf p78)) (hx : v5.ownBlock = un.ownBlock ∨ v5.ownBlock = some W.heap.size) (hs : W5.ownsRow B 46 5 un (l.length + i) (flat pf l ++ flat pf (List.replicate i p78))) : Kg w W5 B b vn vc v5 uc l cs (i + 1) j := by
  refine ⟨⟨(hg.block b (lt_of_heap h.q.blk) (fun e => tag_ne_blk h.gn h.q.blk (by decide) e.symm)).trans h.q.blk, row_still (by decide) h.q.ns h.gn hs hg, h.q.cs.kept hg (tag_ne h.q.cs h.gn (by decide)), h.q.kr.trans (Kr.of_grown hg) (fun k e => ?_)⟩, ?_, h.gc.kept hg (tag_ne h.gc h.gn (by decide)), fun g e => ?_, h.wc⟩
  · rcases h.wn k e with h1 | h1
    · exact .inl (.inl h1)
    · exact .inr h1
  · rw [List.replicate_succ', flat_app, ← List.append_assoc, show flat pf [p78] = pf p78 by simp [flat], ← Nat.add_assoc]
    exact ho
  · rcases hx with h1 | h1
    · rw [h1] at e; exact h.wn g e
    · rw [h1] at e
      injection e with e
      right; rw [← e]; exact h.size
theorem Kg.appC {w W W5 : World} {B b i j : Nat} {vn vc un uc v5 : Value} {l : List Pn} {cs : List Cd} (h : Kg w W B b vn vc un uc l cs i j) (hg : W.grownBy W5 uc.ownBlock) (ho : W5.ownsRow B 48 4 v5 (cs.length + j + 1) ((flat cf cs ++ flat cf (List.replicate j cMo)) ++ cf cMo)) (hx : v5.ownBlock = uc.ownBlock ∨ v5.ownBlock = some W.heap.size) (hs : W5.ownsRow B 48 4 uc (cs.length + j) (flat cf cs ++ flat cf (List.replicate j cMo))) : Kg w W5 B b vn vc un v5 l cs i (j + 1) := by
  refine ⟨⟨(hg.block b (lt_of_heap h.q.blk) (fun e => tag_ne_blk h.gc h.q.blk (by decide) e.symm)).trans h.q.blk, h.q.ns.kept hg (tag_ne h.q.ns h.gc (by decide)), row_still (by decide) h.q.cs h.gc hs hg, h.q.kr.trans (Kr.of_grown hg) (fun k e => ?_)⟩, h.gn.kept hg (tag_ne h.gn h.gc (by decide)), ?_, h.wn, fun g e => ?_⟩
  · rcases h.wc k e with h1 | h1
    · exact .inl (.inr h1)
    · exact .inr h1
  · rw [List.replicate_succ', flat_app, ← List.append_assoc, show flat cf [cMo] = cf cMo by simp [flat], ← Nat.add_assoc]
    exact ho
  · rcases hx with h1 | h1
    · rw [h1] at e; exact h.wc g e
    · rw [h1] at e
      injection e with e
      right; rw [← e]; exact h.size
set_option maxRecDepth 100000 in
set_option maxHeartbeats 16000000 in
/-- Both lists of a query are written over, and grown: each keeps its own. -/
theorem keeps_any {B : Nat} {vn vc : Value} {l : List Pn} {cs : List Cd} (w : World) (hn : w.ownsRow B 46 5 vn l.length (flat pf l)) (hc : w.ownsRow B 48 4 vc cs.length (flat cf cs)) (hB : B ≤ w.heap.size) (hl : l.length ≤ 1048576) (hm : cs.length ≤ 1048576) : Calls Try.prog 8 #[.agg #[vn, vc]] w fun e w' => e = .returned (.bool true) ∧ Kr w w' (Bo vn vc) := by
  obtain ⟨iP, hiP, px0, px1, px2⟩ := info_parts infoP
  obtain ⟨iC, hiC, cx0, cx1, cx2⟩ := info_parts infoC
  obtain ⟨na, nc, hvn⟩ := row_shape hn
  obtain ⟨ka, kc, hvc⟩ := row_shape hc
  obtain ⟨n, hn1⟩ : ∃ n, l.length = n := ⟨_, rfl⟩
  obtain ⟨m, hm1⟩ : ∃ m, cs.length = m := ⟨_, rfl⟩
  have HN : Hid (n ≤ 1048576) := by rw [← hn1]; exact hl
  have HM : Hid (m ≤ 1048576) := by rw [← hm1]; exact hm
  have HBB : Hid (B ≤ w.heap.size) := hB
  rw [hn1] at hvn
  rw [hm1] at hvc
  subst hvn hvc
  obtain ⟨W1, hW1⟩ : ∃ W1, W1 = w.alloc (.cells #[.slice na n nc, .slice ka m kc] 25) := ⟨_, rfl⟩
  obtain ⟨b, hb⟩ : ∃ b, w.heap.size = b := ⟨_, rfl⟩
  have HK0 : Hid (Kq w W1 B b (.slice na n nc) (.slice ka m kc) l cs) := by
    have hbe : Below w.heap.size w W1 := by rw [hW1]; exact bel_up _ _
    exact ⟨by rw [hW1, ← hb]; exact heap_new w _, row_up hn hbe, row_up hc hbe, Kr.of_below hbe⟩
  have HL0 : Hid (l.length = n ∧ cs.length = m) := ⟨hn1, hm1⟩
  clear hn hc hl hm hn1 hm1 hB
  go_enter Try.func8, Try.ntmps8
  go_upto_region 1 with fail
  rw [← hW1]
  clear hW1 hb
  go_upto_region 2 with fail
  go_loopg [3] n (fun gm v3 wr => ∃ (i : Nat) (l' : List Pn), v3 = .int .i64 (i : Int) ∧ Hid (i ≤ n ∧ gm = n - i) ∧ Hid (l'.length = n ∧ l'.take i = List.replicate i p77) ∧ Hid (Kq w wr B b (.slice na n nc) (.slice ka m kc) l' cs))
  case atStart => exact ⟨0, l, rfl, ⟨Nat.zero_le _, rfl⟩, ⟨HL0.out.1, rfl⟩, HK0⟩
  case round =>
    clear HK0
    obtain ⟨i, l', rfl, HI, HL, HK⟩ := hrel
    obtain ⟨wb, hwb⟩ : ∃ wb, wb = wr := ⟨_, rfl⟩
    rw [← hwb] at HK ⊢
    clear hwb
    obtain ⟨k0, -⟩ := HK.out.cells
    by_cases hi : i < n
    · have e1 : decide ((i : Int) < (n : Int)) = true := by rw [decide_eq_true_eq]; omega
      have e2 : decide (i < n) = true := decide_eq_true hi
      have b1 : (i : Int) < (n : Int) := by omega
      have b2 : i < n := hi
      have b3 : (0 : Int) ≤ (i : Int) := by omega
      have HIL : Hid (i < n) := hi
      have hwi := w64n i (by have := HN.out; omega)
      obtain ⟨g, hag⟩ : ∃ g, na = some ⟨g, 0, none⟩ := by
        have h9 := HK.out.ns
        rw [HL.out.1] at h9
        obtain ⟨g, cap, e0, -⟩ := row_form h9 (by omega)
        exact ⟨g, (Value.slice.inj e0).1⟩
      subst hag
      have HP : Hid _ := HK.out.setN HL.out.1 i hi p77
      have HTH : Hid (wb.there g (i * 5) 5) := row_there5 HK.out.ns (by rw [HL.out.1]; exact hi)
      clear hi
      go_wp2_with (refine wpList_store_mid rfl 46 _ _ rfl g (i * 5) #[.string ⟨#[]⟩, .bool false, .string ⟨#[]⟩, .string ⟨#[]⟩, .int .i64 77] rfl rfl HTH.out szP (all_oneCell_toArray (pf_one p77)) ?_; obtain ⟨wc, hwc⟩ : ∃ wc, wb.setCells g (i * 5) (pf p77) = wc := ⟨_, rfl⟩; rw [hwc] at HP; refine (show wpList _ _ _ _ _ (wb.setCells g (i * 5) (pf p77)) from ?_); rw [hwc]; clear hwc HTH)
      go_roundg (n - (i + 1))
      case measure => have := HI.out; have := HIL.out; omega
      case rel => exact ⟨i + 1, _, by simp, ⟨HIL.out, rfl⟩, ⟨by rw [List.length_set]; exact HL.out.1, by rw [take_put' _ _ _ (by rw [HL.out.1]; exact HIL.out), HL.out.2, List.replicate_succ']⟩, HP⟩
    · have e1 : decide ((i : Int) < (n : Int)) = false := by rw [decide_eq_false_iff_not]; omega
      have e2 : decide (i < n) = false := decide_eq_false hi
      have hin : i = n := by have := HI.out; omega
      subst hin
      clear hi
      have HLn : Hid (l' = List.replicate i p77) := by have h9 := HL.out.2; rw [List.take_of_length_le (by rw [HL.out.1]; exact Nat.le_refl _)] at h9; exact h9
      obtain rfl := HLn.out
      have HK1 : Hid (Kq w wb B b (.slice na i nc) (.slice ka m kc) (List.replicate i p77) cs) := HK.out
      clear HLn HL HK HI
      go_upto_region 6 with fail
      obtain ⟨n, hnn⟩ : ∃ n, i = n := ⟨_, rfl⟩
      subst hnn
      clear k0 e1 e2
      go_loopg [4] m (fun gm v4 wr => ∃ (j : Nat) (c' : List Cd), v4 = .int .i64 (j : Int) ∧ Hid (j ≤ m ∧ gm = m - j) ∧ Hid (c'.length = m ∧ c'.take j = List.replicate j cSp) ∧ Hid (Kq w wr B b (.slice na i nc) (.slice ka m kc) (List.replicate i p77) c'))
      case atStart => exact ⟨0, cs, rfl, ⟨Nat.zero_le _, rfl⟩, ⟨HL0.out.2, rfl⟩, HK1⟩
      case round =>
        clear HK1
        obtain ⟨j, c', rfl, HJ, HL, HK⟩ := hrel
        obtain ⟨wb, hwb⟩ : ∃ wb, wb = wr := ⟨_, rfl⟩
        rw [← hwb] at HK ⊢
        clear hwb
        obtain ⟨-, k1⟩ := HK.out.cells
        by_cases hj : j < m
        · have e1 : decide ((j : Int) < (m : Int)) = true := by rw [decide_eq_true_eq]; omega
          have e2 : decide (j < m) = true := decide_eq_true hj
          have b1 : (j : Int) < (m : Int) := by omega
          have b2 : j < m := hj
          have b3 : (0 : Int) ≤ (j : Int) := by omega
          have HJL : Hid (j < m) := hj
          have hwj := w64n j (by have := HM.out; omega)
          obtain ⟨g, hag⟩ : ∃ g, ka = some ⟨g, 0, none⟩ := by
            have h9 := HK.out.cs
            rw [HL.out.1] at h9
            obtain ⟨g, cap, e0, -⟩ := row_form h9 (by omega)
            exact ⟨g, (Value.slice.inj e0).1⟩
          subst hag
          have HP : Hid _ := HK.out.setC HL.out.1 j hj cSp
          have HTH : Hid (wb.there g (j * 4) 4) := row_there4 HK.out.cs (by rw [HL.out.1]; exact hj)
          clear hj
          go_wp2_with (refine wpList_store_mid rfl 48 _ _ rfl g (j * 4) #[.bool false, .string ⟨#[]⟩, .string ⟨#[]⟩, .string ⟨#[115, 112, 111, 105, 108, 116]⟩] rfl rfl HTH.out szC (all_oneCell_toArray (cf_one cSp)) ?_; obtain ⟨wc, hwc⟩ : ∃ wc, wb.setCells g (j * 4) (cf cSp) = wc := ⟨_, rfl⟩; rw [hwc] at HP; refine (show wpList _ _ _ _ _ (wb.setCells g (j * 4) (cf cSp)) from ?_); rw [hwc]; clear hwc HTH)
          go_roundg (m - (j + 1))
          case measure => have := HJ.out; have := HJL.out; omega
          case rel => exact ⟨j + 1, _, by simp, ⟨HJL.out, rfl⟩, ⟨by rw [List.length_set]; exact HL.out.1, by rw [take_put' _ _ _ (by rw [HL.out.1]; exact HJL.out), HL.out.2, List.replicate_succ']⟩, HP⟩
        · have e1 : decide ((j : Int) < (m : Int)) = false := by rw [decide_eq_false_iff_not]; omega
          have e2 : decide (j < m) = false := decide_eq_false hj
          have hin : j = m := by have := HJ.out; omega
          subst hin
          clear hj
          have HLn : Hid (c' = List.replicate j cSp) := by have h9 := HL.out.2; rw [List.take_of_length_le (by rw [HL.out.1]; exact Nat.le_refl _)] at h9; exact h9
          obtain rfl := HLn.out
          obtain ⟨L, hL⟩ : ∃ L, List.replicate i p77 = L := ⟨_, rfl⟩
          obtain ⟨C, hC⟩ : ∃ C, List.replicate j cSp = C := ⟨_, rfl⟩
          have HLC : Hid (L = List.replicate i p77 ∧ C = List.replicate j cSp ∧ L.length = i ∧ C.length = j) := ⟨hL.symm, hC.symm, by rw [← hL, List.length_replicate], by rw [← hC, List.length_replicate]⟩
          have HK1 : Hid (Kq w wb B b (.slice na i nc) (.slice ka j kc) L C) := by rw [← hL, ← hC]; exact HK.out
          have HG0 : Hid (Kg w wb B b (.slice na i nc) (.slice ka j kc) (.slice na i nc) (.slice ka j kc) L C 0 0) := Kg.start HK1.out
          clear HLn HL HK HJ hL hC
          obtain ⟨k0, k1'⟩ := HK1.out.cells
          go_upto_region 12 with fail
          clear k0 k1 k1' e1 e2
          go_loopg [5, 6, 7] 70 (fun gm v5 v6 v7 wr => ∃ (k : Nat) (un uc : Value), un = v5 ∧ uc = v6 ∧ v7 = .int .i64 (k : Int) ∧ Hid (k ≤ 70 ∧ gm = 70 - k) ∧ Hid (Kg w wr B b (.slice na i nc) (.slice ka j kc) un uc L C k k))
          case atStart => exact ⟨0, _, _, rfl, rfl, rfl, ⟨Nat.zero_le _, rfl⟩, HG0⟩
          case round =>
            clear HG0 HK1
            obtain ⟨k, v5, v6, rfl, rfl, rfl, HK, HG⟩ := hrel
            obtain ⟨wb, hwb⟩ : ∃ wb, wb = wr := ⟨_, rfl⟩
            rw [← hwb] at HG ⊢
            clear hwb
            by_cases hk : k < 70
            · have e1 : decide ((k : Int) < 70) = true := by rw [decide_eq_true_eq]; omega
              have b1 : (k : Int) < 70 := by omega
              have HKL : Hid (k < 70) := hk
              have hwk := w64n k (by omega)
              have HRN : Hid (wb.ownsRow B 46 5 v5 (i + k) (flat pf L ++ flat pf (List.replicate k p78))) := by have h9 := HG.out.gn; rw [HLC.out.2.2.1] at h9; exact h9
              have HMX : Hid (i + k + 1 ≤ maxLen ∧ Builtin.nextslicecap (i + k + 1) (i + k) * 64 ≤ 281474976710656) := ⟨by have := HN.out; have := HK.out; unfold maxLen; omega, cap_fit6 _ (by have := HN.out; have := HK.out; omega)⟩
              have HMY : Hid (j + k + 1 ≤ maxLen ∧ Builtin.nextslicecap (j + k + 1) (j + k) * 56 ≤ 281474976710656) := ⟨by have := HM.out; have := HK.out; unfold maxLen; omega, by have h7 := cap_fit6 (j + k) (by have := HM.out; have := HK.out; omega); omega⟩
              have HSB : Hid (B ≤ wb.heap.size) := Nat.le_trans HBB.out HG.out.size
              obtain ⟨xs, hxs⟩ : ∃ xs, flat pf L ++ flat pf (List.replicate k p78) = xs := ⟨_, rfl⟩
              have HXS : Hid (flat pf L ++ flat pf (List.replicate k p78) = xs) := hxs
              rw [hxs] at HRN
              clear hk hxs
              go_upto_region 15 with (at_builtin; refine wpList_append_still _ rfl _ _ 22 rfl B 46 iP _ 5 64 Try.underlying22 hiP px0 px1 px2 rfl v5 (i + k) xs rfl (row_up HRN.out (bel_up _ _)) ⟨wb.heap.size, 0, none⟩ 1 [.string ⟨#[]⟩, .bool false, .string ⟨#[]⟩, .string ⟨#[]⟩, .int .i64 78] rfl rfl (World.news_of_block (heap_new _ _)) (fun u hu => pf_one p78 u hu) HMX.out.1 HMX.out.2 (by have := HSB.out; simp; omega) ?_; intro x5 w7 ho7 hg7 hx7 hs7; have HAP : Hid (w7.ownsRow B 46 5 x5 (i + k + 1) (xs ++ pf p78) ∧ (wb.alloc (.cells #[.string ⟨#[]⟩, .bool false, .string ⟨#[]⟩, .string ⟨#[]⟩, .int .i64 78] 46)).grownBy w7 v5.ownBlock ∧ (x5.ownBlock = v5.ownBlock ∨ x5.ownBlock = some (wb.heap.size + 1)) ∧ w7.ownsRow B 46 5 v5 (i + k) xs) := ⟨ho7, hg7, (by rw [World.size_alloc] at hx7; exact hx7), hs7⟩; clear ho7 hg7 hx7 hs7)
              have HG2 : Hid (Kg w w7 B b (.slice na i nc) (.slice ka j kc) x5 v6 L C (k + 1) k) := by
                obtain ⟨p1, p2, p3, p4⟩ := HAP.out
                have hG1 := HG.out.up (bel_up wb (.cells #[.string ⟨#[]⟩, .bool false, .string ⟨#[]⟩, .string ⟨#[]⟩, .int .i64 78] 46))
                exact Kg.appN hG1 p2 (by rw [HLC.out.2.2.1, HXS.out]; exact p1) (by rw [World.size_alloc]; exact p3) (by rw [HLC.out.2.2.1, HXS.out]; exact p4)
              have HSB2 : Hid (B ≤ w7.heap.size) := Nat.le_trans HBB.out HG2.out.size
              clear HAP HRN HXS HG HSB xs
              have HRC : Hid (w7.ownsRow B 48 4 v6 (j + k) (flat cf C ++ flat cf (List.replicate k cMo))) := by have h9 := HG2.out.gc; rw [HLC.out.2.2.2] at h9; exact h9
              obtain ⟨xs, hxs⟩ : ∃ xs, flat cf C ++ flat cf (List.replicate k cMo) = xs := ⟨_, rfl⟩
              have HXS : Hid (flat cf C ++ flat cf (List.replicate k cMo) = xs) := hxs
              rw [hxs] at HRC
              clear hxs
              go_wp2_with (at_builtin; refine wpList_append_still _ rfl _ _ 23 rfl B 48 iC _ 4 56 Try.underlying23 hiC cx0 cx1 cx2 rfl v6 (j + k) xs rfl (row_up HRC.out (bel_up _ _)) ⟨w7.heap.size, 0, none⟩ 1 [.bool false, .string ⟨#[]⟩, .string ⟨#[]⟩, .string ⟨#[109, 111, 114, 101]⟩] rfl rfl (World.news_of_block (heap_new _ _)) (fun u hu => cf_one cMo u hu) HMY.out.1 HMY.out.2 (by have := HSB2.out; simp; omega) ?_; intro x6 w8 ho7 hg7 hx7 hs7; have HAP : Hid (w8.ownsRow B 48 4 x6 (j + k + 1) (xs ++ cf cMo) ∧ (w7.alloc (.cells #[.bool false, .string ⟨#[]⟩, .string ⟨#[]⟩, .string ⟨#[109, 111, 114, 101]⟩] 48)).grownBy w8 v6.ownBlock ∧ (x6.ownBlock = v6.ownBlock ∨ x6.ownBlock = some (w7.heap.size + 1)) ∧ w8.ownsRow B 48 4 v6 (j + k) xs) := ⟨ho7, hg7, (by rw [World.size_alloc] at hx7; exact hx7), hs7⟩; clear ho7 hg7 hx7 hs7)
              go_roundg (70 - (k + 1))
              case measure => have := HK.out; have := HKL.out; omega
              case rel =>
                refine ⟨k + 1, _, _, rfl, rfl, by simp, ⟨HKL.out, rfl⟩, ?_⟩
                obtain ⟨p1, p2, p3, p4⟩ := HAP.out
                have hG1 := HG2.out.up (bel_up w7 (.cells #[.bool false, .string ⟨#[]⟩, .string ⟨#[]⟩, .string ⟨#[109, 111, 114, 101]⟩] 48))
                exact Kg.appC hG1 p2 (by rw [HLC.out.2.2.2, HXS.out]; exact p1) (by rw [World.size_alloc]; exact p3) (by rw [HLC.out.2.2.2, HXS.out]; exact p4)
            · have e1 : decide ((k : Int) < 70) = false := by rw [decide_eq_false_iff_not]; omega
              have hk70 : k = 70 := by have := HK.out; omega
              subst hk70
              clear hk
              obtain ⟨gn, cn, hu, -⟩ := row_form HG.out.gn (by omega)
              obtain ⟨gc, cc, hv, -⟩ := row_form HG.out.gc (by omega)
              rw [HLC.out.2.2.1] at hu
              rw [HLC.out.2.2.2] at hv
              subst hu hv
              obtain ⟨k0, k1⟩ := HG.out.q.cells
              have HC : Hid (∀ W, Below wb.heap.size wb W → W.cell? ⟨b, 0, none⟩ = some (.slice na i nc) ∧ W.cell? ⟨b, 1, none⟩ = some (.slice ka j kc)) := fun W hW => ⟨below_cell hW k0, below_cell hW k1⟩
              have HPS : Hid (Ps wb (.slice na i nc) L) := row_rw HG.out.q.ns
              have HCS : Hid (Cs wb (.slice ka j kc) C) := row_rw HG.out.q.cs
              have HKR : Hid (Kr w wb (Bo (.slice na i nc) (.slice ka j kc))) := HG.out.q.kr
              clear HG HK k0 k1
              go_upto_region 17 with fail
              clear e1
              go_loopg [8] i (fun gm v8 wr => ∃ k : Nat, v8 = .int .i64 (k : Int) ∧ Hid (k ≤ i ∧ gm = i - k) ∧ Hid (Below wb.heap.size wb wr))
              case atStart => exact ⟨0, rfl, ⟨Nat.zero_le _, rfl⟩, Below.refl _ _⟩
              case round =>
                obtain ⟨k, rfl, HK, HB⟩ := hrel
                obtain ⟨wc, hwc⟩ : ∃ wc, wc = wr := ⟨_, rfl⟩
                rw [← hwc] at HB ⊢
                clear hwc
                obtain ⟨q1, q2⟩ := HC.out wc HB.out
                by_cases hk : k < i
                · have e1 : decide ((k : Int) < (i : Int)) = true := by rw [decide_eq_true_eq]; omega
                  have e2 : decide (k < i) = true := decide_eq_true hk
                  have g1 : (k : Int) < (i : Int) := by omega
                  have g2 : k < i := hk
                  have HKL : Hid (k < i) := hk
                  have hwk := w64n k (by have := HN.out; omega)
                  obtain ⟨g, o, rfl, c0, c1, c2, c3, c4⟩ := (HPS.out.up HB.out).all k (by rw [HLC.out.2.2.1]; exact hk)
                  have hx : L.getD k pz = p77 := by rw [HLC.out.1, List.getD_eq_getElem?_getD, List.getElem?_replicate_of_lt hk]; rfl
                  rw [hx] at c0 c1 c2 c3 c4
                  dsimp only [p77] at c0 c1 c2 c3 c4
                  have hE := equal_pn p77
                  dsimp only [p77] at hE
                  clear hk hx
                  go_wp2_with fail
                  go_roundg (i - (k + 1))
                  case measure => have := HK.out; have := HKL.out; omega
                  case rel => exact ⟨k + 1, by first | rfl | (rw [show (k : Int) + 1 = ((k + 1 : Nat) : Int) by omega]), ⟨HKL.out, rfl⟩, HB⟩
                · have e1 : decide ((k : Int) < (i : Int)) = false := by rw [decide_eq_false_iff_not]; omega
                  have e2 : decide (k < i) = false := decide_eq_false hk
                  clear hk
                  go_upto_region 22 with fail
                  clear q1 q2 e1 e2
                  obtain ⟨wo, hwo⟩ : ∃ wo, wo = wc := ⟨_, rfl⟩
                  rw [← hwo] at HB ⊢
                  clear hwo
                  have HBO : Hid (Below wb.heap.size wb wo) := HB.out
                  clear HK HB
                  go_loopg [9] j (fun gm v9 wr => ∃ k : Nat, v9 = .int .i64 (k : Int) ∧ Hid (k ≤ j ∧ gm = j - k) ∧ Hid (Below wb.heap.size wb wr))
                  case atStart => exact ⟨0, rfl, ⟨Nat.zero_le _, rfl⟩, HBO⟩
                  case round =>
                    obtain ⟨k, rfl, HK, HB⟩ := hrel
                    obtain ⟨wc, hwc⟩ : ∃ wc, wc = wr := ⟨_, rfl⟩
                    rw [← hwc] at HB ⊢
                    clear hwc
                    obtain ⟨q1, q2⟩ := HC.out wc HB.out
                    by_cases hk : k < j
                    · have e1 : decide ((k : Int) < (j : Int)) = true := by rw [decide_eq_true_eq]; omega
                      have e2 : decide (k < j) = true := decide_eq_true hk
                      have g1 : (k : Int) < (j : Int) := by omega
                      have g2 : k < j := hk
                      have HKL : Hid (k < j) := hk
                      have hwk := w64n k (by have := HM.out; omega)
                      obtain ⟨g, o, rfl, c0, c1, c2, c3⟩ := (HCS.out.up HB.out).all k (by rw [HLC.out.2.2.2]; exact hk)
                      have hx : C.getD k cz = cSp := by rw [HLC.out.2.1, List.getD_eq_getElem?_getD, List.getElem?_replicate_of_lt hk]; rfl
                      rw [hx] at c0 c1 c2 c3
                      dsimp only [cSp] at c0 c1 c2 c3
                      have hE := equal_cd cSp
                      dsimp only [cSp] at hE
                      clear hk hx
                      go_wp2_with fail
                      go_roundg (j - (k + 1))
                      case measure => have := HK.out; have := HKL.out; omega
                      case rel => exact ⟨k + 1, by first | rfl | (rw [show (k : Int) + 1 = ((k + 1 : Nat) : Int) by omega]), ⟨HKL.out, rfl⟩, HB⟩
                    · have e1 : decide ((k : Int) < (j : Int)) = false := by rw [decide_eq_false_iff_not]; omega
                      have e2 : decide (k < j) = false := decide_eq_false hk
                      have hz : IntKind.i64.wrap ((i : Int) + 70 + ((j : Int) + 70)) = ((i + j + 140 : Nat) : Int) := by have := HN.out; have := HM.out; rw [IntKind.wrap_i64]; omega
                      have hy : decide ((140 : Int) ≤ ((i + j + 140 : Nat) : Int)) = true := by rw [decide_eq_true_eq]; omega
                      clear hk
                      go_wp2_with fail
                      go_ret
                      refine ⟨?_, HKR.out.trans (S' := fun _ => False) (Kr.of_below HB.out) (fun _ e => e.elim)⟩
                      first | rfl | (simp; omega)
end Go.Proofs.Ythfijmabagjdkaa.Qy
