import Derived.Test.YtkjcnnecdclgfaaDoorGzn
import Derived.Laws.MakeOwn
import Derived.Lib.SmallJoins
namespace Go.Proofs.YtkjcnnecdclgfaaDoor
open Go.RowKit Go.Shelf
attribute [local go_sem] Oper.semAt_some

def nL (L : List Nat) : List Value := L.map fun (x : Nat) => .int .i64 (x : Int)
theorem nL_len (L : List Nat) : (nL L).length = L.length := by simp [nL]
theorem nL_app (L M : List Nat) : nL (L ++ M) = nL L ++ nL M := by simp [nL]
/-- How many are not yet seen. -/
def uns : Nat → (Nat → Bool) → Nat
  | 0, _ => 0
  | n + 1, sn => uns n sn + (if sn n then 0 else 1)
theorem uns_le (n : Nat) (sn : Nat → Bool) : uns n sn ≤ n := by
  induction n with
  | zero => exact Nat.le_refl _
  | succ n ih => simp only [uns]; split <;> omega
theorem uns_put {sn sn' : Nat → Bool} {p : Nat} (h : sn p = false) (e : ∀ k, sn' k = if k = p then true else sn k) : ∀ n, uns n sn' + (if p < n then 1 else 0) = uns n sn
  | 0 => rfl
  | n + 1 => by
    have ih := uns_put h e n
    simp only [uns, e n]
    by_cases hn : n = p
    · subst hn
      rw [if_neg (Nat.lt_irrefl _)] at ih
      rw [if_pos rfl, if_pos rfl, if_pos (Nat.lt_succ_self _), h]
      simp
      omega
    · rw [if_neg hn]
      by_cases hp : p < n
      · rw [if_pos hp] at ih
        rw [if_pos (show p < n + 1 by omega)]
        omega
      · rw [if_neg hp] at ih
        rw [if_neg (show ¬ p < n + 1 by omega)]
        omega
theorem made_list (z : Value) (n : Nat) : madeCells #[z] n = ((List.range n).map fun _ => z).toArray := by
  refine Array.ext_getElem? fun k => ?_
  by_cases hk : k < n
  · simp [madeCells, hk, Nat.mod_one]
  · simp [madeCells, hk]
theorem infoB : (Tryd.prog.info? 4).map (fun i => (i.zero, i.size, i.bytes)) = some (some (.bool false), 1, 1) := by kernel_rfl
theorem infoS : (Tryd.prog.info? 48).map (fun i => (i.zero, i.size, i.bytes)) = some (some (.slice none 0 0), 1, 24) := by kernel_rfl
theorem makeB (m : Nat) (h : m ≤ 140737488355328) (W : World) : (Instr.makeSlice 48 (.int .i64 (m : Int)) (.int .i64 (m : Int))).run Tryd.prog W = .ok (.slice (some ⟨W.heap.size, 0, none⟩) m m) (W.alloc (.cells ((List.range m).map fun _ => (.bool false : Value)).toArray 4)) := by
  obtain ⟨i0, hi, hz0, hz1, hz2⟩ := info_parts infoB
  have h9 := run_make W 48 4 i0 (.bool false) Tryd.underlying48 hi hz0 .i64 .i64 (m : Int) (m : Int) (by omega) (Int.le_refl _) (by rw [hz2]; omega) (by omega)
  rw [hz1] at h9
  simp only [Int.toNat_natCast, Nat.mul_one] at h9
  rw [← made_list]
  exact h9
theorem makeR (m : Nat) (h : m * 24 ≤ 140737488355328) (W : World) : (Instr.makeSlice 85 (.int .i64 (m : Int)) (.int .i64 (m : Int))).run Tryd.prog W = .ok (.slice (some ⟨W.heap.size, 0, none⟩) m m) (W.alloc (.cells ((List.range m).map fun _ => (.slice none 0 0 : Value)).toArray 48)) := by
  obtain ⟨i0, hi, hz0, hz1, hz2⟩ := info_parts infoS
  have h9 := run_make W 85 48 i0 (.slice none 0 0) Tryd.underlying85 hi hz0 .i64 .i64 (m : Int) (m : Int) (by omega) (Int.le_refl _) (by rw [hz2]; omega) (by omega)
  rw [hz1] at h9
  simp only [Int.toNat_natCast, Nat.mul_one] at h9
  rw [← made_list]
  exact h9
theorem Bl.new (W : World) (m : Nat) : Bl (W.alloc (.cells ((List.range m).map fun _ => (.bool false : Value)).toArray 4)) W.heap.size m (fun _ => false) := by
  refine ⟨fun i hi => ?_, fun o => fr_up (Below.refl _ _) o, by simp⟩
  rw [World.cell?_alloc_at _ _ _ _ (by simp)]
  simp
  exact ⟨i, List.getElem?_range hi⟩
theorem Bl.up {W : World} {b n : Nat} {m : Nat → Bool} (h : Bl W b n m) (x : Obj) : Bl (W.alloc x) b n m := h.same ((bel_up W x).block b h.lt) (bel_up W x).size
theorem fq_up (P : Cp) (i : Nat) (X : Nat → Prop) (W : World) (x : Obj) : Fq P i X W (W.alloc x) :=
  ⟨rfl, rfl, rfl, (bel_up W x).size, fun b o hb => World.frozen?_of_block (a := ⟨b, o, none⟩) ((bel_up W x).block b hb), fun b hb _ _ => (bel_up W x).block b hb⟩
theorem fx_up (X : Nat → Prop) (W : World) (x : Obj) : Fx X W (W.alloc x) := ⟨(bel_up W x).size, fun b hb _ => (bel_up W x).block b hb⟩
end Go.Proofs.YtkjcnnecdclgfaaDoor
namespace Go.Proofs.YtkjcnnecdclgfaaDoor
open Go.RowKit Go.Shelf
attribute [local go_sem] Oper.semAt_some

theorem row_same {W W' : World} {B : Nat} {e : TypeId} {z n : Nat} {v : Value} {xs : List Value} (h : W.ownsRow B e z v n xs) (k : ∀ g, v.ownBlock = some g → g < W.heap.size → W'.heap[g]? = W.heap[g]?) : W'.ownsRow B e z v n xs := by
  obtain ⟨h1, h2⟩ := h
  rcases h2 with ⟨h2, h3⟩ | ⟨g, cap, cur, rfl, hg, hh, h4⟩
  · exact ⟨h1, .inl ⟨h2, h3⟩⟩
  · exact ⟨h1, .inr ⟨g, cap, cur, rfl, hg, (k g rfl (lt_of_heap hh)).trans hh, h4⟩⟩
theorem row_lt {W : World} {B : Nat} {e : TypeId} {z n : Nat} {v : Value} {xs : List Value} (h : W.ownsRow B e z v n xs) : ∀ g, v.ownBlock = some g → B ≤ g ∧ g < W.heap.size := by
  intro g0 e0
  obtain ⟨h1, h2⟩ := h
  rcases h2 with ⟨rfl, h3⟩ | ⟨g, cap, cur, rfl, hg, hh, h4⟩
  · cases e0
  · have : some g = some g0 := e0
    injection this with this
    subst this
    exact ⟨hg, lt_of_heap hh⟩
theorem Cs.far {P : Cp} {A B : World} (K : Ck P) (h : Cs P A) (k : ∀ b, b < P.base → B.heap[b]? = A.heap[b]?) (hs : A.heap.size ≤ B.heap.size) : Cs P B := by
  have scb := k P.cb K.lcb
  have sdb := k P.db K.ldb
  have seb := k P.eb K.leb
  have skb := k P.kb K.lkb
  refine ⟨?_, ?_, ?_, ?_, ?_, fun i hi => ?_, fun i hi => ?_, fun i hi => ?_, ?_, fun i hi o => ?_, fun i hi o => ?_, fun i hi o => ?_, Nat.le_trans h.sz hs⟩
  · rw [World.cell?_of_block (a := ⟨P.cb, 0, none⟩) scb]; exact h.c0
  · rw [World.cell?_of_block (a := ⟨P.cb, 1, none⟩) scb]; exact h.c1
  · rw [World.cell?_of_block (a := ⟨P.cb, 2, none⟩) scb]; exact h.c2
  · rw [World.cell?_of_block (a := ⟨P.cb, 3, none⟩) scb]; exact h.c3
  · rw [World.cell?_of_block (a := ⟨P.cb, 4, none⟩) scb]; exact h.c4
  · rw [World.cell?_of_block (a := ⟨P.db, i, none⟩) sdb]; exact h.dr i hi
  · rw [World.cell?_of_block (a := ⟨P.eb, i, none⟩) seb]; exact h.er i hi
  · rw [World.cell?_of_block (a := ⟨P.kb, i, none⟩) skb]; exact h.kr i hi
  · have L := h.lst
    refine ⟨L.ptr, fun hn => Nat.lt_of_lt_of_le (L.lt hn) hs, ?_⟩
    by_cases hn : P.re = []
    · rw [hn]
      exact ⟨fun p n s e => by cases p <;> cases e⟩
    · exact L.at_.same (k P.g (K.lg hn))
  · rw [World.frozen?_of_block (a := ⟨P.d i, o, none⟩) (k _ (K.ld i hi))]; exact h.fd i hi o
  · rw [World.frozen?_of_block (a := ⟨P.e i, o, none⟩) (k _ (K.le i hi))]; exact h.fe i hi o
  · rw [World.frozen?_of_block (a := ⟨P.k i, o, none⟩) (k _ (K.lk i hi))]; exact h.fk i hi o
theorem Fq.far {P : Cp} {i : Nat} {X : Nat → Prop} {w A B : World} {row : Option Nat} (h : Fq P i X w A) (k : A.grownBy B row) (hr : ∀ r, row = some r → w.heap.size ≤ r) : Fq P i X w B :=
  have e : ∀ b, b < w.heap.size → B.heap[b]? = A.heap[b]? := fun b hb => k.block b (Nat.lt_of_lt_of_le hb h.size) (fun e => by have := hr b e.symm; omega)
  ⟨k.os.trans h.os, k.tape.trans h.tape, k.output.trans h.output, Nat.le_trans h.size k.size, fun b o hb => (World.frozen?_of_block (a := ⟨b, o, Option.none⟩) (e b hb)).trans (h.fz b o hb), fun b hb h1 h2 => (e b hb).trans (h.block b hb h1 h2)⟩
theorem uns_all (n : Nat) : uns n (fun _ => false) = n := by
  induction n with
  | zero => rfl
  | succ n ih => simp [uns, ih]
structure MyI (P : Cp) (X : Nat → Prop) (i A C p0 : Nat) (ma mc : Nat → Bool) (t : Rx) (w : World) (sn : Nat → Bool) (L : List Nat) (v : Value) (W : World) : Prop where
  cs : Cs P W
  cm : ∃ X' : Nat → Prop, (∀ b, X b → X' b) ∧ (∀ b, X' b → P.base ≤ b ∧ b < W.heap.size) ∧ X' w.heap.size ∧ (∀ g, v.ownBlock = some g → X' g) ∧ Cm P X' i W
  seen : Bl W w.heap.size (P.s.size + 1) sn
  row : W.ownsRow (w.heap.size + 1) 3 1 v L.length (nL L)
  en : ∃ m, Bl W A (P.s.size + 1) m ∧ ∀ q, q ≤ P.s.size → (m q = true ↔ ma q = true ∨ ∃ p, sn p = true ∧ En t P.s.data.toList p q)
  cu : ∃ m, Bl W C (P.s.size + 1) m ∧ ∀ q, q ≤ P.s.size → (m q = true ↔ mc q = true ∨ ∃ p, sn p = true ∧ Kn t P.s.data.toList p q)
  snl : ∀ p, sn p = true → p ≤ P.s.size ∧ Rt (En t P.s.data.toList) p0 p
  tol : ∀ p, p ∈ L → p ≤ P.s.size ∧ Rt (En t P.s.data.toList) p0 p
  fq : Fq P i (fun b => b = A ∨ b = C) w W
/-- The blocks that are no memo while many works. -/
def Xo (P : Cp) (X : Nat → Prop) (w : World) (v : Value) (W : World) (X' : Nat → Prop) : Prop := (∀ b, X b → X' b) ∧ (∀ b, X' b → P.base ≤ b ∧ b < W.heap.size) ∧ X' w.heap.size ∧ (∀ g, v.ownBlock = some g → X' g)
/-- A place is put on the list. -/
theorem MyI.push {P : Cp} {X : Nat → Prop} {i A C p0 p q : Nat} {ma mc : Nat → Bool} {t : Rx} {w W W' : World} {sn : Nat → Bool} {L : List Nat} {v v' : Value} (K : Ck P) (hw : P.base ≤ w.heap.size) (hi : i < P.re.length) (hA : A < w.heap.size) (hC : C < w.heap.size)
    (h : MyI P X i A C p0 ma mc t w sn L v W) (hr : ∃ X', Xo P X w v W X' ∧ Cm P X' i W ∧ Rg P X' W i p) (hq : q ≤ P.s.size ∧ Rt (En t P.s.data.toList) p0 q) (ho : W'.ownsRow (w.heap.size + 1) 3 1 v' (L.length + 1) (nL L ++ [.int .i64 (q : Int)])) (hg : W.grownBy W' v.ownBlock) (hat : v'.ownBlock = v.ownBlock ∨ ∃ g, v'.ownBlock = some g ∧ W.heap.size ≤ g) :
    MyI P X i A C p0 ma mc t w sn (L ++ [q]) v' W' ∧ ∃ X', Xo P X w v' W' X' ∧ Cm P X' i W' ∧ Rg P X' W' i p := by
  obtain ⟨X', hX', cm, rg⟩ := hr
  have far : ∀ g, v.ownBlock = some g → w.heap.size + 1 ≤ g ∧ g < W.heap.size := row_lt h.row
  have bl : ∀ b, b < w.heap.size + 1 → b < W.heap.size → W'.heap[b]? = W.heap[b]? := fun b hb hl => hg.block b hl (fun e => by have := (far b e.symm).1; omega)
  have hwW : w.heap.size < W.heap.size := h.seen.lt
  have fx : Fx X' W W' := ⟨hg.size, fun b hb hn => hg.block b hb (fun e => hn (hX'.2.2.2 b e.symm))⟩
  have hb : ∀ b, X' b → P.base ≤ b := fun b h => (hX'.2.1 b h).1
  have cm1 := cm.keep K h.cs.sz fx hb
  have rg1 := rg.keep K h.cs.sz hi fx hb
  have far' := row_lt ho
  have hsplit : ∃ X'', Xo P X w v' W' X'' ∧ Cm P X'' i W' ∧ Rg P X'' W' i p := by
    by_cases hn : ∃ g, v'.ownBlock = some g ∧ W.heap.size ≤ g
    · obtain ⟨g, e, hge⟩ := hn
      have fr : ∀ b, (X' b ∨ b = g) → X' b ∨ W.heap.size ≤ b := fun b hb => by
        rcases hb with hb | rfl
        · exact .inl hb
        · exact .inr hge
      refine ⟨fun b => X' b ∨ b = g, ⟨fun b hb => .inl (hX'.1 b hb), fun b hb => ?_, .inl hX'.2.2.1, fun g' e' => .inr (by rw [e] at e'; injection e' with e'; exact e'.symm)⟩, (cm.free fr).keep K h.cs.sz ⟨fx.size, fun b hb hn => fx.block b hb (fun h => hn (.inl h))⟩ (fun b hb => ?_), (rg.free fr).keep K h.cs.sz hi ⟨fx.size, fun b hb hn => fx.block b hb (fun h => hn (.inl h))⟩ (fun b hb => ?_)⟩
      · rcases hb with hb | rfl
        · have := hX'.2.1 b hb; have := hg.size; omega
        · have := far' _ e; omega
      · rcases hb with hb | rfl
        · exact (hX'.2.1 b hb).1
        · omega
      · rcases hb with hb | rfl
        · exact (hX'.2.1 b hb).1
        · omega
    · refine ⟨X', ⟨hX'.1, fun b hb => ⟨(hX'.2.1 b hb).1, Nat.lt_of_lt_of_le (hX'.2.1 b hb).2 hg.size⟩, hX'.2.2.1, fun g e => ?_⟩, cm1, rg1⟩
      rcases hat with e2 | h2
      · exact hX'.2.2.2 g (by rw [← e2]; exact e)
      · exact absurd h2 hn
  refine ⟨⟨h.cs.far K (fun b hb => bl b (by omega) (by omega)) hg.size, ?_, h.seen.same (bl _ (by omega) hwW) hg.size, by rw [List.length_append, List.length_singleton, nL_app]; exact ho, ?_, ?_, h.snl, fun q' hq' => ?_, h.fq.far hg (fun r e => by have := (far r e).1; omega)⟩, hsplit⟩
  · obtain ⟨X'', h1, h2, _⟩ := hsplit
    exact ⟨X'', h1.1, h1.2.1, h1.2.2.1, h1.2.2.2, h2⟩
  · obtain ⟨m, h1, h2⟩ := h.en
    exact ⟨m, h1.same (bl A (by omega) (by omega)) hg.size, h2⟩
  · obtain ⟨m, h1, h2⟩ := h.cu
    exact ⟨m, h1.same (bl C (by omega) (by omega)) hg.size, h2⟩
  · rcases List.mem_append.1 hq' with h1 | h1
    · exact h.tol q' h1
    · rw [List.mem_singleton] at h1; subst h1; exact hq
set_option maxRecDepth 100000 in
set_option maxHeartbeats 4000000 in
theorem rmany_any (P : Cp) (K : Ck P) (X : Nat → Prop) (i A C p0 : Nat) (ma mc : Nat → Bool) (t : Rx) (o : Nat) (w : World) (hi : i < P.re.length) (ht : Tr P.re t o) (he : o + t.sz = i + 1) (hW : ∀ X, Wk P X i)
    (hX : ∀ b, X b → P.base ≤ b ∧ b < w.heap.size) (xa : X A) (xc : X C) (hac : A ≠ C) (hp0 : p0 ≤ P.s.size) (hs : (P.s.size + 2) * (P.s.size + 2) ≤ 1099511627776)
    (cs : Cs P w) (cm : Cm P X i w) (bA : Bl w A (P.s.size + 1) ma) (bC : Bl w C (P.s.size + 1) mc) :
    Calls Tryd.prog 52 #[.pointer (some ⟨P.cb, 0, none⟩), .int .i64 (i : Int), .int .i64 (p0 : Int), .slice (some ⟨A, 0, none⟩) (P.s.size + 1) (P.s.size + 1), .slice (some ⟨C, 0, none⟩) (P.s.size + 1) (P.s.size + 1)] w fun e w' => (∃ v, e = .returned v) ∧ ∃ sn v, MyI P X i A C p0 ma mc t w sn [] v w' ∧ ∀ p, sn p = true ↔ Rt (En t P.s.data.toList) p0 p := by
  have HX : Hid (∀ b, X b → P.base ≤ b ∧ b < w.heap.size) := hX
  have HW : Hid (∀ X, Wk P X i) := hW
  have HT : Hid (Tr P.re t o ∧ o + t.sz = i + 1) := ⟨ht, he⟩
  have HN : Hid (A ≠ C) := hac
  have HXX : Hid (X A ∧ X C) := ⟨xa, xc⟩
  have HK : Hid (Ck P) := K
  have HI : Hid (i < P.re.length) := hi
  have HP0 : Hid (p0 ≤ P.s.size) := hp0
  have HS : Hid ((P.s.size + 2) * (P.s.size + 2) ≤ 1099511627776) := hs
  have HCS : Hid (Cs P w) := cs
  have HCM : Hid (Cm P X i w) := cm
  have HBA : Hid (Bl w A (P.s.size + 1) ma) := bA
  have HBC : Hid (Bl w C (P.s.size + 1) mc) := bC
  have hs1 : P.s.size + 2 ≤ 1099511627776 := Nat.le_trans (Nat.le_mul_of_pos_right _ (by omega)) hs
  clear hX hW ht he hac xa xc K hi hp0 hs cs cm bA bC
  obtain ⟨n, hn⟩ : ∃ n, P.s.size + 1 = n := ⟨_, rfl⟩
  have HN1 : Hid (P.s.size + 1 = n) := hn
  rw [hn]
  have hn2 : n ≤ 1099511627776 := by omega
  clear hn hs1
  have hmk := makeB n (by omega)
  go_enter Tryd.func52, Tryd.ntmps52
  go_wp2_with fail
  clear hmk
  obtain ⟨W1, hW1⟩ : ∃ W1, W1 = w.alloc (.cells ((List.range n).map fun _ => (.bool false : Value)).toArray 4) := ⟨_, rfl⟩
  obtain ⟨W2, hW2⟩ : ∃ W2, W2 = W1.alloc (.cells #[.int .i64 (p0 : Int)] 3) := ⟨_, rfl⟩
  rw [← hW1, ← hW2]
  have HI0 : Hid (MyI P X i A C p0 ma mc t w (fun _ => false) [p0] (.slice (some ⟨w.heap.size + 1, 0, none⟩) 1 1) W2) := by
    have hsz1 : W1.heap.size = w.heap.size + 1 := by rw [hW1]; simp
    have q1 : Fq P i (fun b => b = A ∨ b = C) w W1 := by rw [hW1]; exact fq_up _ _ _ _ _
    have q2 : Fq P i (fun b => b = A ∨ b = C) W1 W2 := by rw [hW2]; exact fq_up _ _ _ _ _
    have hXX : ∀ b, (b = A ∨ b = C) → P.base ≤ b := fun b hb => by rcases hb with rfl | rfl; exact (HX.out _ HXX.out.1).1; exact (HX.out _ HXX.out.2).1
    have b1 : Bl W1 w.heap.size n (fun _ => false) := by rw [hW1]; exact Bl.new w n
    have bs : P.base ≤ w.heap.size := HCS.out.sz
    refine ⟨HCS.out.keep HK.out (q1.trans q2) hXX, ⟨fun b => X b ∨ b = w.heap.size ∨ b = w.heap.size + 1, fun b hb => .inl hb, fun b hb => ?_, .inr (.inl rfl), fun g hg => ?_, ?_⟩, ?_, ?_, ⟨ma, ?_, fun q _ => by simp⟩, ⟨mc, ?_, fun q _ => by simp⟩, fun p hp => (by cases hp), fun p hp => ?_, q1.trans q2⟩
    · have hsz2 : W2.heap.size = w.heap.size + 1 + 1 := by rw [hW2]; simp [hsz1]
      rcases hb with hb | rfl | rfl
      · have := HX.out b hb; omega
      · omega
      · omega
    · have : some (w.heap.size + 1) = some g := hg
      injection this with e
      exact .inr (.inr e.symm)
    · have c0 : Cm P (fun b => X b ∨ b = w.heap.size ∨ b = w.heap.size + 1) i w := HCM.out.free (fun b hb => by rcases hb with hb | rfl | rfl; exact .inl hb; exact .inr (Nat.le_refl _); exact .inr (Nat.le_succ _))
      have hb : ∀ b, (X b ∨ b = w.heap.size ∨ b = w.heap.size + 1) → P.base ≤ b := fun b hb => by
        rcases hb with hb | rfl | rfl
        · exact (HX.out b hb).1
        · exact bs
        · omega
      have c1 : Cm P (fun b => X b ∨ b = w.heap.size ∨ b = w.heap.size + 1) i W1 := c0.keep HK.out bs (by rw [hW1]; exact fx_up _ _ _) hb
      exact c1.keep HK.out (by omega) (by rw [hW2]; exact fx_up _ _ _) hb
    · rw [HN1.out, hW2]; exact b1.up _
    · refine ⟨rfl, .inr ⟨w.heap.size + 1, 1, #[.int .i64 (p0 : Int)], rfl, Nat.le_refl _, ?_, Nat.le_refl _, by unfold maxLen; omega, rfl, rfl⟩⟩
      rw [hW2, ← hsz1]
      exact (MapKept.heap_alloc W1 _).1
    · rw [hW2, hW1]; exact (HBA.out.up _).up _
    · rw [hW2, hW1]; exact (HBC.out.up _).up _
    · rw [List.mem_singleton] at hp
      subst hp
      exact ⟨HP0.out, .refl⟩
  clear hW1 hW2
  go_loopg [11] (n * (n + 1) + 1) (fun g v wr => ∃ (sn : Nat → Bool) (L : List Nat), Hid (MyI P X i A C p0 ma mc t w sn L v wr) ∧ Hid ((p0 ∈ L ∨ sn p0 = true) ∧ ∀ p q, sn p = true → En t P.s.data.toList p q → sn q = true ∨ q ∈ L) ∧ Hid (g = uns n sn * (n + 1) + L.length ∧ g ≤ n * (n + 1) + 1))
  case atStart =>
    have e := uns_all n
    exact ⟨fun _ => false, [p0], HI0, ⟨.inl (List.mem_singleton.2 rfl), fun p q h => by cases h⟩, by rw [e]; exact ⟨rfl, Nat.le_refl _⟩⟩
  case round =>
    obtain ⟨sn, L, HM, HC, HG⟩ := hrel
    rcases List.eq_nil_or_concat L with hL | ⟨L0, p, hL⟩
    · subst hL
      obtain ⟨a', cap', hv⟩ := own_slice HM.out.row
      subst hv
      go_wp2_with fail
      (try simp only [Exit.inBlock, Exit.then])
      go_end0
      refine ⟨⟨_, rfl⟩, sn, _, HM.out, fun p => ⟨fun h => (HM.out.snl p h).2, fun h => ?_⟩⟩
      have h0 : sn p0 = true := by
        rcases HC.out.1 with h | h
        · cases h
        · exact h
      induction h with
      | refl => exact h0
      | step k q _ h2 ih =>
        rcases HC.out.2 k q ih h2 with h | h
        · exact h
        · cases h
    · rw [List.concat_eq_append] at hL
      subst hL
      obtain ⟨k, hk⟩ : ∃ k, L0.length = k := ⟨_, rfl⟩
      have row := HM.out.row
      rw [List.length_append, List.length_singleton, hk, nL_app] at row
      have HKL : Hid (L0.length = k) := hk
      obtain ⟨g, cap, hv, hcap, hbg, hlg⟩ := own_form row (by omega)
      subst hv
      have HGB : Hid (w.heap.size + 1 ≤ g ∧ g < wr.heap.size) := ⟨hbg, hlg⟩
      have ck := row.cellAt k (by omega)
      rw [show (nL L0 ++ nL [p])[k]? = some (.int .i64 (p : Int)) by rw [← hk, ← nL_len L0]; simp [nL]] at ck
      have HR0 : Hid (wr.ownsRow (w.heap.size + 1) 3 1 (.slice (some ⟨g, 0, none⟩) k cap) k (nL L0)) := ownsRow_pop (by rw [nL_len, hk]; omega) row
      have hpl := HM.out.tol p (by simp)
      have HPL : Hid (p ≤ P.s.size ∧ Rt (En t P.s.data.toList) p0 p) := hpl
      have hpn : p < n := by have := HN1.out; omega
      have cp := HM.out.seen.c p (by have := HN1.out; omega)
      have fp := HM.out.seen.f p
      have hkb : k + 1 ≤ n * (n + 1) + 1 := by have := HG.out; rw [List.length_append, List.length_singleton, hk] at this; omega
      have hnn : n * (n + 1) ≤ 1099511627776 := by have := HS.out; have e := HN1.out; rw [show P.s.size + 2 = n + 1 by omega] at this; exact Nat.le_trans (Nat.mul_le_mul_right _ (by omega)) this
      have HKB : Hid (k ≤ 1099511627776) := by show k ≤ _; omega
      have hk47 : k + 1 ≤ 1099511627777 := by omega
      clear row hk hpl hbg hlg hkb hnn
      obtain ⟨x, hx⟩ : ∃ x, sn p = x := ⟨_, rfl⟩
      have HSX : Hid (sn p = x) := hx
      rw [hx] at cp
      clear hx
      cases x
      · go_wp2_with fail
        obtain ⟨X', x1, x2, x3, x4, cm⟩ := HM.out.cm
        obtain ⟨S1, hS1⟩ : ∃ S1, S1 = wr.setCell ⟨w.heap.size, p, none⟩ (.bool true) := ⟨_, rfl⟩
        have obS : Ob w.heap.size wr S1 := by rw [hS1]; exact (Ob.refl _ _).set _ _
        have bs : P.base ≤ w.heap.size := HCS.out.sz
        have hA := HX.out A HXX.out.1
        have hC := HX.out C HXX.out.2
        have hXb : ∀ b, X' b → P.base ≤ b := fun b h => (x2 b h).1
        have sn1 : Bl S1 w.heap.size (P.s.size + 1) (fun j => if j = p then true else sn j) := by rw [hS1]; exact HM.out.seen.put (by have := HPL.out.1; omega) (fun k _ => rfl)
        rw [← hS1]
        clear hS1
        have cs1 : Cs P S1 := HM.out.cs.far HK.out (fun b hb => obS.gr.block b (by have := HM.out.cs.sz; omega) (fun e => by injection e with e; omega)) obS.gr.size
        have cm1 : Cm P X' i S1 := cm.keep HK.out HM.out.cs.sz (obS.fx x3) hXb
        refine Calls.mono (HW.out X' S1 p cs1 cm1 HPL.out.1 (fun b hb => ⟨(x2 b hb).1, by rw [obS.sz]; exact (x2 b hb).2⟩)) ?_
        rintro e w1 ⟨⟨v1, rfl⟩, cs2, cm2, rg2, fq2⟩
        have RG2 : Hid (Rg P X' w1 i p) := rg2
        obtain ⟨x, y, hx1, hy1, hx2, hy2, ce, ck', hb⟩ := rg2
        obtain ⟨bx, by_⟩ := hb t o HT.out.1 HT.out.2
        obtain ⟨m1, a1, e1⟩ := HM.out.en
        obtain ⟨m2, a2, e2⟩ := HM.out.cu
        have A1 := (a1.other obS (by omega)).keep fq2 (HK.out.kn A hA.1) (fun h => h)
        have C1 := (a2.other obS (by omega)).keep fq2 (HK.out.kn C hC.1) (fun h => h)
        have N1 := sn1.keep fq2 (HK.out.kn _ bs) (fun h => h)
        have R1 : w1.ownsRow (w.heap.size + 1) 3 1 (.slice (some ⟨g, 0, none⟩) k cap) k (nL L0) := row_same (row_same HR0.out (fun g' _ hl => obS.gr.block g' hl (fun e' => by injection e' with e'; have := (row_lt HR0.out g' (by assumption)).1; omega))) (fun g' e' hl => fq2.none hl (HK.out.kn g' (by have := (row_lt HR0.out g' e').1; omega)) (fun h => h))
        have hAx : A ≠ x := fun e => hx2 (by rw [← e]; exact x1 A HXX.out.1)
        have hAy : A ≠ y := fun e => hy2 (by rw [← e]; exact x1 A HXX.out.1)
        have hCx : C ≠ x := fun e => hx2 (by rw [← e]; exact x1 C HXX.out.2)
        have hCy : C ≠ y := fun e => hy2 (by rw [← e]; exact x1 C HXX.out.2)
        have g1 : Fq P i (fun b => b = A ∨ b = C) w w1 := (HM.out.fq.far obS.gr (fun r e => by injection e with e; omega)).trans (fq2.mono (Nat.le_refl _) (fun _ h => h.elim))
        have lk1 : P.k i < w1.heap.size := Nat.lt_of_lt_of_le (HK.out.lk i HI.out) cs2.sz
        have hkA : P.k i ≠ A := fun e => by have := HK.out.lk i HI.out; omega
        have HX2 : Hid (∀ b, X' b → P.base ≤ b ∧ b < w1.heap.size) := fun b hb => ⟨(x2 b hb).1, Nat.lt_of_lt_of_le (x2 b hb).2 (by have := fq2.size; have := obS.sz; omega)⟩
        have HXS : Hid ((∀ b, X b → X' b) ∧ X' w.heap.size ∧ X' g) := ⟨x1, x3, x4 g rfl⟩
        have HAC : Hid ((P.base ≤ A ∧ A < w.heap.size) ∧ (P.base ≤ C ∧ C < w.heap.size) ∧ P.base ≤ w.heap.size) := ⟨hA, hC, bs⟩
        have HE1 : Hid (∀ q, q ≤ P.s.size → (m1 q = true ↔ ma q = true ∨ ∃ p, sn p = true ∧ En t P.s.data.toList p q)) := e1
        have HE2 : Hid (∀ q, q ≤ P.s.size → (m2 q = true ↔ mc q = true ∨ ∃ p, sn p = true ∧ Kn t P.s.data.toList p q)) := e2
        have HNE : Hid (A ≠ x ∧ A ≠ y ∧ C ≠ x ∧ C ≠ y ∧ P.k i ≠ A) := ⟨hAx, hAy, hCx, hCy, hkA⟩
        have HCS1 : Hid (Cs P w1) := cs2
        have HCM1 : Hid (Cm P X' i w1) := cm2
        have HA1 : Hid (Bl w1 A (P.s.size + 1) m1) := A1
        have HC1 : Hid (Bl w1 C (P.s.size + 1) m2) := C1
        have HN2 : Hid (Bl w1 w.heap.size (P.s.size + 1) (fun j => if j = p then true else sn j)) := N1
        have HR1 : Hid (w1.ownsRow (w.heap.size + 1) 3 1 (.slice (some ⟨g, 0, none⟩) k cap) k (nL L0)) := R1
        have HG1 : Hid (Fq P i (fun b => b = A ∨ b = C) w w1) := g1
        have HBX : Hid (Bl w1 x (P.s.size + 1) (enB t P.s.data.toList p)) := bx
        have HBY : Hid (Bl w1 y (P.s.size + 1) (knB t P.s.data.toList p)) := by_
        have HCK1 : Hid (w1.cell? ⟨P.k i, p, none⟩ = some (.slice (some ⟨y, 0, none⟩) (P.s.size + 1) (P.s.size + 1))) := ck'
        have HLK : Hid (P.k i < w1.heap.size) := lk1
        have c3 := cs2.c3
        have er := cs2.er i HI.out
        rw [HN1.out] at er ce
        clear cs2 cm2 ck' A1 C1 N1 R1 bx by_ hAx hAy hCx hCy hkA lk1 hb hx1 hy1 hx2 hy2 fq2 a1 a2 e1 e2 x1 x2 x3 x4 cm cs1 cm1 sn1 obS hA hC bs hXb g1 ck cp fp
        have hI := HI.out
        go_wp2_with fail
        have r1 := radd_any A x (P.s.size + 1) m1 (enB t P.s.data.toList p) w1 HA1.out HBX.out HNE.out.1 (by have := HN1.out; omega)
        rw [HN1.out] at r1
        refine Calls.mono r1 ?_
        rintro e w2 ⟨⟨v2, rfl⟩, A2, ob⟩
        clear r1
        rw [← HN1.out] at A2
        have HCS2 : Hid (Cs P w2) := HCS1.out.far HK.out (fun b hb => ob.gr.block b (by have := HCS1.out.sz; omega) (fun e => by injection e with e; have := HAC.out; omega)) ob.gr.size
        have HXB : Hid (∀ b, X' b → P.base ≤ b) := fun b hb => (HX2.out b hb).1
        have fxA := ob.fx (X := X') (HXS.out.1 A HXX.out.1)
        have HCM2 : Hid (Cm P X' i w2) := HCM1.out.keep HK.out HCS1.out.sz fxA HXB.out
        have RG3 : Hid (Rg P X' w2 i p) := RG2.out.keep HK.out HCS1.out.sz HI.out fxA HXB.out
        have HA2 : Hid (Bl w2 A (P.s.size + 1) (fun q => m1 q || enB t P.s.data.toList p q)) := A2
        have HC2 : Hid (Bl w2 C (P.s.size + 1) m2) := HC1.out.other ob HN.out
        have HN3 : Hid (Bl w2 w.heap.size (P.s.size + 1) (fun j => if j = p then true else sn j)) := HN2.out.other ob (by have := HAC.out; omega)
        have HY2 : Hid (Bl w2 y (P.s.size + 1) (knB t P.s.data.toList p)) := HBY.out.other ob HNE.out.2.1
        have HX3 : Hid (Bl w2 x (P.s.size + 1) (enB t P.s.data.toList p)) := HBX.out.other ob HNE.out.1
        have HR2 : Hid (w2.ownsRow (w.heap.size + 1) 3 1 (.slice (some ⟨g, 0, none⟩) k cap) k (nL L0)) := row_same HR1.out (fun g' e' hl => ob.gr.block g' hl (fun e => by injection e with e; have := (row_lt HR1.out g' e').1; have := HAC.out; omega))
        have HG2 : Hid (Fq P i (fun b => b = A ∨ b = C) w w2) := HG1.out.trans (ob.fq (.inl rfl) (fun o => by rw [A2.f o, HA1.out.f o]))
        have HSZ2 : Hid (w2.heap.size = w1.heap.size) := ob.sz
        have ck2 : w2.cell? ⟨P.k i, p, none⟩ = some (.slice (some ⟨y, 0, none⟩) (P.s.size + 1) (P.s.size + 1)) := by
          rw [World.cell?_of_block (a := ⟨P.k i, p, none⟩) (ob.gr.block (P.k i) HLK.out (fun e => by injection e with e; exact HNE.out.2.2.2.2 e))]
          exact HCK1.out
        have c4 := HCS2.out.c4
        have kr := HCS2.out.kr i HI.out
        rw [HN1.out] at kr ck2
        clear ob A2 c3 er ce fxA
        go_wp2_with fail
        have r2 := radd_any C y (P.s.size + 1) m2 (knB t P.s.data.toList p) w2 HC2.out HY2.out HNE.out.2.2.2.1 (by have := HN1.out; omega)
        rw [HN1.out] at r2
        refine Calls.mono r2 ?_
        rintro e w3 ⟨⟨v3, rfl⟩, C3, ob⟩
        clear r2
        rw [← HN1.out] at C3
        have fxC := ob.fx (X := X') (HXS.out.1 C HXX.out.2)
        have HCS3 : Hid (Cs P w3) := HCS2.out.far HK.out (fun b hb => ob.gr.block b (by have := HCS2.out.sz; omega) (fun e => by injection e with e; have := HAC.out; omega)) ob.gr.size
        have HCM3 : Hid (Cm P X' i w3) := HCM2.out.keep HK.out HCS2.out.sz fxC HXB.out
        have RG4 : Hid (Rg P X' w3 i p) := RG3.out.keep HK.out HCS2.out.sz HI.out fxC HXB.out
        have XO : Hid (Xo P X w (.slice (some ⟨g, 0, none⟩) k cap) w3 X') := ⟨HXS.out.1, fun b hb => ⟨(HX2.out b hb).1, by have := (HX2.out b hb).2; have := HSZ2.out; have := ob.sz; omega⟩, HXS.out.2.1, fun g' e' => by injection e' with e'; rw [← e']; exact HXS.out.2.2⟩
        have snp : (if p = p then true else sn p) = true := if_pos rfl
        have HMI : Hid (MyI P X i A C p0 ma mc t w (fun j => if j = p then true else sn j) L0 (.slice (some ⟨g, 0, none⟩) k cap) w3) := by
          refine ⟨HCS3.out, ⟨X', XO.out.1, XO.out.2.1, XO.out.2.2.1, XO.out.2.2.2, HCM3.out⟩, HN3.out.other ob (by have := HAC.out; omega), ?_, ⟨_, HA2.out.other ob (fun e => HN.out e.symm), fun q hq => ?_⟩, ⟨_, C3, fun q hq => ?_⟩, fun a ha => ?_, fun a ha => HM.out.tol a (List.mem_append.2 (.inl ha)), HG2.out.trans (ob.fq (.inr rfl) (fun o => by rw [C3.f o, HC2.out.f o]))⟩
          · rw [HKL.out]
            exact row_same HR2.out (fun g' e' hl => ob.gr.block g' hl (fun e => by injection e with e; have := (row_lt HR2.out g' e').1; have := HAC.out; omega))
          · rw [Bool.or_eq_true, enB_iff, HE1.out q hq]
            constructor
            · rintro ((h | ⟨a, h1, h2⟩) | h)
              · exact .inl h
              · refine .inr ⟨a, ?_, h2⟩
                show (if a = p then true else sn a) = true
                split
                · rfl
                · exact h1
              · exact .inr ⟨p, snp, h⟩
            · rintro (h | ⟨a, h1, h2⟩)
              · exact .inl (.inl h)
              · by_cases hap : a = p
                · subst hap; exact .inr h2
                · rw [if_neg hap] at h1; exact .inl (.inr ⟨a, h1, h2⟩)
          · rw [Bool.or_eq_true, knB_iff, HE2.out q hq]
            constructor
            · rintro ((h | ⟨a, h1, h2⟩) | h)
              · exact .inl h
              · refine .inr ⟨a, ?_, h2⟩
                show (if a = p then true else sn a) = true
                split
                · rfl
                · exact h1
              · exact .inr ⟨p, snp, h⟩
            · rintro (h | ⟨a, h1, h2⟩)
              · exact .inl (.inl h)
              · by_cases hap : a = p
                · subst hap; exact .inr h2
                · rw [if_neg hap] at h1; exact .inl (.inr ⟨a, h1, h2⟩)
          · by_cases hap : a = p
            · subst hap; exact HPL.out
            · rw [if_neg hap] at ha; exact HM.out.snl a ha
        clear ob C3 c4 kr ck2 fxC
        go_wp2_with fail
        obtain ⟨sm, hsm⟩ : ∃ sm : Nat → Bool, sm = fun j => if j = p then true else sn j := ⟨_, rfl⟩
        rw [← hsm] at HMI
        have HSM : Hid (sm = fun j => if j = p then true else sn j) := hsm
        have HRG0 : Hid (∃ X', Xo P X w (.slice (some ⟨g, 0, none⟩) k cap) w3 X' ∧ Cm P X' i w3 ∧ Rg P X' w3 i p) := ⟨X', XO.out, HCM3.out, RG4.out⟩
        clear hsm snp
        go_loopg [11, 13] n (fun g' v11 v13 wq => ∃ (q : Nat) (M : List Nat), v13 = .int .i64 (q : Int) ∧ q ≤ n ∧ g' = n - q ∧ Hid (MyI P X i A C p0 ma mc t w sm (L0 ++ M) v11 wq) ∧ Hid (∃ X', Xo P X w v11 wq X' ∧ Cm P X' i wq ∧ Rg P X' wq i p) ∧ Hid (M.length ≤ q ∧ (∀ a, a ∈ M → En t P.s.data.toList p a) ∧ ∀ a, a < q → En t P.s.data.toList p a → sm a = true ∨ a ∈ L0 ++ M))
        case atStart =>
          exact ⟨0, [], rfl, by omega, rfl, by rw [List.append_nil]; exact HMI, HRG0, ⟨Nat.le_refl _, fun a h => absurd h (List.not_mem_nil), fun a h => absurd h (Nat.not_lt_zero a)⟩⟩
        case round =>
          obtain ⟨q, M, rfl, hq, hg', HMq, HXq, HQ⟩ := hrel
          have HG4 : Hid _ := hg'
          clear hg'
          by_cases hqn : q < n
          · have HQN : Hid (q < n) := hqn
            obtain ⟨X2, xo, cmq, rgq⟩ := HXq.out
            obtain ⟨x', y', _, _, _, _, ce, _, hb⟩ := rgq
            have bx := (hb t o HT.out.1 HT.out.2).1.c q (by rw [HN1.out]; exact hqn)
            have sq := HMq.out.seen.c q (by rw [HN1.out]; exact hqn)
            have c3 := HMq.out.cs.c3
            have er := HMq.out.cs.er i HI.out
            rw [HN1.out] at er ce
            clear xo cmq hb
            obtain ⟨be, hbe⟩ : ∃ be, enB t P.s.data.toList p q = be := ⟨_, rfl⟩
            obtain ⟨bs, hbs⟩ : ∃ bs, sm q = bs := ⟨_, rfl⟩
            have HBE : Hid (enB t P.s.data.toList p q = be) := hbe
            have HBS : Hid (sm q = bs) := hbs
            rw [hbe] at bx
            rw [hbs] at sq
            clear hbe hbs
            have hI := HI.out
            have same : (be = false ∨ bs = true) → Hid (M.length ≤ q + 1 ∧ (∀ a, a ∈ M → En t P.s.data.toList p a) ∧ ∀ a, a < q + 1 → En t P.s.data.toList p a → sm a = true ∨ a ∈ L0 ++ M) := by
              intro hh
              refine ⟨Nat.le_succ_of_le HQ.out.1, HQ.out.2.1, fun a ha hE => ?_⟩
              by_cases haq : a = q
              · subst haq
                rcases hh with hh | hh
                · have := HBE.out; rw [hh] at this; rw [enB_iff.2 hE] at this; cases this
                · exact .inl (by rw [HBS.out]; exact hh)
              · exact HQ.out.2.2 a (by omega) hE
            have HSAME : Hid ((be = false ∨ bs = true) → Hid (M.length ≤ q + 1 ∧ (∀ a, a ∈ M → En t P.s.data.toList p a) ∧ ∀ a, a < q + 1 → En t P.s.data.toList p a → sm a = true ∨ a ∈ L0 ++ M)) := same
            clear same
            cases be
            · go_wp2_with fail
              go_roundg (n - (q + 1))
              case measure => have := HG4.out; omega
              case rel => exact ⟨q + 1, M, rfl, by omega, rfl, HMq, HXq, HSAME.out (by simp)⟩
            · cases bs
              · obtain ⟨i3, hi3, hz3, hs3, hy3⟩ := info_parts Rr.info3
                obtain ⟨nl, hnl⟩ : ∃ nl, (L0 ++ M).length = nl := ⟨_, rfl⟩
                have HNL : Hid ((L0 ++ M).length = nl) := hnl
                have hnlb : nl ≤ 2199023255552 := by have := HKB.out; have := HQ.out.1; have e := HKL.out; rw [List.length_append] at hnl; omega
                have O2 : Hid ((wr.alloc (.cells #[.int .i64 ((q : Nat) : Int)] 3)).ownsRow (w.heap.size + 1) 3 1 u11 nl (nL (L0 ++ M))) := by
                  have := HMq.out.row
                  rw [hnl] at this
                  exact World.ownsRow.alloc (w := wr) this _
                have hbase : w.heap.size + 1 ≤ (wr.alloc (.cells #[.int .i64 ((q : Nat) : Int)] 3)).heap.size := by
                  have := HMq.out.seen.lt
                  rw [World.size_alloc]
                  omega
                have HBASE : Hid (w.heap.size + 1 ≤ (wr.alloc (.cells #[.int .i64 ((q : Nat) : Int)] 3)).heap.size) := hbase
                clear hnl hbase
                go_wp2_with (at_builtin; refine wpList_append_own_at _ rfl (.tmp 94) (.tmp 96) 66 rfl (w.heap.size + 1) 3 i3 (.int .i64 0) 1 8 Tryd.underlying66 hi3 hz3 hs3 hy3 rfl (by decide) _ _ _ rfl O2.out ⟨wr.heap.size, 0, none⟩ 1 1 [.int .i64 ((q : Nat) : Int)] rfl rfl ?c1 ?c2 ?c3 ?c4 ?c5 ?_)
                case c1 => exact cell_one_new _ _ _
                case c2 => intro y hy; simp at hy; subst hy; rfl
                case c3 => unfold maxLen; omega
                case c4 => omega
                case c5 => first | exact HBASE.out | simpa using HBASE.out
                intro v1 w8 hown1 hgrow1 _ hat1
                have hEn : En t P.s.data.toList p q := enB_iff.1 HBE.out
                have PU := MyI.push (p := p) (q := q) HK.out HAC.out.2.2 HI.out HAC.out.1.2 HAC.out.2.1.2 HMq.out HXq.out ⟨by have := HN1.out; omega, .step p q HPL.out.2 hEn⟩ (by rw [HNL.out]; exact hown1) ((World.grownBy_alloc _ _ _).trans hgrow1) (by
                  rcases hat1 with h | h
                  · exact .inl h
                  · exact .inr ⟨_, h, by first | exact Nat.le_succ _ | (rw [World.size_alloc]; exact Nat.le_succ _)⟩)
                have HP1 : Hid _ := PU.1
                have HP2 : Hid _ := PU.2
                have HQ2 : Hid ((M ++ [q]).length ≤ q + 1 ∧ (∀ a, a ∈ M ++ [q] → En t P.s.data.toList p a) ∧ ∀ a, a < q + 1 → En t P.s.data.toList p a → sm a = true ∨ a ∈ L0 ++ (M ++ [q])) := by
                  refine ⟨by have := HQ.out.1; simp; omega, fun a ha => ?_, fun a ha hE => ?_⟩
                  · rcases List.mem_append.1 ha with h | h
                    · exact HQ.out.2.1 a h
                    · rw [List.mem_singleton] at h; rw [h]; exact hEn
                  · by_cases haq : a = q
                    · exact .inr (by simp [haq])
                    · rcases HQ.out.2.2 a (by omega) hE with h | h
                      · exact .inl h
                      · exact .inr (by rw [← List.append_assoc]; exact List.mem_append.2 (.inl h))
                rw [List.append_assoc] at HP1
                clear PU hown1 hgrow1 hat1 c3 er ce bx sq
                go_wp2_with fail
                go_roundg (n - (q + 1))
                case measure => have := HG4.out; have := HQN.out; omega
                case rel => exact ⟨q + 1, M ++ [q], rfl, HQN.out, rfl, HP1, HP2, HQ2⟩
              · go_wp2_with fail
                go_roundg (n - (q + 1))
                case measure => have := HG4.out; omega
                case rel => exact ⟨q + 1, M, rfl, by omega, rfl, HMq, HXq, HSAME.out (by simp)⟩
          · go_wp2_with fail
            have hu := uns_put (sn' := sm) HSX.out (fun a => by rw [HSM.out]) n
            rw [if_pos hpn] at hu
            have hg0 := HG.out
            rw [List.length_append, List.length_singleton, ← hu, Nat.add_mul] at hg0
            have hml := HQ.out.1
            have hll : (L0 ++ M).length = L0.length + M.length := List.length_append
            go_roundg (uns n sm * (n + 1) + (L0 ++ M).length)
            case measure => omega
            case rel =>
              refine ⟨sm, L0 ++ M, HMq, ⟨?_, fun a b h1 h2 => ?_⟩, ⟨rfl, by omega⟩⟩
              · rcases HC.out.1 with h | h
                · rcases List.mem_append.1 h with h | h
                  · exact .inl (List.mem_append.2 (.inl h))
                  · rw [List.mem_singleton] at h; exact .inr (by rw [HSM.out, h]; exact if_pos rfl)
                · refine .inr ?_
                  rw [HSM.out]
                  show (if p0 = p then true else sn p0) = true
                  split
                  · rfl
                  · exact h
              · by_cases hap : a = p
                · subst hap
                  exact HQ.out.2.2 b (by have := h2.2.1; have := HN1.out; have e : P.s.data.toList.length = P.s.size := Array.length_toList
                                         omega) h2
                · rw [HSM.out] at h1
                  have h1' : (if a = p then true else sn a) = true := h1
                  rw [if_neg hap] at h1'
                  rcases HC.out.2 a b h1' h2 with h | h
                  · refine .inl ?_
                    rw [HSM.out]
                    show (if b = p then true else sn b) = true
                    split
                    · rfl
                    · exact h
                  · rcases List.mem_append.1 h with h | h
                    · exact .inr (List.mem_append.2 (.inl h))
                    · rw [List.mem_singleton] at h; exact .inl (by rw [HSM.out, h]; exact if_pos rfl)
      · go_wp2_with fail
        go_roundg (uns n sn * (n + 1) + L0.length)
        case measure => have := HG.out; rw [List.length_append, List.length_singleton] at this; omega
        case rel =>
          refine ⟨sn, L0, ?_, ⟨?_, fun a b h1 h2 => ?_⟩, ⟨rfl, by have := HG.out; rw [List.length_append, List.length_singleton] at this; omega⟩⟩
          · have h := HM.out
            refine ⟨h.cs, h.cm, h.seen, by rw [HKL.out]; exact HR0.out, h.en, h.cu, h.snl, fun a ha => h.tol a (List.mem_append.2 (.inl ha)), h.fq⟩
          · rcases HC.out.1 with h | h
            · rcases List.mem_append.1 h with h | h
              · exact .inl h
              · rw [List.mem_singleton] at h; rw [h]; exact .inr HSX.out
            · exact .inr h
          · rcases HC.out.2 a b h1 h2 with h | h
            · exact .inl h
            · rcases List.mem_append.1 h with h | h
              · exact .inr h
              · rw [List.mem_singleton] at h; rw [h]; exact .inl HSX.out
end Go.Proofs.YtkjcnnecdclgfaaDoor
namespace Go.Proofs.YtkjcnnecdclgfaaDoor
open Go.RowKit Go.Shelf

/-- The chart while node i is worked out from a place at: right below i; of node i right but at that place, which is marked. -/
structure Cw (P : Cp) (X : Nat → Prop) (i at_ : Nat) (W : World) : Prop where
  done : ∀ j, j < i → ∀ p, p ≤ P.s.size → ∃ x, W.cell? ⟨P.d j, p, none⟩ = some (.bool x) ∧ (x = true → Rg P X W j p)
  mine : ∀ p, p ≤ P.s.size → ∃ x, W.cell? ⟨P.d i, p, none⟩ = some (.bool x) ∧ (x = true → p ≠ at_ → Rg P X W i p)
  ends : ∀ j, j ≤ i → ∀ p, p ≤ P.s.size → ∃ v, W.cell? ⟨P.e j, p, none⟩ = some v
  cuts : ∀ j, j ≤ i → ∀ p, p ≤ P.s.size → ∃ v, W.cell? ⟨P.k j, p, none⟩ = some v
theorem Cw.below {P : Cp} {X : Nat → Prop} {i at_ c : Nat} {W : World} (h : Cw P X i at_ W) (hc : c < i) : Cm P X c W :=
  ⟨fun j hj _ p hp => h.done j (by omega) p hp, fun j hj _ p hp => h.ends j (by omega) p hp, fun j hj _ p hp => h.cuts j (by omega) p hp⟩
theorem Cw.free {P : Cp} {X X' : Nat → Prop} {i at_ : Nat} {A : World} (h : Cw P X i at_ A) (hX : ∀ b, X' b → X b ∨ A.heap.size ≤ b) : Cw P X' i at_ A :=
  ⟨fun j hj p hp => by obtain ⟨x, h1, h2⟩ := h.done j hj p hp; exact ⟨x, h1, fun e => (h2 e).free hX⟩, fun p hp => by obtain ⟨x, h1, h2⟩ := h.mine p hp; exact ⟨x, h1, fun e n => (h2 e n).free hX⟩, h.ends, h.cuts⟩
theorem rg_step {P : Cp} {X Y : Nat → Prop} {c j p : Nat} {A B : World} (K : Ck P) (hA : P.base ≤ A.heap.size) (hj : j < P.re.length) (hc : c < j) (h : Rg P X A j p) (k : Fq P c Y A B) (hY : ∀ b, Y b → X b) (hX : ∀ b, X b → P.base ≤ b) : Rg P X B j p := by
  obtain ⟨x, y, h1, h2, h3, h4, h5, h6, h7⟩ := h
  have e1 := k.block (P.e j) (Nat.lt_of_lt_of_le (K.le j hj) hA) (fun t j' e => by rw [K.ke j hj] at e; injection e with e; injection e with e1 e2; omega) (fun hx => by have := hX _ (hY _ hx); have := K.le j hj; omega)
  have e2 := k.block (P.k j) (Nat.lt_of_lt_of_le (K.lk j hj) hA) (fun t j' e => by rw [K.kk j hj] at e; injection e with e; injection e with e1 e2; omega) (fun hx => by have := hX _ (hY _ hx); have := K.lk j hj; omega)
  refine ⟨x, y, ⟨h1.1, Nat.lt_of_lt_of_le h1.2 k.size⟩, ⟨h2.1, Nat.lt_of_lt_of_le h2.2 k.size⟩, h3, h4, by rw [World.cell?_of_block (a := ⟨P.e j, p, none⟩) e1]; exact h5, by rw [World.cell?_of_block (a := ⟨P.k j, p, none⟩) e2]; exact h6, fun t o ht e => ?_⟩
  obtain ⟨b1, b2⟩ := h7 t o ht e
  exact ⟨b1.keep k (K.kn x h1.1) (fun hy => h3 (hY x hy)), b2.keep k (K.kn y h2.1) (fun hy => h4 (hY y hy))⟩
/-- A node below has been worked out. -/
theorem Cw.step {P : Cp} {X Y : Nat → Prop} {c i at_ : Nat} {A B : World} (K : Ck P) (hA : P.base ≤ A.heap.size) (hi : i < P.re.length) (hc : c < i) (h : Cw P X i at_ A) (k : Fq P c Y A B) (hY : ∀ b, Y b → X b) (hX : ∀ b, X b → P.base ≤ b) (hm : Cm P X c B) : Cw P X i at_ B := by
  have blk : ∀ b t j, j < P.re.length → c < j → P.K b = some (t, j) → b < P.base → B.heap[b]? = A.heap[b]? := fun b t j hj hcj hk hb => k.block b (Nat.lt_of_lt_of_le hb hA) (fun t' j' e => by rw [hk] at e; injection e with e; injection e with e1 e2; omega) (fun hy => by have := hX _ (hY _ hy); omega)
  refine ⟨fun j hj p hp => ?_, fun p hp => ?_, fun j hj p hp => ?_, fun j hj p hp => ?_⟩
  · by_cases hjc : j ≤ c
    · exact hm.done j hjc (by omega) p hp
    · obtain ⟨x, h1, h2⟩ := h.done j hj p hp
      exact ⟨x, by rw [World.cell?_of_block (a := ⟨P.d j, p, none⟩) (blk _ 0 j (by omega) (by omega) (K.kd j (by omega)) (K.ld j (by omega)))]; exact h1, fun e => rg_step K hA (by omega) (by omega) (h2 e) k hY hX⟩
  · obtain ⟨x, h1, h2⟩ := h.mine p hp
    exact ⟨x, by rw [World.cell?_of_block (a := ⟨P.d i, p, none⟩) (blk _ 0 i hi hc (K.kd i hi) (K.ld i hi))]; exact h1, fun e n => rg_step K hA hi hc (h2 e n) k hY hX⟩
  · by_cases hjc : j ≤ c
    · exact hm.ends j hjc (by omega) p hp
    · rw [World.cell?_of_block (a := ⟨P.e j, p, none⟩) (blk _ 1 j (by omega) (by omega) (K.ke j (by omega)) (K.le j (by omega)))]
      exact h.ends j hj p hp
  · by_cases hjc : j ≤ c
    · exact hm.cuts j hjc (by omega) p hp
    · rw [World.cell?_of_block (a := ⟨P.k j, p, none⟩) (blk _ 2 j (by omega) (by omega) (K.kk j (by omega)) (K.lk j (by omega)))]
      exact h.cuts j hj p hp
end Go.Proofs.YtkjcnnecdclgfaaDoor
namespace Go.Proofs.YtkjcnnecdclgfaaDoor
open Go.RowKit Go.Shelf

theorem Rg.cell {P : Cp} {X : Nat → Prop} {A B : World} {j p : Nat} (h : Rg P X A j p) (hs : A.heap.size ≤ B.heap.size) (he : B.cell? ⟨P.e j, p, none⟩ = A.cell? ⟨P.e j, p, none⟩) (hk : B.cell? ⟨P.k j, p, none⟩ = A.cell? ⟨P.k j, p, none⟩) (hb : ∀ b, P.base ≤ b → B.heap[b]? = A.heap[b]?) : Rg P X B j p := by
  obtain ⟨x, y, h1, h2, h3, h4, h5, h6, h7⟩ := h
  refine ⟨x, y, ⟨h1.1, Nat.lt_of_lt_of_le h1.2 hs⟩, ⟨h2.1, Nat.lt_of_lt_of_le h2.2 hs⟩, h3, h4, by rw [he]; exact h5, by rw [hk]; exact h6, fun t o ht e => ?_⟩
  obtain ⟨b1, b2⟩ := h7 t o ht e
  exact ⟨b1.same (hb x h1.1) hs, b2.same (hb y h2.1) hs⟩
theorem Ck.ne_de {P : Cp} (K : Ck P) {i j : Nat} (hi : i < P.re.length) (hj : j < P.re.length) : P.d i ≠ P.e j := fun e => by
  have h := K.kd i hi; rw [e, K.ke j hj] at h; injection h with h; injection h with h1 h2; cases h1
theorem Ck.ne_dk {P : Cp} (K : Ck P) {i j : Nat} (hi : i < P.re.length) (hj : j < P.re.length) : P.d i ≠ P.k j := fun e => by
  have h := K.kd i hi; rw [e, K.kk j hj] at h; injection h with h; injection h with h1 h2; cases h1
theorem Ck.ne_ek {P : Cp} (K : Ck P) {i j : Nat} (hi : i < P.re.length) (hj : j < P.re.length) : P.e i ≠ P.k j := fun e => by
  have h := K.ke i hi; rw [e, K.kk j hj] at h; injection h with h; injection h with h1 h2; cases h1
theorem Ck.dd {P : Cp} (K : Ck P) {i j : Nat} (hi : i < P.re.length) (hj : j < P.re.length) (e : P.d i = P.d j) : i = j := by
  have h := K.kd i hi; rw [e, K.kd j hj] at h; injection h with h; injection h with h1 h2; exact h2.symm
theorem Ck.ee {P : Cp} (K : Ck P) {i j : Nat} (hi : i < P.re.length) (hj : j < P.re.length) (e : P.e i = P.e j) : i = j := by
  have h := K.ke i hi; rw [e, K.ke j hj] at h; injection h with h; injection h with h1 h2; exact h2.symm
theorem Ck.kk' {P : Cp} (K : Ck P) {i j : Nat} (hi : i < P.re.length) (hj : j < P.re.length) (e : P.k i = P.k j) : i = j := by
  have h := K.kk i hi; rw [e, K.kk j hj] at h; injection h with h; injection h with h1 h2; exact h2.symm
theorem set_off {W : World} {b o b' o' : Nat} {v : Value} (h : b ≠ b' ∨ o ≠ o') : (W.setCell ⟨b, o, none⟩ v).cell? ⟨b', o', none⟩ = W.cell? ⟨b', o', none⟩ :=
  World.cell?_setCell_other _ _ _ _ (by intro e; injection e with e1 e2; rcases h with h | h; exact h e1; exact h e2)
/-- The place is marked. -/
theorem Cm.start {P : Cp} {X : Nat → Prop} {i at_ : Nat} {A : World} (K : Ck P) (hi : i < P.re.length) (h : Cm P X i A) (ha : at_ ≤ P.s.size) : Cw P X i at_ (A.setCell ⟨P.d i, at_, none⟩ (.bool true)) ∧ (A.setCell ⟨P.d i, at_, none⟩ (.bool true)).cell? ⟨P.d i, at_, none⟩ = some (.bool true) := by
  have rgs : ∀ j p, j < P.re.length → Rg P X A j p → Rg P X (A.setCell ⟨P.d i, at_, none⟩ (.bool true)) j p := fun j p hj hr =>
    hr.cell (by simp [World.setCell]) (set_off (.inl (K.ne_de hi hj))) (set_off (.inl (K.ne_dk hi hj))) (fun b hb => Below.heap_setCell _ _ _ _ (by have := K.ld i hi; show b ≠ P.d i; omega))
  obtain ⟨x0, h0, _⟩ := h.done i (Nat.le_refl _) hi at_ ha
  have same : (A.setCell ⟨P.d i, at_, none⟩ (.bool true)).cell? ⟨P.d i, at_, none⟩ = some (.bool true) := World.cell?_setCell_same' _ _ _ (by rw [h0]; rfl)
  refine ⟨⟨fun j hj p hp => ?_, fun p hp => ?_, fun j hj p hp => ?_, fun j hj p hp => ?_⟩, same⟩
  · obtain ⟨x, h1, h2⟩ := h.done j (by omega) (by omega) p hp
    exact ⟨x, by rw [set_off (.inl (fun e => by have := K.dd hi (by omega) e; omega))]; exact h1, fun e => rgs j p (by omega) (h2 e)⟩
  · by_cases hpa : p = at_
    · rw [hpa]; exact ⟨true, same, fun _ n => absurd rfl n⟩
    · obtain ⟨x, h1, h2⟩ := h.done i (Nat.le_refl _) hi p hp
      exact ⟨x, by rw [set_off (.inr (fun e => hpa e.symm))]; exact h1, fun e _ => rgs i p hi (h2 e)⟩
  · rw [set_off (.inl (K.ne_de hi (by omega)))]; exact h.ends j hj (by omega) p hp
  · rw [set_off (.inl (K.ne_dk hi (by omega)))]; exact h.cuts j hj (by omega) p hp
/-- What is worked out is laid down. -/
theorem Cw.fin {P : Cp} {X : Nat → Prop} {i at_ x y : Nat} {A : World} {t : Rx} {o : Nat} (K : Ck P) (hi : i < P.re.length) (ht : Tr P.re t o) (he : o + t.sz = i + 1) (h : Cw P X i at_ A) (ha : at_ ≤ P.s.size)
    (hx : P.base ≤ x ∧ ¬ X x) (hy : P.base ≤ y ∧ ¬ X y) (bx : Bl A x (P.s.size + 1) (enB t P.s.data.toList at_)) (by_ : Bl A y (P.s.size + 1) (knB t P.s.data.toList at_)) :
    let B := (A.setCell ⟨P.e i, at_, none⟩ (.slice (some ⟨x, 0, none⟩) (P.s.size + 1) (P.s.size + 1))).setCell ⟨P.k i, at_, none⟩ (.slice (some ⟨y, 0, none⟩) (P.s.size + 1) (P.s.size + 1))
    Cm P X i B ∧ Rg P X B i at_ := by
  intro B
  have hsz : B.heap.size = A.heap.size := by simp [B, World.setCell]
  have far : ∀ b, P.base ≤ b → B.heap[b]? = A.heap[b]? := fun b hb =>
    (Below.heap_setCell _ _ _ _ (by have := K.lk i hi; show b ≠ P.k i; omega)).trans (Below.heap_setCell _ _ _ _ (by have := K.le i hi; show b ≠ P.e i; omega))
  have oth : ∀ b p, (b ≠ P.e i ∨ p ≠ at_) → (b ≠ P.k i ∨ p ≠ at_) → B.cell? ⟨b, p, none⟩ = A.cell? ⟨b, p, none⟩ := fun b p h1 h2 => by
    show ((A.setCell _ _).setCell _ _).cell? _ = _
    rw [set_off (h2.imp (fun h e => h e.symm) (fun h e => h e.symm)), set_off (h1.imp (fun h e => h e.symm) (fun h e => h e.symm))]
  have rgs : ∀ j p, j < P.re.length → (j ≠ i ∨ p ≠ at_) → Rg P X A j p → Rg P X B j p := fun j p hj hn hr =>
    hr.cell (Nat.le_of_eq hsz.symm) (oth _ _ (hn.imp (fun h e => h (K.ee hj hi e)) id) (.inl (K.ne_ek hj hi))) (oth _ _ (.inl (fun e => K.ne_ek hi hj e.symm)) (hn.imp (fun h e => h (K.kk' hj hi e)) id)) far
  obtain ⟨ve, hve⟩ := h.ends i (Nat.le_refl _) at_ ha
  obtain ⟨vk, hvk⟩ := h.cuts i (Nat.le_refl _) at_ ha
  have ce : B.cell? ⟨P.e i, at_, none⟩ = some (.slice (some ⟨x, 0, none⟩) (P.s.size + 1) (P.s.size + 1)) := by
    show ((A.setCell _ _).setCell _ _).cell? _ = _
    rw [set_off (.inl (fun e => K.ne_ek hi hi e.symm))]
    exact World.cell?_setCell_same' _ _ _ (by rw [hve]; rfl)
  have ck : B.cell? ⟨P.k i, at_, none⟩ = some (.slice (some ⟨y, 0, none⟩) (P.s.size + 1) (P.s.size + 1)) :=
    World.cell?_setCell_same' _ _ _ (by rw [set_off (.inl (K.ne_ek hi hi)), hvk]; rfl)
  have rg : Rg P X B i at_ := by
    refine ⟨x, y, ⟨hx.1, by rw [hsz]; exact bx.lt⟩, ⟨hy.1, by rw [hsz]; exact by_.lt⟩, hx.2, hy.2, ce, ck, fun t' o' ht' e' => ?_⟩
    obtain ⟨e1, _⟩ := tr_uniq t o t' o' ht ht' (by omega)
    subst e1
    exact ⟨bx.same (far x hx.1) (Nat.le_of_eq hsz.symm), by_.same (far y hy.1) (Nat.le_of_eq hsz.symm)⟩
  have one : ∀ b j p, b = P.e j ∨ b = P.k j → j ≤ i → (∃ v, A.cell? ⟨b, p, none⟩ = some v) → ∃ v, B.cell? ⟨b, p, none⟩ = some v := by
    intro b j p _ _ hv
    by_cases h1 : b ≠ P.e i ∨ p ≠ at_
    · by_cases h2 : b ≠ P.k i ∨ p ≠ at_
      · rw [oth b p h1 h2]; exact hv
      · have e1 : b = P.k i := Classical.byContradiction fun n => h2 (.inl n)
        have e2 : p = at_ := Classical.byContradiction fun n => h2 (.inr n)
        rw [e1, e2]; exact ⟨_, ck⟩
    · have e1 : b = P.e i := Classical.byContradiction fun n => h1 (.inl n)
      have e2 : p = at_ := Classical.byContradiction fun n => h1 (.inr n)
      rw [e1, e2]; exact ⟨_, ce⟩
  refine ⟨⟨fun j hj hl p hp => ?_, fun j hj hl p hp => one _ j p (.inl rfl) hj (h.ends j hj p hp), fun j hj hl p hp => one _ j p (.inr rfl) hj (h.cuts j hj p hp)⟩, rg⟩
  have cd : B.cell? ⟨P.d j, p, none⟩ = A.cell? ⟨P.d j, p, none⟩ := oth _ _ (.inl (K.ne_de hl hi)) (.inl (K.ne_dk hl hi))
  rw [cd]
  by_cases hji : j = i
  · subst hji
    obtain ⟨z, h1, h2⟩ := h.mine p hp
    refine ⟨z, h1, fun e => ?_⟩
    by_cases hpa : p = at_
    · rw [hpa]; exact rg
    · exact rgs j p hl (.inr hpa) (h2 e hpa)
  · obtain ⟨z, h1, h2⟩ := h.done j (by omega) p hp
    exact ⟨z, h1, fun e => rgs j p hl (.inl hji) (h2 e)⟩
end Go.Proofs.YtkjcnnecdclgfaaDoor
namespace Go.Proofs.YtkjcnnecdclgfaaDoor
open Go.RowKit Go.Shelf
attribute [local go_sem] Oper.semAt_some

/-- A store into a row of a node. -/
theorem fq_set {P : Cp} {i z t j o : Nat} {W : World} {v : Value} (X : Nat → Prop) (hk : P.K z = some (t, j)) (hj : j ≤ i) : Fq P i X W (W.setCell ⟨z, o, none⟩ v) :=
  ⟨rfl, rfl, rfl, by simp [World.setCell], fun b o' _ => World.frozen?_setCell _ _ _ _, fun b _ h _ => Below.heap_setCell _ _ _ _ (by
    intro e
    have e' : b = z := e
    have := h t j (by rw [e']; exact hk)
    omega)⟩
theorem node_at {P : Cp} {W : World} (h : Cs P W) {i : Nat} {n : Nd} (hn : P.re[i]? = some n) : NdAt W P.g (P.o + i * 7) n := by
  obtain ⟨p, n', s, hre, hp, hn'⟩ := split_at P.re i (List.getElem?_eq_some_iff.1 hn).1
  have e : n' = n := by rw [hn']; exact (List.getElem?_eq_some_iff.1 hn).2
  have := h.lst.at_.nd p n' s hre
  rw [hp, e] at this
  exact this
end Go.Proofs.YtkjcnnecdclgfaaDoor
namespace Go.Proofs.YtkjcnnecdclgfaaDoor
open Go.RowKit Go.Shelf
attribute [local go_sem] Oper.semAt_some

/-- What stands behind work's head: the node's copy, ends, cuts, stay. -/
structure Hd (P : Cp) (X : Nat → Prop) (i at_ b0 : Nat) (nd : Nd) (W S : World) : Prop where
  cs : Cs P S
  cw : Cw P (fun b => X b ∨ b = b0 + 1 ∨ b = b0 + 2 ∨ b = b0 + 3) i at_ S
  le : W.heap.size ≤ b0
  bs : P.base ≤ b0
  sz : S.heap.size = b0 + 4
  nd : AtN S b0 nd.op nd.m nd.a nd.b
  en : Bl S (b0 + 1) (P.s.size + 1) (fun _ => false)
  cu : Bl S (b0 + 2) (P.s.size + 1) (fun _ => false)
  st : Bl S (b0 + 3) (P.s.size + 1) (fun p => decide (p = at_))
  fq : Fq P i (fun _ => False) W S
theorem Cw.keep {P : Cp} {X : Nat → Prop} {A B : World} {i at_ : Nat} (K : Ck P) (hi : i < P.re.length) (hA : P.base ≤ A.heap.size) (h : Cw P X i at_ A) (k : Fx X A B) (hX : ∀ b, X b → P.base ≤ b) : Cw P X i at_ B := by
  have st : ∀ b, b < P.base → B.heap[b]? = A.heap[b]? := fun b hb => k.block b (by omega) (fun hx => by have := hX _ hx; omega)
  refine ⟨fun j hj p hp => ?_, fun p hp => ?_, fun j hj p hp => ?_, fun j hj p hp => ?_⟩
  · obtain ⟨x, h1, h2⟩ := h.done j hj p hp
    exact ⟨x, by rw [World.cell?_of_block (a := ⟨P.d j, p, none⟩) (st _ (K.ld j (by omega)))]; exact h1, fun e => (h2 e).keep K hA (by omega) k hX⟩
  · obtain ⟨x, h1, h2⟩ := h.mine p hp
    exact ⟨x, by rw [World.cell?_of_block (a := ⟨P.d i, p, none⟩) (st _ (K.ld i hi))]; exact h1, fun e n => (h2 e n).keep K hA hi k hX⟩
  · rw [World.cell?_of_block (a := ⟨P.e j, p, none⟩) (st _ (K.le j (by omega)))]; exact h.ends j hj p hp
  · rw [World.cell?_of_block (a := ⟨P.k j, p, none⟩) (st _ (K.lk j (by omega)))]; exact h.cuts j hj p hp
theorem hd_make {P : Cp} {X : Nat → Prop} {i at_ : Nat} {nd : Nd} {W W1 : World} (K : Ck P) (hi : i < P.re.length) (hat : at_ ≤ P.s.size) (cs : Cs P W1) (cw : Cw P X i at_ W1) (fq : Fq P i (fun _ => False) W W1) (hX : ∀ b, X b → P.base ≤ b ∧ b < W.heap.size) :
    Hd P X i at_ W1.heap.size nd W (((((W1.alloc (.cells #[.int .i64 nd.op, .int .u64 (wd nd.m 0 : Nat), .int .u64 (wd nd.m 1 : Nat), .int .u64 (wd nd.m 2 : Nat), .int .u64 (wd nd.m 3 : Nat), .int .i64 nd.a, .int .i64 nd.b] 34)).alloc (.cells ((List.range (P.s.size + 1)).map fun _ => (.bool false : Value)).toArray 4)).alloc (.cells ((List.range (P.s.size + 1)).map fun _ => (.bool false : Value)).toArray 4)).alloc (.cells ((List.range (P.s.size + 1)).map fun _ => (.bool false : Value)).toArray 4)).setCell ⟨W1.heap.size + 3, at_, none⟩ (.bool true)) := by
  obtain ⟨V1, h1⟩ : ∃ V1, V1 = W1.alloc (.cells #[.int .i64 nd.op, .int .u64 (wd nd.m 0 : Nat), .int .u64 (wd nd.m 1 : Nat), .int .u64 (wd nd.m 2 : Nat), .int .u64 (wd nd.m 3 : Nat), .int .i64 nd.a, .int .i64 nd.b] 34) := ⟨_, rfl⟩
  obtain ⟨V2, h2⟩ : ∃ V2, V2 = V1.alloc (.cells ((List.range (P.s.size + 1)).map fun _ => (.bool false : Value)).toArray 4) := ⟨_, rfl⟩
  obtain ⟨V3, h3⟩ : ∃ V3, V3 = V2.alloc (.cells ((List.range (P.s.size + 1)).map fun _ => (.bool false : Value)).toArray 4) := ⟨_, rfl⟩
  obtain ⟨V4, h4⟩ : ∃ V4, V4 = V3.alloc (.cells ((List.range (P.s.size + 1)).map fun _ => (.bool false : Value)).toArray 4) := ⟨_, rfl⟩
  rw [← h1, ← h2, ← h3, ← h4]
  have s1 : V1.heap.size = W1.heap.size + 1 := by rw [h1]; simp
  have s2 : V2.heap.size = W1.heap.size + 2 := by rw [h2]; simp [s1]
  have s3 : V3.heap.size = W1.heap.size + 3 := by rw [h3]; simp [s2]
  have s4 : V4.heap.size = W1.heap.size + 4 := by rw [h4]; simp [s3]
  have b1 : Below W1.heap.size W1 V1 := by rw [h1]; exact bel_up _ _
  have b2 : Below V1.heap.size V1 V2 := by rw [h2]; exact bel_up _ _
  have b3 : Below V2.heap.size V2 V3 := by rw [h3]; exact bel_up _ _
  have b4 : Below V3.heap.size V3 V4 := by rw [h4]; exact bel_up _ _
  have bb : Below W1.heap.size W1 V4 := below_trans (below_trans (below_trans b1 b2) b3) b4
  have hA : AtN V1 W1.heap.size nd.op nd.m nd.a nd.b := by rw [h1]; exact AtN.new W1 _ _ _ _
  have e1 : Bl V2 (W1.heap.size + 1) (P.s.size + 1) (fun _ => false) := by rw [h2, ← s1]; exact Bl.new V1 _
  have e2 : Bl V3 (W1.heap.size + 2) (P.s.size + 1) (fun _ => false) := by rw [h3, ← s2]; exact Bl.new V2 _
  have e3 : Bl V4 (W1.heap.size + 3) (P.s.size + 1) (fun _ => false) := by rw [h4, ← s3]; exact Bl.new V3 _
  have ob : Ob (W1.heap.size + 3) V4 (V4.setCell ⟨W1.heap.size + 3, at_, none⟩ (.bool true)) := (Ob.refl _ _).set _ _
  have g4 : Fq P i (fun _ => False) W V4 := ⟨bb.os.trans fq.os, bb.tape.trans fq.tape, bb.output.trans fq.output, Nat.le_trans fq.size bb.size, fun b o hb => (World.frozen?_of_block (a := ⟨b, o, none⟩) (bb.block b (Nat.lt_of_lt_of_le hb fq.size))).trans (fq.fz b o hb), fun b hb k1 k2 => (bb.block b (Nat.lt_of_lt_of_le hb fq.size)).trans (fq.block b hb k1 k2)⟩
  have hbs := cs.sz
  have hws := fq.size
  refine ⟨?_, ?_, hws, hbs, by rw [ob.sz]; exact s4, ?_, ?_, ?_, e3.put (by omega) (fun k _ => ?_), g4.far ob.gr (fun r e => by injection e with e; omega)⟩
  · exact cs.far K (fun b hb => (ob.gr.block b (by omega) (fun e => by injection e with e; omega)).trans (bb.block b (by omega))) (by rw [ob.sz, s4]; omega)
  · refine (cw.free (X' := fun b => X b ∨ b = W1.heap.size + 1 ∨ b = W1.heap.size + 2 ∨ b = W1.heap.size + 3) (fun b hb => ?_)).keep K hi hbs ⟨by rw [ob.sz, s4]; omega, fun b hb _ => (ob.gr.block b (by omega) (fun e => by injection e with e; omega)).trans (bb.block b hb)⟩ (fun b hb => ?_)
    · rcases hb with hb | hb
      · exact .inl hb
      · exact .inr (by omega)
    · rcases hb with hb | hb
      · exact (hX b hb).1
      · omega
  · exact ⟨(ob.gr.block _ (by omega) (fun e => by injection e with e; omega)).trans ((below_trans (below_trans b2 b3) b4).block _ (by omega) |>.trans hA.h)⟩
  · exact ((e1.same (b3.block _ (by omega)) b3.size).same (b4.block _ (by omega)) b4.size).other ob (by omega)
  · exact (e2.same (b4.block _ (by omega)) b4.size).other ob (by omega)
  · by_cases hk : k = at_
    · simp [hk]
    · simp [hk]
end Go.Proofs.YtkjcnnecdclgfaaDoor
namespace Go.Proofs.YtkjcnnecdclgfaaDoor
open Go.RowKit Go.Shelf

theorem Fq.drop {P : Cp} {i c : Nat} {X Y : Nat → Prop} {W A B : World} (h : Fq P i X W A) (k : Fq P c Y A B) (hc : c ≤ i) (hY : ∀ b, Y b → W.heap.size ≤ b) : Fq P i X W B :=
  ⟨k.os.trans h.os, k.tape.trans h.tape, k.output.trans h.output, Nat.le_trans h.size k.size, fun b o hb => (k.fz b o (Nat.lt_of_lt_of_le hb h.size)).trans (h.fz b o hb), fun b hb h1 h2 => (k.block b (Nat.lt_of_lt_of_le hb h.size) (fun t j e => Nat.lt_of_le_of_lt hc (h1 t j e)) (fun hy => by have := hY b hy; omega)).trans (h.block b hb h1 h2)⟩
/-- In the midst of a node's work: Y are the blocks of the call's own and the callers'. -/
structure Md (P : Cp) (Y : Nat → Prop) (i at_ : Nat) (W S : World) : Prop where
  cs : Cs P S
  cw : Cw P Y i at_ S
  yb : ∀ b, Y b → P.base ≤ b ∧ b < S.heap.size
  fq : Fq P i (fun _ => False) W S
def Y3 (X : Nat → Prop) (b0 : Nat) : Nat → Prop := fun b => X b ∨ b = b0 + 1 ∨ b = b0 + 2 ∨ b = b0 + 3
def Y4 (X : Nat → Prop) (b0 : Nat) : Nat → Prop := fun b => Y3 X b0 b ∨ b = b0 + 4
theorem Hd.md {P : Cp} {X : Nat → Prop} {i at_ b0 : Nat} {nd : Nd} {W S : World} (h : Hd P X i at_ b0 nd W S) (hX : ∀ b, X b → P.base ≤ b ∧ b < W.heap.size) : Md P (Y3 X b0) i at_ W S :=
  ⟨h.cs, h.cw, fun b hb => by
    have h1 := h.sz
    have h2 := h.bs
    have h3 := h.le
    rcases hb with hb | hb
    · have := hX b hb; omega
    · omega, h.fq⟩
theorem Md.up {P : Cp} {X : Nat → Prop} {i at_ b0 : Nat} {W S : World} (K : Ck P) (hi : i < P.re.length) (h : Md P (Y3 X b0) i at_ W S) (hs : S.heap.size = b0 + 4) (x : Obj) : Md P (Y4 X b0) i at_ W (S.alloc x) := by
  have b := bel_up S x
  have hbs := h.cs.sz
  refine ⟨h.cs.far K (fun b' hb => b.block b' (by omega)) b.size, ?_, fun b' hb => ?_, h.fq.drop (fq_up P i (fun _ => False) S x) (Nat.le_refl _) (fun _ hb => hb.elim)⟩
  · refine (h.cw.free (X' := Y4 X b0) (fun b' hb => ?_)).keep K hi hbs (fx_up _ S x) (fun b' hb => ?_)
    · rcases hb with hb | hb
      · exact .inl hb
      · exact .inr (by omega)
    · rcases hb with hb | hb
      · exact (h.yb b' hb).1
      · omega
  · have e : (S.alloc x).heap.size = S.heap.size + 1 := by simp
    rcases hb with hb | hb
    · have := h.yb b' hb; omega
    · omega
theorem Md.set {P : Cp} {Y : Nat → Prop} {i at_ z k : Nat} {W S : World} (K : Ck P) (hi : i < P.re.length) (h : Md P Y i at_ W S) (hz : Y z) (hw : W.heap.size ≤ z) (v : Value) : Md P Y i at_ W (S.setCell ⟨z, k, none⟩ v) := by
  have ob : Ob z S (S.setCell ⟨z, k, none⟩ v) := (Ob.refl _ _).set _ _
  have hzb := h.yb z hz
  refine ⟨h.cs.far K (fun b hb => ob.gr.block b (by have := h.cs.sz; omega) (fun e => by injection e with e; omega)) ob.gr.size, h.cw.keep K hi h.cs.sz (ob.fx hz) (fun b hb => (h.yb b hb).1), fun b hb => ⟨(h.yb b hb).1, by rw [ob.sz]; exact (h.yb b hb).2⟩, h.fq.far ob.gr (fun r e => by injection e with e; omega)⟩
theorem Md.start {P : Cp} {Y : Nat → Prop} {i at_ c fb A C : Nat} {mf ma mc : Nat → Bool} {t : Rx} {W S : World} (h : Md P Y i at_ W S) (hc : c < i) (bf : Bl S fb (P.s.size + 1) mf) (bA : Bl S A (P.s.size + 1) ma) (bC : Bl S C (P.s.size + 1) mc) : AgI P Y c fb A C mf ma mc t S 0 S :=
  ⟨h.cs, h.cw.below hc, bf, ⟨ma, bA, fun _ _ => ⟨.inl, fun k => k.elim id (fun ⟨_, h1, _⟩ => absurd h1 (Nat.not_lt_zero _))⟩⟩, ⟨mc, bC, fun _ _ => ⟨.inl, fun k => k.elim id (fun ⟨_, h1, _⟩ => absurd h1 (Nat.not_lt_zero _))⟩⟩, Fq.refl _ _ _ _⟩
theorem Md.step {P : Cp} {Y : Nat → Prop} {i at_ c A C : Nat} {W S S' : World} (K : Ck P) (hi : i < P.re.length) (h : Md P Y i at_ W S) (hc : c < i) (cs : Cs P S') (cm : Cm P Y c S') (fq : Fq P c (fun b => b = A ∨ b = C) S S') (yA : Y A) (yC : Y C) (hA : W.heap.size ≤ A) (hC : W.heap.size ≤ C) : Md P Y i at_ W S' :=
  ⟨cs, h.cw.step K h.cs.sz hi hc fq (fun b hb => by rcases hb with rfl | rfl; exact yA; exact yC) (fun b hb => (h.yb b hb).1) cm, fun b hb => ⟨(h.yb b hb).1, Nat.lt_of_lt_of_le (h.yb b hb).2 fq.size⟩, h.fq.drop fq (by omega) (fun b hb => by rcases hb with rfl | rfl; exact hA; exact hC)⟩
theorem Md.again {P : Cp} {Y : Nat → Prop} {i at_ c fb A C k : Nat} {mf ma mc : Nat → Bool} {t : Rx} {W S S' : World} (K : Ck P) (hi : i < P.re.length) (h : Md P Y i at_ W S) (hc : c < i) (g : AgI P Y c fb A C mf ma mc t S k S') (yA : Y A) (yC : Y C) (hA : W.heap.size ≤ A) (hC : W.heap.size ≤ C) : Md P Y i at_ W S' :=
  h.step K hi hc g.cs g.cm g.fq yA yC hA hC
theorem Md.many {P : Cp} {Y : Nat → Prop} {i at_ c A C p0 : Nat} {ma mc sn : Nat → Bool} {L : List Nat} {v : Value} {t : Rx} {W S S' : World} (K : Ck P) (hi : i < P.re.length) (h : Md P Y i at_ W S) (hc : c < i) (g : MyI P Y c A C p0 ma mc t S sn L v S') (yA : Y A) (yC : Y C) (hA : W.heap.size ≤ A) (hC : W.heap.size ≤ C) : Md P Y i at_ W S' := by
  obtain ⟨X', h1, _, _, _, h5⟩ := g.cm
  exact h.step K hi hc g.cs (h5.free (fun b hb => .inl (h1 b hb))) g.fq yA yC hA hC
/-- The end. -/
theorem Md.fin {P : Cp} {X Y : Nat → Prop} {i at_ x y : Nat} {W A : World} {t : Rx} {o : Nat} (K : Ck P) (hi : i < P.re.length) (ht : Tr P.re t o) (he : o + t.sz = i + 1) (h : Md P Y i at_ W A) (ha : at_ ≤ P.s.size) (hX : ∀ b, X b → P.base ≤ b ∧ b < W.heap.size) (hXY : ∀ b, X b → Y b) (yx : Y x) (yy : Y y) (hx : W.heap.size ≤ x) (hy : W.heap.size ≤ y)
    (bx : Bl A x (P.s.size + 1) (enB t P.s.data.toList at_)) (by_ : Bl A y (P.s.size + 1) (knB t P.s.data.toList at_)) (cs : Cs P W) :
    let B := (A.setCell ⟨P.e i, at_, none⟩ (.slice (some ⟨x, 0, none⟩) (P.s.size + 1) (P.s.size + 1))).setCell ⟨P.k i, at_, none⟩ (.slice (some ⟨y, 0, none⟩) (P.s.size + 1) (P.s.size + 1))
    Cs P B ∧ Cm P X i B ∧ Rg P X B i at_ ∧ Fq P i (fun _ => False) W B := by
  intro B
  have hf := Cw.fin K hi ht he (h.cw.free (X' := X) (fun b hb => .inl (hXY b hb))) ha ⟨(h.yb x yx).1, fun e => by have := hX _ e; omega⟩ ⟨(h.yb y yy).1, fun e => by have := hX _ e; omega⟩ bx by_
  have fq : Fq P i (fun _ => False) W B := (h.fq.trans (fq_set _ (K.ke i hi) (Nat.le_refl _))).trans (fq_set _ (K.kk i hi) (Nat.le_refl _))
  exact ⟨cs.keep K fq (fun _ h => h.elim), hf.1, hf.2, fq⟩
/-! What is filled is right. -/
theorem len_sz (s : ByteArray) : s.data.toList.length = s.size := by rw [Array.length_toList]; rfl
theorem bool_eq {a b : Bool} (h : a = true ↔ b = true) : a = b := Bool.eq_iff_iff.2 h
theorem fin_em {s : List UInt8} {z at_ : Nat} (hz : s.length = z) (ha : at_ ≤ z) : (∀ q, q < z + 1 → (if q = at_ then true else false) = enB .em s at_ q) ∧ (∀ q, q < z + 1 → (fun _ => false) q = knB .em s at_ q) := by
  refine ⟨fun q hq => bool_eq ?_, fun q hq => bool_eq ?_⟩
  · rw [enB_iff, En_em]
    constructor
    · intro h
      split at h
      · rename_i e; exact ⟨e.symm, by omega⟩
      · cases h
    · rintro ⟨rfl, _⟩; rw [if_pos rfl]
  · rw [knB_iff]
    constructor
    · intro h; cases h
    · intro h; exact absurd h Kn_em
theorem fin_cl {s : List UInt8} {m : Nat → Bool} {z at_ : Nat} (hz : s.length = z) (ha : at_ ≤ z) : (∀ q, q < z + 1 → (decide (at_ < z) && (if q = at_ + 1 then m (s.getD at_ 0).toNat else false)) = enB (.cl m) s at_ q) ∧ (∀ q, q < z + 1 → (if q = at_ then true else false) = knB (.cl m) s at_ q) := by
  refine ⟨fun q hq => bool_eq ?_, fun q hq => bool_eq ?_⟩
  · rw [enB_iff, En_cl, Bool.and_eq_true, decide_eq_true_iff, hz]
    constructor
    · rintro ⟨h1, h⟩
      split at h
      · rename_i e; exact ⟨e, h1, h⟩
      · cases h
    · rintro ⟨h1, h2, h3⟩; rw [if_pos h1]; exact ⟨h2, h3⟩
  · rw [knB_iff, Kn_cl]
    constructor
    · intro h
      split at h
      · rename_i e; exact ⟨e.symm, by omega⟩
      · cases h
    · rintro ⟨rfl, _⟩; rw [if_pos rfl]
theorem one_from {Q : Nat → Prop} {z at_ : Nat} (ha : at_ ≤ z) : (∃ p, p < z + 1 ∧ decide (p = at_) = true ∧ Q p) ↔ Q at_ := by
  constructor
  · rintro ⟨p, _, e, h⟩
    rw [decide_eq_true_iff] at e
    rw [← e]; exact h
  · intro h
    exact ⟨at_, by omega, by simp, h⟩
theorem fin_cat {s : List UInt8} {a b : Rx} {z at_ : Nat} {m1 m2 m3 m4 : Nat → Bool} (hz : s.length = z) (ha : at_ ≤ z)
    (h1 : ∀ q, q ≤ z → (m1 q = true ↔ (fun _ => false) q = true ∨ ∃ p, p < z + 1 ∧ decide (p = at_) = true ∧ En a s p q))
    (h2 : ∀ q, q ≤ z → (m2 q = true ↔ (fun _ => false) q = true ∨ ∃ p, p < z + 1 ∧ decide (p = at_) = true ∧ Kn a s p q))
    (h3 : ∀ q, q ≤ z → (m3 q = true ↔ (fun _ => false) q = true ∨ ∃ p, p < z + 1 ∧ m1 p = true ∧ En b s p q))
    (h4 : ∀ q, q ≤ z → (m4 q = true ↔ m2 q = true ∨ ∃ p, p < z + 1 ∧ m1 p = true ∧ Kn b s p q)) :
    (∀ q, q < z + 1 → m3 q = enB (.cat a b) s at_ q) ∧ (∀ q, q < z + 1 → m4 q = knB (.cat a b) s at_ q) := by
  have k1 : ∀ q, q ≤ z → (m1 q = true ↔ En a s at_ q) := fun q hq => by rw [h1 q hq, one_from ha]; simp
  have k2 : ∀ q, q ≤ z → (m2 q = true ↔ Kn a s at_ q) := fun q hq => by rw [h2 q hq, one_from ha]; simp
  refine ⟨fun q hq => bool_eq ?_, fun q hq => bool_eq ?_⟩
  · rw [enB_iff, En_cat, h3 q (by omega)]
    constructor
    · rintro (h | ⟨p, hp, e, h⟩)
      · cases h
      · exact ⟨p, (k1 p (by omega)).1 e, h⟩
    · rintro ⟨k, e, h⟩
      have : k ≤ z := by have := e.2.1; omega
      exact .inr ⟨k, by omega, (k1 k this).2 e, h⟩
  · rw [knB_iff, Kn_cat, h4 q (by omega), k2 q (by omega)]
    constructor
    · rintro (h | ⟨p, hp, e, h⟩)
      · exact .inl h
      · exact .inr ⟨p, (k1 p (by omega)).1 e, h⟩
    · rintro (h | ⟨k, e, h⟩)
      · exact .inl h
      · have : k ≤ z := by have := e.2.1; omega
        exact .inr ⟨k, by omega, (k1 k this).2 e, h⟩
theorem fin_alt {s : List UInt8} {a b : Rx} {z at_ : Nat} {m1 m2 m3 m4 : Nat → Bool} (ha : at_ ≤ z)
    (h1 : ∀ q, q ≤ z → (m1 q = true ↔ (fun _ => false) q = true ∨ ∃ p, p < z + 1 ∧ decide (p = at_) = true ∧ En a s p q))
    (h2 : ∀ q, q ≤ z → (m2 q = true ↔ (fun _ => false) q = true ∨ ∃ p, p < z + 1 ∧ decide (p = at_) = true ∧ Kn a s p q))
    (h3 : ∀ q, q ≤ z → (m3 q = true ↔ m1 q = true ∨ ∃ p, p < z + 1 ∧ decide (p = at_) = true ∧ En b s p q))
    (h4 : ∀ q, q ≤ z → (m4 q = true ↔ m2 q = true ∨ ∃ p, p < z + 1 ∧ decide (p = at_) = true ∧ Kn b s p q)) :
    (∀ q, q < z + 1 → m3 q = enB (.alt a b) s at_ q) ∧ (∀ q, q < z + 1 → m4 q = knB (.alt a b) s at_ q) := by
  refine ⟨fun q hq => bool_eq ?_, fun q hq => bool_eq ?_⟩
  · rw [enB_iff, En_alt, h3 q (by omega), h1 q (by omega), one_from ha, one_from ha]; simp
  · rw [knB_iff, Kn_alt, h4 q (by omega), h2 q (by omega), one_from ha, one_from ha]; simp
theorem fin_op {s : List UInt8} {a : Rx} {z at_ : Nat} {m1 m2 : Nat → Bool} (hz : s.length = z) (ha : at_ ≤ z)
    (h1 : ∀ q, q ≤ z → (m1 q = true ↔ (fun _ => false) q = true ∨ ∃ p, p < z + 1 ∧ decide (p = at_) = true ∧ En a s p q))
    (h2 : ∀ q, q ≤ z → (m2 q = true ↔ (fun _ => false) q = true ∨ ∃ p, p < z + 1 ∧ decide (p = at_) = true ∧ Kn a s p q)) :
    (∀ q, q < z + 1 → (if q = at_ then true else m1 q) = enB (.op a) s at_ q) ∧ (∀ q, q < z + 1 → m2 q = knB (.op a) s at_ q) := by
  refine ⟨fun q hq => bool_eq ?_, fun q hq => bool_eq ?_⟩
  · rw [enB_iff, En_op]
    by_cases e : q = at_
    · rw [if_pos e]; exact ⟨fun _ => .inl ⟨e.symm, by omega⟩, fun _ => rfl⟩
    · rw [if_neg e, h1 q (by omega), one_from ha]
      exact ⟨fun h => .inr (h.elim (fun h => by cases h) id), fun h => .inr (h.elim (fun h => absurd h.1.symm e) id)⟩
  · rw [knB_iff, Kn_op, h2 q (by omega), one_from ha]; simp
theorem fin_pl {s : List UInt8} {a : Rx} {z at_ : Nat} {m1 m2 sn : Nat → Bool} (hz : s.length = z) (ha : at_ ≤ z)
    (hs : ∀ p, sn p = true ↔ Rt (En a s) at_ p)
    (h1 : ∀ q, q ≤ z → (m1 q = true ↔ (fun _ => false) q = true ∨ ∃ p, sn p = true ∧ En a s p q))
    (h2 : ∀ q, q ≤ z → (m2 q = true ↔ (fun _ => false) q = true ∨ ∃ p, sn p = true ∧ Kn a s p q)) :
    (∀ q, q < z + 1 → m1 q = enB (.pl a) s at_ q) ∧ (∀ q, q < z + 1 → (if q = at_ then true else m1 q) = enB (.st a) s at_ q) ∧ (∀ q, q < z + 1 → m2 q = knB (.pl a) s at_ q) ∧ (∀ q, q < z + 1 → m2 q = knB (.st a) s at_ q) := by
  have hs' : at_ ≤ s.length := by omega
  have k1 : ∀ q, q ≤ z → (m1 q = true ↔ ∃ k, Rt (En a s) at_ k ∧ En a s k q) := fun q hq => by
    rw [h1 q hq]
    constructor
    · rintro (h | ⟨p, h1, h2⟩)
      · cases h
      · exact ⟨p, (hs p).1 h1, h2⟩
    · rintro ⟨p, h1, h2⟩; exact .inr ⟨p, (hs p).2 h1, h2⟩
  have k2 : ∀ q, q ≤ z → (m2 q = true ↔ ∃ k, Rt (En a s) at_ k ∧ Kn a s k q) := fun q hq => by
    rw [h2 q hq]
    constructor
    · rintro (h | ⟨p, h1, h2⟩)
      · cases h
      · exact ⟨p, (hs p).1 h1, h2⟩
    · rintro ⟨p, h1, h2⟩; exact .inr ⟨p, (hs p).2 h1, h2⟩
  refine ⟨fun q hq => bool_eq ?_, fun q hq => bool_eq ?_, fun q hq => bool_eq ?_, fun q hq => bool_eq ?_⟩
  · rw [enB_iff, En_pl hs', k1 q (by omega)]
  · rw [enB_iff, En_st hs']
    by_cases e : q = at_
    · rw [if_pos e]; exact ⟨fun _ => .inl e.symm, fun _ => rfl⟩
    · rw [if_neg e, k1 q (by omega)]
      exact ⟨.inr, fun h => h.elim (fun h => absurd h.symm e) id⟩
  · rw [knB_iff, Kn_pl hs', k2 q (by omega)]
  · rw [knB_iff, Kn_st hs', k2 q (by omega)]
end Go.Proofs.YtkjcnnecdclgfaaDoor
namespace Go.Proofs.YtkjcnnecdclgfaaDoor
open Go.RowKit Go.Shelf

theorem sh_pos {re : List Nd} {z : List Nat} (h : szs re [] = some z) {i : Nat} {n : Nd} (hn : re[i]? = some n) : (3 ≤ n.op → 0 ≤ n.a) ∧ (n.op = 3 ∨ n.op = 4 → 0 ≤ n.b) := by
  obtain ⟨p, n', s, hre, _, hn'⟩ := split_at re i (List.getElem?_eq_some_iff.1 hn).1
  have e : n' = n := by rw [hn']; exact (List.getElem?_eq_some_iff.1 hn).2
  subst e
  rw [hre, szs_app] at h
  cases h1 : szs p [] with
  | none => rw [h1] at h; cases h
  | some z' =>
    rw [h1] at h
    simp only [Option.bind_some, szs] at h
    cases h2 : ext n' z' with
    | none => rw [h2] at h; cases h
    | some k =>
      unfold ext at h2
      split at h2
      · rename_i h3; exact ⟨fun h => by omega, fun h => by omega⟩
      · split at h2
        · rename_i h4
          split at h2
          · rename_i h5; exact ⟨fun _ => by omega, fun h => by omega⟩
          · cases h2
        · split at h2
          · split at h2
            · rename_i h5; exact ⟨fun _ => by omega, fun _ => by omega⟩
            · cases h2
          · cases h2
theorem rx_pos (t : Rx) : 1 ≤ t.sz := by cases t <;> simp [Rx.sz]
theorem int_of {x : Int} {k : Nat} (h : 0 ≤ x) (e : x.toNat = k) : x = (k : Int) := by omega
/-- What the two stores at the end read. -/
theorem Md.tail {P : Cp} {Y : Nat → Prop} {i at_ : Nat} {W A : World} (K : Ck P) (hi : i < P.re.length) (h : Md P Y i at_ W A) (ha : at_ ≤ P.s.size) (u : Value) :
    A.cell? ⟨P.cb, 3, none⟩ = some (.slice (some ⟨P.eb, 0, none⟩) P.re.length P.ce) ∧ A.cell? ⟨P.eb, i, none⟩ = some (.slice (some ⟨P.e i, 0, none⟩) (P.s.size + 1) (P.s.size + 1)) ∧ A.frozen? ⟨P.e i, at_, none⟩ = false ∧ (∃ v, A.cell? ⟨P.e i, at_, none⟩ = some v) ∧
    (A.setCell ⟨P.e i, at_, none⟩ u).cell? ⟨P.cb, 4, none⟩ = some (.slice (some ⟨P.kb, 0, none⟩) P.re.length P.ck) ∧ (A.setCell ⟨P.e i, at_, none⟩ u).cell? ⟨P.kb, i, none⟩ = some (.slice (some ⟨P.k i, 0, none⟩) (P.s.size + 1) (P.s.size + 1)) ∧ (A.setCell ⟨P.e i, at_, none⟩ u).frozen? ⟨P.k i, at_, none⟩ = false ∧ (∃ v, (A.setCell ⟨P.e i, at_, none⟩ u).cell? ⟨P.k i, at_, none⟩ = some v) := by
  have n1 : P.e i ≠ P.cb := fun e => by have := K.ke i hi; rw [e, K.kcb] at this; cases this
  have n2 : P.e i ≠ P.kb := fun e => by have := K.ke i hi; rw [e, K.kkb] at this; cases this
  refine ⟨h.cs.c3, h.cs.er i hi, h.cs.fe i hi at_, h.cw.ends i (Nat.le_refl _) at_ ha, ?_, ?_, ?_, ?_⟩
  · rw [set_off (.inl n1)]; exact h.cs.c4
  · rw [set_off (.inl n2)]; exact h.cs.kr i hi
  · rw [World.frozen?_setCell]; exact h.cs.fk i hi at_
  · rw [set_off (.inl (K.ne_ek hi hi))]; exact h.cw.cuts i (Nat.le_refl _) at_ ha
theorem nd_cells {S : World} {b : Nat} {op : Int} {m : Nat → Bool} {x y : Int} (h : AtN S b op m x y) : S.cell? ⟨b, 0, none⟩ = some (.int .i64 op) ∧ S.cell? ⟨b, 1, none⟩ = some (.int .u64 (wd m 0 : Nat)) ∧ S.cell? ⟨b, 2, none⟩ = some (.int .u64 (wd m 1 : Nat)) ∧ S.cell? ⟨b, 3, none⟩ = some (.int .u64 (wd m 2 : Nat)) ∧ S.cell? ⟨b, 4, none⟩ = some (.int .u64 (wd m 3 : Nat)) ∧ S.cell? ⟨b, 5, none⟩ = some (.int .i64 x) ∧ S.cell? ⟨b, 6, none⟩ = some (.int .i64 y) := by
  refine ⟨?_, ?_, ?_, ?_, ?_, ?_, ?_⟩ <;> (rw [Lib.cell_of_heap h.h]; rfl)
theorem AtN.same {S S' : World} {b : Nat} {op : Int} {m : Nat → Bool} {x y : Int} (h : AtN S b op m x y) (e : S'.heap[b]? = S.heap[b]?) : AtN S' b op m x y := ⟨e.trans h.h⟩
theorem Md.grow {P : Cp} {Y : Nat → Prop} {i at_ : Nat} {W S S' : World} (K : Ck P) (hi : i < P.re.length) (h : Md P Y i at_ W S) (b : Below S.heap.size S S') : Md P Y i at_ W S' := by
  have fq : Fq P i (fun _ => False) S S' := ⟨b.os, b.tape, b.output, b.size, fun c o hc => World.frozen?_of_block (a := ⟨c, o, none⟩) (b.block c hc), fun c hc _ _ => b.block c hc⟩
  exact ⟨h.cs.far K (fun c hc => b.block c (by have := h.cs.sz; omega)) b.size, h.cw.keep K hi h.cs.sz ⟨b.size, fun c hc _ => b.block c hc⟩ (fun c hc => (h.yb c hc).1), fun c hc => ⟨(h.yb c hc).1, Nat.lt_of_lt_of_le (h.yb c hc).2 b.size⟩, h.fq.trans fq⟩
end Go.Proofs.YtkjcnnecdclgfaaDoor
