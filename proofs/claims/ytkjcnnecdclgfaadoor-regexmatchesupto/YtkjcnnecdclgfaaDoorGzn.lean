import Derived.Test.YtkjcnnecdclgfaaDoorGzm
import Derived.Maps.AppendAt
namespace Go.Proofs.YtkjcnnecdclgfaaDoor
open Go.RowKit Go.Shelf
attribute [local go_sem] Oper.semAt_some

/-- A row of truth values in its own block. -/
structure Bl (W : World) (b n : Nat) (m : Nat → Bool) : Prop where
  c : ∀ i, i < n → W.cell? ⟨b, i, none⟩ = some (.bool (m i))
  f : ∀ o, W.frozen? ⟨b, o, none⟩ = false
  lt : b < W.heap.size
theorem Bl.same {W W' : World} {b n : Nat} {m : Nat → Bool} (h : Bl W b n m) (e : W'.heap[b]? = W.heap[b]?) (hl : W.heap.size ≤ W'.heap.size) : Bl W' b n m :=
  ⟨fun i hi => by rw [World.cell?_of_block (a := ⟨b, i, none⟩) e]; exact h.c i hi, fun o => by rw [World.frozen?_of_block (a := ⟨b, o, none⟩) e]; exact h.f o, Nat.lt_of_lt_of_le h.lt hl⟩
theorem Bl.drew {W : World} {b n : Nat} {m : Nat → Bool} (h : Bl W b n m) : Bl W.drew b n m := ⟨h.c, h.f, h.lt⟩
theorem Bl.drewN {W : World} {b n k : Nat} {m : Nat → Bool} (h : Bl W b n m) : Bl (W.drewN k) b n m := ⟨h.c, h.f, h.lt⟩
theorem Bl.congr {W : World} {b n : Nat} {m m' : Nat → Bool} (h : Bl W b n m) (e : ∀ i, i < n → m i = m' i) : Bl W b n m' := ⟨fun i hi => by rw [← e i hi]; exact h.c i hi, h.f, h.lt⟩
theorem Bl.put {W : World} {b n i : Nat} {m m' : Nat → Bool} {x : Bool} (h : Bl W b n m) (hi : i < n) (e : ∀ k, k < n → m' k = if k = i then x else m k) : Bl (W.setCell ⟨b, i, none⟩ (.bool x)) b n m' := by
  refine ⟨fun k hk => ?_, fun o => by rw [World.frozen?_setCell]; exact h.f o, by simp [World.setCell]; exact h.lt⟩
  rw [e k hk]
  by_cases hki : k = i
  · subst hki
    rw [if_pos rfl]
    exact World.cell?_setCell_same' _ _ _ (by rw [h.c k hi]; rfl)
  · rw [if_neg hki, World.cell?_setCell_other _ _ _ _ (by intro e; injection e; omega)]
    exact h.c k hk
/-- Only block b has turned. -/
structure Ob (b : Nat) (W W' : World) : Prop where
  gr : W.grownBy W' (some b)
  sz : W'.heap.size = W.heap.size
theorem Ob.refl (b : Nat) (W : World) : Ob b W W := ⟨⟨rfl, rfl, rfl, Nat.le_refl _, fun _ _ _ => rfl⟩, rfl⟩
theorem Ob.drew {b : Nat} {A B : World} (h : Ob b A B) : Ob b A B.drew := ⟨grown_trans h.gr (grown_drew _ _), h.sz⟩
theorem Ob.drewN {b k : Nat} {A B : World} (h : Ob b A B) : Ob b A (B.drewN k) := ⟨grown_trans h.gr ⟨rfl, rfl, rfl, Nat.le_refl _, fun _ _ _ => rfl⟩, h.sz⟩
theorem Ob.set {b : Nat} {A B : World} (h : Ob b A B) (k : Nat) (v : Value) : Ob b A (B.setCell ⟨b, k, none⟩ v) := ⟨grown_trans h.gr (grown_set _ _ _ _), by rw [← h.sz]; simp [World.setCell]⟩
theorem Bl.other {W W' : World} {b c n : Nat} {m : Nat → Bool} (h : Bl W c n m) (k : Ob b W W') (hne : b ≠ c) : Bl W' c n m :=
  h.same (k.gr.block c h.lt (by simp; exact fun e => hne e.symm)) (Nat.le_of_eq k.sz.symm)

set_option maxRecDepth 100000 in
set_option maxHeartbeats 4000000 in
theorem radd_any (b c n : Nat) (m m' : Nat → Bool) (w : World) (hP : Bl w b n m) (hQ : Bl w c n m') (hne : b ≠ c) (hn : n ≤ 140737488355328) :
    Calls Tryd.prog 66 #[.slice (some ⟨b, 0, none⟩) n n, .slice (some ⟨c, 0, none⟩) n n] w fun e w' => (∃ v, e = .returned v) ∧ Bl w' b n (fun k => m k || m' k) ∧ Ob b w w' := by
  have HQ : Hid (Bl w c n m') := hQ
  have HP : Hid (Bl w b n m) := hP
  have HN : Hid (b ≠ c) := hne
  clear hP hQ hne
  go_enter Tryd.func66, Tryd.ntmps66
  go_wp2_with fail
  go_loopg [4] n (fun g v wr => ∃ (k : Nat), v = .int .i64 (k : Int) ∧ k ≤ n ∧ g = n - k ∧ Bl wr b n (fun x => m x || (decide (x < k) && m' x)) ∧ Ob b w wr)
  case atStart =>
    refine ⟨0, rfl, by omega, rfl, HP.out.congr (fun i _ => by simp), Ob.refl _ _⟩
  case round =>
    obtain ⟨k, rfl, hk, hg, hb, hu⟩ := hrel
    have HB : Hid (Bl wr b n (fun x => m x || (decide (x < k) && m' x))) := hb
    have HU : Hid (Ob b w wr) := hu
    have HQ1 : Hid (Bl wr c n m') := HQ.out.other hu HN.out
    have HG : Hid (gk = n - k) := hg
    clear hu hg hb
    by_cases hkn : k < n
    · have p0 := HB.out.c k hkn
      have q0 := HQ1.out.c k hkn
      have f0 := HB.out.f k
      have hx : (decide (k < k)) = false := by simp
      simp only [hx, Bool.false_and, Bool.or_false] at p0
      have key : ∀ x : Bool, x = (m k || m' k) → ∀ j, j < n → (m j || (decide (j < k + 1) && m' j)) = if j = k then x else (m j || (decide (j < k) && m' j)) := by
        intro x hx j hj
        by_cases hjk : j = k
        · subst hjk; rw [if_pos rfl, hx]; simp
        · rw [if_neg hjk]
          have e : decide (j < k + 1) = decide (j < k) := by
            rw [decide_eq_decide]; omega
          rw [e]
      have KEY : Hid (∀ x : Bool, x = (m k || m' k) → ∀ j, j < n → (m j || (decide (j < k + 1) && m' j)) = if j = k then x else (m j || (decide (j < k) && m' j))) := key
      clear key
      go_wp2_with fail
      · rename_i hm
        go_roundg (n - (k + 1))
        case measure => have := HG.out; omega
        case rel =>
          exact ⟨k + 1, rfl, by omega, rfl, HB.out.put hkn (KEY.out true (by rw [hm]; rfl)), HU.out.set _ _⟩
      · rename_i hm
        go_roundg (n - (k + 1))
        case measure => have := HG.out; omega
        case rel =>
          exact ⟨k + 1, rfl, by omega, rfl, HB.out.put hkn (KEY.out (m' k) (by simp at hm; rw [hm]; rfl)), HU.out.set _ _⟩
    · go_wp2_with fail
      (try simp only [Exit.inBlock, Exit.then])
      go_end0
      refine ⟨⟨_, rfl⟩, HB.out.congr (fun i hi => ?_), HU.out⟩
      have : i < k := by omega
      simp [this]
end Go.Proofs.YtkjcnnecdclgfaaDoor
namespace Go.Proofs.YtkjcnnecdclgfaaDoor
open Go.RowKit Go.Shelf
attribute [local go_sem] Oper.semAt_some

/-! The reference's chart in memory. -/
def opc : Rx → Int
  | .cl _ => 1
  | .em => 2
  | .cat _ _ => 3
  | .alt _ _ => 4
  | .st _ => 5
  | .pl _ => 6
  | .op _ => 7
theorem tr_op {re : List Nd} {t : Rx} {o : Nat} (h : Tr re t o) : ∃ n, re[o + t.sz - 1]? = some n ∧ n.op = opc t := by
  cases t with
  | cl m => obtain ⟨n, h1, h2, _⟩ := h; exact ⟨n, h1, h2⟩
  | em => obtain ⟨n, h1, h2⟩ := h; exact ⟨n, h1, h2⟩
  | cat a b => obtain ⟨_, _, n, h1, h2, _⟩ := h; exact ⟨n, by rw [show o + (Rx.cat a b).sz - 1 = o + a.sz + b.sz by simp only [Rx.sz]; omega]; exact h1, h2⟩
  | alt a b => obtain ⟨_, _, n, h1, h2, _⟩ := h; exact ⟨n, by rw [show o + (Rx.alt a b).sz - 1 = o + a.sz + b.sz by simp only [Rx.sz]; omega]; exact h1, h2⟩
  | st a => obtain ⟨_, n, h1, h2, _⟩ := h; exact ⟨n, by rw [show o + (Rx.st a).sz - 1 = o + a.sz by simp only [Rx.sz]; omega]; exact h1, h2⟩
  | pl a => obtain ⟨_, n, h1, h2, _⟩ := h; exact ⟨n, by rw [show o + (Rx.pl a).sz - 1 = o + a.sz by simp only [Rx.sz]; omega]; exact h1, h2⟩
  | op a => obtain ⟨_, n, h1, h2, _⟩ := h; exact ⟨n, by rw [show o + (Rx.op a).sz - 1 = o + a.sz by simp only [Rx.sz]; omega]; exact h1, h2⟩
theorem opc_eq {re : List Nd} {t t' : Rx} {o o' : Nat} (h : Tr re t o) (h' : Tr re t' o') (e : o + t.sz = o' + t'.sz) : opc t = opc t' := by
  obtain ⟨n, h1, h2⟩ := tr_op h
  obtain ⟨n', h1', h2'⟩ := tr_op h'
  rw [e, h1'] at h1
  injection h1 with e1
  rw [← h2, ← h2', e1]
/-- A node is the root of one tree. -/
theorem tr_uniq {re : List Nd} (t : Rx) : ∀ (o : Nat) (t' : Rx) (o' : Nat), Tr re t o → Tr re t' o' → o + t.sz = o' + t'.sz → t = t' ∧ o = o' := by
  induction t with
  | cl m =>
    intro o t' o' h h' e
    have k := opc_eq h h' e
    cases t' <;> first | (exact absurd k (by simp only [opc]; decide)) | skip
    obtain ⟨n, h1, _, h3⟩ := h
    obtain ⟨n', h1', _, h3'⟩ := h'
    have eo : o = o' := by simp only [Rx.sz] at e; omega
    subst eo
    rw [h1] at h1'
    injection h1' with e1
    subst e1
    exact ⟨by rw [← h3, ← h3'], rfl⟩
  | em =>
    intro o t' o' h h' e
    have k := opc_eq h h' e
    cases t' <;> first | (exact absurd k (by simp only [opc]; decide)) | skip
    exact ⟨rfl, by simp only [Rx.sz] at e; omega⟩
  | cat a b iha ihb =>
    intro o t' o' h h' e
    have k := opc_eq h h' e
    cases t' <;> first | (exact absurd k (by simp only [opc]; decide)) | skip
    simp only [Rx.sz] at e
    obtain ⟨e1, e2⟩ := ihb _ _ _ h.2.1 h'.2.1 (by omega)
    obtain ⟨e3, e4⟩ := iha _ _ _ h.1 h'.1 e2
    exact ⟨by rw [e1, e3], e4⟩
  | alt a b iha ihb =>
    intro o t' o' h h' e
    have k := opc_eq h h' e
    cases t' <;> first | (exact absurd k (by simp only [opc]; decide)) | skip
    simp only [Rx.sz] at e
    obtain ⟨e1, e2⟩ := ihb _ _ _ h.2.1 h'.2.1 (by omega)
    obtain ⟨e3, e4⟩ := iha _ _ _ h.1 h'.1 e2
    exact ⟨by rw [e1, e3], e4⟩
  | st a iha | pl a iha | op a iha =>
    intro o t' o' h h' e
    have k := opc_eq h h' e
    cases t' <;> first | (exact absurd k (by simp only [opc]; decide)) | skip
    simp only [Rx.sz] at e
    obtain ⟨e3, e4⟩ := iha _ _ _ h.1 h'.1 (by omega)
    exact ⟨by rw [e3], e4⟩
/-- Where the chart's parts stand. -/
structure Cp where
  cb : Nat
  db : Nat
  eb : Nat
  kb : Nat
  d : Nat → Nat
  e : Nat → Nat
  k : Nat → Nat
  cd : Nat
  ce : Nat
  ck : Nat
  lp : Option Addr
  cap : Nat
  g : Nat
  o : Nat
  re : List Nd
  s : ByteArray
  /-- The rows that are written: which, of which node. -/
  K : Nat → Option (Nat × Nat)
  base : Nat
structure Ck (P : Cp) : Prop where
  kd : ∀ i, i < P.re.length → P.K (P.d i) = some (0, i)
  ke : ∀ i, i < P.re.length → P.K (P.e i) = some (1, i)
  kk : ∀ i, i < P.re.length → P.K (P.k i) = some (2, i)
  kcb : P.K P.cb = none
  kdb : P.K P.db = none
  keb : P.K P.eb = none
  kkb : P.K P.kb = none
  kg : P.K P.g = none
  kn : ∀ b, P.base ≤ b → P.K b = none
  lcb : P.cb < P.base
  ldb : P.db < P.base
  leb : P.eb < P.base
  lkb : P.kb < P.base
  lg : P.re ≠ [] → P.g < P.base
  ld : ∀ i, i < P.re.length → P.d i < P.base
  le : ∀ i, i < P.re.length → P.e i < P.base
  lk : ∀ i, i < P.re.length → P.k i < P.base
/-- What never turns. -/
structure Cs (P : Cp) (W : World) : Prop where
  c0 : W.cell? ⟨P.cb, 0, none⟩ = some (.slice P.lp P.re.length P.cap)
  c1 : W.cell? ⟨P.cb, 1, none⟩ = some (.string P.s)
  c2 : W.cell? ⟨P.cb, 2, none⟩ = some (.slice (some ⟨P.db, 0, none⟩) P.re.length P.cd)
  c3 : W.cell? ⟨P.cb, 3, none⟩ = some (.slice (some ⟨P.eb, 0, none⟩) P.re.length P.ce)
  c4 : W.cell? ⟨P.cb, 4, none⟩ = some (.slice (some ⟨P.kb, 0, none⟩) P.re.length P.ck)
  dr : ∀ i, i < P.re.length → W.cell? ⟨P.db, i, none⟩ = some (.slice (some ⟨P.d i, 0, none⟩) (P.s.size + 1) (P.s.size + 1))
  er : ∀ i, i < P.re.length → W.cell? ⟨P.eb, i, none⟩ = some (.slice (some ⟨P.e i, 0, none⟩) (P.s.size + 1) (P.s.size + 1))
  kr : ∀ i, i < P.re.length → W.cell? ⟨P.kb, i, none⟩ = some (.slice (some ⟨P.k i, 0, none⟩) (P.s.size + 1) (P.s.size + 1))
  lst : Lst W P.lp P.g P.o P.cap P.re
  fd : ∀ i, i < P.re.length → ∀ o, W.frozen? ⟨P.d i, o, none⟩ = false
  fe : ∀ i, i < P.re.length → ∀ o, W.frozen? ⟨P.e i, o, none⟩ = false
  fk : ∀ i, i < P.re.length → ∀ o, W.frozen? ⟨P.k i, o, none⟩ = false
  sz : P.base ≤ W.heap.size
/-- Only rows of nodes up to i have turned, and blocks of X. -/
structure Fq (P : Cp) (i : Nat) (X : Nat → Prop) (W W' : World) : Prop where
  os : W'.os = W.os
  tape : W'.tape = W.tape
  output : W'.output = W.output
  size : W.heap.size ≤ W'.heap.size
  fz : ∀ b o, b < W.heap.size → W'.frozen? ⟨b, o, none⟩ = W.frozen? ⟨b, o, none⟩
  block : ∀ b, b < W.heap.size → (∀ t j, P.K b = some (t, j) → i < j) → ¬ X b → W'.heap[b]? = W.heap[b]?
theorem Fq.refl (P : Cp) (i : Nat) (X : Nat → Prop) (W : World) : Fq P i X W W := ⟨rfl, rfl, rfl, Nat.le_refl _, fun _ _ _ => rfl, fun _ _ _ _ => rfl⟩
theorem Fq.trans {P : Cp} {i : Nat} {X : Nat → Prop} {A B C : World} (h : Fq P i X A B) (k : Fq P i X B C) : Fq P i X A C :=
  ⟨k.os.trans h.os, k.tape.trans h.tape, k.output.trans h.output, Nat.le_trans h.size k.size, fun b o hb => (k.fz b o (Nat.lt_of_lt_of_le hb h.size)).trans (h.fz b o hb), fun b hb h1 h2 => (k.block b (Nat.lt_of_lt_of_le hb h.size) h1 h2).trans (h.block b hb h1 h2)⟩
theorem Fq.mono {P : Cp} {i i' : Nat} {X X' : Nat → Prop} {A B : World} (h : Fq P i X A B) (hi : i ≤ i') (hX : ∀ b, X b → X' b) : Fq P i' X' A B :=
  ⟨h.os, h.tape, h.output, h.size, h.fz, fun b hb h1 h2 => h.block b hb (fun t j e => Nat.lt_of_le_of_lt hi (h1 t j e)) (fun hx => h2 (hX b hx))⟩
theorem Fq.none {P : Cp} {i : Nat} {X : Nat → Prop} {A B : World} (h : Fq P i X A B) {b : Nat} (hb : b < A.heap.size) (hk : P.K b = none) (hx : ¬ X b) : B.heap[b]? = A.heap[b]? :=
  h.block b hb (fun t j e => by rw [hk] at e; cases e) hx
theorem Bl.keep {P : Cp} {i : Nat} {X : Nat → Prop} {A B : World} {b n : Nat} {m : Nat → Bool} (h : Bl A b n m) (k : Fq P i X A B) (hk : P.K b = none) (hx : ¬ X b) : Bl B b n m :=
  h.same (k.none h.lt hk hx) k.size
theorem Cs.keep {P : Cp} {i : Nat} {X : Nat → Prop} {A B : World} (K : Ck P) (h : Cs P A) (k : Fq P i X A B) (hX : ∀ b, X b → P.base ≤ b) : Cs P B := by
  have st : ∀ b, b < P.base → P.K b = none → B.heap[b]? = A.heap[b]? := fun b hb hk => k.none (Nat.lt_of_lt_of_le hb h.sz) hk (fun hx => by have := hX b hx; omega)
  have scb := st P.cb K.lcb K.kcb
  have sdb := st P.db K.ldb K.kdb
  have seb := st P.eb K.leb K.keb
  have skb := st P.kb K.lkb K.kkb
  refine ⟨?_, ?_, ?_, ?_, ?_, fun i hi => ?_, fun i hi => ?_, fun i hi => ?_, ?_, fun i hi o => ?_, fun i hi o => ?_, fun i hi o => ?_, Nat.le_trans h.sz k.size⟩
  · rw [World.cell?_of_block (a := ⟨P.cb, 0, none⟩) scb]; exact h.c0
  · rw [World.cell?_of_block (a := ⟨P.cb, 1, none⟩) scb]; exact h.c1
  · rw [World.cell?_of_block (a := ⟨P.cb, 2, none⟩) scb]; exact h.c2
  · rw [World.cell?_of_block (a := ⟨P.cb, 3, none⟩) scb]; exact h.c3
  · rw [World.cell?_of_block (a := ⟨P.cb, 4, none⟩) scb]; exact h.c4
  · rw [World.cell?_of_block (a := ⟨P.db, i, none⟩) sdb]; exact h.dr i hi
  · rw [World.cell?_of_block (a := ⟨P.eb, i, none⟩) seb]; exact h.er i hi
  · rw [World.cell?_of_block (a := ⟨P.kb, i, none⟩) skb]; exact h.kr i hi
  · have L := h.lst
    refine ⟨L.ptr, fun hn => Nat.lt_of_lt_of_le (L.lt hn) k.size, ?_⟩
    by_cases hn : P.re = []
    · rw [hn]
      exact ⟨fun p n s e => by cases p <;> cases e⟩
    · exact L.at_.same (st P.g (K.lg hn) K.kg)
  · rw [k.fz _ _ (Nat.lt_of_lt_of_le (K.ld i hi) h.sz)]; exact h.fd i hi o
  · rw [k.fz _ _ (Nat.lt_of_lt_of_le (K.le i hi) h.sz)]; exact h.fe i hi o
  · rw [k.fz _ _ (Nat.lt_of_lt_of_le (K.lk i hi) h.sz)]; exact h.fk i hi o
/-- What is worked out of a node from a place stands there; no block of X. -/
def Rg (P : Cp) (X : Nat → Prop) (W : World) (j p : Nat) : Prop :=
  ∃ x y, (P.base ≤ x ∧ x < W.heap.size) ∧ (P.base ≤ y ∧ y < W.heap.size) ∧ ¬ X x ∧ ¬ X y ∧ W.cell? ⟨P.e j, p, none⟩ = some (.slice (some ⟨x, 0, none⟩) (P.s.size + 1) (P.s.size + 1)) ∧ W.cell? ⟨P.k j, p, none⟩ = some (.slice (some ⟨y, 0, none⟩) (P.s.size + 1) (P.s.size + 1)) ∧
    ∀ t o, Tr P.re t o → o + t.sz = j + 1 → Bl W x (P.s.size + 1) (enB t P.s.data.toList p) ∧ Bl W y (P.s.size + 1) (knB t P.s.data.toList p)
/-- The chart is right up to node i. -/
structure Cm (P : Cp) (X : Nat → Prop) (i : Nat) (W : World) : Prop where
  done : ∀ j, j ≤ i → j < P.re.length → ∀ p, p ≤ P.s.size → ∃ x, W.cell? ⟨P.d j, p, none⟩ = some (.bool x) ∧ (x = true → Rg P X W j p)
  ends : ∀ j, j ≤ i → j < P.re.length → ∀ p, p ≤ P.s.size → ∃ v, W.cell? ⟨P.e j, p, none⟩ = some v
  cuts : ∀ j, j ≤ i → j < P.re.length → ∀ p, p ≤ P.s.size → ∃ v, W.cell? ⟨P.k j, p, none⟩ = some v
/-- A block of X is written: the chart stays. -/
structure Fx (X : Nat → Prop) (W W' : World) : Prop where
  size : W.heap.size ≤ W'.heap.size
  block : ∀ b, b < W.heap.size → ¬ X b → W'.heap[b]? = W.heap[b]?
theorem Rg.keep {P : Cp} {X : Nat → Prop} {A B : World} {j p : Nat} (K : Ck P) (hA : P.base ≤ A.heap.size) (hj : j < P.re.length) (h : Rg P X A j p) (k : Fx X A B) (hX : ∀ b, X b → P.base ≤ b) : Rg P X B j p := by
  obtain ⟨x, y, h1, h2, h3, h4, h5, h6, h7⟩ := h
  have e1 := k.block (P.e j) (Nat.lt_of_lt_of_le (K.le j hj) hA) (fun hx => by have := hX _ hx; have := K.le j hj; omega)
  have e2 := k.block (P.k j) (Nat.lt_of_lt_of_le (K.lk j hj) hA) (fun hx => by have := hX _ hx; have := K.lk j hj; omega)
  refine ⟨x, y, ⟨h1.1, Nat.lt_of_lt_of_le h1.2 k.size⟩, ⟨h2.1, Nat.lt_of_lt_of_le h2.2 k.size⟩, h3, h4, by rw [World.cell?_of_block (a := ⟨P.e j, p, none⟩) e1]; exact h5, by rw [World.cell?_of_block (a := ⟨P.k j, p, none⟩) e2]; exact h6, fun t o ht e => ?_⟩
  obtain ⟨b1, b2⟩ := h7 t o ht e
  exact ⟨b1.same (k.block x b1.lt h3) k.size, b2.same (k.block y b2.lt h4) k.size⟩
theorem Cm.keep {P : Cp} {X : Nat → Prop} {A B : World} {i : Nat} (K : Ck P) (hA : P.base ≤ A.heap.size) (h : Cm P X i A) (k : Fx X A B) (hX : ∀ b, X b → P.base ≤ b) : Cm P X i B := by
  refine ⟨fun j hj hl p hp => ?_, fun j hj hl p hp => ?_, fun j hj hl p hp => ?_⟩
  · obtain ⟨x, h1, h2⟩ := h.done j hj hl p hp
    have e1 := k.block (P.d j) (Nat.lt_of_lt_of_le (K.ld j hl) hA) (fun hx => by have := hX _ hx; have := K.ld j hl; omega)
    exact ⟨x, by rw [World.cell?_of_block (a := ⟨P.d j, p, none⟩) e1]; exact h1, fun e => (h2 e).keep K hA hl k hX⟩
  · have e1 := k.block (P.e j) (Nat.lt_of_lt_of_le (K.le j hl) hA) (fun hx => by have := hX _ hx; have := K.le j hl; omega)
    obtain ⟨v, hv⟩ := h.ends j hj hl p hp
    exact ⟨v, by rw [World.cell?_of_block (a := ⟨P.e j, p, none⟩) e1]; exact hv⟩
  · have e1 := k.block (P.k j) (Nat.lt_of_lt_of_le (K.lk j hl) hA) (fun hx => by have := hX _ hx; have := K.lk j hl; omega)
    obtain ⟨v, hv⟩ := h.cuts j hj hl p hp
    exact ⟨v, by rw [World.cell?_of_block (a := ⟨P.k j, p, none⟩) e1]; exact hv⟩
/-- Other blocks to be kept free. -/
theorem Rg.free {P : Cp} {X X' : Nat → Prop} {A : World} {j p : Nat} (h : Rg P X A j p) (hX : ∀ b, X' b → X b ∨ A.heap.size ≤ b) : Rg P X' A j p := by
  obtain ⟨x, y, h1, h2, h3, h4, h5⟩ := h
  exact ⟨x, y, h1, h2, fun h => (hX x h).elim h3 (fun k => by omega), fun h => (hX y h).elim h4 (fun k => by omega), h5⟩
theorem Cm.free {P : Cp} {X X' : Nat → Prop} {A : World} {i : Nat} (h : Cm P X i A) (hX : ∀ b, X' b → X b ∨ A.heap.size ≤ b) : Cm P X' i A :=
  ⟨fun j hj hl p hp => by obtain ⟨x, h1, h2⟩ := h.done j hj hl p hp; exact ⟨x, h1, fun e => (h2 e).free hX⟩, h.ends, h.cuts⟩
end Go.Proofs.YtkjcnnecdclgfaaDoor
namespace Go.Proofs.YtkjcnnecdclgfaaDoor
open Go.RowKit Go.Shelf
attribute [local go_sem] Oper.semAt_some

/-- What work is to do at a node. -/
def Wk (P : Cp) (X : Nat → Prop) (i : Nat) : Prop :=
  ∀ (W : World) (p : Nat), Cs P W → Cm P X i W → p ≤ P.s.size → (∀ b, X b → P.base ≤ b ∧ b < W.heap.size) → Calls Tryd.prog 36 #[.pointer (some ⟨P.cb, 0, none⟩), .int .i64 (i : Int), .int .i64 (p : Int)] W fun e W' => (∃ v, e = .returned v) ∧ Cs P W' ∧ Cm P X i W' ∧ Rg P X W' i p ∧ Fq P i (fun _ => False) W W'
theorem Ob.fx {b : Nat} {A B : World} {X : Nat → Prop} (h : Ob b A B) (hx : X b) : Fx X A B :=
  ⟨h.gr.size, fun c hc hn => h.gr.block c hc (fun e => by injection e with e; subst e; exact hn hx)⟩
theorem Ob.fq {P : Cp} {i b : Nat} {A B : World} {X : Nat → Prop} (h : Ob b A B) (hx : X b) (hf : ∀ o, B.frozen? ⟨b, o, none⟩ = A.frozen? ⟨b, o, none⟩) : Fq P i X A B :=
  ⟨h.gr.os, h.gr.tape, h.gr.output, h.gr.size, fun c o hc => by
    by_cases e : c = b
    · subst e; exact hf o
    · exact World.frozen?_of_block (a := ⟨c, o, none⟩) (h.gr.block c hc (fun e' => by injection e' with e'; exact e e')), fun c hc _ hn => h.gr.block c hc (fun e => by injection e with e; subst e; exact hn hx)⟩
structure AgI (P : Cp) (X : Nat → Prop) (i fb A C : Nat) (mf ma mc : Nat → Bool) (t : Rx) (w : World) (k : Nat) (W : World) : Prop where
  cs : Cs P W
  cm : Cm P X i W
  fr : Bl W fb (P.s.size + 1) mf
  en : ∃ m, Bl W A (P.s.size + 1) m ∧ ∀ q, q ≤ P.s.size → (m q = true ↔ ma q = true ∨ ∃ p, p < k ∧ mf p = true ∧ En t P.s.data.toList p q)
  cu : ∃ m, Bl W C (P.s.size + 1) m ∧ ∀ q, q ≤ P.s.size → (m q = true ↔ mc q = true ∨ ∃ p, p < k ∧ mf p = true ∧ Kn t P.s.data.toList p q)
  fq : Fq P i (fun b => b = A ∨ b = C) w W
set_option maxRecDepth 100000 in
set_option maxHeartbeats 4000000 in
theorem ragain_any (P : Cp) (K : Ck P) (X : Nat → Prop) (i fb A C : Nat) (mf ma mc : Nat → Bool) (t : Rx) (o : Nat) (w : World) (hi : i < P.re.length) (ht : Tr P.re t o) (he : o + t.sz = i + 1) (hW : Wk P X i)
    (hX : ∀ b, X b → P.base ≤ b ∧ b < w.heap.size) (xf : X fb) (xa : X A) (xc : X C) (hfa : fb ≠ A) (hfc : fb ≠ C) (hac : A ≠ C) (hs : P.s.size < 140737488355328)
    (h : AgI P X i fb A C mf ma mc t w 0 w) :
    Calls Tryd.prog 51 #[.pointer (some ⟨P.cb, 0, none⟩), .int .i64 (i : Int), .slice (some ⟨fb, 0, none⟩) (P.s.size + 1) (P.s.size + 1), .slice (some ⟨A, 0, none⟩) (P.s.size + 1) (P.s.size + 1), .slice (some ⟨C, 0, none⟩) (P.s.size + 1) (P.s.size + 1)] w fun e w' => (∃ v, e = .returned v) ∧ AgI P X i fb A C mf ma mc t w (P.s.size + 1) w' := by
  have HH : Hid (AgI P X i fb A C mf ma mc t w 0 w) := h
  have HX : Hid (∀ b, X b → P.base ≤ b ∧ b < w.heap.size) := hX
  have HW : Hid (Wk P X i) := hW
  have HT : Hid (Tr P.re t o ∧ o + t.sz = i + 1) := ⟨ht, he⟩
  have HN : Hid (fb ≠ A ∧ fb ≠ C ∧ A ≠ C) := ⟨hfa, hfc, hac⟩
  have HXX : Hid (X fb ∧ X A ∧ X C) := ⟨xf, xa, xc⟩
  have HK : Hid (Ck P) := K
  have HI : Hid (i < P.re.length) := hi
  clear h hX hW ht he hfa hfc hac xf xa xc K
  obtain ⟨n, hn⟩ : ∃ n, P.s.size + 1 = n := ⟨_, rfl⟩
  have HN1 : Hid (P.s.size + 1 = n) := hn
  rw [hn]
  have hn2 : n ≤ 140737488355328 := by omega
  clear hn
  go_enter Tryd.func51, Tryd.ntmps51
  go_wp2_with fail
  go_loopg [10] n (fun g v wr => ∃ (k : Nat), v = .int .i64 (k : Int) ∧ k ≤ n ∧ g = n - k ∧ Hid (AgI P X i fb A C mf ma mc t w k wr))
  case atStart =>
    exact ⟨0, rfl, by omega, rfl, HH⟩
  case round =>
    obtain ⟨k, rfl, hk, hg, HB⟩ := hrel
    have HG : Hid (gk = n - k) := hg
    clear hg
    by_cases hkn : k < n
    · have f0 := HB.out.fr.c k (by rw [HN1.out]; exact hkn)
      obtain ⟨x, hx⟩ : ∃ x, mf k = x := ⟨_, rfl⟩
      have HXF : Hid (mf k = x) := hx
      rw [hx] at f0
      clear hx
      cases x
      · go_wp2_with fail
        go_roundg (n - (k + 1))
        case measure => have := HG.out; omega
        case rel =>
          refine ⟨k + 1, rfl, by omega, rfl, ?_⟩
          have b := HB.out
          obtain ⟨m1, b1, e1⟩ := b.en
          obtain ⟨m2, b2, e2⟩ := b.cu
          refine ⟨b.cs, b.cm, b.fr, ⟨m1, b1, fun q hq => (e1 q hq).trans ?_⟩, ⟨m2, b2, fun q hq => (e2 q hq).trans ?_⟩, b.fq⟩
          · constructor
            · rintro (h | ⟨p, h1, h2⟩)
              · exact .inl h
              · exact .inr ⟨p, by omega, h2⟩
            · rintro (h | ⟨p, h1, h2, h3⟩)
              · exact .inl h
              · refine .inr ⟨p, ?_, h2, h3⟩
                have : p ≠ k := fun e => by rw [e, HXF.out] at h2; cases h2
                omega
          · constructor
            · rintro (h | ⟨p, h1, h2⟩)
              · exact .inl h
              · exact .inr ⟨p, by omega, h2⟩
            · rintro (h | ⟨p, h1, h2, h3⟩)
              · exact .inl h
              · refine .inr ⟨p, ?_, h2, h3⟩
                have : p ≠ k := fun e => by rw [e, HXF.out] at h2; cases h2
                omega
      · go_wp2_with fail
        have hX1 : ∀ b, X b → P.base ≤ b := fun b hb => (HX.out b hb).1
        refine Calls.mono (HW.out wr k HB.out.cs HB.out.cm (by have := HN1.out; omega) (fun b hb => ⟨(HX.out b hb).1, Nat.lt_of_lt_of_le (HX.out b hb).2 HB.out.fq.size⟩)) ?_
        rintro e w1 ⟨⟨v, rfl⟩, cs1, cm1, rg1, fq1⟩
        obtain ⟨x, y, hx1, hy1, hx2, hy2, ce, ck, hb⟩ := rg1
        obtain ⟨bx, by_⟩ := hb t o HT.out.1 HT.out.2
        obtain ⟨m1, a1, e1⟩ := HB.out.en
        obtain ⟨m2, a2, e2⟩ := HB.out.cu
        have A1 := a1.keep fq1 (HK.out.kn A (hX1 A HXX.out.2.1)) (fun h => h)
        have C1 := a2.keep fq1 (HK.out.kn C (hX1 C HXX.out.2.2)) (fun h => h)
        have F1 := HB.out.fr.keep fq1 (HK.out.kn fb (hX1 fb HXX.out.1)) (fun h => h)
        have hAx : A ≠ x := fun e => hx2 (by rw [← e]; exact HXX.out.2.1)
        have hAy : A ≠ y := fun e => hy2 (by rw [← e]; exact HXX.out.2.1)
        have hCy : C ≠ y := fun e => hy2 (by rw [← e]; exact HXX.out.2.2)
        have g0 : Hid (Fq P i (fun b => b = A ∨ b = C) w w1) := HB.out.fq.trans (fq1.mono (Nat.le_refl _) (fun _ h => h.elim))
        have E1 : Hid (∀ q, q ≤ P.s.size → (m1 q = true ↔ ma q = true ∨ ∃ p, p < k ∧ mf p = true ∧ En t P.s.data.toList p q)) := e1
        have E2 : Hid (∀ q, q ≤ P.s.size → (m2 q = true ↔ mc q = true ∨ ∃ p, p < k ∧ mf p = true ∧ Kn t P.s.data.toList p q)) := e2
        have lk1 : P.k i < w1.heap.size := Nat.lt_of_lt_of_le (HK.out.lk i HI.out) cs1.sz
        have hkA : P.k i ≠ A := fun e => by have := HK.out.lk i HI.out; have := hX1 A HXX.out.2.1; omega
        have c3 := cs1.c3
        have er := cs1.er i HI.out
        have HCS1 : Hid (Cs P w1) := cs1
        have HCM1 : Hid (Cm P X i w1) := cm1
        have HCK1 : Hid (w1.cell? ⟨P.k i, k, none⟩ = some (.slice (some ⟨y, 0, none⟩) (P.s.size + 1) (P.s.size + 1))) := ck
        have HA1 : Hid (Bl w1 A (P.s.size + 1) m1) := A1
        have HC1 : Hid (Bl w1 C (P.s.size + 1) m2) := C1
        have HF1 : Hid (Bl w1 fb (P.s.size + 1) mf) := F1
        have HBX : Hid (Bl w1 x (P.s.size + 1) (enB t P.s.data.toList k)) := bx
        have HBY : Hid (Bl w1 y (P.s.size + 1) (knB t P.s.data.toList k)) := by_
        have HNE : Hid (A ≠ x ∧ A ≠ y ∧ C ≠ y ∧ P.k i ≠ A) := ⟨hAx, hAy, hCy, hkA⟩
        have HLK : Hid (P.k i < w1.heap.size) := lk1
        have HX1 : Hid (∀ b, X b → P.base ≤ b) := hX1
        rw [HN1.out] at er ce
        clear cs1 cm1 ck A1 C1 F1 bx by_ hAx hAy hCy hkA lk1 hb hx1 hy1 hx2 hy2 fq1 a1 a2 e1 e2 hX1
        have hkI : k < n := hkn
        go_wp2_with fail
        have r1 := radd_any A x (P.s.size + 1) m1 (enB t P.s.data.toList k) w1 HA1.out HBX.out HNE.out.1 (by have := HN1.out; omega)
        rw [HN1.out] at r1
        refine Calls.mono r1 ?_
        rintro e w2 ⟨⟨v2, rfl⟩, A2, ob⟩
        clear r1
        rw [← HN1.out] at A2
        have fq2 : Fq P i (fun b => b = A ∨ b = C) w1 w2 := ob.fq (.inl rfl) (fun o => by rw [A2.f o, HA1.out.f o])
        have cs2 : Cs P w2 := HCS1.out.keep HK.out fq2 (fun b hb => by rcases hb with rfl | rfl; exact HX1.out _ HXX.out.2.1; exact HX1.out _ HXX.out.2.2)
        have cm2 : Cm P X i w2 := HCM1.out.keep HK.out HCS1.out.sz (ob.fx HXX.out.2.1) HX1.out
        have HCS2 : Hid (Cs P w2) := cs2
        have HCM2 : Hid (Cm P X i w2) := cm2
        have g2 : Hid (Fq P i (fun b => b = A ∨ b = C) w w2) := g0.out.trans fq2
        have HA2 : Hid (Bl w2 A (P.s.size + 1) (fun q => m1 q || enB t P.s.data.toList k q)) := A2
        have HC2 : Hid (Bl w2 C (P.s.size + 1) m2) := HC1.out.other ob HN.out.2.2
        have HF2 : Hid (Bl w2 fb (P.s.size + 1) mf) := HF1.out.other ob (fun e => HN.out.1 e.symm)
        have HY2 : Hid (Bl w2 y (P.s.size + 1) (knB t P.s.data.toList k)) := HBY.out.other ob HNE.out.2.1
        have c4 := cs2.c4
        have kr := cs2.kr i HI.out
        have ck2 : w2.cell? ⟨P.k i, k, none⟩ = some (.slice (some ⟨y, 0, none⟩) (P.s.size + 1) (P.s.size + 1)) := by
          rw [World.cell?_of_block (a := ⟨P.k i, k, none⟩) (ob.gr.block (P.k i) HLK.out (fun e => by injection e with e; exact HNE.out.2.2.2 e))]
          exact HCK1.out
        rw [HN1.out] at kr ck2
        clear cs2 cm2 fq2 ob A2 c3 er ce
        go_wp2_with fail
        have r2 := radd_any C y (P.s.size + 1) m2 (knB t P.s.data.toList k) w2 HC2.out HY2.out HNE.out.2.2.1 (by have := HN1.out; omega)
        rw [HN1.out] at r2
        refine Calls.mono r2 ?_
        rintro e w3 ⟨⟨v3, rfl⟩, C3, ob⟩
        clear r2
        rw [← HN1.out] at C3
        have fq3 : Fq P i (fun b => b = A ∨ b = C) w2 w3 := ob.fq (.inr rfl) (fun o => by rw [C3.f o, HC2.out.f o])
        have HL : Hid (AgI P X i fb A C mf ma mc t w (k + 1) w3) := by
          refine ⟨HCS2.out.keep HK.out fq3 (fun b hb => by rcases hb with rfl | rfl; exact HX1.out _ HXX.out.2.1; exact HX1.out _ HXX.out.2.2), HCM2.out.keep HK.out HCS2.out.sz (ob.fx HXX.out.2.2) HX1.out, HF2.out.other ob (fun e => HN.out.2.1 e.symm), ⟨_, HA2.out.other ob (fun e => HN.out.2.2 e.symm), fun q hq => ?_⟩, ⟨_, C3, fun q hq => ?_⟩, g2.out.trans fq3⟩
          · rw [Bool.or_eq_true, enB_iff, E1.out q hq]
            constructor
            · rintro ((h | ⟨p, h1, h2⟩) | h)
              · exact .inl h
              · exact .inr ⟨p, by omega, h2⟩
              · exact .inr ⟨k, by omega, HXF.out, h⟩
            · rintro (h | ⟨p, h1, h2, h3⟩)
              · exact .inl (.inl h)
              · by_cases hpk : p = k
                · subst hpk; exact .inr h3
                · exact .inl (.inr ⟨p, by omega, h2, h3⟩)
          · rw [Bool.or_eq_true, knB_iff, E2.out q hq]
            constructor
            · rintro ((h | ⟨p, h1, h2⟩) | h)
              · exact .inl h
              · exact .inr ⟨p, by omega, h2⟩
              · exact .inr ⟨k, by omega, HXF.out, h⟩
            · rintro (h | ⟨p, h1, h2, h3⟩)
              · exact .inl (.inl h)
              · by_cases hpk : p = k
                · subst hpk; exact .inr h3
                · exact .inl (.inr ⟨p, by omega, h2, h3⟩)
        clear fq3 ob C3 c4 kr ck2
        go_wp2_with fail
        go_roundg (n - (k + 1))
        case measure => have := HG.out; omega
        case rel =>
          exact ⟨k + 1, rfl, by omega, rfl, HL⟩
    · go_wp2_with fail
      (try simp only [Exit.inBlock, Exit.then])
      go_end0
      have e : k = n := by omega
      rw [e] at HB
      exact ⟨⟨_, rfl⟩, HB.out⟩
end Go.Proofs.YtkjcnnecdclgfaaDoor
namespace Go.Proofs.YtkjcnnecdclgfaaDoor.Rr
open Go.RowKit
set_option maxHeartbeats 1000000 in
theorem in_any (m : Nat → Bool) (b : Nat) (hb : b < 256) (w : World) : Calls Tryd.prog 50 #[CV m, .int .i64 (b : Int)] w fun e w' => e = .returned (.bool (m b)) ∧ Below w.heap.size w w' := by
  have hc := cv_get m (b / 64) (by omega)
  go_enter Tryd.func50, Tryd.ntmps50
  go_wp2_with fail
  go_ret
  exact ⟨ret_bool (u64_in m b), bel_up _ _⟩

set_option maxHeartbeats 1000000 in
theorem blank_w (x0 x1 x2 x3 : Nat) (w : World) : Calls Tryd.prog 65 #[.agg #[.int .u64 (x0 : Int), .int .u64 (x1 : Int), .int .u64 (x2 : Int), .int .u64 (x3 : Int)]] w fun e w' => e = .returned (.bool (x0 == 0 && x1 == 0 && x2 == 0 && x3 == 0)) ∧ Below w.heap.size w w' := by
  go_enter Tryd.func65, Tryd.ntmps65
  rcases Nat.eq_zero_or_pos x0 with rfl | h0
  · rcases Nat.eq_zero_or_pos x1 with rfl | h1
    · rcases Nat.eq_zero_or_pos x2 with rfl | h2
      · rcases Nat.eq_zero_or_pos x3 with rfl | h3
        · go_wp2_with fail
          go_ret
          exact ⟨rfl, bel_up _ _⟩
        · have h3' : ¬ ((x3 : Int) = 0) := by omega
          go_wp2_with fail
          go_ret
          exact ⟨ret_bool (by have : ¬ x3 = 0 := by omega
                              have e1 : ((x3 : Int) == 0) = false := by simpa using this
                              have e2 : (x3 == 0) = false := by simpa using this
                              simp only [e1, e2]
                              rfl), bel_up _ _⟩
      · have h2' : ¬ ((x2 : Int) = 0) := by omega
        go_wp2_with fail
        go_ret
        exact ⟨ret_bool (by simp; omega), bel_up _ _⟩
    · have h1' : ¬ ((x1 : Int) = 0) := by omega
      go_wp2_with fail
      go_ret
      exact ⟨ret_bool (by simp; omega), bel_up _ _⟩
  · have h0' : ¬ ((x0 : Int) = 0) := by omega
    go_wp2_with fail
    go_ret
    exact ⟨ret_bool (by simp; omega), bel_up _ _⟩

theorem info3 : (Tryd.prog.info? 3).map (fun i => (i.zero, i.size, i.bytes)) = some (some (.int .i64 0), 1, 8) := by kernel_rfl
/-- The first places of the parts, as cells. -/
def fos (z : List Nat) : List Value := (List.range z.length).map fun j => .int .i64 ((j + 1 - z.getD j 0 : Nat) : Int)
theorem fos_len (z : List Nat) : (fos z).length = z.length := by simp [fos]
theorem fos_at (z : List Nat) (j : Nat) (h : j < z.length) : (fos z)[j]? = some (.int .i64 ((j + 1 - z.getD j 0 : Nat) : Int)) := by
  unfold fos
  rw [List.getElem?_map, List.getElem?_range h]
  rfl
theorem fos_snoc (z : List Nat) (s : Nat) : fos (z ++ [s]) = fos z ++ [.int .i64 ((z.length + 1 - s : Nat) : Int)] := by
  unfold fos
  rw [List.length_append, List.length_singleton, List.range_succ, List.map_append, List.map_singleton]
  congr 1
  · apply List.map_congr_left
    intro j hj
    rw [getD_app1 _ _ _ _ (List.mem_range.1 hj)]
  · rw [getD_app2 _ _ _ _ (Nat.le_refl _)]
    simp
theorem own_form {w : World} {base e z : Nat} {v : Value} {n : Nat} {xs : List Value} (h : w.ownsRow base e z v n xs) (hn : 0 < n) :
    ∃ g cap, v = .slice (some ⟨g, 0, none⟩) n cap ∧ n ≤ cap ∧ base ≤ g ∧ g < w.heap.size := by
  obtain ⟨h1, h2⟩ := h
  rcases h2 with ⟨_, h2⟩ | ⟨g, cap, cur, rfl, hg, hh, hcap, _⟩
  · omega
  · exact ⟨g, cap, rfl, hcap, hg, lt_of_heap hh⟩
/-- What begins answers. -/
def BegRes (re : List Nd) (w : World) (e : Ending) (w' : World) : Prop :=
  (match szs re [] with
   | none => e = .returned (.tuple #[.slice none 0 0, .bool false])
   | some z => ∃ v, e = .returned (.tuple #[v, .bool true]) ∧ w'.ownsRow w.heap.size 3 1 v z.length (fos z)) ∧ Below w.heap.size w w'
theorem beg_no {re : List Nd} {w w' : World} (h : szs re [] = none) (hb : Below w.heap.size w w') : BegRes re w (.returned (.tuple #[.slice none 0 0, .bool false])) w' := by
  unfold BegRes
  rw [h]
  exact ⟨rfl, hb⟩
set_option maxRecDepth 100000 in
set_option maxHeartbeats 40000000 in
theorem begins_any (re : List Nd) (ao : Option Addr) (g o cap : Nat) (w : World) (hao : re ≠ [] → ao = some ⟨g, o, none⟩) (hn : NdsAt w g o re) (hg : re ≠ [] → g < w.heap.size) (hl : re.length ≤ 128) :
    Calls Tryd.prog 49 #[.slice ao re.length cap] w fun e w' => BegRes re w e w' := by
  obtain ⟨n, hnn⟩ : ∃ n, re.length = n := ⟨_, rfl⟩
  rw [hnn] at hl ⊢
  have HNN : Hid _ := hnn
  have HL : Hid _ := hl
  have HN : Hid _ := hn
  have HG : Hid _ := hg
  have HAO : Hid _ := hao
  clear hao hn hg hl hnn
  go_enter Tryd.func49, Tryd.ntmps49
  go_wp2_with fail
  go_loopg [4, 5] n (fun gh vo vi wr => ∃ (k : Nat) (z : List Nat), vi = .int .i64 (k : Int) ∧ k ≤ n ∧ gh = n - k ∧ szs (re.take k) [] = some z ∧ wr.ownsRow w.heap.size 3 1 vo k (fos z) ∧ Below w.heap.size w wr)
  case atStart => exact ⟨0, [], rfl, by omega, rfl, rfl, World.ownsRow_nil _ _ _ _, Below.refl _ _⟩
  case round =>
    obtain ⟨k, z, rfl, hk, hg, hs, hown, hbel⟩ := hrel
    have HK : Hid _ := hk
    have HGM : Hid _ := hg
    have HS : Hid _ := hs
    have HO : Hid (wr.ownsRow w.heap.size 3 1 u4 k (fos z)) := hown
    have HB : Hid _ := hbel
    clear hk hg hs hown hbel
    by_cases hk : k < n
    · have hne : re ≠ [] := by
        intro h
        have := HNN.out
        rw [h] at this
        simp only [List.length_nil] at this
        omega
      have hao := HAO.out hne
      subst hao
      obtain ⟨p, nd, s, hre, hp, hrk⟩ := split_at re k (by rw [HNN.out]; exact hk)
      clear hrk
      have hnd := (HN.out.below HB.out (HG.out hne)).nd p nd s hre
      rw [hp] at hnd
      obtain ⟨k0, k1, k2, k3, k4, k5, k6⟩ := hnd
      obtain ⟨op, m, a, b⟩ := nd
      dsimp only at k0 k1 k2 k3 k4 k5 k6
      have hsp : szs p [] = some z := by
        have := HS.out
        rw [hre, ← hp, (take_snoc p _ s).1] at this
        exact this
      have hzl := szs_ok hsp zok_nil
      have hzlen : z.length = k := by rw [hzl.2, hp]; simp
      have HZL : Hid _ := hzl.1
      have HZE : Hid _ := hzlen
      obtain ⟨d, hd⟩ : ∃ d, d = bl m := ⟨_, rfl⟩
      have HD : Hid _ := hd
      have dead : Hid (ext ⟨op, m, a, b⟩ z = none → szs re [] = none) := by
        intro hx
        rw [hre]
        exact szs_dead p _ s z hsp hx
      have live : Hid (∀ sv, ext ⟨op, m, a, b⟩ z = some sv → szs (re.take (k + 1)) [] = some (z ++ [sv])) := by
        intro sv hx
        rw [hre, ← hp, (take_snoc p _ s).2, szs_snoc p _ z hsp, hx]
        rfl
      have hk128 : k ≤ 128 := by have := HL.out; omega
      have HK128 : Hid _ := hk128
      have HK2 : Hid _ := hk
      clear hne hre hp hsp hzl hzlen hd hk128
      obtain ⟨av, cap4, hu4⟩ := own_slice HO.out
      subst hu4
      have A0 : Hid _ := AtN.new wr op m a b
      have O0 : Hid ((wr.alloc (.cells #[.int .i64 op, .int .u64 (wd m 0 : Nat), .int .u64 (wd m 1 : Nat), .int .u64 (wd m 2 : Nat), .int .u64 (wd m 3 : Nat), .int .i64 a, .int .i64 b] 34)).ownsRow w.heap.size 3 1 (.slice av k cap4) k (fos z)) := HO.out.alloc _
      have B0 : Hid (Below w.heap.size w (wr.alloc (.cells #[.int .i64 op, .int .u64 (wd m 0 : Nat), .int .u64 (wd m 1 : Nat), .int .u64 (wd m 2 : Nat), .int .u64 (wd m 3 : Nat), .int .i64 a, .int .i64 b] 34))) := below_trans HB.out (bel_up _ _)
      go_wp2_with fail
      refine (blank_w _ _ _ _ _).mono ?_
      rintro e w1 ⟨rfl, hb1⟩
      have A1 : Hid (AtN w1 wr.heap.size op m a b) := A0.out.mono hb1
      have O1 : Hid (w1.ownsRow w.heap.size 3 1 (.slice av k cap4) k (fos z)) := own_mono O0.out hb1
      have B1 : Hid _ := below_trans B0.out hb1
      rw [show (wd m 0 == 0 && wd m 1 == 0 && wd m 2 == 0 && wd m 3 == 0) = d by rw [HD.out]; rfl]
      clear hb1 k0 k1 k2 k3 k4 k5 k6 A0 O0 B0
      obtain ⟨q0, q1, q2, q3, q4, q5, q6⟩ := A1.out.cells
      by_cases hop : ¬ (1 ≤ op ∧ op ≤ 7)
      · have e1 : (op == 1) = false := by rw [beq_eq_false_iff_ne]; omega
        have e2 : (op == 2) = false := by rw [beq_eq_false_iff_ne]; omega
        have e3 : (op == 3) = false := by rw [beq_eq_false_iff_ne]; omega
        have e4 : (op == 4) = false := by rw [beq_eq_false_iff_ne]; omega
        have e5 : (op == 5) = false := by rw [beq_eq_false_iff_ne]; omega
        have e6 : (op == 6) = false := by rw [beq_eq_false_iff_ne]; omega
        have e7 : (op == 7) = false := by rw [beq_eq_false_iff_ne]; omega
        have hx : ext ⟨op, m, a, b⟩ z = none := by
          unfold ext
          rw [if_neg (by dsimp only; omega), if_neg (by dsimp only; omega), if_neg (by dsimp only; omega)]
        have HX : Hid _ := hx
        clear hx hop
        cases d
        · have hz := dead.out (HX.out)
          have HZ : Hid _ := hz
          clear hz
          go_wp2_with fail
          (try simp only [Exit.inBlock, Exit.then])
          go_ret2
          exact beg_no HZ.out (B1.out)
        · have hz := dead.out (HX.out)
          have HZ : Hid _ := hz
          clear hz
          go_wp2_with fail
          (try simp only [Exit.inBlock, Exit.then])
          go_ret2
          exact beg_no HZ.out (B1.out)
      rcases (by omega : op = 1 ∨ op = 2 ∨ op = 5 ∨ op = 6 ∨ op = 7 ∨ op = 3 ∨ op = 4) with rfl | rfl | rfl | rfl | rfl | rfl | rfl
      · clear hop
        have no : Hid (¬ (d = decide ((1 : Int) = 2) ∧ a = -1 ∧ b = -1) → ext ⟨1, m, a, b⟩ z = none) := by
          intro hn
          unfold ext
          rw [if_pos (by simp), if_neg (by rw [← HD.out]; exact hn)]
        have yes : Hid ((d = decide ((1 : Int) = 2) ∧ a = -1 ∧ b = -1) → ext ⟨1, m, a, b⟩ z = some 1) := by
          intro hn
          unfold ext
          rw [if_pos (by simp), if_pos (by rw [← HD.out]; exact hn)]
        cases d
        · by_cases ha : a = -1
          · subst ha
            by_cases hb : b = -1
            · subst hb
              have hl := live.out (1) (yes.out ⟨rfl, rfl, rfl⟩)
              have HLV : Hid _ := hl
              clear hl
              obtain ⟨i3, hi3, hz3, hs3, hy3⟩ := info_parts info3
              have O2 : Hid ((w1.alloc (.cells #[.int .i64 ((k : Nat) : Int)] 3)).ownsRow w.heap.size 3 1 (.slice av k cap4) k (fos z)) := World.ownsRow.alloc (w := w1) O1.out _
              have hbase : w.heap.size ≤ (w1.alloc (.cells #[.int .i64 ((k : Nat) : Int)] 3)).heap.size := by
                have := B1.out.size
                have h2 : w1.heap.size = w1.heap.size := rfl
                rw [World.size_alloc, h2]
                omega
              go_wp2_with (at_builtin; refine wpList_append_own _ rfl (.tmp 110) (.tmp 112) 66 rfl w.heap.size 3 i3 (.int .i64 0) 1 8 Tryd.underlying66 hi3 hz3 hs3 hy3 rfl (by decide) _ _ _ rfl O2.out ⟨w1.heap.size, 0, none⟩ 1 1 [.int .i64 ((k : Nat) : Int)] rfl rfl ?c1 ?c2 ?c3 ?c4 ?c5 ?_)
              case c1 => exact cell_one_new _ _ _
              case c2 => intro y hy; simp at hy; subst hy; rfl
              case c3 => unfold maxLen; have := HK128.out; omega
              case c4 => have := HK128.out; omega
              case c5 => first | exact hbase | simpa using hbase
              intro v1 w8 hown1 hgrow1 _
              have OW : Hid (w8.ownsRow w.heap.size 3 1 v1 (k + 1) (fos z ++ [.int .i64 ((k : Nat) : Int)])) := hown1
              have GR : Hid (Below w.heap.size w w8) := (Below.alloc B1.out (Nat.le_trans B1.out.size (Nat.le_refl _)) _).grown hgrow1 hbase (fun q hq => by have := (O1.out.lt q hq).1; omega)
              clear hown1 hgrow1 O2 hbase hi3 hz3 hs3 hy3
              go_wp2_with fail
              go_roundg (n - (k + 1))
              case measure => have := HGM.out; have := HK2.out; omega
              case rel =>
                refine ⟨k + 1, z ++ [1], by first | (simp; done) | (rw [w64 k (by have := HK128.out; omega)]), HK2.out, rfl, HLV.out, ?_, GR.out⟩
                rw [fos_snoc, HZE.out, show k + 1 - (1) = k by omega]
                exact OW.out
            · have hz0 := no.out (by rintro ⟨_, _, h⟩; exact hb h)
              have HZ0 : Hid _ := hz0
              have hb3 : (b != -1) = true := by simpa using hb
              clear hz0 hb
              have hz := dead.out (HZ0.out)
              have HZ : Hid _ := hz
              clear hz
              go_wp2_with fail
              (try simp only [Exit.inBlock, Exit.then])
              go_ret2
              exact beg_no HZ.out (B1.out)
          · have hz0 := no.out (by rintro ⟨_, h, _⟩; exact ha h)
            have HZ0 : Hid _ := hz0
            have ha3 : (a != -1) = true := by simpa using ha
            clear hz0 ha
            have hz := dead.out (HZ0.out)
            have HZ : Hid _ := hz
            clear hz
            go_wp2_with fail
            (try simp only [Exit.inBlock, Exit.then])
            go_ret2
            exact beg_no HZ.out (B1.out)
        · have hz := dead.out (no.out (by rintro ⟨h, _⟩; cases h))
          have HZ : Hid _ := hz
          clear hz
          go_wp2_with fail
          (try simp only [Exit.inBlock, Exit.then])
          go_ret2
          exact beg_no HZ.out (B1.out)
      · clear hop
        have no : Hid (¬ (d = decide ((2 : Int) = 2) ∧ a = -1 ∧ b = -1) → ext ⟨2, m, a, b⟩ z = none) := by
          intro hn
          unfold ext
          rw [if_pos (by simp), if_neg (by rw [← HD.out]; exact hn)]
        have yes : Hid ((d = decide ((2 : Int) = 2) ∧ a = -1 ∧ b = -1) → ext ⟨2, m, a, b⟩ z = some 1) := by
          intro hn
          unfold ext
          rw [if_pos (by simp), if_pos (by rw [← HD.out]; exact hn)]
        cases d
        · have hz := dead.out (no.out (by rintro ⟨h, _⟩; cases h))
          have HZ : Hid _ := hz
          clear hz
          go_wp2_with fail
          (try simp only [Exit.inBlock, Exit.then])
          go_ret2
          exact beg_no HZ.out (B1.out)
        · by_cases ha : a = -1
          · subst ha
            by_cases hb : b = -1
            · subst hb
              have hl := live.out (1) (yes.out ⟨rfl, rfl, rfl⟩)
              have HLV : Hid _ := hl
              clear hl
              obtain ⟨i3, hi3, hz3, hs3, hy3⟩ := info_parts info3
              have O2 : Hid ((w1.alloc (.cells #[.int .i64 ((k : Nat) : Int)] 3)).ownsRow w.heap.size 3 1 (.slice av k cap4) k (fos z)) := World.ownsRow.alloc (w := w1) O1.out _
              have hbase : w.heap.size ≤ (w1.alloc (.cells #[.int .i64 ((k : Nat) : Int)] 3)).heap.size := by
                have := B1.out.size
                have h2 : w1.heap.size = w1.heap.size := rfl
                rw [World.size_alloc, h2]
                omega
              go_wp2_with (at_builtin; refine wpList_append_own _ rfl (.tmp 110) (.tmp 112) 66 rfl w.heap.size 3 i3 (.int .i64 0) 1 8 Tryd.underlying66 hi3 hz3 hs3 hy3 rfl (by decide) _ _ _ rfl O2.out ⟨w1.heap.size, 0, none⟩ 1 1 [.int .i64 ((k : Nat) : Int)] rfl rfl ?c1 ?c2 ?c3 ?c4 ?c5 ?_)
              case c1 => exact cell_one_new _ _ _
              case c2 => intro y hy; simp at hy; subst hy; rfl
              case c3 => unfold maxLen; have := HK128.out; omega
              case c4 => have := HK128.out; omega
              case c5 => first | exact hbase | simpa using hbase
              intro v1 w8 hown1 hgrow1 _
              have OW : Hid (w8.ownsRow w.heap.size 3 1 v1 (k + 1) (fos z ++ [.int .i64 ((k : Nat) : Int)])) := hown1
              have GR : Hid (Below w.heap.size w w8) := (Below.alloc B1.out (Nat.le_trans B1.out.size (Nat.le_refl _)) _).grown hgrow1 hbase (fun q hq => by have := (O1.out.lt q hq).1; omega)
              clear hown1 hgrow1 O2 hbase hi3 hz3 hs3 hy3
              go_wp2_with fail
              go_roundg (n - (k + 1))
              case measure => have := HGM.out; have := HK2.out; omega
              case rel =>
                refine ⟨k + 1, z ++ [1], by first | (simp; done) | (rw [w64 k (by have := HK128.out; omega)]), HK2.out, rfl, HLV.out, ?_, GR.out⟩
                rw [fos_snoc, HZE.out, show k + 1 - (1) = k by omega]
                exact OW.out
            · have hz0 := no.out (by rintro ⟨_, _, h⟩; exact hb h)
              have HZ0 : Hid _ := hz0
              have hb3 : (b != -1) = true := by simpa using hb
              clear hz0 hb
              have hz := dead.out (HZ0.out)
              have HZ : Hid _ := hz
              clear hz
              go_wp2_with fail
              (try simp only [Exit.inBlock, Exit.then])
              go_ret2
              exact beg_no HZ.out (B1.out)
          · have hz0 := no.out (by rintro ⟨_, h, _⟩; exact ha h)
            have HZ0 : Hid _ := hz0
            have ha3 : (a != -1) = true := by simpa using ha
            clear hz0 ha
            have hz := dead.out (HZ0.out)
            have HZ : Hid _ := hz
            clear hz
            go_wp2_with fail
            (try simp only [Exit.inBlock, Exit.then])
            go_ret2
            exact beg_no HZ.out (B1.out)
      · clear hop
        have no : Hid (¬ (d = true ∧ 1 ≤ k ∧ a = (k : Int) - 1 ∧ b = -1) → ext ⟨5, m, a, b⟩ z = none) := by
          intro hn
          unfold ext
          rw [if_neg (by simp), if_pos (by simp), if_neg (by rw [← HD.out, HZE.out]; exact hn)]
        have yes : Hid ((d = true ∧ 1 ≤ k ∧ a = (k : Int) - 1 ∧ b = -1) → ext ⟨5, m, a, b⟩ z = some (z.getD (k - 1) 0 + 1)) := by
          intro hn
          unfold ext
          rw [if_neg (by simp), if_pos (by simp), if_pos (by rw [← HD.out, HZE.out]; exact hn), HZE.out]
        cases d
        · have hz := dead.out (no.out (by rintro ⟨h, _⟩; cases h))
          have HZ : Hid _ := hz
          clear hz
          go_wp2_with fail
          (try simp only [Exit.inBlock, Exit.then])
          go_ret2
          exact beg_no HZ.out (B1.out)
        · rcases Nat.eq_zero_or_pos k with h0 | hpos
          · have hz0 := no.out (by rintro ⟨_, h, _⟩; omega)
            have HZ0 : Hid _ := hz0
            have e0 : ((k : Int) == 0) = true := by rw [beq_iff_eq]; omega
            clear hz0 h0
            have hz := dead.out (HZ0.out)
            have HZ : Hid _ := hz
            clear hz
            go_wp2_with fail
            (try simp only [Exit.inBlock, Exit.then])
            go_ret2
            exact beg_no HZ.out (B1.out)
          · obtain ⟨j, hj⟩ : ∃ j, k - 1 = j := ⟨_, rfl⟩
            have e0 : ((k : Int) == 0) = false := by rw [beq_eq_false_iff_ne]; omega
            have hjw : wrap64 ((k : Int) - 1) = (j : Int) := by have := HK128.out; unfold wrap64; omega
            have hjk : j < k := by omega
            have HJ : Hid _ := hj
            have HPOS : Hid _ := hpos
            clear hj hpos
            by_cases ha : a = (j : Int)
            · subst ha
              by_cases hb : b = -1
              · subst hb
                have hyy := yes.out ⟨rfl, HPOS.out, by have := HJ.out; have := HPOS.out; omega, rfl⟩
                rw [HJ.out] at hyy
                have HYY : Hid _ := hyy
                obtain ⟨g4, cc, hvv, _, _, _⟩ := own_form O1.out HPOS.out
                injection hvv with hv1 hv2 hv3
                subst hv1
                have cj := O1.out.cellAt j (by omega)
                rw [fos_at z j (by rw [HZE.out]; exact hjk)] at cj
                have hzj := HZL.out j (by rw [HZE.out]; exact hjk)
                obtain ⟨sz, hsz⟩ : ∃ sz, z.getD j 0 = sz := ⟨_, rfl⟩
                rw [hsz] at cj hzj
                obtain ⟨fv, hfv⟩ : ∃ fv, j + 1 - sz = fv := ⟨_, rfl⟩
                rw [hfv] at cj
                have HSZ : Hid _ := hsz
                have HFV : Hid _ := hfv
                have HZJ : Hid _ := hzj
                clear hyy hsz hfv hzj hv2 hv3
                have hl := live.out (sz + 1) (by rw [HYY.out, HSZ.out])
                have HLV : Hid _ := hl
                clear hl
                obtain ⟨i3, hi3, hz3, hs3, hy3⟩ := info_parts info3
                have O2 : Hid ((w1.alloc (.cells #[.int .i64 ((fv : Nat) : Int)] 3)).ownsRow w.heap.size 3 1 (.slice (some ⟨g4, 0, none⟩) k cap4) k (fos z)) := World.ownsRow.alloc (w := w1) O1.out _
                have hbase : w.heap.size ≤ (w1.alloc (.cells #[.int .i64 ((fv : Nat) : Int)] 3)).heap.size := by
                  have := B1.out.size
                  have h2 : w1.heap.size = w1.heap.size := rfl
                  rw [World.size_alloc, h2]
                  omega
                go_wp2_with (at_builtin; refine wpList_append_own _ rfl (.tmp 110) (.tmp 112) 66 rfl w.heap.size 3 i3 (.int .i64 0) 1 8 Tryd.underlying66 hi3 hz3 hs3 hy3 rfl (by decide) _ _ _ rfl O2.out ⟨w1.heap.size, 0, none⟩ 1 1 [.int .i64 ((fv : Nat) : Int)] rfl rfl ?c1 ?c2 ?c3 ?c4 ?c5 ?_)
                case c1 => exact cell_one_new _ _ _
                case c2 => intro y hy; simp at hy; subst hy; rfl
                case c3 => unfold maxLen; have := HK128.out; omega
                case c4 => have := HK128.out; omega
                case c5 => first | exact hbase | simpa using hbase
                intro v1 w8 hown1 hgrow1 _
                have OW : Hid (w8.ownsRow w.heap.size 3 1 v1 (k + 1) (fos z ++ [.int .i64 ((fv : Nat) : Int)])) := hown1
                have GR : Hid (Below w.heap.size w w8) := (Below.alloc B1.out (Nat.le_trans B1.out.size (Nat.le_refl _)) _).grown hgrow1 hbase (fun q hq => by have := (O1.out.lt q hq).1; omega)
                clear hown1 hgrow1 O2 hbase hi3 hz3 hs3 hy3
                go_wp2_with fail
                go_roundg (n - (k + 1))
                case measure => have := HGM.out; have := HK2.out; omega
                case rel =>
                  refine ⟨k + 1, z ++ [sz + 1], by first | (simp; done) | (rw [w64 k (by have := HK128.out; omega)]), HK2.out, rfl, HLV.out, ?_, GR.out⟩
                  rw [fos_snoc, HZE.out, show k + 1 - (sz + 1) = fv by (have h1 := HFV.out; have h2 := HJ.out; have h3 := HPOS.out; omega)]
                  exact OW.out
              · have hz0 := no.out (by rintro ⟨_, _, _, h⟩; exact hb h)
                have HZ0 : Hid _ := hz0
                have hb3 : (b != -1) = true := by simpa using hb
                clear hz0 hb
                have hz := dead.out (HZ0.out)
                have HZ : Hid _ := hz
                clear hz
                go_wp2_with fail
                (try simp only [Exit.inBlock, Exit.then])
                go_ret2
                exact beg_no HZ.out (B1.out)
            · have hz0 := no.out (by rintro ⟨_, _, h, _⟩; exact ha (by have := HJ.out; have := HPOS.out; omega))
              have HZ0 : Hid _ := hz0
              have ha3 : (a != (j : Int)) = true := by simpa using ha
              clear hz0 ha
              have hz := dead.out (HZ0.out)
              have HZ : Hid _ := hz
              clear hz
              go_wp2_with fail
              (try simp only [Exit.inBlock, Exit.then])
              go_ret2
              exact beg_no HZ.out (B1.out)
      · clear hop
        have no : Hid (¬ (d = true ∧ 1 ≤ k ∧ a = (k : Int) - 1 ∧ b = -1) → ext ⟨6, m, a, b⟩ z = none) := by
          intro hn
          unfold ext
          rw [if_neg (by simp), if_pos (by simp), if_neg (by rw [← HD.out, HZE.out]; exact hn)]
        have yes : Hid ((d = true ∧ 1 ≤ k ∧ a = (k : Int) - 1 ∧ b = -1) → ext ⟨6, m, a, b⟩ z = some (z.getD (k - 1) 0 + 1)) := by
          intro hn
          unfold ext
          rw [if_neg (by simp), if_pos (by simp), if_pos (by rw [← HD.out, HZE.out]; exact hn), HZE.out]
        cases d
        · have hz := dead.out (no.out (by rintro ⟨h, _⟩; cases h))
          have HZ : Hid _ := hz
          clear hz
          go_wp2_with fail
          (try simp only [Exit.inBlock, Exit.then])
          go_ret2
          exact beg_no HZ.out (B1.out)
        · rcases Nat.eq_zero_or_pos k with h0 | hpos
          · have hz0 := no.out (by rintro ⟨_, h, _⟩; omega)
            have HZ0 : Hid _ := hz0
            have e0 : ((k : Int) == 0) = true := by rw [beq_iff_eq]; omega
            clear hz0 h0
            have hz := dead.out (HZ0.out)
            have HZ : Hid _ := hz
            clear hz
            go_wp2_with fail
            (try simp only [Exit.inBlock, Exit.then])
            go_ret2
            exact beg_no HZ.out (B1.out)
          · obtain ⟨j, hj⟩ : ∃ j, k - 1 = j := ⟨_, rfl⟩
            have e0 : ((k : Int) == 0) = false := by rw [beq_eq_false_iff_ne]; omega
            have hjw : wrap64 ((k : Int) - 1) = (j : Int) := by have := HK128.out; unfold wrap64; omega
            have hjk : j < k := by omega
            have HJ : Hid _ := hj
            have HPOS : Hid _ := hpos
            clear hj hpos
            by_cases ha : a = (j : Int)
            · subst ha
              by_cases hb : b = -1
              · subst hb
                have hyy := yes.out ⟨rfl, HPOS.out, by have := HJ.out; have := HPOS.out; omega, rfl⟩
                rw [HJ.out] at hyy
                have HYY : Hid _ := hyy
                obtain ⟨g4, cc, hvv, _, _, _⟩ := own_form O1.out HPOS.out
                injection hvv with hv1 hv2 hv3
                subst hv1
                have cj := O1.out.cellAt j (by omega)
                rw [fos_at z j (by rw [HZE.out]; exact hjk)] at cj
                have hzj := HZL.out j (by rw [HZE.out]; exact hjk)
                obtain ⟨sz, hsz⟩ : ∃ sz, z.getD j 0 = sz := ⟨_, rfl⟩
                rw [hsz] at cj hzj
                obtain ⟨fv, hfv⟩ : ∃ fv, j + 1 - sz = fv := ⟨_, rfl⟩
                rw [hfv] at cj
                have HSZ : Hid _ := hsz
                have HFV : Hid _ := hfv
                have HZJ : Hid _ := hzj
                clear hyy hsz hfv hzj hv2 hv3
                have hl := live.out (sz + 1) (by rw [HYY.out, HSZ.out])
                have HLV : Hid _ := hl
                clear hl
                obtain ⟨i3, hi3, hz3, hs3, hy3⟩ := info_parts info3
                have O2 : Hid ((w1.alloc (.cells #[.int .i64 ((fv : Nat) : Int)] 3)).ownsRow w.heap.size 3 1 (.slice (some ⟨g4, 0, none⟩) k cap4) k (fos z)) := World.ownsRow.alloc (w := w1) O1.out _
                have hbase : w.heap.size ≤ (w1.alloc (.cells #[.int .i64 ((fv : Nat) : Int)] 3)).heap.size := by
                  have := B1.out.size
                  have h2 : w1.heap.size = w1.heap.size := rfl
                  rw [World.size_alloc, h2]
                  omega
                go_wp2_with (at_builtin; refine wpList_append_own _ rfl (.tmp 110) (.tmp 112) 66 rfl w.heap.size 3 i3 (.int .i64 0) 1 8 Tryd.underlying66 hi3 hz3 hs3 hy3 rfl (by decide) _ _ _ rfl O2.out ⟨w1.heap.size, 0, none⟩ 1 1 [.int .i64 ((fv : Nat) : Int)] rfl rfl ?c1 ?c2 ?c3 ?c4 ?c5 ?_)
                case c1 => exact cell_one_new _ _ _
                case c2 => intro y hy; simp at hy; subst hy; rfl
                case c3 => unfold maxLen; have := HK128.out; omega
                case c4 => have := HK128.out; omega
                case c5 => first | exact hbase | simpa using hbase
                intro v1 w8 hown1 hgrow1 _
                have OW : Hid (w8.ownsRow w.heap.size 3 1 v1 (k + 1) (fos z ++ [.int .i64 ((fv : Nat) : Int)])) := hown1
                have GR : Hid (Below w.heap.size w w8) := (Below.alloc B1.out (Nat.le_trans B1.out.size (Nat.le_refl _)) _).grown hgrow1 hbase (fun q hq => by have := (O1.out.lt q hq).1; omega)
                clear hown1 hgrow1 O2 hbase hi3 hz3 hs3 hy3
                go_wp2_with fail
                go_roundg (n - (k + 1))
                case measure => have := HGM.out; have := HK2.out; omega
                case rel =>
                  refine ⟨k + 1, z ++ [sz + 1], by first | (simp; done) | (rw [w64 k (by have := HK128.out; omega)]), HK2.out, rfl, HLV.out, ?_, GR.out⟩
                  rw [fos_snoc, HZE.out, show k + 1 - (sz + 1) = fv by (have h1 := HFV.out; have h2 := HJ.out; have h3 := HPOS.out; omega)]
                  exact OW.out
              · have hz0 := no.out (by rintro ⟨_, _, _, h⟩; exact hb h)
                have HZ0 : Hid _ := hz0
                have hb3 : (b != -1) = true := by simpa using hb
                clear hz0 hb
                have hz := dead.out (HZ0.out)
                have HZ : Hid _ := hz
                clear hz
                go_wp2_with fail
                (try simp only [Exit.inBlock, Exit.then])
                go_ret2
                exact beg_no HZ.out (B1.out)
            · have hz0 := no.out (by rintro ⟨_, _, h, _⟩; exact ha (by have := HJ.out; have := HPOS.out; omega))
              have HZ0 : Hid _ := hz0
              have ha3 : (a != (j : Int)) = true := by simpa using ha
              clear hz0 ha
              have hz := dead.out (HZ0.out)
              have HZ : Hid _ := hz
              clear hz
              go_wp2_with fail
              (try simp only [Exit.inBlock, Exit.then])
              go_ret2
              exact beg_no HZ.out (B1.out)
      · clear hop
        have no : Hid (¬ (d = true ∧ 1 ≤ k ∧ a = (k : Int) - 1 ∧ b = -1) → ext ⟨7, m, a, b⟩ z = none) := by
          intro hn
          unfold ext
          rw [if_neg (by simp), if_pos (by simp), if_neg (by rw [← HD.out, HZE.out]; exact hn)]
        have yes : Hid ((d = true ∧ 1 ≤ k ∧ a = (k : Int) - 1 ∧ b = -1) → ext ⟨7, m, a, b⟩ z = some (z.getD (k - 1) 0 + 1)) := by
          intro hn
          unfold ext
          rw [if_neg (by simp), if_pos (by simp), if_pos (by rw [← HD.out, HZE.out]; exact hn), HZE.out]
        cases d
        · have hz := dead.out (no.out (by rintro ⟨h, _⟩; cases h))
          have HZ : Hid _ := hz
          clear hz
          go_wp2_with fail
          (try simp only [Exit.inBlock, Exit.then])
          go_ret2
          exact beg_no HZ.out (B1.out)
        · rcases Nat.eq_zero_or_pos k with h0 | hpos
          · have hz0 := no.out (by rintro ⟨_, h, _⟩; omega)
            have HZ0 : Hid _ := hz0
            have e0 : ((k : Int) == 0) = true := by rw [beq_iff_eq]; omega
            clear hz0 h0
            have hz := dead.out (HZ0.out)
            have HZ : Hid _ := hz
            clear hz
            go_wp2_with fail
            (try simp only [Exit.inBlock, Exit.then])
            go_ret2
            exact beg_no HZ.out (B1.out)
          · obtain ⟨j, hj⟩ : ∃ j, k - 1 = j := ⟨_, rfl⟩
            have e0 : ((k : Int) == 0) = false := by rw [beq_eq_false_iff_ne]; omega
            have hjw : wrap64 ((k : Int) - 1) = (j : Int) := by have := HK128.out; unfold wrap64; omega
            have hjk : j < k := by omega
            have HJ : Hid _ := hj
            have HPOS : Hid _ := hpos
            clear hj hpos
            by_cases ha : a = (j : Int)
            · subst ha
              by_cases hb : b = -1
              · subst hb
                have hyy := yes.out ⟨rfl, HPOS.out, by have := HJ.out; have := HPOS.out; omega, rfl⟩
                rw [HJ.out] at hyy
                have HYY : Hid _ := hyy
                obtain ⟨g4, cc, hvv, _, _, _⟩ := own_form O1.out HPOS.out
                injection hvv with hv1 hv2 hv3
                subst hv1
                have cj := O1.out.cellAt j (by omega)
                rw [fos_at z j (by rw [HZE.out]; exact hjk)] at cj
                have hzj := HZL.out j (by rw [HZE.out]; exact hjk)
                obtain ⟨sz, hsz⟩ : ∃ sz, z.getD j 0 = sz := ⟨_, rfl⟩
                rw [hsz] at cj hzj
                obtain ⟨fv, hfv⟩ : ∃ fv, j + 1 - sz = fv := ⟨_, rfl⟩
                rw [hfv] at cj
                have HSZ : Hid _ := hsz
                have HFV : Hid _ := hfv
                have HZJ : Hid _ := hzj
                clear hyy hsz hfv hzj hv2 hv3
                have hl := live.out (sz + 1) (by rw [HYY.out, HSZ.out])
                have HLV : Hid _ := hl
                clear hl
                obtain ⟨i3, hi3, hz3, hs3, hy3⟩ := info_parts info3
                have O2 : Hid ((w1.alloc (.cells #[.int .i64 ((fv : Nat) : Int)] 3)).ownsRow w.heap.size 3 1 (.slice (some ⟨g4, 0, none⟩) k cap4) k (fos z)) := World.ownsRow.alloc (w := w1) O1.out _
                have hbase : w.heap.size ≤ (w1.alloc (.cells #[.int .i64 ((fv : Nat) : Int)] 3)).heap.size := by
                  have := B1.out.size
                  have h2 : w1.heap.size = w1.heap.size := rfl
                  rw [World.size_alloc, h2]
                  omega
                go_wp2_with (at_builtin; refine wpList_append_own _ rfl (.tmp 110) (.tmp 112) 66 rfl w.heap.size 3 i3 (.int .i64 0) 1 8 Tryd.underlying66 hi3 hz3 hs3 hy3 rfl (by decide) _ _ _ rfl O2.out ⟨w1.heap.size, 0, none⟩ 1 1 [.int .i64 ((fv : Nat) : Int)] rfl rfl ?c1 ?c2 ?c3 ?c4 ?c5 ?_)
                case c1 => exact cell_one_new _ _ _
                case c2 => intro y hy; simp at hy; subst hy; rfl
                case c3 => unfold maxLen; have := HK128.out; omega
                case c4 => have := HK128.out; omega
                case c5 => first | exact hbase | simpa using hbase
                intro v1 w8 hown1 hgrow1 _
                have OW : Hid (w8.ownsRow w.heap.size 3 1 v1 (k + 1) (fos z ++ [.int .i64 ((fv : Nat) : Int)])) := hown1
                have GR : Hid (Below w.heap.size w w8) := (Below.alloc B1.out (Nat.le_trans B1.out.size (Nat.le_refl _)) _).grown hgrow1 hbase (fun q hq => by have := (O1.out.lt q hq).1; omega)
                clear hown1 hgrow1 O2 hbase hi3 hz3 hs3 hy3
                go_wp2_with fail
                go_roundg (n - (k + 1))
                case measure => have := HGM.out; have := HK2.out; omega
                case rel =>
                  refine ⟨k + 1, z ++ [sz + 1], by first | (simp; done) | (rw [w64 k (by have := HK128.out; omega)]), HK2.out, rfl, HLV.out, ?_, GR.out⟩
                  rw [fos_snoc, HZE.out, show k + 1 - (sz + 1) = fv by (have h1 := HFV.out; have h2 := HJ.out; have h3 := HPOS.out; omega)]
                  exact OW.out
              · have hz0 := no.out (by rintro ⟨_, _, _, h⟩; exact hb h)
                have HZ0 : Hid _ := hz0
                have hb3 : (b != -1) = true := by simpa using hb
                clear hz0 hb
                have hz := dead.out (HZ0.out)
                have HZ : Hid _ := hz
                clear hz
                go_wp2_with fail
                (try simp only [Exit.inBlock, Exit.then])
                go_ret2
                exact beg_no HZ.out (B1.out)
            · have hz0 := no.out (by rintro ⟨_, _, h, _⟩; exact ha (by have := HJ.out; have := HPOS.out; omega))
              have HZ0 : Hid _ := hz0
              have ha3 : (a != (j : Int)) = true := by simpa using ha
              clear hz0 ha
              have hz := dead.out (HZ0.out)
              have HZ : Hid _ := hz
              clear hz
              go_wp2_with fail
              (try simp only [Exit.inBlock, Exit.then])
              go_ret2
              exact beg_no HZ.out (B1.out)
      · clear hop
        have no : Hid (¬ (d = true ∧ 2 ≤ k ∧ b = (k : Int) - 1 ∧ z.getD (k - 1) 0 + 1 ≤ k ∧ a = (k : Int) - 1 - (z.getD (k - 1) 0 : Nat)) → ext ⟨3, m, a, b⟩ z = none) := by
          intro hn
          unfold ext
          rw [if_neg (by simp), if_neg (by simp), if_pos (by simp), if_neg (by rw [← HD.out, HZE.out]; exact hn)]
        have yes : Hid ((d = true ∧ 2 ≤ k ∧ b = (k : Int) - 1 ∧ z.getD (k - 1) 0 + 1 ≤ k ∧ a = (k : Int) - 1 - (z.getD (k - 1) 0 : Nat)) → ext ⟨3, m, a, b⟩ z = some (z.getD (k - 1 - z.getD (k - 1) 0) 0 + z.getD (k - 1) 0 + 1)) := by
          intro hn
          unfold ext
          rw [if_neg (by simp), if_neg (by simp), if_pos (by simp), if_pos (by rw [← HD.out, HZE.out]; exact hn), HZE.out]
        cases d
        · have hz := dead.out (no.out (by rintro ⟨h, _⟩; cases h))
          have HZ : Hid _ := hz
          clear hz
          go_wp2_with fail
          (try simp only [Exit.inBlock, Exit.then])
          go_ret2
          exact beg_no HZ.out (B1.out)
        · rcases Nat.eq_zero_or_pos k with h0 | hpos
          · have hz0 := no.out (by rintro ⟨_, h, _⟩; omega)
            have HZ0 : Hid _ := hz0
            have e0 : ((k : Int) == 0) = true := by rw [beq_iff_eq]; omega
            clear hz0 h0
            have hz := dead.out (HZ0.out)
            have HZ : Hid _ := hz
            clear hz
            go_wp2_with fail
            go_region
            go_wp2_with fail
            (try simp only [Exit.inBlock, Exit.then])
            go_ret2
            exact beg_no HZ.out (Below.drew B1.out)
          · obtain ⟨j, hj⟩ : ∃ j, k - 1 = j := ⟨_, rfl⟩
            have e0 : ((k : Int) == 0) = false := by rw [beq_eq_false_iff_ne]; omega
            have hjw : wrap64 ((k : Int) - 1) = (j : Int) := by have := HK128.out; unfold wrap64; omega
            have hjk : j < k := by omega
            have HJ : Hid _ := hj
            have HPOS : Hid _ := hpos
            clear hj hpos
            by_cases hb : b = (j : Int)
            · subst hb
              have hzj := HZL.out j (by rw [HZE.out]; exact hjk)
              rw [HJ.out] at no yes
              obtain ⟨sz, hsz⟩ : ∃ sz, z.getD j 0 = sz := ⟨_, rfl⟩
              rw [hsz] at hzj no yes
              have HSZ : Hid _ := hsz
              have HZJ : Hid _ := hzj
              clear hzj
              by_cases hneg : a < 0
              · have hz0 := no.out (by rintro ⟨_, _, _, h, h2⟩; have := HJ.out; have := HPOS.out; omega)
                have HZ0 : Hid _ := hz0
                have ha3 : decide (a < 0) = true := by simpa using hneg
                clear hz0 hneg hsz
                have hz := dead.out (HZ0.out)
                have HZ : Hid _ := hz
                clear hz
                go_wp2_with fail
                go_region
                go_wp2_with fail
                (try simp only [Exit.inBlock, Exit.then])
                go_ret2
                exact beg_no HZ.out (Below.drew B1.out)
              · have ha3 : decide (a < 0) = false := by simpa using hneg
                obtain ⟨t, ht⟩ : ∃ t : Nat, a = (t : Int) := ⟨a.toNat, by omega⟩
                subst ht
                obtain ⟨g4, cc, hvv, _, _, _⟩ := own_form O1.out HPOS.out
                injection hvv with hv1 hv2 hv3
                subst hv1
                have cj := O1.out.cellAt j (by omega)
                rw [fos_at z j (by rw [HZE.out]; exact hjk), hsz] at cj
                obtain ⟨fv, hfv⟩ : ∃ fv, j + 1 - sz = fv := ⟨_, rfl⟩
                rw [hfv] at cj
                have HFV : Hid _ := hfv
                obtain ⟨x, hx⟩ : ∃ x : Int, wrap64 ((fv : Int) - 1) = x := ⟨_, rfl⟩
                have hx2 : x = (fv : Int) - 1 := by rw [← hx]; have := HK128.out; unfold wrap64; omega
                have HX2 : Hid _ := hx2
                clear hneg hsz hfv hv2 hv3 hx2
                by_cases hta : (t : Int) = x
                · have hti : t < k := by have h1 := HX2.out; have h2 := HFV.out; have h3 := HZJ.out; omega
                  have hyy := yes.out ⟨rfl, by have h1 := HX2.out; have h2 := HFV.out; have h3 := HZJ.out; have h4 := HJ.out; omega, by have h4 := HJ.out; have := HPOS.out; omega, by have h1 := HX2.out; have h2 := HFV.out; have h3 := HZJ.out; have h4 := HJ.out; omega, by have h1 := HX2.out; have h2 := HFV.out; have h3 := HZJ.out; have h4 := HJ.out; have := HPOS.out; omega⟩
                  have htj : j - sz = t := by have h1 := HX2.out; have h2 := HFV.out; have h3 := HZJ.out; omega
                  rw [htj] at hyy
                  have HYY : Hid _ := hyy
                  have HTJ : Hid _ := htj
                  have ct := O1.out.cellAt t (by omega)
                  rw [fos_at z t (by rw [HZE.out]; exact hti)] at ct
                  have hzt := HZL.out t (by rw [HZE.out]; exact hti)
                  obtain ⟨uz, huz⟩ : ∃ uz, z.getD t 0 = uz := ⟨_, rfl⟩
                  rw [huz] at ct hzt
                  obtain ⟨gv, hgv⟩ : ∃ gv, t + 1 - uz = gv := ⟨_, rfl⟩
                  rw [hgv] at ct
                  have HGV : Hid _ := hgv
                  have HUZ : Hid _ := huz
                  have HZT : Hid _ := hzt
                  have hne3 : ((t : Int) != x) = false := by simpa using hta
                  have HTI : Hid _ := hti
                  clear hyy htj huz hgv hzt hta
                  have hl := live.out (uz + sz + 1) (by rw [HYY.out, HUZ.out])
                  have HLV : Hid _ := hl
                  clear hl
                  obtain ⟨i3, hi3, hz3, hs3, hy3⟩ := info_parts info3
                  have O2 : Hid ((w1.drew.alloc (.cells #[.int .i64 ((gv : Nat) : Int)] 3)).ownsRow w.heap.size 3 1 (.slice (some ⟨g4, 0, none⟩) k cap4) k (fos z)) := World.ownsRow.alloc (w := w1.drew) O1.out _
                  have hbase : w.heap.size ≤ (w1.drew.alloc (.cells #[.int .i64 ((gv : Nat) : Int)] 3)).heap.size := by
                    have := B1.out.size
                    have h2 : w1.drew.heap.size = w1.heap.size := rfl
                    rw [World.size_alloc, h2]
                    omega
                  go_wp2_with fail
                  go_region
                  go_wp2_with (at_builtin; refine wpList_append_own _ rfl (.tmp 110) (.tmp 112) 66 rfl w.heap.size 3 i3 (.int .i64 0) 1 8 Tryd.underlying66 hi3 hz3 hs3 hy3 rfl (by decide) _ _ _ rfl O2.out ⟨w1.drew.heap.size, 0, none⟩ 1 1 [.int .i64 ((gv : Nat) : Int)] rfl rfl ?c1 ?c2 ?c3 ?c4 ?c5 ?_)
                  case c1 => exact cell_one_new _ _ _
                  case c2 => intro y hy; simp at hy; subst hy; rfl
                  case c3 => unfold maxLen; have := HK128.out; omega
                  case c4 => have := HK128.out; omega
                  case c5 => first | exact hbase | simpa using hbase
                  intro v1 w8 hown1 hgrow1 _
                  have OW : Hid (w8.ownsRow w.heap.size 3 1 v1 (k + 1) (fos z ++ [.int .i64 ((gv : Nat) : Int)])) := hown1
                  have GR : Hid (Below w.heap.size w w8) := (Below.alloc (Below.drew B1.out) (Nat.le_trans B1.out.size (Nat.le_refl _)) _).grown hgrow1 hbase (fun q hq => by have := (O1.out.lt q hq).1; omega)
                  clear hown1 hgrow1 O2 hbase hi3 hz3 hs3 hy3
                  go_wp2_with fail
                  go_roundg (n - (k + 1))
                  case measure => have := HGM.out; have := HK2.out; omega
                  case rel =>
                    refine ⟨k + 1, z ++ [uz + sz + 1], by first | (simp; done) | (rw [w64 k (by have := HK128.out; omega)]), HK2.out, rfl, HLV.out, ?_, GR.out⟩
                    rw [fos_snoc, HZE.out, show k + 1 - (uz + sz + 1) = gv by (have h1 := HGV.out; have h2 := HTJ.out; have h3 := HZJ.out; have h4 := HJ.out; have h5 := HPOS.out; have h6 := HZT.out; omega)]
                    exact OW.out
                · have hz0 := no.out (by rintro ⟨_, _, _, h, h2⟩; refine hta ?_; have h1 := HX2.out; have h2 := HFV.out; have h3 := HZJ.out; have h4 := HJ.out; have := HPOS.out; omega)
                  have HZ0 : Hid _ := hz0
                  have hne3 : ((t : Int) != x) = true := by simpa using hta
                  clear hz0 hta
                  have hz := dead.out (HZ0.out)
                  have HZ : Hid _ := hz
                  clear hz
                  go_wp2_with fail
                  go_region
                  go_wp2_with fail
                  (try simp only [Exit.inBlock, Exit.then])
                  go_ret2
                  exact beg_no HZ.out (Below.drew B1.out)
            · have hz0 := no.out (by rintro ⟨_, _, h, _⟩; exact hb (by have := HJ.out; have := HPOS.out; omega))
              have HZ0 : Hid _ := hz0
              have hb3 : (b != (j : Int)) = true := by simpa using hb
              clear hz0 hb
              have hz := dead.out (HZ0.out)
              have HZ : Hid _ := hz
              clear hz
              go_wp2_with fail
              go_region
              go_wp2_with fail
              (try simp only [Exit.inBlock, Exit.then])
              go_ret2
              exact beg_no HZ.out (Below.drew B1.out)
      · clear hop
        have no : Hid (¬ (d = true ∧ 2 ≤ k ∧ b = (k : Int) - 1 ∧ z.getD (k - 1) 0 + 1 ≤ k ∧ a = (k : Int) - 1 - (z.getD (k - 1) 0 : Nat)) → ext ⟨4, m, a, b⟩ z = none) := by
          intro hn
          unfold ext
          rw [if_neg (by simp), if_neg (by simp), if_pos (by simp), if_neg (by rw [← HD.out, HZE.out]; exact hn)]
        have yes : Hid ((d = true ∧ 2 ≤ k ∧ b = (k : Int) - 1 ∧ z.getD (k - 1) 0 + 1 ≤ k ∧ a = (k : Int) - 1 - (z.getD (k - 1) 0 : Nat)) → ext ⟨4, m, a, b⟩ z = some (z.getD (k - 1 - z.getD (k - 1) 0) 0 + z.getD (k - 1) 0 + 1)) := by
          intro hn
          unfold ext
          rw [if_neg (by simp), if_neg (by simp), if_pos (by simp), if_pos (by rw [← HD.out, HZE.out]; exact hn), HZE.out]
        cases d
        · have hz := dead.out (no.out (by rintro ⟨h, _⟩; cases h))
          have HZ : Hid _ := hz
          clear hz
          go_wp2_with fail
          (try simp only [Exit.inBlock, Exit.then])
          go_ret2
          exact beg_no HZ.out (B1.out)
        · rcases Nat.eq_zero_or_pos k with h0 | hpos
          · have hz0 := no.out (by rintro ⟨_, h, _⟩; omega)
            have HZ0 : Hid _ := hz0
            have e0 : ((k : Int) == 0) = true := by rw [beq_iff_eq]; omega
            clear hz0 h0
            have hz := dead.out (HZ0.out)
            have HZ : Hid _ := hz
            clear hz
            go_wp2_with fail
            go_region
            go_wp2_with fail
            (try simp only [Exit.inBlock, Exit.then])
            go_ret2
            exact beg_no HZ.out (Below.drew B1.out)
          · obtain ⟨j, hj⟩ : ∃ j, k - 1 = j := ⟨_, rfl⟩
            have e0 : ((k : Int) == 0) = false := by rw [beq_eq_false_iff_ne]; omega
            have hjw : wrap64 ((k : Int) - 1) = (j : Int) := by have := HK128.out; unfold wrap64; omega
            have hjk : j < k := by omega
            have HJ : Hid _ := hj
            have HPOS : Hid _ := hpos
            clear hj hpos
            by_cases hb : b = (j : Int)
            · subst hb
              have hzj := HZL.out j (by rw [HZE.out]; exact hjk)
              rw [HJ.out] at no yes
              obtain ⟨sz, hsz⟩ : ∃ sz, z.getD j 0 = sz := ⟨_, rfl⟩
              rw [hsz] at hzj no yes
              have HSZ : Hid _ := hsz
              have HZJ : Hid _ := hzj
              clear hzj
              by_cases hneg : a < 0
              · have hz0 := no.out (by rintro ⟨_, _, _, h, h2⟩; have := HJ.out; have := HPOS.out; omega)
                have HZ0 : Hid _ := hz0
                have ha3 : decide (a < 0) = true := by simpa using hneg
                clear hz0 hneg hsz
                have hz := dead.out (HZ0.out)
                have HZ : Hid _ := hz
                clear hz
                go_wp2_with fail
                go_region
                go_wp2_with fail
                (try simp only [Exit.inBlock, Exit.then])
                go_ret2
                exact beg_no HZ.out (Below.drew B1.out)
              · have ha3 : decide (a < 0) = false := by simpa using hneg
                obtain ⟨t, ht⟩ : ∃ t : Nat, a = (t : Int) := ⟨a.toNat, by omega⟩
                subst ht
                obtain ⟨g4, cc, hvv, _, _, _⟩ := own_form O1.out HPOS.out
                injection hvv with hv1 hv2 hv3
                subst hv1
                have cj := O1.out.cellAt j (by omega)
                rw [fos_at z j (by rw [HZE.out]; exact hjk), hsz] at cj
                obtain ⟨fv, hfv⟩ : ∃ fv, j + 1 - sz = fv := ⟨_, rfl⟩
                rw [hfv] at cj
                have HFV : Hid _ := hfv
                obtain ⟨x, hx⟩ : ∃ x : Int, wrap64 ((fv : Int) - 1) = x := ⟨_, rfl⟩
                have hx2 : x = (fv : Int) - 1 := by rw [← hx]; have := HK128.out; unfold wrap64; omega
                have HX2 : Hid _ := hx2
                clear hneg hsz hfv hv2 hv3 hx2
                by_cases hta : (t : Int) = x
                · have hti : t < k := by have h1 := HX2.out; have h2 := HFV.out; have h3 := HZJ.out; omega
                  have hyy := yes.out ⟨rfl, by have h1 := HX2.out; have h2 := HFV.out; have h3 := HZJ.out; have h4 := HJ.out; omega, by have h4 := HJ.out; have := HPOS.out; omega, by have h1 := HX2.out; have h2 := HFV.out; have h3 := HZJ.out; have h4 := HJ.out; omega, by have h1 := HX2.out; have h2 := HFV.out; have h3 := HZJ.out; have h4 := HJ.out; have := HPOS.out; omega⟩
                  have htj : j - sz = t := by have h1 := HX2.out; have h2 := HFV.out; have h3 := HZJ.out; omega
                  rw [htj] at hyy
                  have HYY : Hid _ := hyy
                  have HTJ : Hid _ := htj
                  have ct := O1.out.cellAt t (by omega)
                  rw [fos_at z t (by rw [HZE.out]; exact hti)] at ct
                  have hzt := HZL.out t (by rw [HZE.out]; exact hti)
                  obtain ⟨uz, huz⟩ : ∃ uz, z.getD t 0 = uz := ⟨_, rfl⟩
                  rw [huz] at ct hzt
                  obtain ⟨gv, hgv⟩ : ∃ gv, t + 1 - uz = gv := ⟨_, rfl⟩
                  rw [hgv] at ct
                  have HGV : Hid _ := hgv
                  have HUZ : Hid _ := huz
                  have HZT : Hid _ := hzt
                  have hne3 : ((t : Int) != x) = false := by simpa using hta
                  have HTI : Hid _ := hti
                  clear hyy htj huz hgv hzt hta
                  have hl := live.out (uz + sz + 1) (by rw [HYY.out, HUZ.out])
                  have HLV : Hid _ := hl
                  clear hl
                  obtain ⟨i3, hi3, hz3, hs3, hy3⟩ := info_parts info3
                  have O2 : Hid ((w1.drew.alloc (.cells #[.int .i64 ((gv : Nat) : Int)] 3)).ownsRow w.heap.size 3 1 (.slice (some ⟨g4, 0, none⟩) k cap4) k (fos z)) := World.ownsRow.alloc (w := w1.drew) O1.out _
                  have hbase : w.heap.size ≤ (w1.drew.alloc (.cells #[.int .i64 ((gv : Nat) : Int)] 3)).heap.size := by
                    have := B1.out.size
                    have h2 : w1.drew.heap.size = w1.heap.size := rfl
                    rw [World.size_alloc, h2]
                    omega
                  go_wp2_with fail
                  go_region
                  go_wp2_with (at_builtin; refine wpList_append_own _ rfl (.tmp 110) (.tmp 112) 66 rfl w.heap.size 3 i3 (.int .i64 0) 1 8 Tryd.underlying66 hi3 hz3 hs3 hy3 rfl (by decide) _ _ _ rfl O2.out ⟨w1.drew.heap.size, 0, none⟩ 1 1 [.int .i64 ((gv : Nat) : Int)] rfl rfl ?c1 ?c2 ?c3 ?c4 ?c5 ?_)
                  case c1 => exact cell_one_new _ _ _
                  case c2 => intro y hy; simp at hy; subst hy; rfl
                  case c3 => unfold maxLen; have := HK128.out; omega
                  case c4 => have := HK128.out; omega
                  case c5 => first | exact hbase | simpa using hbase
                  intro v1 w8 hown1 hgrow1 _
                  have OW : Hid (w8.ownsRow w.heap.size 3 1 v1 (k + 1) (fos z ++ [.int .i64 ((gv : Nat) : Int)])) := hown1
                  have GR : Hid (Below w.heap.size w w8) := (Below.alloc (Below.drew B1.out) (Nat.le_trans B1.out.size (Nat.le_refl _)) _).grown hgrow1 hbase (fun q hq => by have := (O1.out.lt q hq).1; omega)
                  clear hown1 hgrow1 O2 hbase hi3 hz3 hs3 hy3
                  go_wp2_with fail
                  go_roundg (n - (k + 1))
                  case measure => have := HGM.out; have := HK2.out; omega
                  case rel =>
                    refine ⟨k + 1, z ++ [uz + sz + 1], by first | (simp; done) | (rw [w64 k (by have := HK128.out; omega)]), HK2.out, rfl, HLV.out, ?_, GR.out⟩
                    rw [fos_snoc, HZE.out, show k + 1 - (uz + sz + 1) = gv by (have h1 := HGV.out; have h2 := HTJ.out; have h3 := HZJ.out; have h4 := HJ.out; have h5 := HPOS.out; have h6 := HZT.out; omega)]
                    exact OW.out
                · have hz0 := no.out (by rintro ⟨_, _, _, h, h2⟩; refine hta ?_; have h1 := HX2.out; have h2 := HFV.out; have h3 := HZJ.out; have h4 := HJ.out; have := HPOS.out; omega)
                  have HZ0 : Hid _ := hz0
                  have hne3 : ((t : Int) != x) = true := by simpa using hta
                  clear hz0 hta
                  have hz := dead.out (HZ0.out)
                  have HZ : Hid _ := hz
                  clear hz
                  go_wp2_with fail
                  go_region
                  go_wp2_with fail
                  (try simp only [Exit.inBlock, Exit.then])
                  go_ret2
                  exact beg_no HZ.out (Below.drew B1.out)
            · have hz0 := no.out (by rintro ⟨_, _, h, _⟩; exact hb (by have := HJ.out; have := HPOS.out; omega))
              have HZ0 : Hid _ := hz0
              have hb3 : (b != (j : Int)) = true := by simpa using hb
              clear hz0 hb
              have hz := dead.out (HZ0.out)
              have HZ : Hid _ := hz
              clear hz
              go_wp2_with fail
              go_region
              go_wp2_with fail
              (try simp only [Exit.inBlock, Exit.then])
              go_ret2
              exact beg_no HZ.out (Below.drew B1.out)
    · obtain rfl : k = n := by have := HK.out; omega
      have hall : szs re [] = some z := by
        have := HS.out
        rw [← HNN.out, List.take_length] at this
        exact this
      have hzl := szs_ok hall zok_nil
      have HALL : Hid _ := hall
      have HZ2 : Hid (z.length = k) := by rw [hzl.2, HNN.out]; exact Nat.zero_add _
      clear hall hzl hk
      go_wp2_with fail
      (try simp only [Exit.inBlock, Exit.then])
      go_ret2
      unfold BegRes
      rw [HALL.out]
      exact ⟨⟨_, rfl, by rw [HZ2.out]; exact HO.out⟩, HB.out⟩
set_option maxRecDepth 100000 in
set_option maxHeartbeats 4000000 in
theorem rshaped_any (re : List Nd) (ao : Option Addr) (g o cap : Nat) (w : World) (hao : re ≠ [] → ao = some ⟨g, o, none⟩) (hn : NdsAt w g o re) (hg : re ≠ [] → g < w.heap.size) (hl : re.length < 1000000000000) :
    Calls Tryd.prog 34 #[.slice ao re.length cap] w fun e w' => e = .returned (.bool (Sh re)) ∧ Below w.heap.size w w' := by
  by_cases h0 : re.length = 0
  · have hs : Sh re = false := by
      have : re = [] := List.length_eq_zero_iff.1 h0
      rw [this]; rfl
    rw [h0]
    clear hao hn hg hl
    go_enter Tryd.func34, Tryd.ntmps34
    go_wp2_with fail
    go_ret
    exact ⟨by rw [hs]; rfl, Below.refl _ _⟩
  by_cases h128 : 128 < re.length
  · have hs : Sh re = false := by
      unfold Sh
      split
      · rfl
      · have : ¬ re.length ≤ 128 := by omega
        simp [this]
    have HS : Hid _ := hs
    obtain ⟨n, hnn⟩ : ∃ n, re.length = n := ⟨_, rfl⟩
    rw [hnn] at h0 h128 ⊢
    have e0 : ((n : Int) == 0) = false := by rw [beq_eq_false_iff_ne]; omega
    have e1 : decide ((128 : Int) < (n : Int)) = true := by rw [decide_eq_true_eq]; omega
    clear hao hn hg hl h0 h128 hnn hs
    go_enter Tryd.func34, Tryd.ntmps34
    go_wp2_with fail
    go_ret
    exact ⟨by rw [HS.out]; rfl, Below.refl _ _⟩
  have S := begins_any re ao g o cap w hao hn hg (by omega)
  have hne : re ≠ [] := fun h => h0 (by rw [h]; rfl)
  obtain ⟨n, hnn⟩ : ∃ n, re.length = n := ⟨_, rfl⟩
  have HNN : Hid _ := hnn
  rw [hnn] at h0 h128 S ⊢
  have e0 : ((n : Int) == 0) = false := by rw [beq_eq_false_iff_ne]; omega
  have e1 : decide ((128 : Int) < (n : Int)) = false := by rw [decide_eq_false_iff_not]; omega
  have HL : Hid (1 ≤ n ∧ n ≤ 128) := ⟨by omega, by omega⟩
  clear hao hn hg hl h0 h128 hnn hne
  go_enter Tryd.func34, Tryd.ntmps34
  go_wp2_with fail
  refine S.mono ?_
  rintro e w1 ⟨h1, hb1⟩
  have HB : Hid _ := hb1
  clear hb1 S
  cases hz : szs re [] with
  | none =>
    rw [hz] at h1
    have hs : Sh re = false := by unfold Sh; rw [hz]
    have HS : Hid _ := hs
    clear hs hz
    subst h1
    go_wp2_with fail
    go_ret
    exact ⟨by rw [HS.out]; rfl, HB.out⟩
  | some z =>
    rw [hz] at h1
    obtain ⟨v, rfl, hown⟩ := h1
    have hzl := szs_ok hz zok_nil
    have hzn : z.length = n := by rw [hzl.2, HNN.out]; simp
    rw [hzn] at hown
    obtain ⟨g4, cc, rfl, _, _, _⟩ := own_form hown HL.out.1
    obtain ⟨u, hu⟩ : ∃ u, n - 1 = u := ⟨_, rfl⟩
    have hun : u < n := by have := HL.out; omega
    have cj := hown.cellAt u (by omega)
    rw [fos_at z u (by omega)] at cj
    have hzu := hzl.1 u (by omega)
    obtain ⟨x, hx⟩ : ∃ x, z.getD u 0 = x := ⟨_, rfl⟩
    rw [hx] at cj hzu
    have hsh : Sh re = decide (x = n) := by
      unfold Sh
      rw [hz]
      have h1 : decide (re.length ≠ 0) = true := by rw [decide_eq_true_eq, HNN.out]; have := HL.out; omega
      have h2 : decide (re.length ≤ 128) = true := by rw [decide_eq_true_eq, HNN.out]; have := HL.out; omega
      dsimp only
      rw [h1, h2, HNN.out, hu, hx]
      rfl
    have HSH : Hid _ := hsh
    have HZU : Hid _ := hzu
    have hw1 : wrap64 ((n : Int) - 1) = (u : Int) := by have := HL.out; unfold wrap64; omega
    obtain ⟨fv, hfv⟩ : ∃ fv, u + 1 - x = fv := ⟨_, rfl⟩
    rw [hfv] at cj
    have HFV : Hid _ := hfv
    have HU : Hid _ := hu
    clear hz hown hzl hzn hu hx hsh hzu hfv
    by_cases hf0 : fv = 0
    · subst hf0
      go_wp2_with fail
      go_ret
      refine ⟨ret_bool ?_, HB.out⟩
      rw [HSH.out]
      have : x = n := by have h1 := HFV.out; have h2 := HZU.out; have h3 := HU.out; have h4 := HL.out; omega
      simp [this]
    · have ef : ((fv : Int) == 0) = false := by rw [beq_eq_false_iff_ne]; omega
      go_wp2_with fail
      go_ret
      refine ⟨ret_bool ?_, HB.out⟩
      rw [HSH.out]
      have : ¬ x = n := by have h1 := HFV.out; have h2 := HZU.out; have h3 := HU.out; have h4 := HL.out; omega
      first
      | (rw [ef]; simp [this])
      | simp [this]
end Go.Proofs.YtkjcnnecdclgfaaDoor.Rr
