import Derived.Test.YtcfmpmhdjkchjabFrd
import Derived.Test.YtcfmpmhdjkchjabThh
namespace Go.Proofs.Ytcfmpmhdjkchjab
open Go.RowKit Go.Maps

theorem rdc_len (Te : List Td) (Sy : List Sd) (P : List Pd) (z : Int) (ks : List (List Nd)) (es : List Int) (h : rom ks ≤ 1073741824) : (rdc Te Sy P z ks es).length ≤ 1073741824 := by
  have key : (rdc Te Sy P z ks es).length ≤ 1073741824 := by
    unfold rdc
    by_cases hr : rok P z ks es = true
    · rw [if_pos hr]
      have hl : ks.length = (P.getD z.toNat pfd).2.2.length := by
        unfold rok at hr
        rw [Bool.and_eq_true, Bool.and_eq_true, Bool.and_eq_true, Bool.and_eq_true] at hr
        exact of_decide_eq_true hr.2.1.1
      have h1 := pts_len Te Sy (P.getD z.toNat pfd).2.2 ks es _ (Nat.le_of_eq hl.symm)
      have h2 := rom_take ks (P.getD z.toNat pfd).2.2.length
      unfold red
      by_cases hs : ish Sy (P.getD z.toNat pfd).1 = true
      · rw [if_pos hs, List.length_cons]; omega
      · rw [if_neg hs]; omega
    · rw [if_neg hr]; exact Nat.zero_le _
  exact key
theorem rom_lens : ∀ (L M : List (Value × List Nd)), L.map (fun x => x.2.length) = M.map (fun x => x.2.length) → rom (L.map Prod.snd) = rom (M.map Prod.snd)
  | [], [], _ => rfl
  | [], _ :: _, h => by cases h
  | _ :: _, [], h => by cases h
  | x :: L, y :: M, h => by
    injection h with h1 h2
    have h3 : x.2.length = y.2.length := h1
    show rom (L.map Prod.snd) + (x.2.length + 1) = rom (M.map Prod.snd) + (y.2.length + 1)
    rw [rom_lens L M h2, h3]
theorem max_lens {L M : List (Value × List Nd)} {b : Nat} (h : L.map (fun x => x.2.length) = M.map (fun x => x.2.length)) (hm : ∀ x ∈ M, x.2.length ≤ b) : ∀ x ∈ L, x.2.length ≤ b := fun x hx => by
  have h1 : x.2.length ∈ L.map (fun x => x.2.length) := List.mem_map.2 ⟨x, hx, rfl⟩
  rw [h] at h1
  obtain ⟨y, hy, e⟩ := List.mem_map.1 h1
  rw [← e]; exact hm y hy
/-- Four rows of rows, none sharing a block with another. -/
structure R4 (B : Nat) (W : World) (vi : Value) (I : List Value) (vs : Value) (S : List Value) (vo : Value) (O : List Value) (vr : Value) (Q : List Value) : Prop where
  i : W.ownsRow B 44 1 vi I.length I
  s : W.ownsRow B 44 1 vs S.length S
  o : W.ownsRow B 44 1 vo O.length O
  q : W.ownsRow B 44 1 vr Q.length Q
  nis : Nb vi vs
  nio : Nb vi vo
  niq : Nb vi vr
  nso : Nb vs vo
  nsq : Nb vs vr
  noq : Nb vo vr
theorem R4.up {B : Nat} {W W' : World} {vi vs vo vr : Value} {I S O Q : List Value} (h : R4 B W vi I vs S vo O vr Q) (hb : Below W.heap.size W W') : R4 B W' vi I vs S vo O vr Q :=
  ⟨row_up h.i hb, row_up h.s hb, row_up h.o hb, row_up h.q hb, h.nis, h.nio, h.niq, h.nso, h.nsq, h.noq⟩
theorem R4.node {B : Nat} {W W' : World} {vi vs vo vr : Value} {I S O Q : List Value} (h : R4 B W vi I vs S vo O vr Q) {B' n : Nat} {v : Value} {xs : List Value} (hv : W.ownsRow B' 65 7 v n xs) (hg : W.grownBy W' v.ownBlock) : R4 B W' vi I vs S vo O vr Q :=
  ⟨h.i.kept hg (tag_ne h.i hv (by decide)), h.s.kept hg (tag_ne h.s hv (by decide)), h.o.kept hg (tag_ne h.o hv (by decide)), h.q.kept hg (tag_ne h.q hv (by decide)), h.nis, h.nio, h.niq, h.nso, h.nsq, h.noq⟩
theorem R4.one {B : Nat} {W W' : World} {vi vs vo vr : Value} {I S O Q : List Value} (h : R4 B W vi I vs S vo O vr Q) {v' x : Value} (ho : W'.ownsRow B 44 1 v' (S.length + 1) (S ++ [x])) (hg : W.grownBy W' vs.ownBlock) (hb : v'.ownBlock = vs.ownBlock ∨ v'.ownBlock = some W.heap.size) : R4 B W' vi I v' (S ++ [x]) vo O vr Q :=
  ⟨h.i.kept hg h.nis, by rw [List.length_append]; exact ho, h.o.kept hg h.nso.symm, h.q.kept hg h.nsq.symm, h.nis.app h.i hb, h.nio, h.niq, (h.nso.symm.app h.o hb).symm, (h.nsq.symm.app h.q hb).symm, h.noq⟩
theorem R4.two {B : Nat} {W W' : World} {vi vs vo vr : Value} {I S O Q : List Value} (h : R4 B W vi I vs S vo O vr Q) {v' x : Value} (ho : W'.ownsRow B 44 1 v' (O.length + 1) (O ++ [x])) (hg : W.grownBy W' vo.ownBlock) (hb : v'.ownBlock = vo.ownBlock ∨ v'.ownBlock = some W.heap.size) : R4 B W' vi I vs S v' (O ++ [x]) vr Q :=
  ⟨h.i.kept hg h.nio, h.s.kept hg h.nso, by rw [List.length_append]; exact ho, h.q.kept hg h.noq.symm, h.nis, h.nio.app h.i hb, h.niq, h.nso.app h.s hb, h.nsq, (h.noq.symm.app h.q hb).symm⟩
theorem R4.three {B : Nat} {W W' : World} {vi vs vo vr : Value} {I S O Q : List Value} (h : R4 B W vi I vs S vo O vr Q) {v' x : Value} (ho : W'.ownsRow B 44 1 v' (Q.length + 1) (Q ++ [x])) (hg : W.grownBy W' vr.ownBlock) (hb : v'.ownBlock = vr.ownBlock ∨ v'.ownBlock = some W.heap.size) : R4 B W' vi I vs S vo O v' (Q ++ [x]) :=
  ⟨h.i.kept hg h.niq, h.s.kept hg h.nsq, h.o.kept hg h.noq, by rw [List.length_append]; exact ho, h.nis, h.nio, h.niq.app h.i hb, h.nso, h.nsq.app h.s hb, h.noq.app h.o hb⟩
theorem Z.base {B B' k : Nat} {W : World} {C : Cm} {v : Value} (h : Z B W C k v) (hB : B' ≤ B) : Z B' W C k v := ⟨row_base h.1 hB, h.2⟩
theorem ct_map {B j k : Nat} {W W' : World} {C C' : Cm} {I : List Value} (h : ∀ x ∈ I, Z B W C j x) (ht : Tk B k W C W' C') (hj : j ≠ k) : I.map (ct C') = I.map (ct C) := List.map_congr_left fun x hx => (ht j x (h x hx)).2.2 hj
/-- What the rows bear. -/
structure Zs (B : Nat) (W : World) (C : Cm) (T : List (List Nd)) (R : List Nd) (I : List Value) (va vb vw : Value) (S O Q : List Value) : Prop where
  i : ∀ x ∈ I, Z B W C 1 x
  t : I.map (ct C) = T
  a : Z B W C 2 va
  b : Z B W C 3 vb
  w : Z B W C 3 vw
  ea : ct C va = R
  eb : ct C vb = R
  ew : ct C vw = R
  s : ∀ x ∈ S, Z B W C 2 x
  o : ∀ x ∈ O, Z B W C 3 x
  q : ∀ x ∈ Q, Z B W C 3 x
  e : O.map (ct C) = Q.map (ct C)
  zs : ∀ x ∈ S, (ct C x).length ≤ 1048576
  zo : ∀ x ∈ O, (ct C x).length ≤ 1048576
section
variable {B : Nat} {W W' : World} {C C' : Cm} {T : List (List Nd)} {R : List Nd} {I : List Value} {va vb vw : Value} {S O Q : List Value}
theorem Zs.up (h : Zs B W C T R I va vb vw S O Q) (ht : Tk B 0 W C W' C') : Zs B W' C' T R I va vb vw S O Q :=
  ⟨fun x hx => (ht _ _ (h.i x hx)).1, (ct_map h.i ht (by decide)).trans h.t, (ht _ _ h.a).1, (ht _ _ h.b).1, (ht _ _ h.w).1, ((ht _ _ h.a).2.2 (by decide)).trans h.ea, ((ht _ _ h.b).2.2 (by decide)).trans h.eb, ((ht _ _ h.w).2.2 (by decide)).trans h.ew,
    fun x hx => (ht _ _ (h.s x hx)).1, fun x hx => (ht _ _ (h.o x hx)).1, fun x hx => (ht _ _ (h.q x hx)).1, by rw [ct_map h.o ht (by decide), ct_map h.q ht (by decide)]; exact h.e,
    fun x hx => by rw [(ht _ _ (h.s x hx)).2.1]; exact h.zs x hx, fun x hx => by rw [(ht _ _ (h.o x hx)).2.1]; exact h.zo x hx⟩
theorem mem_snoc {α : Type} {p : α → Prop} {l : List α} {y : α} (h : ∀ x ∈ l, p x) (hy : p y) : ∀ x ∈ l ++ [y], p x := fun x hx => by
  rcases List.mem_append.1 hx with hx | hx
  · exact h x hx
  · cases List.mem_singleton.1 hx; exact hy
theorem Zs.snoc (h : Zs B W C T R I va vb vw S O Q) {s o q : Value} (hs : Z B W C 2 s) (ho : Z B W C 3 o) (hq : Z B W C 3 q) (e : ct C o = ct C q) (ls : (ct C s).length ≤ 1048576) (lo : (ct C o).length ≤ 1048576) : Zs B W C T R I va vb vw (S ++ [s]) (O ++ [o]) (Q ++ [q]) :=
  ⟨h.i, h.t, h.a, h.b, h.w, h.ea, h.eb, h.ew, mem_snoc h.s hs, mem_snoc h.o ho, mem_snoc h.q hq, by rw [List.map_append, List.map_append, h.e]; show _ ++ [ct C o] = _ ++ [ct C q]; rw [e], mem_snoc h.zs ls, mem_snoc h.zo lo⟩
/-- What copiedAll gives. -/
theorem cop_fin {B0 : Nat} {v : Value} {M : List (Value × List Nd)} (h : Ko B0 W v M) (hz : Kz B0 W M) (hB : B ≤ B0) : ∃ C, W.ownsRow B 44 1 v (M.map Prod.fst).length (M.map Prod.fst) ∧ (∀ x ∈ M.map Prod.fst, Z B W C 1 x) ∧ (M.map Prod.fst).map (ct C) = M.map Prod.snd := by
  obtain ⟨C, hC⟩ := hz
  refine ⟨C, by rw [List.length_map]; exact row_base h.1 hB, fun x hx => ?_, ?_⟩
  · obtain ⟨y, hy, rfl⟩ := List.mem_map.1 hx
    exact (hC y hy).1.base hB
  · rw [List.map_map]
    exact List.map_congr_left fun x hx => (hC x hx).2
/-- A row that was just made. -/
def Nw (W W' : World) (v : Value) (t : List Nd) : Prop := W'.ownsRow W.heap.size 65 7 v t.length (flat nf t) ∧ Below W.heap.size W W'
theorem zs_start {V5 V6 V7 : World} (hB : B ≤ W.heap.size) (hi : ∀ x ∈ I, Z B W C 1 x) (ht : I.map (ct C) = T) (h5 : Nw W V5 va R) (h6 : Nw V5 V6 vb R) (h7 : Nw V6 V7 vw R) : ∃ C', Zs B V7 C' T R I va vb vw [] [] [] := by
  obtain ⟨C5, a1, a2, a3⟩ := birth C 2 hB h5.1 h5.2
  obtain ⟨C6, b1, b2, b3⟩ := birth C5 3 (Nat.le_trans hB h5.2.size) h6.1 h6.2
  obtain ⟨C7, c1, c2, c3⟩ := birth C6 3 (Nat.le_trans hB (Nat.le_trans h5.2.size h6.2.size)) h7.1 h7.2
  have t57 := (b3 0).trans (c3 0)
  have t47 := (a3 0).trans t57
  exact ⟨C7, fun x hx => (t47 _ _ (hi x hx)).1, (ct_map hi t47 (by decide)).trans ht, (t57 _ _ a1).1, (c3 0 _ _ b1).1, c1, ((t57 _ _ a1).2.2 (by decide)).trans a2, ((c3 0 _ _ b1).2.2 (by decide)).trans b2, c2, (fun x hx => by cases hx), (fun x hx => by cases hx), (fun x hx => by cases hx), rfl, (fun x hx => by cases hx), (fun x hx => by cases hx)⟩
theorem zs_round {V2 V3 V4 : World} {s o q : Value} {ts tq : List Nd} (hB : B ≤ W.heap.size) (h : Zs B W C T R I va vb vw S O Q) (h2 : Nw W V2 s ts) (h3 : Nw V2 V3 o tq) (h4 : Nw V3 V4 q tq) (ls : ts.length ≤ 1048576) (lo : tq.length ≤ 1048576) : ∃ C', Zs B V4 C' T R I va vb vw (S ++ [s]) (O ++ [o]) (Q ++ [q]) := by
  obtain ⟨C5, a1, a2, a3⟩ := birth C 2 hB h2.1 h2.2
  obtain ⟨C6, b1, b2, b3⟩ := birth C5 3 (Nat.le_trans hB h2.2.size) h3.1 h3.2
  obtain ⟨C7, c1, c2, c3⟩ := birth C6 3 (Nat.le_trans hB (Nat.le_trans h2.2.size h3.2.size)) h4.1 h4.2
  have t57 := (b3 0).trans (c3 0)
  have es := ((t57 _ _ a1).2.2 (by decide)).trans a2
  have eo := ((c3 0 _ _ b1).2.2 (by decide)).trans b2
  exact ⟨C7, (h.up ((a3 0).trans t57)).snoc (t57 _ _ a1).1 (c3 0 _ _ b1).1 c1 (eo.trans c2.symm) (by rw [es]; exact ls) (by rw [eo]; exact lo)⟩
theorem zs_last {V2 V3 : World} {vn vt : Value} {N : List Nd} (hB : B ≤ W.heap.size) (h : Zs B W C T R I va vb vw S O Q) (h2 : Nw W V2 vn N) (h3 : Nw V2 V3 vt N) : ∃ C', Zs B V3 C' T R I va vb vw S O Q ∧ Z B V3 C' 3 vn ∧ ct C' vn = N ∧ Z B V3 C' 3 vt ∧ ct C' vt = N := by
  obtain ⟨C5, a1, a2, a3⟩ := birth C 3 hB h2.1 h2.2
  obtain ⟨C6, b1, b2, b3⟩ := birth C5 3 (Nat.le_trans hB h2.2.size) h3.1 h3.2
  exact ⟨C6, h.up ((a3 0).trans (b3 0)), (b3 0 _ _ a1).1, ((b3 0 _ _ a1).2.2 (by decide)).trans a2, b1, b2⟩
end
/-- What stands while rows of kind k are written over. -/
structure Ev (k : Nat) (W1 W0 : World) (C0 : Cm) (vi : Value) (I : List Value) (vs : Value) (S : List Value) (vo : Value) (O : List Value) (vr : Value) (Q : List Value) (W : World) : Prop where
  t : ∃ C, Tk W1.heap.size k W0 C0 W C
  b : Below W1.heap.size W1 W
  r : R4 W1.heap.size W vi I vs S vo O vr Q
section
variable {k : Nat} {W1 W0 W W' : World} {C0 : Cm} {vi vs vo vr : Value} {I S O Q : List Value}
theorem Ev.start (hb : Below W1.heap.size W1 W0) (hr : R4 W1.heap.size W0 vi I vs S vo O vr Q) : Ev k W1 W0 C0 vi I vs S vo O vr Q W0 := ⟨⟨C0, Tk.up (Below.refl _ _)⟩, hb, hr⟩
theorem Ev.up (h : Ev k W1 W0 C0 vi I vs S vo O vr Q W) (hb : Below W.heap.size W W') : Ev k W1 W0 C0 vi I vs S vo O vr Q W' := by
  obtain ⟨C, hC⟩ := h.t
  exact ⟨⟨C, hC.trans (Tk.up hb)⟩, below_trans h.b hb, h.r.up hb⟩
theorem Ev.ns (h : Ev k W1 W0 C0 vi I vs S vo O vr Q W) {j : Nat} {v : Value} (hv : Z W1.heap.size W0 C0 j v) (hj : j ≠ k) : Ns W v (ct C0 v) := by
  obtain ⟨C, hC⟩ := h.t
  obtain ⟨a, _, b⟩ := hC j v hv
  have := a.ns
  rw [b hj] at this
  exact this
theorem spoil_ev (h : Ev k W1 W0 C0 vi I vs S vo O vr Q W) {v : Value} (hv : Z W1.heap.size W0 C0 k v) (hl : (ct C0 v).length ≤ 1073741824) :
    Calls Try.prog 10 #[v] W fun e w' => (∃ x, e = .returned x) ∧ Ev k W1 W0 C0 vi I vs S vo O vr Q w' := by
  obtain ⟨C, hC⟩ := h.t
  obtain ⟨hz, hn, _⟩ := hC k v hv
  refine (spoil_any W hz.1 h.b.size (by rw [hn]; exact hl)).mono ?_
  rintro e w' ⟨hx, s, h1, h2, h3⟩
  obtain ⟨C', h'⟩ := spoilt hz h2 h1 h3
  exact ⟨hx, ⟨C', hC.trans h'⟩, h.b.grown h3 h.b.size (fun r hr => (hz.1.lt r hr).1), h.r.node hz.1 h3⟩
theorem same_ev (h : Ev k W1 W0 C0 vi I vs S vo O vr Q W) {v u : Value} {t : List Nd} (hv : Ns W v t) (hu : Ns W u t) (hs : Sm t) :
    Calls Try.prog 11 #[v, u] W fun e w' => e = .returned (.bool true) ∧ Ev k W1 W0 C0 vi I vs S vo O vr Q w' := by
  refine (same_any hs W hv hu).mono ?_
  rintro e w' ⟨rfl, hb⟩
  exact ⟨by rw [decide_eq_true rfl], h.up hb⟩
theorem row_cell {B e n c : Nat} {a : Option Addr} {xs : List Value} (h : W.ownsRow B e 1 (.slice a n c) n xs) (i : Nat) (hi : i < n) : ∃ g, a = some ⟨g, 0, none⟩ ∧ W.cell? ⟨g, i, none⟩ = some (xs.getD i .nilFunc) := by
  obtain ⟨g, cap, e1, _⟩ := row_form h (by omega)
  cases e1
  refine ⟨g, rfl, row_at h i _ ?_⟩
  have hl := h.1
  rw [List.getD_eq_getElem?_getD, List.getElem?_eq_getElem (by omega)]
  rfl
end
end Go.Proofs.Ytcfmpmhdjkchjab
