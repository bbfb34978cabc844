import Derived.Test.YtbkhhegmmkcbbaaDoorSbe
import Derived.Test.YtbkhhegmmkcbbaaDoorSro
import Derived.Test.YtbkhhegmmkcbbaaDoorTap
import Derived.Deep.MidRow
namespace Go.Proofs.YtbkhhegmmkcbbaaDoor
open Go.RowKit Go.Maps

theorem infoAr : (Tryd.prog.info? 71).map (fun i => (i.zero, i.size, i.bytes)) = some (some (.agg #[.int .i64 0, .int .i64 0, .string ⟨#[]⟩]), 3, 32) := by kernel_rfl
theorem infoOq : (Tryd.prog.info? 73).map (fun i => (i.zero, i.size, i.bytes)) = some (some (.agg #[.int .i64 0, .int .i64 0, .string ⟨#[]⟩, .int .i64 0]), 4, 40) := by kernel_rfl
theorem step_store_mid {P : Program} {ops : Array Oper} {o : Oper} {a : Act} {w : World} {K : Act → World → Prop} {Q : Exit → Act → World → Prop} {E : Prop} (hgd : o.guard = none) (ty : TypeId) (x y : Operand) (ho : o.op = .store ty x y)
    (b of : Nat) (cells : Array Value) (hx : a.eval x = .pointer (some ⟨b, of, none⟩)) (hy : a.eval y = .agg cells)
    (ht : w.there b of cells.size) (hi : (P.info? ty).map (·.size) = some cells.size) (h1 : cells.all (·.oneCell') = true)
    (h : K (a.put o.dst undef) (w.setCells b of cells.toList)) : if Region.wanted o (yielded ops a.tmps) = true then Oper.wp P o a w K Q else E := by
  have hw : Region.wanted o (yielded ops a.tmps) = true := by simp [Region.wanted, hgd]
  rw [if_pos hw]
  exact wp_store_mid ty x y ho b of cells hx hy ht hi h1 h
theorem tag_ne {W : World} {B B' : Nat} {e e' : TypeId} {s s' n n' : Nat} {v v' : Value} {xs xs' : List Value} (h : W.ownsRow B e s v n xs) (h' : W.ownsRow B' e' s' v' n' xs') (hne : e ≠ e') : v.ownBlock = none ∨ v.ownBlock ≠ v'.ownBlock := by
  cases hv : v.ownBlock with
  | none => exact .inl rfl
  | some r =>
    refine .inr fun h2 => ?_
    obtain ⟨_, c1, e1⟩ := row_tag h r hv
    obtain ⟨_, c2, e2⟩ := row_tag h' r h2.symm
    rw [e1] at e2; cases e2; exact hne rfl
theorem tag_ne_blk {W : World} {B : Nat} {e t : TypeId} {s n bk : Nat} {v : Value} {xs : List Value} {cur : Array Value} (h : W.ownsRow B e s v n xs) (hb : W.heap[bk]? = some (.cells cur t (0, 0))) (hne : e ≠ t) : v.ownBlock ≠ some bk := fun e1 => by
  obtain ⟨_, c1, e2⟩ := row_tag h bk e1
  rw [hb] at e2; cases e2; exact hne rfl
theorem put3_heap {W : World} {b : Nat} {e : TypeId} {u0 u1 u2 v0 v1 v2 : Value} (h : W.heap[b]? = some (.cells #[u0, u1, u2] e (0, 0))) : (W.setCells b 0 [v0, v1, v2]).heap[b]? = some (.cells #[v0, v1, v2] e (0, 0)) := by
  have h1 : (W.setCell ⟨b, 0, none⟩ v0).heap[b]? = some (.cells #[v0, u1, u2] e (0, 0)) := blk_set v0 h
  have h2 : ((W.setCell ⟨b, 0, none⟩ v0).setCell ⟨b, 1, none⟩ v1).heap[b]? = some (.cells #[v0, v1, u2] e (0, 0)) := blk_set v1 h1
  exact blk_set v2 h2
theorem there3 {W : World} {b : Nat} {e : TypeId} {u0 u1 u2 : Value} (h : W.heap[b]? = some (.cells #[u0, u1, u2] e (0, 0))) : W.there b 0 3 := fun j hj => by
  refine ⟨?_, Lib.frozen_of_heap h _⟩
  rcases (by omega : j = 0 ∨ j = 1 ∨ j = 2) with rfl | rfl | rfl
  · rw [rcell h 0 _ rfl]; rfl
  · rw [rcell h 1 _ rfl]; rfl
  · rw [rcell h 2 _ rfl]; rfl
theorem szAr : (Tryd.prog.info? 71).map (·.size) = some 3 := by kernel_rfl
theorem flat_set {α : Type} {f : α → List Value} (l : List α) (i : Nat) (x : α) (n j : Nat) (v : Value) (hf : ∀ x, (f x).length = n) (hi : i < l.length) (d : α) (hj : j < n) (hx : (f (l.getD i d)).set j v = f x) : (flat f l).set (i * n + j) v = flat f (l.set i x) := by
  induction l generalizing i with
  | nil => simp at hi
  | cons y l ih =>
    cases i with
    | zero =>
      show (f y ++ flat f l).set _ _ = f x ++ flat f l
      rw [Nat.zero_mul, Nat.zero_add, List.set_append_left _ _ (by rw [hf]; exact hj)]
      congr 1
    | succ i =>
      show (f y ++ flat f l).set _ _ = f y ++ flat f (l.set i x)
      rw [List.set_append_right _ _ (by rw [hf, Nat.succ_mul]; omega), hf, show (i + 1) * n + j - n = i * n + j by rw [Nat.succ_mul]; omega, ih i (by simpa using hi) hx]
theorem oq_get (A : List Oq) (t : Oq) (j : Nat) (u : Value) (hu : (oqf t)[j]? = some u) : (flat oqf (A ++ [t]))[A.length * 4 + j]? = some u := by
  have hj : j < 4 := by have := (List.getElem?_eq_some_iff.1 hu).1; rwa [oqf_len] at this
  rw [flat_get oqf_len oqz (A ++ [t]) A.length j (by simp) hj, List.getD_eq_getElem?_getD, List.getElem?_append_right (Nat.le_refl _), Nat.sub_self]
  exact hu
theorem oq_set (A : List Oq) (t : Oq) (z : Int) : (flat oqf (A ++ [t])).set (A.length * 4 + 3) (.int .i64 z) = flat oqf (A ++ [⟨t.ar, z⟩]) := by
  rw [flat_set (f := oqf) (A ++ [t]) A.length ⟨t.ar, z⟩ 4 3 (.int .i64 z) oqf_len (by simp) oqz (by decide) (by
    rw [List.getD_eq_getElem?_getD, List.getElem?_append_right (Nat.le_refl _), Nat.sub_self]; rfl)]
  congr 1
  rw [List.set_append_right _ _ (Nat.le_refl _), Nat.sub_self]; rfl
theorem oq_take (A : List Oq) (t : Oq) : (flat oqf (A ++ [t])).take (A.length * 4) = flat oqf A := by
  rw [flat_app, List.take_append_of_le_length (by rw [flat_len oqf_len]; exact Nat.le_refl _), List.take_of_length_le (by rw [flat_len oqf_len]; exact Nat.le_refl _)]
theorem popr_pop {x y : Oq} (out : List Ar) (R : List Oq) (h : x.lf = 0) : popr out (x :: y :: R) = popr (out ++ [x.ar]) (y :: R) := by
  conv => lhs; unfold popr
  exact if_pos h
theorem popr_stop {x y : Oq} (out : List Ar) (R : List Oq) (h : ¬ x.lf = 0) : popr out (x :: y :: R) = (out, x :: y :: R) := by
  conv => lhs; unfold popr
  exact if_neg h
theorem lcl_none {L : List Pa} {t : ByteArray} (h : fs L t = none) : lcl L t = none := by unfold lcl; rw [h]; rfl
theorem lcl_some {L : List Pa} {t : ByteArray} {k : Nat} (h : fs L t = some k) : lcl L t = some (L.getD k paz).cl := by unfold lcl; rw [h]; rfl
set_option maxRecDepth 100000 in
set_option maxHeartbeats 16000000 in
/-- The areas. -/
theorem areasOf_any {v u : Value} {L : List Pa} {T : List Nd} (w : World) (h : Pl w v L) (hT : Ns w u T) (hz : Zp L T) : Calls Tryd.prog 12 #[v, u] w fun e w' => ∃ va, e = .returned (.tuple #[va, .bool (decide ((ars (lcl L) T).2.length = 1))]) ∧ w'.ownsRow w.heap.size 71 3 va (ars (lcl L) T).1.length (flat arf (ars (lcl L) T).1) ∧ Below w.heap.size w w' := by
  obtain ⟨iA, hiA, ha0, ha1, ha2⟩ := info_parts infoAr
  obtain ⟨iO, hiO, ho0, ho1, ho2⟩ := info_parts infoOq
  have HP : Hid (Pl w v L) := h
  have HT : Hid (Ns w u T) := hT
  have HZ : Hid (Zp L T) := hz
  obtain ⟨pa, pc, rfl⟩ := h.form
  obtain ⟨ta, tc, rfl⟩ := hT.form
  obtain ⟨m, hm⟩ : ∃ m, L.length = m := ⟨_, rfl⟩
  obtain ⟨n, hn⟩ : ∃ n, T.length = n := ⟨_, rfl⟩
  have HN : Hid (T.length = n ∧ n * 72 + 4096 ≤ 140737488355328 ∧ L.length = m) := ⟨hn, by have h9 := hz.tl; unfold Sm at h9; rw [hn] at h9; exact h9, hm⟩
  have HBN : Hid (Calls Tryd.prog 16 #[.slice pa m pc] w fun e w' => ∃ b k, e = .returned (.map (some b)) ∧ Mq w' b k (fs L) ∧ Below w.heap.size w w') := by
    have h9 := byName_any w h hz.ll (fun x hx => (hz.ln x hx).1)
    rw [hm] at h9
    exact h9
  rw [hm] at HP ⊢
  rw [hn] at HT ⊢
  clear h hT hz hm hn
  go_enter Tryd.func12, Tryd.ntmps12
  go_upto_region 5 with (go_at_call 16; refine Calls.mono HBN.out ?_; rintro e w1 ⟨b, k, rfl, hq, hb⟩; have HM : Hid (Mq w1 b k (fs L)) := hq; have HB1 : Hid (Below w.heap.size w w1) := hb; clear hq hb)
  -- BODY
  obtain ⟨B2, hB2⟩ : ∃ B2, w1.heap.size = B2 := ⟨_, rfl⟩
  have HBE : Hid (w1.heap.size = B2) := hB2
  have HS0 : Hid ((w1.alloc (.cells #[.int .i64 0, .int .i64 9223372036854775807, .string ⟨#[]⟩, .int .i64 0] 73)).ownsRow B2 73 4 (.slice (some ⟨B2, 0, none⟩) 1 1) 1 (flat oqf ([] ++ [⟨⟨0, 9223372036854775807, ⟨#[]⟩⟩, 0⟩]))) := by
    have h9 := World.ownsRow_lit (base := B2) (e := 73) (size := 4) w1 #[.int .i64 0, .int .i64 9223372036854775807, .string ⟨#[]⟩, .int .i64 0] 1 (Nat.le_of_eq hB2.symm) (by decide) rfl
    rw [hB2] at h9
    exact h9
  have HBS : Hid (Below B2 w1 (w1.alloc (.cells #[.int .i64 0, .int .i64 9223372036854775807, .string ⟨#[]⟩, .int .i64 0] 73))) := by rw [← hB2]; exact bel_up _ _
  have HBW : Hid (w.heap.size ≤ B2) := by rw [← hB2]; exact HB1.out.size
  rw [hB2]
  clear hB2
  go_loopg [7, 8, 23] n (fun gm v7 v8 v23 wr => ∃ (i : Nat) (U : List Ar) (t : Oq) (R : List Oq), v23 = .int .i64 (i : Int) ∧ Hid (i ≤ n ∧ gm = n - i) ∧ Hid (ars (lcl L) (T.take i) = (U, t :: R)) ∧ Hid (wr.ownsRow B2 71 3 v7 U.length (flat arf U)) ∧ Hid (wr.ownsRow B2 73 4 v8 (R.length + 1) (flat oqf (R.reverse ++ [t]))) ∧ Hid (Below B2 w1 wr))
  case atStart => exact ⟨0, [], _, [], rfl, ⟨Nat.zero_le _, rfl⟩, rfl, World.ownsRow_nil _ _ _ _, HS0, HBS⟩
  case round =>
    clear HS0 HBS
    obtain ⟨i, U, t, R, rfl, HI, HE, HU, HR, HB⟩ := hrel
    obtain ⟨wa, hwa⟩ : ∃ wa, wa = wr := ⟨_, rfl⟩
    rw [← hwa] at HU HR HB ⊢
    clear hwa
    obtain ⟨gs, c8, e8, hgs, -⟩ := row_form HR.out (by omega)
    subst e8
    obtain ⟨a7, c7, e7⟩ := row_shape HU.out
    subst e7
    obtain ⟨r, hr⟩ : ∃ r, R.length = r := ⟨_, rfl⟩
    have HRL : Hid (R.length = r) := hr
    have hlen := ars_len (lcl L) (T.take i)
    have HBw : Hid (Below w.heap.size w wa) := below_trans HB1.out (by rw [HBE.out]; exact HB.out)
    obtain ⟨q, hq⟩ : ∃ q, U.length = q := ⟨_, rfl⟩
    have HQL : Hid (U.length = q ∧ q + r ≤ n) := by
      rw [HE.out] at hlen
      simp only [List.length_cons, List.length_take] at hlen
      have := HN.out.1
      exact ⟨hq, by rw [← hq, ← hr]; omega⟩
    rw [hr] at HR ⊢
    rw [hq] at HU ⊢
    have HGS : Hid (B2 ≤ gs) := hgs
    clear hgs hr hq hlen
    by_cases hi : i < n
    · have e1 : decide ((i : Int) < (n : Int)) = true := by rw [decide_eq_true_eq]; omega
      have e2 : decide (i < n) = true := by rw [decide_eq_true_eq]; omega
      have b1 : (i : Int) < (n : Int) := by omega
      have b2 : i < n := hi
      have b3 : (0 : Int) ≤ (i : Int) := by omega
      have HIL : Hid (i < n ∧ i < T.length) := ⟨hi, by rw [HN.out.1]; exact hi⟩
      have hwi := w64n i (by have := HN.out; omega)
      have hwr : IntKind.i64.wrap (r : Int) = (r : Int) := by have := HN.out; have := HQL.out; rw [IntKind.wrap_i64]; omega
      obtain ⟨ng, no, hta, hq⟩ := HT.out.seven i HIL.out.2
      subst hta
      obtain ⟨y, hy⟩ : ∃ y, T.getD i ndd = y := ⟨_, rfl⟩
      have HY : Hid (T.getD i ndd = y) := hy
      rw [hy] at hq
      obtain ⟨q0, q1, q2, q3, q4, q5, q6⟩ := hq wa HBw.out
      have HYN : Hid (y.nm.size ≤ maxLen) := HZ.out.tn y (by rw [← hy]; exact mem_getD T ndd i HIL.out.2)
      clear hi hy hq
      go_upto_region 7 with fail
      obtain ⟨w2, hw2⟩ : ∃ w2, w2 = wa.alloc (.cells #[.string y.nm, .bool y.nd, .string y.fd, .int .i64 y.fr, .int .i64 y.tt, .int .i64 y.kd, .int .i64 y.lf] 53) := ⟨_, rfl⟩
      rw [← hw2]
      have HB2 : Hid (Below wa.heap.size wa w2) := by rw [hw2]; exact bel_up _ _
      have HN2 : Hid (w2.heap[wa.heap.size]? = some (.cells #[.string y.nm, .bool y.nd, .string y.fd, .int .i64 y.fr, .int .i64 y.tt, .int .i64 y.kd, .int .i64 y.lf] 53 (0, 0))) := by rw [hw2]; exact heap_new wa _
      clear hw2 q0 q1 q2 q3 q4 q5 q6
      obtain ⟨gn, hgn⟩ : ∃ gn, wa.heap.size = gn := ⟨_, rfl⟩
      have HGN : Hid (wa.heap.size = gn) := hgn
      rw [hgn] at HN2 ⊢
      clear hgn
      have HR2 : Hid (w2.ownsRow B2 73 4 (.slice (some ⟨gs, 0, none⟩) (r + 1) c8) (r + 1) (flat oqf (R.reverse ++ [t]))) := row_up HR.out HB2.out
      have b4 : (0 : Int) ≤ (r : Int) := by omega
      have b5 : (r : Int) < (r : Int) + 1 := by omega
      have b6 : r < r + 1 := by omega
      have b7 : (r : Int) < ((r + 1 : Nat) : Int) := by omega
      have hrr : R.reverse.length = r := by rw [List.length_reverse]; exact HRL.out
      have c3 : w2.cell? ⟨gs, r * 4 + 3, none⟩ = some (.int .i64 t.lf) := row_at HR2.out _ _ (by have h9 := oq_get R.reverse t 3 _ rfl; rw [hrr] at h9; exact h9)
      have fz := row_frz HR2.out (r * 4 + 3)
      obtain ⟨d, hd⟩ : ∃ d, IntKind.i64.wrap (t.lf - 1) = d := ⟨_, rfl⟩
      have HD : Hid (dec1 t.lf = d) := hd
      have HR3 : Hid ((w2.setCell ⟨gs, r * 4 + 3, none⟩ (.int .i64 d)).ownsRow B2 73 4 (.slice (some ⟨gs, 0, none⟩) (r + 1) c8) (r + 1) (flat oqf (R.reverse ++ [⟨t.ar, d⟩]))) := by
        have h9 := row_set HR2.out (r * 4 + 3) (.int .i64 d)
        have h8 := oq_set R.reverse t d
        rw [hrr] at h8
        rw [h8] at h9
        exact h9
      go_upto_region 9 with fail
      obtain ⟨w3, hw3⟩ : ∃ w3, w3 = w2.setCell ⟨gs, r * 4 + 3, none⟩ (.int .i64 d) := ⟨_, rfl⟩
      rw [← hw3] at HR3 ⊢
      have HB3 : Hid (Below B2 w1 w3) := by rw [hw3]; exact Below.setCell (HB.out.trans (HB2.out.mono (by have := HB.out.size; have := HBE.out; omega))) HGS.out _
      have HG3 : Hid (w2.grownBy w3 (some gs)) := by rw [hw3]; exact grown_set
      have HNS : Hid (gn ≠ gs) := by
        have h9 := ((HR.out.lt gs rfl).2)
        rw [HGN.out] at h9
        show gn ≠ gs
        omega
      have HN3 : Hid (w3.heap[gn]? = some (.cells #[.string y.nm, .bool y.nd, .string y.fd, .int .i64 y.fr, .int .i64 y.tt, .int .i64 y.kd, .int .i64 y.lf] 53 (0, 0))) := by
        show _ = _
        rw [HG3.out.block gn (lt_of_heap HN2.out) (fun e9 => HNS.out (Option.some.inj e9))]
        exact HN2.out
      have HU3 : Hid (w3.ownsRow B2 71 3 (.slice a7 q c7) q (flat arf U)) := (row_up HU.out HB2.out).kept HG3.out (tag_ne (row_up HU.out HB2.out) HR2.out (by decide))
      clear hw3 c3 fz hd hwr
      have HGL3 : Hid (gn < w3.heap.size) := lt_of_heap HN3.out
      have HCL : Hid (∀ W, Below w3.heap.size w3 W → (W.cell? ⟨gs, r * 4, none⟩ = some (.int .i64 t.ar.fr) ∧ W.cell? ⟨gs, r * 4 + 1, none⟩ = some (.int .i64 t.ar.tt) ∧ W.cell? ⟨gs, r * 4 + 2, none⟩ = some (.string t.ar.cl)) ∧ W.cell? ⟨gn, 0, none⟩ = some (.string y.nm) ∧ W.cell? ⟨gn, 1, none⟩ = some (.bool y.nd) ∧ W.cell? ⟨gn, 2, none⟩ = some (.string y.fd) ∧ W.cell? ⟨gn, 3, none⟩ = some (.int .i64 y.fr) ∧ W.cell? ⟨gn, 4, none⟩ = some (.int .i64 y.tt) ∧ W.cell? ⟨gn, 5, none⟩ = some (.int .i64 y.kd) ∧ W.cell? ⟨gn, 6, none⟩ = some (.int .i64 y.lf)) := fun W hW => by
        have k : ∀ j u, (oqf ⟨t.ar, d⟩)[j]? = some u → W.cell? ⟨gs, r * 4 + j, none⟩ = some u := fun j u hu => below_cell hW (row_at HR3.out _ _ (by have h9 := oq_get R.reverse ⟨t.ar, d⟩ j u hu; rw [hrr] at h9; exact h9))
        exact ⟨⟨k 0 _ rfl, k 1 _ rfl, k 2 _ rfl⟩, below_cell hW (rcell HN3.out 0 _ rfl), below_cell hW (rcell HN3.out 1 _ rfl), below_cell hW (rcell HN3.out 2 _ rfl), below_cell hW (rcell HN3.out 3 _ rfl), below_cell hW (rcell HN3.out 4 _ rfl), below_cell hW (rcell HN3.out 5 _ rfl), below_cell hW (rcell HN3.out 6 _ rfl)⟩
      go_cut [12] from 39 to 44 (fun v12 W => ∃ g12 : Nat, v12 = .pointer (some ⟨g12, 0, none⟩) ∧ Hid (W.heap[g12]? = some (.cells #[.int .i64 (max t.ar.fr y.fr), .int .i64 (min t.ar.tt y.tt), .string t.ar.cl] 71 (0, 0))) ∧ Hid (Below w3.heap.size w3 W) ∧ Hid (w3.heap.size ≤ g12))
      · refine wp_region_noPanic ?_
        refine wp_region_held_drew (S := fun W => Below w3.heap.size w3 W) (by kernel_rfl) (Below.drew (Below.refl _ _)) (fun hHeld => ?_)
        obtain ⟨wd, hwd⟩ : ∃ wd, w3.drew = wd := ⟨_, rfl⟩
        have HBD : Hid (Below w3.heap.size w3 wd) := by rw [← hwd]; exact Below.drew (Below.refl _ _)
        rw [hwd] at hHeld ⊢
        clear hwd
        refine wpAnyH_take (i := 0) (oi := { dst := _, op := _, type := _, pos := _, after := _, guard := _ }) (v := ?_) rfl (by kernel_rfl) (by kernel_rfl) (by kernel_rfl) (fun _ _ _ h => h) (Or.inl ⟨by rfl, ?_⟩) (by assumption) ?_
        rotate_left
        · intro W hSw
          (try dsimp only at hSw)
          go_simp
          (try with_reducible rfl)
        try simp only [Act.put, List.setIfInBounds_toArray, List.set_cons_zero, List.set_cons_succ]
        refine wpAnyH_take (i := 1) (oi := { dst := _, op := _, type := _, pos := _, after := _, guard := _ }) (v := ?_) rfl (by kernel_rfl) (by kernel_rfl) (by kernel_rfl) (fun _ _ _ h => h) (Or.inl ⟨by rfl, ?_⟩) (by assumption) ?_
        rotate_left
        · intro W hSw
          (try dsimp only at hSw)
          go_simp
          (try with_reducible rfl)
        try simp only [Act.put, List.setIfInBounds_toArray, List.set_cons_zero, List.set_cons_succ]
        refine wpAnyH_take (i := 2) (oi := { dst := _, op := _, type := _, pos := _, after := _, guard := _ }) (v := ?_) rfl (by kernel_rfl) (by kernel_rfl) (by kernel_rfl) (fun _ _ _ h => h) (Or.inl ⟨by rfl, ?_⟩) (by assumption) ?_
        rotate_left
        · intro W hSw
          (try dsimp only at hSw)
          go_simp
          (try with_reducible rfl)
        try simp only [Act.put, List.setIfInBounds_toArray, List.set_cons_zero, List.set_cons_succ]
        refine wpAnyH_take (i := 3) (oi := { dst := _, op := _, type := _, pos := _, after := _, guard := _ }) (v := ?_) rfl (by kernel_rfl) (by kernel_rfl) (by kernel_rfl) (fun _ _ _ h => h) (Or.inl ⟨by rfl, ?_⟩) (by assumption) ?_
        rotate_left
        · intro W hSw
          (try dsimp only at hSw)
          obtain ⟨⟨c0, c1, c2⟩, d0, d1, d2, d3, d4, d5, d6⟩ := HCL.out W hSw
          go_simp
          (try with_reducible rfl)
        try simp only [Act.put, List.setIfInBounds_toArray, List.set_cons_zero, List.set_cons_succ]
        refine wpAnyH_take (i := 4) (oi := { dst := _, op := _, type := _, pos := _, after := _, guard := _ }) (v := ?_) rfl (by kernel_rfl) (by kernel_rfl) (by kernel_rfl) (fun _ _ _ h => h) (Or.inl ⟨by rfl, ?_⟩) (by assumption) ?_
        rotate_left
        · intro W hSw
          (try dsimp only at hSw)
          obtain ⟨⟨c0, c1, c2⟩, d0, d1, d2, d3, d4, d5, d6⟩ := HCL.out W hSw
          go_simp
          (try with_reducible rfl)
        try simp only [Act.put, List.setIfInBounds_toArray, List.set_cons_zero, List.set_cons_succ]
        refine wpAnyH_ready (rs := [5, 6]) (by kernel_rfl) (by simp) ?_
        refine AllReadyH.cons (o := { dst := _, op := _, type := _, pos := _, after := _, guard := _ }) rfl (fun K hK => ?_) (AllReadyH.cons (o := { dst := _, op := _, type := _, pos := _, after := _, guard := _ }) rfl (fun K hK => ?_) AllReadyH.nil)
        · go_simp
          refine (below_any t.ar y wd).mono ?_
          rintro e we ⟨rfl, hb⟩
          have HBC : Hid (Below w3.heap.size w3 we) := (HBD.out).trans (hb.mono (HBD.out).size)
          have HBX : Hid (Below wd.heap.size wd we) := hb
          clear hb
          go_wp2_with fail
          refine hK.out _ _ ?_ (fun hHeld => ?_)
          · exact HBC.out
          clear hK K
          try simp only [Act.put, List.setIfInBounds_toArray, List.set_cons_zero, List.set_cons_succ]
          refine wpAnyH_ready (rs := [6]) (by kernel_rfl) (by simp) ?_
          refine AllReadyH.cons (o := { dst := _, op := _, type := _, pos := _, after := _, guard := _ }) rfl (fun K hK => ?_) AllReadyH.nil
          go_simp
          obtain ⟨wf, hwf⟩ : ∃ wf, wf = we.alloc (.cells #[.int .i64 0, .int .i64 0, .string ⟨#[]⟩] 71) := ⟨_, rfl⟩
          have HBL : Hid (Below w3.heap.size w3 wf) := by rw [hwf]; exact (HBC.out).alloc (HBC.out).size _
          have HAL : Hid (wf.heap[we.heap.size]? = some (.cells #[.int .i64 0, .int .i64 0, .string ⟨#[]⟩] 71 (0, 0))) := by rw [hwf]; exact heap_new _ _
          rw [← hwf]
          clear hwf
          obtain ⟨gx, hgx⟩ : ∃ gx, we.heap.size = gx := ⟨_, rfl⟩
          have HGX : Hid (w3.heap.size ≤ gx) := by rw [← hgx]; exact (HBC.out).size
          rw [hgx] at HAL ⊢
          clear hgx
          refine hK.out _ _ ?_ (fun hHeld => ?_)
          · exact HBL.out
          clear hK K
          try simp only [Act.put, List.setIfInBounds_toArray, List.set_cons_zero, List.set_cons_succ]
          refine wpAnyH_ready (rs := [7]) (by kernel_rfl) (by simp) ?_
          refine AllReadyH.cons (o := { dst := _, op := _, type := _, pos := _, after := _, guard := _ }) rfl (fun K hK => ?_) AllReadyH.nil
          refine step_store_mid rfl 71 (.tmp 12) (.tmp 44) rfl gx 0 #[.int .i64 (max t.ar.fr y.fr), .int .i64 (min t.ar.tt y.tt), .string t.ar.cl] rfl rfl (there3 HAL.out) szAr (by simp [Value.oneCell']) ?_
          have HEND : Hid (Below w3.heap.size w3 (wf.setCells gx 0 (#[.int .i64 (max t.ar.fr y.fr), .int .i64 (min t.ar.tt y.tt), .string t.ar.cl] : Array Value).toList)) := Below.setCell (Below.setCell (Below.setCell HBL.out HGX.out _) HGX.out _) HGX.out _
          have HHE : Hid ((wf.setCells gx 0 (#[.int .i64 (max t.ar.fr y.fr), .int .i64 (min t.ar.tt y.tt), .string t.ar.cl] : Array Value).toList).heap[gx]? = some (.cells #[.int .i64 (max t.ar.fr y.fr), .int .i64 (min t.ar.tt y.tt), .string t.ar.cl] 71 (0, 0))) := put3_heap HAL.out
          refine hK.out _ _ ?_ (fun hHeld => ?_)
          · exact HEND.out
          clear hK K
          refine wpAnyH_done (by kernel_rfl) ?_ _
          clear hHeld
          refine NoPanic.normal ?_
          generalize wf.setCells gx 0 (#[.int .i64 (max t.ar.fr y.fr), .int .i64 (min t.ar.tt y.tt), .string t.ar.cl] : Array Value).toList = wz at HEND HHE ⊢
          go_wp2_with fail
          go_meet
          exact ⟨gx, rfl, HHE, HEND, HGX⟩
        · go_simp
          obtain ⟨we, hwe⟩ : ∃ we, we = wd.alloc (.cells #[.int .i64 0, .int .i64 0, .string ⟨#[]⟩] 71) := ⟨_, rfl⟩
          have HBL : Hid (Below w3.heap.size w3 we) := by rw [hwe]; exact (HBD.out).alloc (HBD.out).size _
          have HAL : Hid (we.heap[wd.heap.size]? = some (.cells #[.int .i64 0, .int .i64 0, .string ⟨#[]⟩] 71 (0, 0))) := by rw [hwe]; exact heap_new _ _
          rw [← hwe]
          clear hwe
          obtain ⟨gx, hgx⟩ : ∃ gx, wd.heap.size = gx := ⟨_, rfl⟩
          have HGX : Hid (w3.heap.size ≤ gx) := by rw [← hgx]; exact (HBD.out).size
          rw [hgx] at HAL ⊢
          clear hgx
          refine hK.out _ _ ?_ (fun hHeld => ?_)
          · exact HBL.out
          clear hK K
          try simp only [Act.put, List.setIfInBounds_toArray, List.set_cons_zero, List.set_cons_succ]
          refine wpAnyH_ready (rs := [5]) (by kernel_rfl) (by simp) ?_
          refine AllReadyH.cons (o := { dst := _, op := _, type := _, pos := _, after := _, guard := _ }) rfl (fun K hK => ?_) AllReadyH.nil
          go_simp
          refine (below_any t.ar y we).mono ?_
          rintro e wf ⟨rfl, hb⟩
          have HBC : Hid (Below w3.heap.size w3 wf) := (HBL.out).trans (hb.mono (HBL.out).size)
          have HBX : Hid (Below we.heap.size we wf) := hb
          clear hb
          go_wp2_with fail
          refine hK.out _ _ ?_ (fun hHeld => ?_)
          · exact HBC.out
          clear hK K
          try simp only [Act.put, List.setIfInBounds_toArray, List.set_cons_zero, List.set_cons_succ]
          have HAL2 : Hid (wf.heap[gx]? = some (.cells #[.int .i64 0, .int .i64 0, .string ⟨#[]⟩] 71 (0, 0))) := (HBX.out.block _ (lt_of_heap HAL.out)).trans HAL.out
          refine wpAnyH_ready (rs := [7]) (by kernel_rfl) (by simp) ?_
          refine AllReadyH.cons (o := { dst := _, op := _, type := _, pos := _, after := _, guard := _ }) rfl (fun K hK => ?_) AllReadyH.nil
          refine step_store_mid rfl 71 (.tmp 12) (.tmp 44) rfl gx 0 #[.int .i64 (max t.ar.fr y.fr), .int .i64 (min t.ar.tt y.tt), .string t.ar.cl] rfl rfl (there3 HAL2.out) szAr (by simp [Value.oneCell']) ?_
          have HEND : Hid (Below w3.heap.size w3 (wf.setCells gx 0 (#[.int .i64 (max t.ar.fr y.fr), .int .i64 (min t.ar.tt y.tt), .string t.ar.cl] : Array Value).toList)) := Below.setCell (Below.setCell (Below.setCell HBC.out HGX.out _) HGX.out _) HGX.out _
          have HHE : Hid ((wf.setCells gx 0 (#[.int .i64 (max t.ar.fr y.fr), .int .i64 (min t.ar.tt y.tt), .string t.ar.cl] : Array Value).toList).heap[gx]? = some (.cells #[.int .i64 (max t.ar.fr y.fr), .int .i64 (min t.ar.tt y.tt), .string t.ar.cl] 71 (0, 0))) := put3_heap HAL2.out
          refine hK.out _ _ ?_ (fun hHeld => ?_)
          · exact HEND.out
          clear hK K
          refine wpAnyH_done (by kernel_rfl) ?_ _
          clear hHeld
          refine NoPanic.normal ?_
          generalize wf.setCells gx 0 (#[.int .i64 (max t.ar.fr y.fr), .int .i64 (min t.ar.tt y.tt), .string t.ar.cl] : Array Value).toList = wz at HEND HHE ⊢
          go_wp2_with fail
          go_meet
          exact ⟨gx, rfl, HHE, HEND, HGX⟩
      case rest =>
        obtain ⟨g12, rfl, HH12, HBC, HGC⟩ := hcut
        obtain ⟨w4, hw4⟩ : ∃ w4, w4 = wc := ⟨_, rfl⟩
        rw [← hw4] at HH12 HBC ⊢
        clear hw4
        have HB4 : Hid (Below B2 w1 w4) := HB3.out.trans (HBC.out.mono (by have := HB3.out.size; have := HBE.out; omega))
        have HR4 : Hid (w4.ownsRow B2 73 4 (.slice (some ⟨gs, 0, none⟩) (r + 1) c8) (r + 1) (flat oqf (R.reverse ++ [⟨t.ar, d⟩]))) := row_up HR3.out HBC.out
        have HU4 : Hid (w4.ownsRow B2 71 3 (.slice a7 q c7) q (flat arf U)) := row_up HU3.out HBC.out
        have HLK : Hid _ := (HM.out.up (show Below w1.heap.size w1 w4 by rw [HBE.out]; exact HB4.out)).look HYN.out
        obtain ⟨OK, hOK⟩ : ∃ OK, fs L y.nm = OK := ⟨_, rfl⟩
        have HOK : Hid (fs L y.nm = OK) := hOK
        rw [hOK] at HLK
        clear hOK
        have c0 : w4.cell? ⟨gn, 0, none⟩ = some (.string y.nm) := (HCL.out w4 HBC.out).2.1
        go_upto_if 52 with (refine wpList_look rfl (.tmp 46) (.tmp 48) 65 rfl _ _ _ rfl rfl HLK.out ?_)
        clear c0
        go_cut [] from 52 to 58 (fun W => ∃ cc : ByteArray, Hid (cc = ((lcl L) y.nm).getD t.ar.cl) ∧ Hid (W.heap[g12]? = some (.cells #[.int .i64 (max t.ar.fr y.fr), .int .i64 (min t.ar.tt y.tt), .string cc] 71 (0, 0))) ∧ Hid (Below w3.heap.size w3 W) ∧ Hid (Below B2 w1 W) ∧ Hid (W.ownsRow B2 73 4 (.slice (some ⟨gs, 0, none⟩) (r + 1) c8) (r + 1) (flat oqf (R.reverse ++ [⟨t.ar, d⟩]))) ∧ Hid (W.ownsRow B2 71 3 (.slice a7 q c7) q (flat arf U)))
        · cases OK with
          | none =>
            go_wp2_with fail
            go_meet
            exact ⟨t.ar.cl, by show _ = _; rw [lcl_none HOK.out]; rfl, HH12, HBC, HB4, HR4, HU4⟩
          | some kf =>
            have hfl := fs_lt HOK.out
            have hcl := lcl_some HOK.out
            obtain ⟨g3, o3, rfl, hl⟩ := HP.out.two kf (by rw [HN.out.2.2]; rw [HN.out.2.2] at hfl; exact hfl)
            obtain ⟨-, l1⟩ := hl w4 (below_trans HB1.out (by rw [HBE.out]; exact HB4.out))
            obtain ⟨cc, hcc⟩ : ∃ cc, (L.getD kf paz).cl = cc := ⟨_, rfl⟩
            rw [hcc] at l1 hcl
            have HCC : Hid (cc = ((lcl L) y.nm).getD t.ar.cl) := by show _ = _; rw [hcl]; rfl
            have d6 : (kf : Int) < (m : Int) := by have := HN.out; omega
            have d7 : kf < m := by have := HN.out; omega
            have d8 : (0 : Int) ≤ (kf : Int) := by omega
            have c2 : w4.cell? ⟨g12, 2, none⟩ = some (.string t.ar.cl) := rcell HH12.out 2 _ rfl
            have hh := HH12.out
            have fz := Lib.frozen_of_heap hh 2
            have HX : Hid (Below w3.heap.size w3 (w4.setCell ⟨g12, 2, none⟩ (.string cc))) := Below.setCell HBC.out HGC.out _
            have HXH : Hid ((w4.setCell ⟨g12, 2, none⟩ (.string cc)).heap[g12]? = some (.cells #[.int .i64 (max t.ar.fr y.fr), .int .i64 (min t.ar.tt y.tt), .string cc] 71 (0, 0))) := blk_set _ HH12.out
            clear hfl hcl hl hcc hh
            go_wp2_with fail
            go_meet
            exact ⟨cc, HCC, HXH, HX, HB3.out.trans (HX.out.mono (by have := HB3.out.size; have := HBE.out; omega)), row_up HR3.out HX.out, row_up HU3.out HX.out⟩
        case rest =>
          clear HLK
          obtain ⟨cc, HCC, HH5, HBC5, HB5, HR5, HU5⟩ := hcut
          obtain ⟨w5, hw5⟩ : ∃ w5, w5 = wc := ⟨_, rfl⟩
          rw [← hw5] at HH5 HBC5 HB5 HR5 HU5 ⊢
          clear hw5
          have a0 : w5.cell? ⟨g12, 0, none⟩ = some (.int .i64 (max t.ar.fr y.fr)) := rcell HH5.out 0 _ rfl
          have a1 : w5.cell? ⟨g12, 1, none⟩ = some (.int .i64 (min t.ar.tt y.tt)) := rcell HH5.out 1 _ rfl
          have a2 : w5.cell? ⟨g12, 2, none⟩ = some (.string cc) := rcell HH5.out 2 _ rfl
          obtain ⟨-, -, -, -, -, -, c5, -⟩ := HCL.out w5 HBC5.out
          obtain ⟨xs, hxs⟩ : ∃ xs, flat oqf (R.reverse ++ [⟨t.ar, d⟩]) = xs := ⟨_, rfl⟩
          have HXS : Hid (flat oqf (R.reverse ++ [⟨t.ar, d⟩]) = xs) := hxs
          rw [hxs] at HR5
          clear hxs
          have HMX : Hid (r + 1 + 1 ≤ maxLen ∧ (r + 1 + 1) * 40 ≤ 140737488355328) := by have := HN.out; have := HQL.out; show _ ∧ _; unfold maxLen; omega
          have HSB5 : Hid (B2 ≤ w5.heap.size) := by have := HB5.out.size; have := HBE.out; show _ ≤ _; omega
          obtain ⟨mxf, hmxf⟩ : ∃ z, max t.ar.fr y.fr = z := ⟨_, rfl⟩
          obtain ⟨mnt, hmnt⟩ : ∃ z, min t.ar.tt y.tt = z := ⟨_, rfl⟩
          have HMM : Hid (max t.ar.fr y.fr = mxf ∧ min t.ar.tt y.tt = mnt) := ⟨hmxf, hmnt⟩
          rw [hmxf] at a0
          rw [hmnt] at a1
          clear hmxf hmnt
          go_upto_region 14 with (at_builtin; refine wpList_append_own_at _ rfl _ _ 74 rfl B2 73 iO _ 4 40 Tryd.underlying74 hiO ho0 ho1 ho2 rfl (by decide) (.slice (some ⟨gs, 0, none⟩) (r + 1) c8) (r + 1) xs rfl (row_up HR5.out (bel_up _ _)) ⟨w5.heap.size, 0, none⟩ 1 1 [.int .i64 mxf, .int .i64 mnt, .string cc, .int .i64 y.kd] rfl rfl (World.news_of_block (heap_new _ _)) (fun u hu => oqf_one ⟨⟨mxf, mnt, cc⟩, y.kd⟩ u hu) HMX.out.1 HMX.out.2 (by have := HSB5.out; simp; omega) ?_; intro v8 w6 ho6 hg6 _ _; have HR6 : Hid (w6.ownsRow B2 73 4 v8 (r + 1 + 1) (xs ++ [.int .i64 mxf, .int .i64 mnt, .string cc, .int .i64 y.kd])) := ho6; have HG6 : Hid ((w5.alloc (.cells #[.int .i64 mxf, .int .i64 mnt, .string cc, .int .i64 y.kd] 73)).grownBy w6 (Value.slice (some ⟨gs, 0, none⟩) (r + 1) c8).ownBlock) := hg6; clear ho6 hg6)
          clear a0 a1 a2 c5
          have HB6 : Hid (Below B2 w1 w6) := (HB5.out.alloc HSB5.out _).grown HG6.out (by have := HSB5.out; simp; omega) (fun rr e' => by cases e'; exact HGS.out)
          have HU6 : Hid (w6.ownsRow B2 71 3 (.slice a7 q c7) q (flat arf U)) := (row_up HU5.out (bel_up _ _)).kept HG6.out (tag_ne (row_up HU5.out (bel_up w5 (.cells #[.int .i64 mxf, .int .i64 mnt, .string cc, .int .i64 y.kd] 73))) (row_up HR5.out (bel_up w5 (.cells #[.int .i64 mxf, .int .i64 mnt, .string cc, .int .i64 y.kd] 73))) (by decide))
          obtain ⟨o8, hOw⟩ : ∃ o8, (⟨⟨mxf, mnt, cc⟩, y.kd⟩ : Oq) = o8 := ⟨_, rfl⟩
          have HOW : Hid (o8 = ⟨own1 (lcl L) t.ar y, y.kd⟩) := by
            show _ = _
            rw [← hOw, HCC.out, ← HMM.out.1, ← HMM.out.2]; rfl
          have HR7 : Hid (w6.ownsRow B2 73 4 v8 (r + 1 + 1) (flat oqf ((⟨t.ar, d⟩ :: R).reverse ++ [o8]))) := by
            have h9 := HR6.out
            rw [← HXS.out, show ([.int .i64 mxf, .int .i64 mnt, .string cc, .int .i64 y.kd] : List Value) = flat oqf [⟨⟨mxf, mnt, cc⟩, y.kd⟩] from rfl, ← flat_app, hOw] at h9
            rw [List.reverse_cons]
            exact h9
          have HPT : Hid (ars (lcl L) (T.take (i + 1)) = popr U (o8 :: ⟨t.ar, d⟩ :: R)) := by
            show _ = _
            rw [ars_take _ _ _ HIL.out.2, HE.out, HY.out, HOW.out, ← HD.out]; rfl
          obtain ⟨g8, q8, e8, -⟩ := row_form HR7.out (by omega)
          subst e8
          clear hOw
          have hwr2 : IntKind.i64.wrap ((r : Int) + 1) = (r : Int) + 1 := by have := HN.out; have := HQL.out; rw [IntKind.wrap_i64]; omega
          have hwr3 : IntKind.i64.wrap ((r : Int) + 1 + 1 - 1) = (r : Int) + 1 := by have := HN.out; have := HQL.out; rw [IntKind.wrap_i64]; omega
          go_upto_region 15 with fail
          clear hwr2 hwr3
          go_loopg [7, 8, 15] (r + 1) (fun gm v7 v8 v15 wr => ∃ (U' : List Ar) (t' : Oq) (R' : List Oq), v15 = .int .i64 (R'.length : Int) ∧ Hid (gm = R'.length ∧ U'.length + R'.length = q + r + 1) ∧ Hid (ars (lcl L) (T.take (i + 1)) = popr U' (t' :: R')) ∧ Hid (wr.ownsRow B2 71 3 v7 U'.length (flat arf U')) ∧ Hid (wr.ownsRow B2 73 4 v8 (R'.length + 1) (flat oqf (R'.reverse ++ [t']))) ∧ Hid (Below B2 w1 wr))
          case atStart =>
            refine ⟨U, o8, ⟨t.ar, d⟩ :: R, ?_, ⟨?_, ?_⟩, HPT, ?_, ?_, HB6⟩
            · rw [List.length_cons, HRL.out]
              try simp
            · rw [List.length_cons, HRL.out]
            · rw [List.length_cons, HRL.out, HQL.out.1]; omega
            · show World.ownsRow _ _ _ _ _ _ _
              rw [HQL.out.1]; exact HU6.out
            · show World.ownsRow _ _ _ _ _ _ _
              rw [List.length_cons, HRL.out]; exact HR7.out
          case round =>
            clear HU6 HR7 HB6 HPT HR6 HG6 HU5 HR5 HB5
            obtain ⟨U', t', R', rfl, HJ, HPT, HU7, HR7, HB7⟩ := hrel
            obtain ⟨wb, hwb⟩ : ∃ wb, wb = wr := ⟨_, rfl⟩
            rw [← hwb] at HU7 HR7 HB7 ⊢
            clear hwb
            obtain ⟨a9, c9, e9⟩ := row_shape HU7.out
            subst e9
            obtain ⟨g9, q9, e9, hg9, hq9, -⟩ := row_form HR7.out (by omega)
            subst e9
            have HG9 : Hid (B2 ≤ g9) := hg9
            cases R' with
            | nil =>
              have hz : decide ((0 : Int) < 0) = false := by decide
              have HEND : Hid (ars (lcl L) (T.take (i + 1)) = (U', t' :: [])) := by show _ = _; rw [HPT.out]; rfl
              go_wp2_with fail
              go_roundg (n - (i + 1))
              case measure => have := HI.out; have := HIL.out; omega
              case rel => exact ⟨i + 1, U', t', [], by simp, ⟨HIL.out.1, rfl⟩, HEND, HU7, HR7, HB7⟩
            | cons z R3 =>
              obtain ⟨k, hk⟩ : ∃ k, R3.length = k := ⟨_, rfl⟩
              have HKL : Hid (R3.length = k ∧ U'.length + k + 1 = q + r + 1) := ⟨hk, by have := HJ.out.2; rw [List.length_cons, hk] at this; omega⟩
              have hlz : (z :: R3).length = k + 1 := by rw [List.length_cons, hk]
              have HLZ : Hid ((z :: R3).length = k + 1) := hlz
              obtain ⟨qu, hqu⟩ : ∃ qu, U'.length = qu := ⟨_, rfl⟩
              have HQU : Hid (U'.length = qu) := hqu
              rw [hlz] at HR7 hq9 ⊢
              rw [hqu] at HU7 ⊢
              have hrz : (z :: R3).reverse.length = k + 1 := by rw [List.length_reverse]; exact hlz
              have ck : ∀ j u, (oqf t')[j]? = some u → wb.cell? ⟨g9, (k + 1) * 4 + j, none⟩ = some u := fun j u hu => row_at HR7.out _ _ (by have h9 := oq_get (z :: R3).reverse t' j u hu; rw [hrz] at h9; exact h9)
              have k0 : wb.cell? ⟨g9, (k + 1) * 4, none⟩ = some (.int .i64 t'.ar.fr) := ck 0 _ rfl
              have k1 : wb.cell? ⟨g9, (k + 1) * 4 + 1, none⟩ = some (.int .i64 t'.ar.tt) := ck 1 _ rfl
              have k2 : wb.cell? ⟨g9, (k + 1) * 4 + 2, none⟩ = some (.string t'.ar.cl) := ck 2 _ rfl
              have k3 : wb.cell? ⟨g9, (k + 1) * 4 + 3, none⟩ = some (.int .i64 t'.lf) := ck 3 _ rfl
              obtain ⟨kk, hkk⟩ : ∃ kk, k + 1 = kk := ⟨_, rfl⟩
              have HKK : Hid (k + 1 = kk) := hkk
              rw [hkk] at k0 k1 k2 k3 HR7 hrz hq9 ⊢
              have b8 : (0 : Int) < (kk : Int) := by omega
              have b8' : 0 < kk := by omega
              have d8 : decide ((0 : Int) < (kk : Int)) = true := decide_eq_true b8
              have d8' : decide (0 < kk) = true := decide_eq_true b8'
              have b9 : (0 : Int) ≤ (kk : Int) := by omega
              have b10 : (kk : Int) < (kk : Int) + 1 := by omega
              have b11 : kk < kk + 1 := by omega
              have b12 : (kk : Int) ≤ (q9 : Int) := by omega
              have b13 : kk ≤ q9 := by omega
              have hwk : IntKind.i64.wrap ((kk : Int) - 1) = (k : Int) := by rw [IntKind.wrap_i64]; have := HN.out; have := HQL.out; have := HKL.out; omega
              clear hk hlz hqu hkk ck hg9 hq9
              by_cases hz : t'.lf = 0
              · have HEND : Hid (ars (lcl L) (T.take (i + 1)) = popr (U' ++ [t'.ar]) (z :: R3)) := by show _ = _; rw [HPT.out]; exact popr_pop U' R3 hz
                have dz : decide (t'.lf = 0) = true := decide_eq_true hz
                obtain ⟨tl, htl⟩ : ∃ tl, t'.lf = tl := ⟨_, rfl⟩
                rw [htl] at k3 hz
                subst hz
                obtain ⟨tf, htf⟩ : ∃ tf, t'.ar.fr = tf := ⟨_, rfl⟩
                obtain ⟨tt', htt⟩ : ∃ tt', t'.ar.tt = tt' := ⟨_, rfl⟩
                obtain ⟨tc', htc⟩ : ∃ tc', t'.ar.cl = tc' := ⟨_, rfl⟩
                have HTA : Hid (t'.ar = ⟨tf, tt', tc'⟩) := by show _ = _; rw [← htf, ← htt, ← htc]
                rw [htf] at k0
                rw [htt] at k1
                rw [htc] at k2
                clear htl htf htt htc dz
                obtain ⟨ys, hys⟩ : ∃ ys, flat arf U' = ys := ⟨_, rfl⟩
                have HYS : Hid (flat arf U' = ys) := hys
                rw [hys] at HU7
                clear hys
                have HMX2 : Hid (qu + 1 ≤ maxLen ∧ (qu + 1) * 32 ≤ 140737488355328) := by have := HN.out; have := HQL.out; have := HKL.out; have := HQU.out; show _ ∧ _; unfold maxLen; omega
                have HSB7 : Hid (B2 ≤ wb.heap.size) := by have := HB7.out.size; have := HBE.out; show _ ≤ _; omega
                go_wp2_with (at_builtin; refine wpList_append_own_at _ rfl _ _ 57 rfl B2 71 iA _ 3 32 Tryd.underlying57 hiA ha0 ha1 ha2 rfl (by decide) (.slice a9 qu c9) qu ys rfl (row_up HU7.out (bel_up _ _)) ⟨wb.heap.size, 0, none⟩ 1 1 [.int .i64 tf, .int .i64 tt', .string tc'] rfl rfl (World.news_of_block (heap_new _ _)) (fun u hu => arf_one ⟨tf, tt', tc'⟩ u hu) HMX2.out.1 HMX2.out.2 (by have := HSB7.out; simp; omega) ?_; intro v9 w8 ho8 hg8 _ _; have HU8 : Hid (w8.ownsRow B2 71 3 v9 (qu + 1) (ys ++ [.int .i64 tf, .int .i64 tt', .string tc'])) := ho8; have HG8 : Hid ((wb.alloc (.cells #[.int .i64 tf, .int .i64 tt', .string tc'] 71)).grownBy w8 (Value.slice a9 qu c9).ownBlock) := hg8; clear ho8 hg8)
                go_roundg k
                case measure => have := HJ.out; have := HKL.out; have := HLZ.out; omega
                case rel =>
                  have hup : Below wb.heap.size wb (wb.alloc (.cells #[.int .i64 tf, .int .i64 tt', .string tc'] 71)) := bel_up wb _
                  have r1 := row_up HR7.out hup
                  have u1 := row_up HU7.out hup
                  have r2 := r1.kept HG8.out (tag_ne r1 u1 (by decide))
                  refine ⟨U' ++ [t'.ar], z, R3, ?_, ⟨?_, ?_⟩, HEND, ?_, ?_, (HB7.out.alloc HSB7.out _).grown HG8.out (by have := HSB7.out; simp; omega) (fun rr e' => (row_tag HU7.out rr e').1)⟩
                  · rw [HKL.out.1]
                  · exact HKL.out.1.symm
                  · rw [List.length_append, HKL.out.1]; have := HKL.out.2; simp; omega
                  · show World.ownsRow _ _ _ _ _ _ _
                    rw [List.length_append, HQU.out, flat_app, HYS.out, HTA.out]
                    exact HU8.out
                  · show World.ownsRow _ _ _ _ _ _ _
                    have h9 := row_low r2 (n := kk) (by omega)
                    have h8 := oq_take (z :: R3).reverse t'
                    rw [hrz] at h8
                    rw [h8, List.reverse_cons] at h9
                    rw [HKL.out.1, HKK.out]
                    exact h9
              · have HEND : Hid (ars (lcl L) (T.take (i + 1)) = (U', t' :: z :: R3)) := by show _ = _; rw [HPT.out]; exact popr_stop U' R3 hz
                have dz : decide (t'.lf = 0) = false := decide_eq_false hz
                go_wp2_with fail
                go_roundg (n - (i + 1))
                case measure => have := HI.out; have := HIL.out; omega
                case rel => exact ⟨i + 1, U', t', z :: R3, by simp, ⟨HIL.out.1, rfl⟩, HEND, by show World.ownsRow _ _ _ _ _ _ _; rw [HQU.out]; exact HU7.out, by show World.ownsRow _ _ _ _ _ _ _; rw [HLZ.out, HKK.out]; exact HR7.out, HB7⟩
    · have e1 : decide ((i : Int) < (n : Int)) = false := by rw [decide_eq_false_iff_not]; omega
      have e2 : decide (i < n) = false := by rw [decide_eq_false_iff_not]; omega
      have hTn : T.take i = T := by rw [List.take_of_length_le (by rw [HN.out.1]; omega)]
      have HEE : Hid (ars (lcl L) T = (U, t :: R)) := by have h9 := HE.out; rw [hTn] at h9; exact h9
      clear hi hTn
      have eb : ((r : Int) + 1 == 1) = decide ((ars (lcl L) T).2.length = 1) := by
        rw [HEE.out, List.length_cons, HRL.out]
        by_cases h0 : r = 0
        · subst h0; rfl
        · rw [decide_eq_false (by omega), beq_eq_false_iff_ne]; omega
      go_wp2_with fail
      refine bodyPost_ret (v := .tuple #[.slice a7 q c7, .bool (decide ((ars (lcl L) T).2.length = 1))]) (by rw [← eb]; simp [results, Tryd.results12, go_sem]) rfl ⟨_, rfl, ?_, HBw.out⟩
      rw [HEE.out]
      show World.ownsRow _ _ _ _ _ _ _
      rw [HQL.out.1]
      exact row_base HU.out HBW.out
end Go.Proofs.YtbkhhegmmkcbbaaDoor
