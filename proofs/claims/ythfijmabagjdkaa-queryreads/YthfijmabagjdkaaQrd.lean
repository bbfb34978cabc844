import Derived.Test.YthfijmabagjdkaaQrc
namespace Go.Proofs.Ythfijmabagjdkaa.Qy
open Go.RowKit Go.Maps

theorem flat_set {α : Type} {f : α → List Value} {n : Nat} (hf : ∀ x, (f x).length = n) (d : α) (x : Value) (y : α) (j : Nat) (hj : j < n) : ∀ (l : List α) (i : Nat), i < l.length → f y = (f (l.getD i d)).set j x → (flat f l).set (i * n + j) x = flat f (l.set i y) := by
  intro l
  induction l with
  | nil => intro i hi; cases hi
  | cons a l ih =>
    intro i hi hy
    cases i with
    | zero =>
      show (f a ++ flat f l).set (0 * n + j) x = f y ++ flat f l
      rw [Nat.zero_mul, Nat.zero_add, List.set_append_left _ _ (by rw [hf]; exact hj)]
      have e : (a :: l).getD 0 d = a := rfl
      rw [hy, e]
    | succ i =>
      show (f a ++ flat f l).set ((i + 1) * n + j) x = f a ++ flat f (l.set i y)
      rw [List.set_append_right _ _ (by rw [hf, Nat.succ_mul]; omega), hf, show (i + 1) * n + j - n = i * n + j by rw [Nat.succ_mul]; omega, ih i (by simpa using hi) hy]
theorem Rq.size {B : Nat} {W : World} {r : Nat} {vn vc : Value} {s : Rs} (h : Rq B W r vn vc s) : B ≤ W.heap.size ∧ r < W.heap.size := by
  obtain ⟨vl, h1, _⟩ := h.blk
  have := lt_of_heap h1
  have := h.lt
  exact ⟨by omega, by omega⟩
theorem Rq.ps {B : Nat} {W : World} {r : Nat} {vn vc : Value} {s : Rs} (h : Rq B W r vn vc s) : Ps W vn s.ns := row_rw h.ns
/-- A node in the reader's row. -/
theorem Rq.row {B : Nat} {W : World} {r : Nat} {vn vc : Value} {s : Rs} (h : Rq B W r vn vc s) (i : Nat) (hi : i < s.ns.length) : ∃ g c, vn = .slice (some ⟨g, 0, none⟩) s.ns.length c ∧ B ≤ g ∧ (∃ cur, W.heap[g]? = some (.cells cur 46 (0, 0))) ∧ s.ns.length ≤ c ∧ W.cell? ⟨g, i * 5, none⟩ = some (.string (s.ns.getD i pz).nm) ∧ W.cell? ⟨g, i * 5 + 1, none⟩ = some (.bool (s.ns.getD i pz).lit) ∧ W.cell? ⟨g, i * 5 + 2, none⟩ = some (.string (s.ns.getD i pz).fd) ∧ W.cell? ⟨g, i * 5 + 3, none⟩ = some (.string (s.ns.getD i pz).cp) ∧ W.cell? ⟨g, i * 5 + 4, none⟩ = some (.int .i64 (s.ns.getD i pz).kd) ∧ (∀ k, W.frozen? ⟨g, k, none⟩ = false) ∧ g ≠ r := by
  have h1 := h.ns
  obtain ⟨g, c, rfl, hg, hc, _⟩ := row_form h1 (by omega)
  obtain ⟨_, cur, hcur⟩ := row_tag h1 g rfl
  have hk : ∀ j u, (pf (s.ns.getD i pz))[j]? = some u → W.cell? ⟨g, i * 5 + j, none⟩ = some u := fun j u hu => by
    refine row_at h1 _ _ ?_
    rw [flat_get pf_len pz s.ns i j hi (by have := (List.getElem?_eq_some_iff.1 hu).1; rwa [pf_len] at this)]
    exact hu
  obtain ⟨vl, hb, _⟩ := h.blk
  refine ⟨g, c, rfl, hg, ⟨cur, hcur⟩, hc, hk 0 _ rfl, hk 1 _ rfl, hk 2 _ rfl, hk 3 _ rfl, hk 4 _ rfl, fun k => Lib.frozen_of_heap hcur k, ?_⟩
  rintro rfl
  rw [hb] at hcur
  cases hcur
theorem Rq.setN {B : Nat} {W : World} {r g n c : Nat} {vc : Value} {s : Rs} (h : Rq B W r (.slice (some ⟨g, 0, none⟩) n c) vc s) (i j : Nat) (x : Value) (f : Pn → Pn) (hi : i < s.ns.length) (hj : j < 5) (hf : pf (f (s.ns.getD i pz)) = (pf (s.ns.getD i pz)).set j x) : Rq B (W.setCell ⟨g, i * 5 + j, none⟩ x) r (.slice (some ⟨g, 0, none⟩) n c) vc (upN s i f) := by
  obtain ⟨g', c', e, hg, ⟨cur, hcur⟩, hc, _, _, _, _, _, _, hgr⟩ := h.row i hi
  obtain ⟨e1, e2, e3⟩ := Value.slice.inj e
  have e4 := Option.some.inj e1
  injection e4 with e5
  subst e5 e2 e3
  obtain ⟨vl, hb, hl⟩ := h.blk
  have hbel : Below B W (W.setCell ⟨g, i * 5 + j, none⟩ x) := Below.setCell (Below.refl _ _) hg _
  refine ⟨h.lt, ⟨vl, by rw [heap_far (fun e => hgr e.symm)]; exact hb, hl.up hbel⟩, ?_, (row_off hcur h.cs (by decide)).1, h.wk⟩
  have h9 := row_set h.ns (i * 5 + j) x
  rw [flat_set pf_len pz x (f (s.ns.getD i pz)) j hj s.ns i hi hf] at h9
  show World.ownsRow _ B _ 5 _ (s.ns.set i (f (s.ns.getD i pz))).length _
  rw [List.length_set]
  exact h9
/-- The reader has come to a state; only what is its own has turned. -/
structure Mp (B : Nat) (w w' : World) (r : Nat) (s : Rs) : Prop where
  rq : ∃ vn vc, Rq B w' r vn vc s
  be : Below B w w'
theorem Kp.mp {B : Nat} {w w' : World} {r : Nat} {vn vc : Value} {s : Rs} (h : Kp B w w' r vn vc s) (hB : B ≤ w.heap.size) : Mp B w w' r s := ⟨⟨vn, vc, h.1⟩, h.bel hB⟩
/-- What captureName leaves. -/
def Cnp (B : Nat) (w w' : World) (r : Nat) (vn vc : Value) (a : Addr) (s : Rs) (kn : Bool) : Prop := match cnm s kn with
  | (false, s1) => Kp B w w' r vn vc s1
  | (true, s1) => ∃ W2 vl, Below w.heap.size w W2 ∧ Lw B W2 vl (tl s).ws ∧ Wk (tl s).ws ∧ s1 = tl s ∧ w' = (W2.setCell a (.string (bs (hd s).t))).setCell ⟨r, 0, none⟩ vl
theorem bool_ne (a b : Bool) : (a != b) = !decide (a = b) := by cases a <;> cases b <;> rfl
set_option maxRecDepth 100000 in
set_option maxHeartbeats 8000000 in
theorem captureName_any {B r tb tk : Nat} {vn vc old : Value} {s : Rs} {cur : Array Value} {ty : TypeId} (kn : Bool) (w : World) (h : Rq B w r vn vc s) (hl : s.ns.length ≤ 1000000000000000) (hne : tb ≠ r) (ht : w.heap[tb]? = some (.cells cur ty (0, 0))) (hk : cur[tk]? = some old) : Calls Try.prog 49 #[.pointer (some ⟨r, 0, none⟩), .pointer (some ⟨tb, tk, none⟩), .bool kn] w fun e w' => e = .returned (.bool (cnm s kn).1) ∧ Cnp B w w' r vn vc ⟨tb, tk, none⟩ s kn := by
  have HC : Hid _ := nameAhead_any w h
  have HR : Hid (Rq B w r vn vc s) := h
  cases hA : nmA s with
  | false =>
    have e1 : cnm s kn = (false, fl s 200) := by unfold cnm; rw [hA]; rfl
    unfold Cnp
    rw [e1]
    rw [hA] at HC
    clear h hl hne ht hk hA e1
    go_enter Try.func49, Try.ntmps49
    go_wp2_with first | (go_at_call 55; refine Calls.mono HC.out ?_; rintro e w2 ⟨rfl, rfl⟩) | (go_at_call 44; refine (fail_any 200 _ HR.out).mono ?_; rintro e w3 ⟨rfl, hk⟩; have HK3 : Hid _ := hk; clear hk)
    go_ret
    exact ⟨rfl, HK3.out⟩
  | true =>
    have hk0 : (hd s).k ≠ 0 := by
      unfold nmA at hA
      rw [Bool.and_eq_true] at hA
      have : (hd s).k = 1 := by simpa using hA.1
      omega
    have HK0 : Hid ((hd s).k ≠ 0) := hk0
    obtain ⟨g, o, n, cp, k0, k1, k2, k3, _, hn, _, c0, c1, c2, c3, _⟩ := h.open
    have HP : Hid _ := captured_any ⟨(hd s).t.toArray⟩ w h.ps hl
    obtain ⟨C, hC⟩ : ∃ C, cap s.ns ⟨(hd s).t.toArray⟩ = C := ⟨_, rfl⟩
    rw [hC] at HP
    obtain ⟨an, cn, hvn⟩ := h.ps.form
    subst hvn
    have d1 : (0 : Int) < (n : Int) := by omega
    have HT : Hid (w.heap[tb]? = some (.cells cur ty (0, 0)) ∧ cur[tk]? = some old ∧ tb ≠ r) := ⟨ht, hk, hne⟩
    rw [hA] at HC
    by_cases hq : kn = decide (C ≠ -1)
    · have e1 : cnm s kn = (true, tl s) := by
        unfold cnm
        rw [hA, if_pos rfl, if_pos]
        rw [hq, ← hC]
      unfold Cnp
      rw [e1]
      have e2 : (kn == (C != -1)) = true := by
        rw [hq]
        by_cases h9 : C = -1 <;> simp [h9]
      clear h hl hne ht hk hA e1 hk0 hC c0 c2 c3 k2 k3 hn hq
      go_enter Try.func49, Try.ntmps49
      go_upto_region 6 with first | (go_at_call 55; refine Calls.mono HC.out ?_; rintro e w2 ⟨rfl, rfl⟩) | (go_at_call 59; refine Calls.mono HP.out ?_; rintro e w3 ⟨rfl, hb3⟩; have HB3 : Hid (Below w.heap.size w w3) := hb3; clear hb3)
      have t1 : w3.heap[tb]? = some (.cells cur ty (0, 0)) := (HB3.out.block _ (lt_of_heap HT.out.1)).trans HT.out.1
      have t2 : w3.cell? ⟨tb, tk, none⟩ = some old := rcell t1 tk old HT.out.2.1
      have t3 : w3.frozen? ⟨tb, tk, none⟩ = false := Lib.frozen_of_heap t1 tk
      have HR3 : Hid (Rq B w3 r (.slice an s.ns.length cn) vc s) := HR.out.up HB3.out
      clear t1
      go_upto_region 7 with fail
      obtain ⟨W4, hW4⟩ : ∃ W4, W4 = w3.setCell ⟨tb, tk, none⟩ (.string ⟨(hd s).t.toArray⟩) := ⟨_, rfl⟩
      have HW4 : Hid (W4 = w3.setCell ⟨tb, tk, none⟩ (.string ⟨(hd s).t.toArray⟩)) := hW4
      rw [← hW4]
      obtain ⟨g3, o3, n3, p3, q0, _, _, _, _, m3, r3, _, _, _, _, z3⟩ := HR3.out.open
      have HZ3 : Hid _ := z3 HK0.out
      have q4 : W4.cell? ⟨r, 0, none⟩ = some (.slice (some ⟨g3, o3, none⟩) n3 p3) := by rw [hW4]; exact cell_keep q0 (fun e => HT.out.2.2 e.symm)
      have f4 : W4.frozen? ⟨r, 0, none⟩ = false := by
        obtain ⟨vl, hb, _⟩ := HR3.out.blk
        rw [hW4]
        exact Lib.frozen_of_heap ((heap_far (fun e => HT.out.2.2 e.symm)).trans hb) 0
      have d2 : (1 : Int) ≤ (n3 : Int) := by omega
      have d3 : 1 ≤ n3 := by omega
      have d4 : ¬ p3 = 1 := by have := HZ3.out.1; omega
      clear hW4 q0 z3 t2 t3 k0 k1 c1
      go_wp2_with fail
      go_ret
      exact ⟨rfl, w3, _, HB3.out, HZ3.out.2.2, HZ3.out.2.1, by first | rfl | trivial, by rw [HW4.out]⟩
    · have e1 : cnm s kn = (false, fl s 201) := by
        unfold cnm
        rw [hA, if_pos rfl, if_neg]
        rw [show bs (hd s).t = ⟨(hd s).t.toArray⟩ from rfl, hC]
        exact hq
      unfold Cnp
      rw [e1]
      have e2 : (kn == (C != -1)) = false := by
        cases kn <;> by_cases h9 : C = -1 <;> simp [h9] at hq ⊢
      clear h hl hne ht hk hA e1 hk0 hC c0 c2 c3 k2 k3 hn hq
      go_enter Try.func49, Try.ntmps49
      go_wp2_with first | (go_at_call 55; refine Calls.mono HC.out ?_; rintro e w2 ⟨rfl, rfl⟩) | (go_at_call 59; refine Calls.mono HP.out ?_; rintro e w3 ⟨rfl, hb3⟩; have HK2 : Hid (Kp B w w3 r (.slice an s.ns.length cn) vc s) := (Kp.refl HR.out).up hb3; clear hb3) | (go_at_call 44; refine (fail_any 201 _ HK2.out.1).mono ?_; rintro e w4 ⟨rfl, hk⟩; have HK3 : Hid _ := HK2.out.trans hk; clear hk)
      go_ret
      exact ⟨rfl, HK3.out⟩
end Go.Proofs.Ythfijmabagjdkaa.Qy
