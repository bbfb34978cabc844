import Derived.Test.YthfijmabagjdkaaQrj
import Derived.Test.YthfijmabagjdkaaFlt
namespace Go.Proofs.Ythfijmabagjdkaa.Qy
open Go.RowKit Go.Maps

/-- What Parse answers, in memory of the call's own. -/
structure Psd (B : Nat) (w w' : World) (e : Ending) (l : List Pn) (cs : List Cd) (c o : Int) : Prop where
  ex : ∃ vn vc, e = .returned (.tuple #[.agg #[vn, vc], .int .i64 c, .int .i64 o]) ∧ w'.ownsRow B 46 5 vn l.length (flat pf l) ∧ w'.ownsRow B 48 4 vc cs.length (flat cf cs)
  be : Below B w w'
theorem iv0 (ws : List Wd) (co : Int) : Iv ⟨ws, [], [], co⟩ := ⟨by simp, (fun p hp => by cases hp), by show (0 : Int) ≤ _; simp⟩
theorem psr_len (s : ByteArray) (ws : List Wd) (hw : cutR s = .inr ws) : ws.length ≤ 16384 := by
  have := wl_len s
  unfold wl at this
  rw [hw] at this
  exact this
set_option maxRecDepth 100000 in
set_option maxHeartbeats 8000000 in
theorem parse_any (s : ByteArray) (w : World) : Calls Try.prog 5 #[.string s] w fun e w' => Psd w.heap.size w w' e (psr s).1 (psr s).2.1 (psr s).2.2.1 (psr s).2.2.2 := by
  obtain ⟨iW, hiW, hx0, hx1, hx2⟩ := info_parts infoW
  obtain ⟨P, hP⟩ : ∃ P, psr s = P := ⟨_, rfl⟩
  rw [hP]
  have HP : Hid (psr s = P) := hP
  clear hP
  obtain ⟨W1, hW1⟩ : ∃ W1, W1 = w.alloc (.cells #[.slice none 0 0, .slice none 0 0] 25) := ⟨_, rfl⟩
  have hb1 : Below w.heap.size w W1 := by rw [hW1]; exact bel_up _ _
  have hn1 := heap_new w (.cells #[.slice none 0 0, .slice none 0 0] 25)
  rw [← hW1] at hn1
  have HB1 : Hid (Below w.heap.size w W1) := hb1
  have HN1 : Hid (W1.heap[w.heap.size]? = some (.cells #[.slice none 0 0, .slice none 0 0] 25 (0, 0))) := hn1
  have HC : Hid _ := wcut_any s W1
  obtain ⟨q0, hq0⟩ : ∃ q0, w.heap.size = q0 := ⟨_, rfl⟩
  have HQ0 : Hid (w.heap.size = q0) := hq0
  rw [hq0] at HB1 HN1 ⊢
  clear hb1 hn1
  go_enter Try.func5, Try.ntmps5
  go_upto_region 1 with fail
  first | rw [← hW1, hq0] | rw [← hW1]
  clear hW1 hq0
  go_upto_region 2 with (go_at_call 12; refine Calls.mono HC.out ?_; rintro e w2 ⟨hc, hb2⟩; have HB2 : Hid (Below W1.heap.size W1 w2) := hb2; have HCE : Hid (cutE W1.heap.size s e w2) := hc; obtain ⟨v2, rfl, hw2⟩ := hc.flat; have HW2 : Hid (Wow W1.heap.size w2 v2 (wl s)) := hw2; clear hc hb2 hw2)
  have HQ1 : Hid (q0 < W1.heap.size) := lt_of_heap HN1.out
  have hk2 : w2.heap[q0]? = some (.cells #[.slice none 0 0, .slice none 0 0] 25 (0, 0)) := (HB2.out.block _ HQ1.out).trans HN1.out
  have HK2 : Hid (w2.heap[q0]? = some (.cells #[.slice none 0 0, .slice none 0 0] 25 (0, 0))) := hk2
  have HBW : Hid (Below q0 w w2) := HB1.out.trans (HB2.out.mono (Nat.le_of_lt HQ1.out))
  clear hk2
  obtain ⟨A, hA⟩ : ∃ A, cutR s = A := ⟨_, rfl⟩
  cases A with
  | inl p =>
    obtain ⟨c, o⟩ := p
    have e1 : cc s = (c : Int) := by unfold cc; rw [hA]
    have e2 : oo s = (o : Int) := by unfold oo; rw [hA]
    have hc0 := cutR_code hA
    have e3 : psr s = ([], [], (c : Int), (o : Int)) := by unfold psr; rw [hA]
    have e5 := HP.out
    rw [e3] at e5
    subst e5
    clear HP
    rw [e1, e2]
    have d1 : ((c : Int) == 0) = false := by rw [beq_eq_false_iff_ne]; omega
    have d2 : (c == 0) = false := by rw [beq_eq_false_iff_ne]; omega
    have k0 : w2.cell? ⟨q0, 0, none⟩ = some (.slice none 0 0) := rcell HK2.out 0 _ rfl
    have k1 : w2.cell? ⟨q0, 1, none⟩ = some (.slice none 0 0) := rcell HK2.out 1 _ rfl
    have f0 := Lib.frozen_of_heap HK2.out 0
    have f1 := Lib.frozen_of_heap HK2.out 1
    clear e1 e2 hA hc0 HCE HC
    go_wp2_with fail
    refine bodyPost_ret (v := .tuple #[.agg #[.slice none 0 0, .slice none 0 0], .int .i64 (c : Int), .int .i64 (o : Int)]) ?_ rfl ⟨⟨_, _, rfl, World.ownsRow_nil _ _ _ _, World.ownsRow_nil _ _ _ _⟩, ?_⟩
    · rw [results_ctt rfl]; go_simp
    · exact Below.setCell (Below.setCell HBW.out (Nat.le_refl _) _) (Nat.le_refl _) _
  | inr ws =>
    have e1 : cc s = 0 := by unfold cc; rw [hA]
    have e2 : oo s = 0 := by unfold oo; rw [hA]
    have e4 : wl s = ws := by unfold wl; rw [hA]
    have e3 : psr s = if (rdA (rs0 s ws)).1 then ((rdA (rs0 s ws)).2.ns, (rdA (rs0 s ws)).2.cs, 0, 0) else ([], [], (rdA (rs0 s ws)).2.co, (hd (rdA (rs0 s ws)).2).a) := by unfold psr; rw [hA]
    have hwl := psr_len s ws hA
    have HWL : Hid (ws.length ≤ 16384) := hwl
    have e5 := HP.out
    rw [e3] at e5
    have HP5 : Hid _ := e5
    clear HP
    rw [e1, e2]
    rw [e4] at HW2
    obtain ⟨ra, rc, hv⟩ := row_shape HW2.out
    subst hv
    obtain ⟨n, hn⟩ : ∃ n, ws.length = n := ⟨_, rfl⟩
    have HN : Hid (ws.length = n) := hn
    have HW2' : Hid (w2.ownsRow W1.heap.size 41 4 (.slice ra n rc) n (wC ws)) := by have h9 := HW2.out; unfold Wow at h9; rw [hn] at h9; exact h9
    try rw [hn]
    clear e1 e2 e3 e4 e5 hA HCE HC hwl HW2 hn
    go_upto_region 5 with fail
    obtain ⟨W3, hW3⟩ : ∃ W3, W3 = w2.alloc (.cells #[.int .i64 0, .string ⟨#[]⟩, .int .i64 0, .int .i64 (s.size : Int)] 41) := ⟨_, rfl⟩
    have hn3 := heap_new w2 (.cells #[.int .i64 0, .string ⟨#[]⟩, .int .i64 0, .int .i64 (s.size : Int)] 41)
    rw [← hW3] at hn3
    have hb3 : Below w2.heap.size w2 W3 := by rw [hW3]; exact bel_up _ _
    obtain ⟨b3, hbb3⟩ : ∃ b3, w2.heap.size = b3 := ⟨_, rfl⟩
    rw [← hW3]
    rw [hbb3] at hn3 ⊢
    have t0 := rcell hn3 0 _ rfl
    have t1 := rcell hn3 1 _ rfl
    have t2 := rcell hn3 2 _ rfl
    have t3 := rcell hn3 3 _ rfl
    have HROW : Hid ((W3.alloc (.cells #[.int .i64 0, .string ⟨#[]⟩, .int .i64 0, .int .i64 (s.size : Int)] 41)).ownsRow W1.heap.size 41 4 (.slice ra n rc) n (wC ws)) := (row_up HW2'.out hb3).alloc _
    have HB3 : Hid (Below q0 w W3) := HBW.out.trans (hb3.mono (by have := HB2.out.size; have := HQ1.out; omega))
    have HS3 : Hid (W1.heap.size ≤ W3.heap.size) := Nat.le_trans HB2.out.size hb3.size
    have HW3 : Hid (W3.ownsRow W1.heap.size 41 4 (.slice ra n rc) n (wC ws)) := row_up HW2'.out hb3
    have HK3 : Hid (W3.heap[q0]? = some (.cells #[.slice none 0 0, .slice none 0 0] 25 (0, 0))) := (hb3.block _ (lt_of_heap HK2.out)).trans HK2.out
    clear hW3 hn3 hb3 hbb3 HK2 HBW HW2'
    go_upto_region 6 with (at_builtin; refine wpList_append_own_at _ rfl _ _ 33 rfl W1.heap.size 41 iW (.agg #[.int .i64 0, .string ⟨#[]⟩, .int .i64 0, .int .i64 0]) 4 40 Try.underlying33 hiW hx0 hx1 hx2 rfl (by decide) _ _ _ rfl HROW.out ⟨W3.heap.size, 0, none⟩ 1 1 [.int .i64 0, .string ⟨#[]⟩, .int .i64 0, .int .i64 (s.size : Int)] rfl rfl (World.news_of_block (heap_new W3 _)) (by simp [Value.oneCell']) (by have := HWL.out; have := HN.out; unfold maxLen; omega) (by have := HWL.out; have := HN.out; omega) (by have := HS3.out; simp; omega) ?_; intro v5 w5 ho5 hg5 _ ha5; have HO5 : Hid (w5.ownsRow W1.heap.size 41 4 v5 (n + 1) (wC ws ++ [.int .i64 0, .string ⟨#[]⟩, .int .i64 0, .int .i64 (s.size : Int)])) := ho5; have HG5 : Hid (W3.grownBy w5 (Value.ownBlock (.slice ra n rc))) := (World.grownBy_alloc _ _ _).trans hg5; obtain ⟨qa, qc, rfl⟩ := row_shape ho5; clear ho5 hg5 ha5)
    obtain ⟨r, hr⟩ : ∃ r, w5.heap.size = r := ⟨_, rfl⟩
    obtain ⟨W6, hW6⟩ : ∃ W6, W6 = w5.alloc (.cells #[.slice qa (n + 1) qc, .slice none 0 0, .slice none 0 0, .int .i64 0] 43) := ⟨_, rfl⟩
    have hb5 : Below W1.heap.size W3 w5 := (Below.refl _ _).grown HG5.out HS3.out (fun r hr => (row_tag HW3.out r hr).1)
    have HB5 : Hid (Below q0 w w5) := HB3.out.trans (hb5.mono (Nat.le_of_lt HQ1.out))
    have hk5 : w5.heap[q0]? = some (.cells #[.slice none 0 0, .slice none 0 0] 25 (0, 0)) := (hb5.block q0 HQ1.out).trans HK3.out
    have hb6 : Below w5.heap.size w5 W6 := by rw [hW6]; exact bel_up _ _
    have hn6 := heap_new w5 (.cells #[.slice qa (n + 1) qc, .slice none 0 0, .slice none 0 0, .int .i64 0] 43)
    rw [← hW6, hr] at hn6
    have HR6 : Hid (Rq r W6 r (.slice none 0 0) (.slice none 0 0) (rs0 s ws)) := by
      refine ⟨Nat.le_refl _, ⟨.slice qa (n + 1) qc, hn6, ?_⟩, World.ownsRow_nil _ _ _ _, World.ownsRow_nil _ _ _ _, ⟨ws, _, rfl, rfl⟩⟩
      have ho := HO5.out
      obtain ⟨g, cp, e, hg, hc, _⟩ := row_form ho (by omega)
      obtain ⟨_, cur, hcur⟩ := row_tag ho g (by rw [e]; rfl)
      have hlt : g < r := by rw [← hr]; exact lt_of_heap hcur
      have hl : (rs0 s ws).ws.length = n + 1 := by show (ws ++ [_]).length = _; rw [List.length_append, HN.out]; rfl
      refine ⟨g, 0, cp, by rw [e, hl], by rw [hl]; exact hc, hlt, fun j u hu => ?_⟩
      have hcell : w5.cell? ⟨g, j, none⟩ = some u := by
        rw [e] at ho
        refine row_at ho j u ?_
        have e9 : wC (rs0 s ws).ws = wC ws ++ [.int .i64 0, .string ⟨#[]⟩, .int .i64 0, .int .i64 (s.size : Int)] := by show wC (ws ++ [_]) = _; rw [wC_app]; rfl
        rw [← e9]
        exact hu
      rw [Nat.zero_add]
      exact below_cell hb6 hcell
    have HBR : Hid (Below r w5 W6) := by rw [← hr]; exact hb6
    have HK6 : Hid (W6.heap[q0]? = some (.cells #[.slice none 0 0, .slice none 0 0] 25 (0, 0))) := (hb6.block q0 (lt_of_heap hk5)).trans hk5
    have HQR : Hid (q0 < r) := by rw [← hr]; exact lt_of_heap hk5
    have HAL : Hid _ := all_any W6 HR6.out (iv0 _ _) rfl
    first | rw [← hW6, hr] | rw [← hW6]
    clear hW6 hr hb5 hk5 hb6 hn6 t0 t1 t2 t3 HO5 HG5 HROW HW3 HK3
    cases hq : rdA (rs0 s ws) with
    | mk b s7 =>
      rw [hq] at HAL HP5
      have HP7 := HP5.out
      simp only at HP7
      clear HP5 hq
      cases b with
      | true =>
        rw [if_pos rfl] at HP7
        subst HP7
        go_upto_region 8 with (go_at_call 13; refine Calls.mono HAL.out ?_; rintro e w7 ⟨rfl, hk⟩; have HM7 : Hid (Mp r W6 w7 r s7) := hk; clear hk)
        obtain ⟨vn, vc, hr7⟩ := HM7.out.rq
        obtain ⟨_, _, _, _, _, k1, k2, _⟩ := hr7.open
        have hq7 : w7.heap[q0]? = some (.cells #[.slice none 0 0, .slice none 0 0] 25 (0, 0)) := (HM7.out.be.block q0 HQR.out).trans HK6.out
        have z0 := rcell hq7 0 _ rfl
        have z1 := rcell hq7 1 _ rfl
        have f0 := Lib.frozen_of_heap hq7 0
        have f1 := Lib.frozen_of_heap hq7 1
        have HR7 : Hid (Rq r w7 r vn vc s7) := hr7
        have HQ7 : Hid (w7.heap[q0]? = some (.cells #[.slice none 0 0, .slice none 0 0] 25 (0, 0))) := hq7
        obtain ⟨na, nc, hvn⟩ := row_shape hr7.ns
        obtain ⟨ca, cc, hvc⟩ := row_shape hr7.cs
        subst hvn hvc
        clear hr7 hq7
        go_wp2_with fail
        refine bodyPost_ret (v := .tuple #[.agg #[.slice na s7.ns.length nc, .slice ca s7.cs.length cc], .int .i64 0, .int .i64 0]) ?_ rfl ⟨⟨_, _, rfl, ?_, ?_⟩, ?_⟩
        · rw [results_ctt rfl]; go_simp
        · obtain ⟨h1, h2⟩ := row_off (k := 0) (u := .slice na s7.ns.length nc) HQ7.out HR7.out.ns (by decide)
          exact row_base (row_off h2 h1 (by decide)).1 (Nat.le_of_lt HQR.out)
        · obtain ⟨h1, h2⟩ := row_off (k := 0) (u := .slice na s7.ns.length nc) HQ7.out HR7.out.cs (by decide)
          exact row_base (row_off h2 h1 (by decide)).1 (Nat.le_of_lt HQR.out)
        · exact Below.setCell (Below.setCell ((HB5.out.trans (HBR.out.mono (Nat.le_of_lt HQR.out))).trans (HM7.out.be.mono (Nat.le_of_lt HQR.out))) (Nat.le_refl _) _) (Nat.le_refl _) _
      | false =>
        rw [if_neg (by decide)] at HP7
        subst HP7
        go_upto_region 7 with (go_at_call 13; refine Calls.mono HAL.out ?_; rintro e w7 ⟨rfl, hk⟩; have HM7 : Hid (Mp r W6 w7 r s7) := hk; clear hk)
        obtain ⟨vn, vc, hr7⟩ := HM7.out.rq
        obtain ⟨g, o, m, cp, k0, _, _, k3, _, hm, _, _, _, _, c3, _⟩ := hr7.open
        have hq7 : w7.heap[q0]? = some (.cells #[.slice none 0 0, .slice none 0 0] 25 (0, 0)) := (HM7.out.be.block q0 HQR.out).trans HK6.out
        have z0 : w7.drew.cell? ⟨q0, 0, none⟩ = some (.slice none 0 0) := rcell hq7 0 _ rfl
        have z1 : w7.drew.cell? ⟨q0, 1, none⟩ = some (.slice none 0 0) := rcell hq7 1 _ rfl
        have f0 : w7.drew.frozen? ⟨q0, 0, none⟩ = false := Lib.frozen_of_heap hq7 0
        have f1 : w7.drew.frozen? ⟨q0, 1, none⟩ = false := Lib.frozen_of_heap hq7 1
        have j0 : w7.drew.cell? ⟨r, 0, none⟩ = some (.slice (some ⟨g, o, none⟩) m cp) := k0
        have j3 : w7.drew.cell? ⟨r, 3, none⟩ = some (.int .i64 s7.co) := k3
        have i3 : w7.drew.cell? ⟨g, o + 3, none⟩ = some (.int .i64 (hd s7).a) := c3
        have d1 : (0 : Int) < (m : Int) := by omega
        have hq8 := blk_set (k := 0) (.slice none 0 0) hq7
        have z1b : (w7.setCell ⟨q0, 0, none⟩ (.slice none 0 0)).drew.cell? ⟨q0, 1, none⟩ = some (.slice none 0 0) := rcell hq8 1 _ rfl
        have f1b : (w7.setCell ⟨q0, 0, none⟩ (.slice none 0 0)).drew.frozen? ⟨q0, 1, none⟩ = false := Lib.frozen_of_heap hq8 1
        have hgq : g ≠ q0 := by
          intro e
          rw [e, Lib.cell_of_heap hq7] at c3
          simp at c3
        have hrq : r ≠ q0 := by have := HQR.out; omega
        have y0 : ((w7.setCell ⟨q0, 0, none⟩ (.slice none 0 0)).setCell ⟨q0, 1, none⟩ (.slice none 0 0)).drew.cell? ⟨r, 0, none⟩ = some (.slice (some ⟨g, o, none⟩) m cp) := cell_keep (cell_keep k0 hrq) hrq
        have y3 : ((w7.setCell ⟨q0, 0, none⟩ (.slice none 0 0)).setCell ⟨q0, 1, none⟩ (.slice none 0 0)).drew.cell? ⟨r, 3, none⟩ = some (.int .i64 s7.co) := cell_keep (cell_keep k3 hrq) hrq
        have y4 : ((w7.setCell ⟨q0, 0, none⟩ (.slice none 0 0)).setCell ⟨q0, 1, none⟩ (.slice none 0 0)).drew.cell? ⟨g, o + 3, none⟩ = some (.int .i64 (hd s7).a) := cell_keep (cell_keep c3 hgq) hgq
        have hq9 := blk_set (k := 1) (.slice none 0 0) hq8
        have x0 : ((w7.setCell ⟨q0, 0, none⟩ (.slice none 0 0)).setCell ⟨q0, 1, none⟩ (.slice none 0 0)).drew.cell? ⟨q0, 0, none⟩ = some (.slice none 0 0) := rcell hq9 0 _ rfl
        have x1 : ((w7.setCell ⟨q0, 0, none⟩ (.slice none 0 0)).setCell ⟨q0, 1, none⟩ (.slice none 0 0)).drew.cell? ⟨q0, 1, none⟩ = some (.slice none 0 0) := rcell hq9 1 _ rfl
        clear hr7 hq7 hq8 hq9 k0 k3 c3
        go_region
        go_wp2_with fail
        refine bodyPost_ret (v := .tuple #[.agg #[.slice none 0 0, .slice none 0 0], .int .i64 s7.co, .int .i64 (hd s7).a]) ?_ rfl ⟨⟨_, _, rfl, World.ownsRow_nil _ _ _ _, World.ownsRow_nil _ _ _ _⟩, ?_⟩
        · rw [results_ctt rfl]; go_simp
        · exact Below.drew (Below.setCell (Below.setCell ((HB5.out.trans (HBR.out.mono (Nat.le_of_lt HQR.out))).trans (HM7.out.be.mono (Nat.le_of_lt HQR.out))) (Nat.le_refl _) _) (Nat.le_refl _) _)
end Go.Proofs.Ythfijmabagjdkaa.Qy
