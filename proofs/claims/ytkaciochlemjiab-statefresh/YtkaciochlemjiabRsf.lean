import Derived.Test.YtkaciochlemjiabRse
namespace Go.Proofs.Ytkaciochlemjiab
open Go.RowKit Go.Maps

theorem shp_txt {s : Stt} (h : s.shp = true) : ∀ d ∈ s.que, d.size ≤ 9223372036854775807 := fun d hd => by
  have h1 := ((shp_iff s).1 h).2.2.1.2
  rw [List.all_eq_true] at h1
  have h2 := h1 d hd
  simp only [wai, Bool.and_eq_true, decide_eq_true_eq] at h2
  omega
set_option maxRecDepth 100000 in
set_option maxHeartbeats 16000000 in
theorem rall_any {vi vq vf va : Value} {s : Stt} {l : List (Int × Int × Int)} (m : ByteArray) (w : World) (h : Stm w vi vq vf s) (hf : s.flg < 65536) (hq : ∀ d ∈ s.que, d.size ≤ 9223372036854775807) (ha : Rw w va l.length (aC l)) (hl : l.length ≤ 4611686018427387904) (hm : m.size ≤ 140737488355328) :
    Calls Try.prog 7 #[sv vi vq vf s, va, .string m] w fun e w' => Ral w (if s.shp then acts m s l else .error 65) e w' := by
  obtain ⟨a1, c1, a2, c2, a3, c3, rfl, rfl, rfl⟩ := h.form
  obtain ⟨ap, ag, ao, acap, rfl, -, -, af, ac⟩ := ha
  obtain ⟨W1, hW1⟩ : ∃ W1, W1 = (w.alloc (.cells #[.slice a1 s.ind.length c1, .int .i64 s.pen, .slice a2 s.que.length c2, .slice a3 s.frm.length c3, .int .u16 (s.flg : Int)] 27)).alloc (.cells #[.slice none 0 0, .int .i64 0, .slice none 0 0, .slice none 0 0, .int .u16 0] 27) := ⟨_, rfl⟩
  have HW : Hid (W1 = (w.alloc (.cells #[.slice a1 s.ind.length c1, .int .i64 s.pen, .slice a2 s.que.length c2, .slice a3 s.frm.length c3, .int .u16 (s.flg : Int)] 27)).alloc (.cells #[.slice none 0 0, .int .i64 0, .slice none 0 0, .slice none 0 0, .int .u16 0] 27)) := hW1
  have B1 : Hid (Below w.heap.size w W1) := by rw [hW1]; exact below_trans (bel_up _ _) (bel_up _ _)
  have HSZ : Hid (W1.heap.size = w.heap.size + 1 + 1) := by rw [hW1, World.size_alloc, World.size_alloc]; exact rfl
  have HP1 : Hid (W1.heap[w.heap.size]? = some (.cells #[.slice a1 s.ind.length c1, .int .i64 s.pen, .slice a2 s.que.length c2, .slice a3 s.frm.length c3, .int .u16 (s.flg : Int)] 27 (0, 0))) := by
    rw [hW1, (bel_up _ _).block _ (by simp)]; exact heap_new w _
  have HP3 : Hid (W1.heap[w.heap.size + 1]? = some (.cells zrC 27 (0, 0))) := by
    rw [hW1]
    have := heap_new (w.alloc (.cells #[.slice a1 s.ind.length c1, .int .i64 s.pen, .slice a2 s.que.length c2, .slice a3 s.frm.length c3, .int .u16 (s.flg : Int)] 27)) (.cells #[.slice none 0 0, .int .i64 0, .slice none 0 0, .slice none 0 0, .int .u16 0] 27)
    rw [World.size_alloc] at this
    exact this
  have HS : Hid (Stm W1 (.slice a1 s.ind.length c1) (.slice a2 s.que.length c2) (.slice a3 s.frm.length c3) s) := h.up B1.out
  have HF : Hid (s.flg < 65536) := hf
  have HQ : Hid (∀ d ∈ s.que, d.size ≤ 9223372036854775807) := hq
  have HM : Hid (m.size ≤ 140737488355328) := hm
  have HL : Hid (l.length ≤ 4611686018427387904) := hl
  have HAF : Hid (0 < l.length → ap = some ⟨ag, ao, none⟩) := af
  have HAC : Hid (∀ W, Below w.heap.size w W → ∀ i, i < l.length → W.cell? ⟨ag, ao + i * 3, none⟩ = some (.int .i64 (l.getD i (0, 0, 0)).1) ∧ W.cell? ⟨ag, ao + i * 3 + 1, none⟩ = some (.int .i64 (l.getD i (0, 0, 0)).2.1) ∧ W.cell? ⟨ag, ao + i * 3 + 2, none⟩ = some (.int .i64 (l.getD i (0, 0, 0)).2.2)) := fun W hW i hi => by
    obtain ⟨g0, g1, g2⟩ := aC_get l i hi
    exact ⟨below_cell hW (ac _ _ g0), by rw [Nat.add_assoc]; exact below_cell hW (ac _ _ g1), by rw [Nat.add_assoc]; exact below_cell hW (ac _ _ g2)⟩
  obtain ⟨R, hR⟩ : ∃ R, (if s.shp then acts m s l else .error 65) = R := ⟨_, rfl⟩
  have HR : Hid ((if s.shp then acts m s l else .error 65) = R) := hR
  rw [hR]
  clear h hf hq hm hW1 hR hl af ac
  go_enter Try.func7, Try.ntmps7
  go_upto_region 1 with fail
  rw [← HW.out]
  obtain ⟨p0, p1, p2, p3, p4⟩ := box_cells HP1.out
  go_wp2_with fail
  refine (rshaped_any W1 HS.out HQ.out).mono ?_
  rintro e w2 ⟨rfl, hb2⟩
  have B2 : Hid (Below W1.heap.size W1 w2) := hb2
  have B2w : Hid (Below w.heap.size w w2) := below_trans B1.out hb2
  clear hb2 p0 p1 p2 p3 p4
  cases hsh : s.shp with
  | false =>
    have HE : Hid (R = .error 65) := by rw [← HR.out, hsh]; exact rfl
    have HZ : Hid (w2.heap[w.heap.size + 1]? = some (.cells zrC 27 (0, 0))) := (B2.out.block _ (lt_of_heap HP3.out)).trans HP3.out
    clear hsh
    have z0 := rcell HZ.out 0 (.slice none 0 0) rfl
    have z1 := rcell HZ.out 1 (.int .i64 0) rfl
    have z2 := rcell HZ.out 2 (.slice none 0 0) rfl
    have z3 := rcell HZ.out 3 (.slice none 0 0) rfl
    have z4 := rcell HZ.out 4 (.int .u16 0) rfl
    have rz : ∀ q, w2.frozen? ⟨w.heap.size + 1, q, none⟩ = false := fun q => Lib.frozen_of_heap HZ.out q
    go_wp2_with fail
    (try simp only [Exit.inBlock, Exit.then])
    refine bodyPost_ret (v := .tuple #[.agg #[.slice none 0 0, .int .i64 0, .slice none 0 0, .slice none 0 0, .int .u16 0], .int .i64 65]) ?_ rfl ⟨?_, .inr ⟨65, HE.out, rfl⟩⟩
    · rw [results_cell_tmp rfl]; go_simp
    · exact bel_five B2w.out (by omega)
  | true =>
    have HA : Hid (R = acts m s l) := by rw [← HR.out, hsh]; exact rfl
    have HSH : Hid (s.shp = true) := hsh
    have HLM : Hid _ := shp_lim hsh
    clear hsh
    obtain ⟨p0, p1, p2, p3, p4⟩ := box_cells (x0 := .slice a1 s.ind.length c1) (x1 := .int .i64 s.pen) (x2 := .slice a2 s.que.length c2) (x3 := .slice a3 s.frm.length c3) (x4 := .int .u16 (s.flg : Int)) ((B2.out.block _ (lt_of_heap HP1.out)).trans HP1.out)
    go_wp2_with fail
    refine (twin_any w2 (HS.out.up B2.out) (by have := HLM.out; omega) (by have := HLM.out; omega) (by have := HLM.out; omega)).mono ?_
    rintro e w3 ⟨ui, uq, uf, rfl, ho3, hb3⟩
    obtain ⟨x1, y1, x2, y2, x3, y3, rfl, rfl, rfl⟩ := ho3.stm.form
    obtain ⟨W3, hW3⟩ : ∃ W3, W3 = w3.alloc (.cells #[.slice x1 s.ind.length y1, .int .i64 s.pen, .slice x2 s.que.length y2, .slice x3 s.frm.length y3, .int .u16 (s.flg : Int)] 27) := ⟨_, rfl⟩
    have HW3 : Hid (W3 = w3.alloc (.cells #[.slice x1 s.ind.length y1, .int .i64 s.pen, .slice x2 s.que.length y2, .slice x3 s.frm.length y3, .int .u16 (s.flg : Int)] 27)) := hW3
    obtain ⟨O, hO⟩ : ∃ O, w3.heap.size = O := ⟨_, rfl⟩
    have HOO : Hid (w3.heap.size = O) := hO
    have B23 : Hid (Below w2.heap.size w2 W3) := by rw [hW3]; exact below_trans hb3 (bel_up _ _)
    have B13 : Hid (Below W1.heap.size W1 W3) := below_trans B2.out B23.out
    have HLO : Hid (w.heap.size + 1 + 1 ≤ O) := by show _ ≤ O; rw [← hO, ← HSZ.out]; exact Nat.le_trans B2.out.size hb3.size
    have HO3 : Hid (W3.heap[O]? = some (.cells #[.slice x1 s.ind.length y1, .int .i64 s.pen, .slice x2 s.que.length y2, .slice x3 s.frm.length y3, .int .u16 (s.flg : Int)] 27 (0, 0))) := by rw [hW3, ← hO]; exact heap_new w3 _
    have HS3 : Hid (Stl (w.heap.size + 1 + 1) W3 (.slice x1 s.ind.length y1) (.slice x2 s.que.length y2) (.slice x3 s.frm.length y3) s) := by
      have hw := B2.out.size
      rw [HSZ.out] at hw
      rw [hW3]; exact ((ho3.low hw).up (bel_up _ _)).stl
    have HZ3 : Hid (W3.heap[w.heap.size + 1]? = some (.cells zrC 27 (0, 0))) := (B13.out.block _ (lt_of_heap HP3.out)).trans HP3.out
    have B3 : Hid (Below w.heap.size w W3) := below_trans B1.out B13.out
    clear hW3 hb3 ho3 p0 p1 p2 p3 p4 hO
    go_upto_region 5 with fail
    rw [HOO.out, ← HW3.out]
    go_wp2_with fail
    go_loopg [10] l.length (fun gm v10 wr => ∃ (i : Nat) (t : Stt) (zi zq zf : Value), v10 = .int .i64 (i : Int) ∧ Hid (i ≤ l.length ∧ gm = l.length - i) ∧ Hid (acts m s (l.take i) = .ok t) ∧ Hid (wr.heap[O]? = some (.cells #[zi, .int .i64 t.pen, zq, zf, .int .u16 (t.flg : Int)] 27 (0, 0))) ∧ Hid (Stl (w.heap.size + 1 + 1) wr zi zq zf t) ∧ Hid (wr.heap[w.heap.size + 1]? = some (.cells zrC 27 (0, 0))) ∧ Hid (Below w.heap.size w wr))
    case atStart => exact ⟨0, s, _, _, _, rfl, ⟨Nat.zero_le _, rfl⟩, rfl, HO3, HS3, HZ3, B3⟩
    case round =>
      clear HO3 HS3 HZ3 B3
      obtain ⟨i, t, zi, zq, zf, rfl, HI, HT, HOB, HST, HZ, HB⟩ := hrel
      obtain ⟨e1, f1, e2, f2, e3, f3, rfl, rfl, rfl⟩ := HST.out.stm.form
      have HTO : Hid (t.shp = true ∧ t.flg < 65536) := (acts_ok m (l.take i) s HSH.out HF.out).1 t HT.out
      by_cases hi : i < l.length
      · obtain rfl := HAF.out (by omega)
        have d1 : decide ((i : Int) < (l.length : Int)) = true := by rw [decide_eq_true_eq]; omega
        have d2 : decide (i < l.length) = true := by rw [decide_eq_true_eq]; omega
        have d5 : (i : Int) < (l.length : Int) := by omega
        have HIL : Hid (i < l.length) := hi
        have hwr := w64n i (by have := HL.out; omega)
        have HSN : Hid (l.take (i + 1) = l.take i ++ [l.getD i (0, 0, 0)]) := take_snoc l (0, 0, 0) i hi
        obtain ⟨x, hx⟩ : ∃ x, l.getD i (0, 0, 0) = x := ⟨_, rfl⟩
        have HCE : Hid (∀ W, Below wr.heap.size wr W → (W.cell? ⟨O, 0, none⟩ = some (.slice e1 t.ind.length f1) ∧ W.cell? ⟨O, 1, none⟩ = some (.int .i64 t.pen) ∧ W.cell? ⟨O, 2, none⟩ = some (.slice e2 t.que.length f2) ∧ W.cell? ⟨O, 3, none⟩ = some (.slice e3 t.frm.length f3) ∧ W.cell? ⟨O, 4, none⟩ = some (.int .u16 (t.flg : Int))) ∧ (W.cell? ⟨ag, ao + i * 3, none⟩ = some (.int .i64 x.1) ∧ W.cell? ⟨ag, ao + i * 3 + 1, none⟩ = some (.int .i64 x.2.1) ∧ W.cell? ⟨ag, ao + i * 3 + 2, none⟩ = some (.int .i64 x.2.2))) := fun W hW => by
          refine ⟨box_cells ((hW.block _ (lt_of_heap HOB.out)).trans HOB.out), ?_⟩
          have := HAC.out W (below_trans HB.out hW) i HIL.out
          rw [hx] at this
          exact this
        rw [hx] at HSN
        clear hi hx
        obtain ⟨xk, xn, xm⟩ := x
        go_upto_region 8 with fail
        refine wp_region_noPanic ?_
        refine wp_region_held_drew (S := fun W => (W.cell? ⟨O, 0, none⟩ = some (.slice e1 t.ind.length f1) ∧ W.cell? ⟨O, 1, none⟩ = some (.int .i64 t.pen) ∧ W.cell? ⟨O, 2, none⟩ = some (.slice e2 t.que.length f2) ∧ W.cell? ⟨O, 3, none⟩ = some (.slice e3 t.frm.length f3) ∧ W.cell? ⟨O, 4, none⟩ = some (.int .u16 (t.flg : Int))) ∧ (W.cell? ⟨ag, ao + i * 3, none⟩ = some (.int .i64 xk) ∧ W.cell? ⟨ag, ao + i * 3 + 1, none⟩ = some (.int .i64 xn) ∧ W.cell? ⟨ag, ao + i * 3 + 2, none⟩ = some (.int .i64 xm))) (by kernel_rfl) (HCE.out _ (Below.drew (Below.refl _ _))) (fun hHeld => ?_)
        refine wpAnyH_take (i := 0) (oi := { dst := _, op := _, type := _, pos := _, after := _, guard := _ }) (v := ?_) rfl (by kernel_rfl) (by kernel_rfl) (by kernel_rfl) (fun _ _ _ h => h) (Or.inl ⟨by rfl, ?_⟩) (by assumption) ?_
        rotate_left
        · intro W hSw
          obtain ⟨⟨h0, h1, h2, h3, h4⟩, h5, h6, h7⟩ := hSw
          go_simp
          (try with_reducible rfl)
        try simp only [Act.put, List.setIfInBounds_toArray, List.set_cons_zero, List.set_cons_succ]
        refine wpAnyH_take (i := 1) (oi := { dst := _, op := _, type := _, pos := _, after := _, guard := _ }) (v := ?_) rfl (by kernel_rfl) (by kernel_rfl) (by kernel_rfl) (fun _ _ _ h => h) (Or.inl ⟨by rfl, ?_⟩) (by assumption) ?_
        rotate_left
        · intro W hSw
          obtain ⟨⟨h0, h1, h2, h3, h4⟩, h5, h6, h7⟩ := hSw
          go_simp
          (try with_reducible rfl)
        try simp only [Act.put, List.setIfInBounds_toArray, List.set_cons_zero, List.set_cons_succ]
        refine wpAnyH_take (i := 2) (oi := { dst := _, op := _, type := _, pos := _, after := _, guard := _ }) (v := ?_) rfl (by kernel_rfl) (by kernel_rfl) (by kernel_rfl) (fun _ _ _ h => h) (Or.inl ⟨by rfl, ?_⟩) (by assumption) ?_
        rotate_left
        · intro W hSw
          obtain ⟨⟨h0, h1, h2, h3, h4⟩, h5, h6, h7⟩ := hSw
          go_simp
          (try with_reducible rfl)
        try simp only [Act.put, List.setIfInBounds_toArray, List.set_cons_zero, List.set_cons_succ]
        refine wpAnyH_take (i := 3) (oi := { dst := _, op := _, type := _, pos := _, after := _, guard := _ }) (v := ?_) rfl (by kernel_rfl) (by kernel_rfl) (by kernel_rfl) (fun _ _ _ h => h) (Or.inl ⟨by rfl, ?_⟩) (by assumption) ?_
        rotate_left
        · intro W hSw
          obtain ⟨⟨h0, h1, h2, h3, h4⟩, h5, h6, h7⟩ := hSw
          go_simp
          (try with_reducible rfl)
        try simp only [Act.put, List.setIfInBounds_toArray, List.set_cons_zero, List.set_cons_succ]
        refine wpAnyH_take (i := 4) (oi := { dst := _, op := _, type := _, pos := _, after := _, guard := _ }) (v := ?_) rfl (by kernel_rfl) (by kernel_rfl) (by kernel_rfl) (fun _ _ _ h => h) (Or.inl ⟨by rfl, ?_⟩) (by assumption) ?_
        rotate_left
        · intro W hSw
          obtain ⟨⟨h0, h1, h2, h3, h4⟩, h5, h6, h7⟩ := hSw
          go_simp
          (try with_reducible rfl)
        try simp only [Act.put, List.setIfInBounds_toArray, List.set_cons_zero, List.set_cons_succ]
        refine wpAnyH_take (i := 5) (oi := { dst := _, op := _, type := _, pos := _, after := _, guard := _ }) (v := ?_) rfl (by kernel_rfl) (by kernel_rfl) (by kernel_rfl) (fun _ _ _ h => h) (Or.inl ⟨by rfl, ?_⟩) (by assumption) ?_
        rotate_left
        · intro W hSw
          obtain ⟨⟨h0, h1, h2, h3, h4⟩, h5, h6, h7⟩ := hSw
          go_simp
          (try with_reducible rfl)
        try simp only [Act.put, List.setIfInBounds_toArray, List.set_cons_zero, List.set_cons_succ]
        refine wpAnyH_ready (rs := [6, 10]) (by kernel_rfl) (by simp) ?_
        refine AllReadyH.cons (o := { dst := _, op := _, type := _, pos := _, after := _, guard := _ }) rfl (fun K hK => ?_) (AllReadyH.cons (o := { dst := _, op := _, type := _, pos := _, after := _, guard := _ }) rfl (fun K hK => ?_) (AllReadyH.nil))
        · go_simp
          refine (rdo_any xk xn xm m _ ((HST.out.stm).up (Below.drew (Below.refl _ _))) HTO.out.2 (shp_txt HTO.out.1) HM.out).mono ?_
          rintro e w6 ⟨hb6, hr6⟩
          have BD : Hid (Below wr.heap.size wr w6) := below_trans (Below.drew (Below.refl _ _)) hb6
          rw [HTO.out.1, if_pos rfl] at hr6
          rcases hr6 with ⟨u, ri, rq, rf, hru, rfl, hsu⟩ | ⟨c, hrc, rfl⟩
          · have HRU : Hid (act t xk xn xm m = .ok u) := hru
            have HSU : Hid (Stl wr.heap.size w6 ri rq rf u) := hsu
            obtain ⟨r1, d1, r2, d2, r3, d3, rfl, rfl, rfl⟩ := hsu.stm.form
            clear hru hsu hb6
            go_wp2_with fail
            refine hK.out _ _ ?_ (fun hHeld => ?_)
            · exact HCE.out _ BD.out
            clear hK K
            try simp only [Act.put, List.setIfInBounds_toArray, List.set_cons_zero, List.set_cons_succ]
            refine wpAnyH_take (i := 7) (oi := { dst := _, op := _, type := _, pos := _, after := _, guard := _ }) (v := ?_) rfl (by kernel_rfl) (by kernel_rfl) (by kernel_rfl) (fun _ _ _ h => h) (Or.inl ⟨by rfl, ?_⟩) (by assumption) ?_
            rotate_left
            · intro W hSw
              obtain ⟨⟨h0, h1, h2, h3, h4⟩, h5, h6, h7⟩ := hSw
              go_simp
              (try with_reducible rfl)
            try simp only [Act.put, List.setIfInBounds_toArray, List.set_cons_zero, List.set_cons_succ]
            refine wpAnyH_take (i := 8) (oi := { dst := _, op := _, type := _, pos := _, after := _, guard := _ }) (v := ?_) rfl (by kernel_rfl) (by kernel_rfl) (by kernel_rfl) (fun _ _ _ h => h) (Or.inl ⟨by rfl, ?_⟩) (by assumption) ?_
            rotate_left
            · intro W hSw
              obtain ⟨⟨h0, h1, h2, h3, h4⟩, h5, h6, h7⟩ := hSw
              go_simp
              (try with_reducible rfl)
            try simp only [Act.put, List.setIfInBounds_toArray, List.set_cons_zero, List.set_cons_succ]
            refine wpAnyH_take (i := 9) (oi := { dst := _, op := _, type := _, pos := _, after := _, guard := _ }) (v := ?_) rfl (by kernel_rfl) (by kernel_rfl) (by kernel_rfl) (fun _ _ _ h => h) (Or.inl ⟨by rfl, ?_⟩) (by assumption) ?_
            rotate_left
            · intro W hSw
              obtain ⟨⟨h0, h1, h2, h3, h4⟩, h5, h6, h7⟩ := hSw
              go_simp
              (try with_reducible rfl)
            try simp only [Act.put, List.setIfInBounds_toArray, List.set_cons_zero, List.set_cons_succ]
            refine wpAnyH_ready (rs := [10]) (by kernel_rfl) (by simp) ?_
            refine AllReadyH.cons (o := { dst := _, op := _, type := _, pos := _, after := _, guard := _ }) rfl (fun K hK => ?_) AllReadyH.nil
            go_simp
            refine hK.out _ _ ?_ (fun hHeld => ?_)
            · exact HCE.out _ (below_trans BD.out (bel_up _ _))
            clear hK K
            try simp only [Act.put, List.setIfInBounds_toArray, List.set_cons_zero, List.set_cons_succ]
            refine wpAnyH_ready (rs := [11]) (by kernel_rfl) (by simp) ?_
            refine AllReadyH.cons (o := { dst := _, op := _, type := _, pos := _, after := _, guard := _ }) rfl (fun K hK => ?_) AllReadyH.nil
            go_simp
            refine hK.out _ _ ?_ (fun hHeld => ?_)
            · exact HCE.out _ (below_trans BD.out (bel_up _ _))
            clear hK K
            try simp only [Act.put, List.setIfInBounds_toArray, List.set_cons_zero, List.set_cons_succ]
            refine wpAnyH_take (i := 12) (oi := { dst := _, op := _, type := _, pos := _, after := _, guard := _ }) (v := ?_) rfl (by kernel_rfl) (by kernel_rfl) (by kernel_rfl) (fun _ _ _ h => h) (Or.inl ⟨by rfl, ?_⟩) (by assumption) ?_
            rotate_left
            · intro W hSw
              obtain ⟨⟨h0, h1, h2, h3, h4⟩, h5, h6, h7⟩ := hSw
              go_simp
              (try with_reducible rfl)
            try simp only [Act.put, List.setIfInBounds_toArray, List.set_cons_zero, List.set_cons_succ]
            refine wpAnyH_done (by kernel_rfl) ?_ _
            refine NoPanic.normal ?_
            clear hHeld
            obtain ⟨W7, hW7⟩ : ∃ W7, W7 = w6.alloc (.cells #[.slice r1 u.ind.length d1, .int .i64 u.pen, .slice r2 u.que.length d2, .slice r3 u.frm.length d3, .int .u16 (u.flg : Int)] 27) := ⟨_, rfl⟩
            rw [← hW7]
            have B7 : Hid (Below wr.heap.size wr W7) := by rw [hW7]; exact below_trans BD.out (bel_up _ _)
            have HN7 : Hid (W7.heap[w6.heap.size]? = some (.cells #[.slice r1 u.ind.length d1, .int .i64 u.pen, .slice r2 u.que.length d2, .slice r3 u.frm.length d3, .int .u16 (u.flg : Int)] 27 (0, 0))) := by rw [hW7]; exact heap_new w6 _
            have HS7 : Hid (Stl wr.heap.size W7 (.slice r1 u.ind.length d1) (.slice r2 u.que.length d2) (.slice r3 u.frm.length d3) u) := by rw [hW7]; exact HSU.out.up (bel_up _ _)
            have HO7 : Hid (W7.heap[O]? = some (.cells #[.slice e1 t.ind.length f1, .int .i64 t.pen, .slice e2 t.que.length f2, .slice e3 t.frm.length f3, .int .u16 (t.flg : Int)] 27 (0, 0))) := (B7.out.block _ (lt_of_heap HOB.out)).trans HOB.out
            have HZ7 : Hid (W7.heap[w.heap.size + 1]? = some (.cells zrC 27 (0, 0))) := (B7.out.block _ (lt_of_heap HZ.out)).trans HZ.out
            have HLT : Hid (O < wr.heap.size) := lt_of_heap HOB.out
            clear hW7
            obtain ⟨v0, v1, v2, v3, v4⟩ := box_cells HN7.out
            obtain ⟨u0, u1, u2, u3, u4⟩ := box_cells HO7.out
            have uz : ∀ q, W7.frozen? ⟨O, q, none⟩ = false := fun q => Lib.frozen_of_heap HO7.out q
            go_wp2_with fail
            go_roundg (l.length - (i + 1))
            case measure => have := HI.out; have := HIL.out; omega
            case rel =>
              refine ⟨i + 1, u, _, _, _, by first | rfl | (rw [show (i : Int) + 1 = ((i + 1 : Nat) : Int) by omega]), ⟨HIL.out, rfl⟩, ?_, ?_, (HS7.out.kab (kab_five HLT.out)).low (by have := HLO.out; have := HLT.out; omega), ?_, ?_⟩
              · show _ = _
                rw [HSN.out, acts_snoc, HT.out]
                exact HRU.out
              · show ((((((W7).setCell ⟨O, 0, none⟩ (.slice r1 u.ind.length d1)).setCell ⟨O, 1, none⟩ (.int .i64 u.pen)).setCell ⟨O, 2, none⟩ (.slice r2 u.que.length d2)).setCell ⟨O, 3, none⟩ (.slice r3 u.frm.length d3)).setCell ⟨O, 4, none⟩ (.int .u16 (u.flg : Int))).heap[O]? = _
                rw [blk_set _ (blk_set _ (blk_set _ (blk_set _ (blk_set _ HO7.out))))]
                exact rfl
              · show ((((((W7).setCell ⟨O, 0, none⟩ (.slice r1 u.ind.length d1)).setCell ⟨O, 1, none⟩ (.int .i64 u.pen)).setCell ⟨O, 2, none⟩ (.slice r2 u.que.length d2)).setCell ⟨O, 3, none⟩ (.slice r3 u.frm.length d3)).setCell ⟨O, 4, none⟩ (.int .u16 (u.flg : Int))).heap[w.heap.size + 1]? = _
                have hne : w.heap.size + 1 ≠ O := by have := HLO.out; omega
                rw [Below.heap_setCell _ _ _ _ hne, Below.heap_setCell _ _ _ _ hne, Below.heap_setCell _ _ _ _ hne, Below.heap_setCell _ _ _ _ hne, Below.heap_setCell _ _ _ _ hne]
                exact HZ7.out
              · exact bel_five (below_trans HB.out B7.out) (by have := HLO.out; omega)
          · have HE : Hid (R = .error c) := by
              rw [HA.out, show l = l.take (i + 1) ++ l.drop (i + 1) from (List.take_append_drop _ _).symm]
              refine acts_err m s _ _ c ?_
              rw [HSN.out, acts_snoc, HT.out]
              exact hrc
            have hc60 := (act_ok t xk xn xm m HTO.out.1).2 c hrc
            have hcn : (c != 0) = true := by rw [bne_iff_ne]; omega
            clear hrc hb6 hc60
            go_wp2_with fail
            refine hK.out _ _ ?_ (fun hHeld => ?_)
            · exact HCE.out _ BD.out
            clear hK K
            try simp only [Act.put, List.setIfInBounds_toArray, List.set_cons_zero, List.set_cons_succ]
            refine wpAnyH_take (i := 7) (oi := { dst := _, op := _, type := _, pos := _, after := _, guard := _ }) (v := ?_) rfl (by kernel_rfl) (by kernel_rfl) (by kernel_rfl) (fun _ _ _ h => h) (Or.inl ⟨by rfl, ?_⟩) (by assumption) ?_
            rotate_left
            · intro W hSw
              obtain ⟨⟨h0, h1, h2, h3, h4⟩, h5, h6, h7⟩ := hSw
              go_simp
              (try with_reducible rfl)
            try simp only [Act.put, List.setIfInBounds_toArray, List.set_cons_zero, List.set_cons_succ]
            refine wpAnyH_take (i := 8) (oi := { dst := _, op := _, type := _, pos := _, after := _, guard := _ }) (v := ?_) rfl (by kernel_rfl) (by kernel_rfl) (by kernel_rfl) (fun _ _ _ h => h) (Or.inl ⟨by rfl, ?_⟩) (by assumption) ?_
            rotate_left
            · intro W hSw
              obtain ⟨⟨h0, h1, h2, h3, h4⟩, h5, h6, h7⟩ := hSw
              go_simp
              (try with_reducible rfl)
            try simp only [Act.put, List.setIfInBounds_toArray, List.set_cons_zero, List.set_cons_succ]
            refine wpAnyH_take (i := 9) (oi := { dst := _, op := _, type := _, pos := _, after := _, guard := _ }) (v := ?_) rfl (by kernel_rfl) (by kernel_rfl) (by kernel_rfl) (fun _ _ _ h => h) (Or.inl ⟨by rfl, ?_⟩) (by assumption) ?_
            rotate_left
            · intro W hSw
              obtain ⟨⟨h0, h1, h2, h3, h4⟩, h5, h6, h7⟩ := hSw
              go_simp
              (try with_reducible rfl)
            try simp only [Act.put, List.setIfInBounds_toArray, List.set_cons_zero, List.set_cons_succ]
            refine wpAnyH_ready (rs := [10]) (by kernel_rfl) (by simp) ?_
            refine AllReadyH.cons (o := { dst := _, op := _, type := _, pos := _, after := _, guard := _ }) rfl (fun K hK => ?_) AllReadyH.nil
            go_simp
            refine hK.out _ _ ?_ (fun hHeld => ?_)
            · exact HCE.out _ (below_trans BD.out (bel_up _ _))
            clear hK K
            try simp only [Act.put, List.setIfInBounds_toArray, List.set_cons_zero, List.set_cons_succ]
            refine wpAnyH_ready (rs := [11]) (by kernel_rfl) (by simp) ?_
            refine AllReadyH.cons (o := { dst := _, op := _, type := _, pos := _, after := _, guard := _ }) rfl (fun K hK => ?_) AllReadyH.nil
            go_simp
            refine hK.out _ _ ?_ (fun hHeld => ?_)
            · exact HCE.out _ (below_trans BD.out (bel_up _ _))
            clear hK K
            try simp only [Act.put, List.setIfInBounds_toArray, List.set_cons_zero, List.set_cons_succ]
            refine wpAnyH_take (i := 12) (oi := { dst := _, op := _, type := _, pos := _, after := _, guard := _ }) (v := ?_) rfl (by kernel_rfl) (by kernel_rfl) (by kernel_rfl) (fun _ _ _ h => h) (Or.inl ⟨by rfl, ?_⟩) (by assumption) ?_
            rotate_left
            · intro W hSw
              obtain ⟨⟨h0, h1, h2, h3, h4⟩, h5, h6, h7⟩ := hSw
              go_simp
              (try with_reducible rfl)
            try simp only [Act.put, List.setIfInBounds_toArray, List.set_cons_zero, List.set_cons_succ]
            refine wpAnyH_done (by kernel_rfl) ?_ _
            refine NoPanic.normal ?_
            clear hHeld
            obtain ⟨W7, hW7⟩ : ∃ W7, W7 = w6.alloc (.cells #[.slice none 0 0, .int .i64 0, .slice none 0 0, .slice none 0 0, .int .u16 0] 27) := ⟨_, rfl⟩
            rw [← hW7]
            have B7 : Hid (Below wr.heap.size wr W7) := by rw [hW7]; exact below_trans BD.out (bel_up _ _)
            have HZ7 : Hid (W7.heap[w.heap.size + 1]? = some (.cells zrC 27 (0, 0))) := (B7.out.block _ (lt_of_heap HZ.out)).trans HZ.out
            clear hW7
            have z0 := rcell HZ7.out 0 (.slice none 0 0) rfl
            have z1 := rcell HZ7.out 1 (.int .i64 0) rfl
            have z2 := rcell HZ7.out 2 (.slice none 0 0) rfl
            have z3 := rcell HZ7.out 3 (.slice none 0 0) rfl
            have z4 := rcell HZ7.out 4 (.int .u16 0) rfl
            have rz : ∀ q, W7.frozen? ⟨w.heap.size + 1, q, none⟩ = false := fun q => Lib.frozen_of_heap HZ7.out q
            go_wp2_with fail
            (try simp only [Exit.inBlock, Exit.then])
            refine bodyPost_ret (v := .tuple #[.agg #[.slice none 0 0, .int .i64 0, .slice none 0 0, .slice none 0 0, .int .u16 0], .int .i64 c]) ?_ rfl ⟨?_, .inr ⟨c, HE.out, rfl⟩⟩
            · rw [results_cell_tmp rfl]; go_simp
            · exact bel_five (below_trans HB.out B7.out) (by omega)
        · go_simp
          refine hK.out _ _ ?_ (fun hHeld => ?_)
          · exact HCE.out _ (below_trans (Below.drew (Below.refl _ _)) (bel_up _ _))
          clear hK K
          try simp only [Act.put, List.setIfInBounds_toArray, List.set_cons_zero, List.set_cons_succ]
          refine wpAnyH_ready (rs := [6]) (by kernel_rfl) (by simp) ?_
          refine AllReadyH.cons (o := { dst := _, op := _, type := _, pos := _, after := _, guard := _ }) rfl (fun K hK => ?_) AllReadyH.nil
          go_simp
          refine (rdo_any xk xn xm m _ (((HST.out.stm).up (Below.drew (Below.refl _ _))).up (bel_up _ _)) HTO.out.2 (shp_txt HTO.out.1) HM.out).mono ?_
          rintro e w6 ⟨hb6, hr6⟩
          have BD : Hid (Below wr.heap.size wr w6) := below_trans (below_trans (Below.drew (Below.refl _ _)) (bel_up _ _)) hb6
          have HNB : Hid (w6.heap[wr.heap.size]? = some (.cells zrC 27 (0, 0))) := by have hn := heap_new wr.drew (.cells #[.slice none 0 0, .int .i64 0, .slice none 0 0, .slice none 0 0, .int .u16 0] 27); exact (hb6.block _ (lt_of_heap hn)).trans hn
          rw [HTO.out.1, if_pos rfl] at hr6
          rcases hr6 with ⟨u, ri, rq, rf, hru, rfl, hsu⟩ | ⟨c, hrc, rfl⟩
          · have HRU : Hid (act t xk xn xm m = .ok u) := hru
            have HSU : Hid (Stl (wr.heap.size + 1) w6 ri rq rf u) := by have := hsu; rw [World.size_alloc] at this; exact this
            obtain ⟨r1, d1, r2, d2, r3, d3, rfl, rfl, rfl⟩ := hsu.stm.form
            clear hru hsu hb6
            go_wp2_with fail
            refine hK.out _ _ ?_ (fun hHeld => ?_)
            · exact HCE.out _ BD.out
            clear hK K
            try simp only [Act.put, List.setIfInBounds_toArray, List.set_cons_zero, List.set_cons_succ]
            refine wpAnyH_take (i := 7) (oi := { dst := _, op := _, type := _, pos := _, after := _, guard := _ }) (v := ?_) rfl (by kernel_rfl) (by kernel_rfl) (by kernel_rfl) (fun _ _ _ h => h) (Or.inl ⟨by rfl, ?_⟩) (by assumption) ?_
            rotate_left
            · intro W hSw
              obtain ⟨⟨h0, h1, h2, h3, h4⟩, h5, h6, h7⟩ := hSw
              go_simp
              (try with_reducible rfl)
            try simp only [Act.put, List.setIfInBounds_toArray, List.set_cons_zero, List.set_cons_succ]
            refine wpAnyH_take (i := 8) (oi := { dst := _, op := _, type := _, pos := _, after := _, guard := _ }) (v := ?_) rfl (by kernel_rfl) (by kernel_rfl) (by kernel_rfl) (fun _ _ _ h => h) (Or.inl ⟨by rfl, ?_⟩) (by assumption) ?_
            rotate_left
            · intro W hSw
              obtain ⟨⟨h0, h1, h2, h3, h4⟩, h5, h6, h7⟩ := hSw
              go_simp
              (try with_reducible rfl)
            try simp only [Act.put, List.setIfInBounds_toArray, List.set_cons_zero, List.set_cons_succ]
            refine wpAnyH_take (i := 9) (oi := { dst := _, op := _, type := _, pos := _, after := _, guard := _ }) (v := ?_) rfl (by kernel_rfl) (by kernel_rfl) (by kernel_rfl) (fun _ _ _ h => h) (Or.inl ⟨by rfl, ?_⟩) (by assumption) ?_
            rotate_left
            · intro W hSw
              obtain ⟨⟨h0, h1, h2, h3, h4⟩, h5, h6, h7⟩ := hSw
              go_simp
              (try with_reducible rfl)
            try simp only [Act.put, List.setIfInBounds_toArray, List.set_cons_zero, List.set_cons_succ]
            have n0 := rcell HNB.out 0 (.slice none 0 0) rfl
            have n1 := rcell HNB.out 1 (.int .i64 0) rfl
            have n2 := rcell HNB.out 2 (.slice none 0 0) rfl
            have n3 := rcell HNB.out 3 (.slice none 0 0) rfl
            have n4 := rcell HNB.out 4 (.int .u16 0) rfl
            have nz : ∀ q, w6.frozen? ⟨wr.heap.size, q, none⟩ = false := fun q => Lib.frozen_of_heap HNB.out q
            refine wpAnyH_ready (rs := [11]) (by kernel_rfl) (by simp) ?_
            refine AllReadyH.cons (o := { dst := _, op := _, type := _, pos := _, after := _, guard := _ }) rfl (fun K hK => ?_) AllReadyH.nil
            go_simp
            refine hK.out _ _ ?_ (fun hHeld => ?_)
            · exact HCE.out _ (BD.out.trans (below5 (Nat.le_refl _)))
            clear hK K
            try simp only [Act.put, List.setIfInBounds_toArray, List.set_cons_zero, List.set_cons_succ]
            clear n0 n1 n2 n3 n4 nz
            refine wpAnyH_take (i := 12) (oi := { dst := _, op := _, type := _, pos := _, after := _, guard := _ }) (v := ?_) rfl (by kernel_rfl) (by kernel_rfl) (by kernel_rfl) (fun _ _ _ h => h) (Or.inl ⟨by rfl, ?_⟩) (by assumption) ?_
            rotate_left
            · intro W hSw
              obtain ⟨⟨h0, h1, h2, h3, h4⟩, h5, h6, h7⟩ := hSw
              go_simp
              (try with_reducible rfl)
            try simp only [Act.put, List.setIfInBounds_toArray, List.set_cons_zero, List.set_cons_succ]
            refine wpAnyH_done (by kernel_rfl) ?_ _
            refine NoPanic.normal ?_
            clear hHeld
            obtain ⟨W7, hW7⟩ : ∃ W7, W7 = (((((w6).setCell ⟨wr.heap.size, 0, none⟩ (.slice r1 u.ind.length d1)).setCell ⟨wr.heap.size, 1, none⟩ (.int .i64 u.pen)).setCell ⟨wr.heap.size, 2, none⟩ (.slice r2 u.que.length d2)).setCell ⟨wr.heap.size, 3, none⟩ (.slice r3 u.frm.length d3)).setCell ⟨wr.heap.size, 4, none⟩ (.int .u16 (u.flg : Int)) := ⟨_, rfl⟩
            rw [← hW7]
            have B7 : Hid (Below wr.heap.size wr W7) := by rw [hW7]; exact BD.out.trans (below5 (Nat.le_refl _))
            have HN7 : Hid (W7.heap[wr.heap.size]? = some (.cells #[.slice r1 u.ind.length d1, .int .i64 u.pen, .slice r2 u.que.length d2, .slice r3 u.frm.length d3, .int .u16 (u.flg : Int)] 27 (0, 0))) := by rw [hW7, blk_set _ (blk_set _ (blk_set _ (blk_set _ (blk_set _ HNB.out))))]; exact rfl
            have HS7 : Hid (Stl wr.heap.size W7 (.slice r1 u.ind.length d1) (.slice r2 u.que.length d2) (.slice r3 u.frm.length d3) u) := by rw [hW7]; exact (HSU.out.kab (kab_five (by omega))).low (by omega)
            have HO7 : Hid (W7.heap[O]? = some (.cells #[.slice e1 t.ind.length f1, .int .i64 t.pen, .slice e2 t.que.length f2, .slice e3 t.frm.length f3, .int .u16 (t.flg : Int)] 27 (0, 0))) := (B7.out.block _ (lt_of_heap HOB.out)).trans HOB.out
            have HZ7 : Hid (W7.heap[w.heap.size + 1]? = some (.cells zrC 27 (0, 0))) := (B7.out.block _ (lt_of_heap HZ.out)).trans HZ.out
            have HLT : Hid (O < wr.heap.size) := lt_of_heap HOB.out
            clear hW7
            obtain ⟨v0, v1, v2, v3, v4⟩ := box_cells HN7.out
            obtain ⟨u0, u1, u2, u3, u4⟩ := box_cells HO7.out
            have uz : ∀ q, W7.frozen? ⟨O, q, none⟩ = false := fun q => Lib.frozen_of_heap HO7.out q
            go_wp2_with fail
            go_roundg (l.length - (i + 1))
            case measure => have := HI.out; have := HIL.out; omega
            case rel =>
              refine ⟨i + 1, u, _, _, _, by first | rfl | (rw [show (i : Int) + 1 = ((i + 1 : Nat) : Int) by omega]), ⟨HIL.out, rfl⟩, ?_, ?_, (HS7.out.kab (kab_five HLT.out)).low (by have := HLO.out; have := HLT.out; omega), ?_, ?_⟩
              · show _ = _
                rw [HSN.out, acts_snoc, HT.out]
                exact HRU.out
              · show ((((((W7).setCell ⟨O, 0, none⟩ (.slice r1 u.ind.length d1)).setCell ⟨O, 1, none⟩ (.int .i64 u.pen)).setCell ⟨O, 2, none⟩ (.slice r2 u.que.length d2)).setCell ⟨O, 3, none⟩ (.slice r3 u.frm.length d3)).setCell ⟨O, 4, none⟩ (.int .u16 (u.flg : Int))).heap[O]? = _
                rw [blk_set _ (blk_set _ (blk_set _ (blk_set _ (blk_set _ HO7.out))))]
                exact rfl
              · show ((((((W7).setCell ⟨O, 0, none⟩ (.slice r1 u.ind.length d1)).setCell ⟨O, 1, none⟩ (.int .i64 u.pen)).setCell ⟨O, 2, none⟩ (.slice r2 u.que.length d2)).setCell ⟨O, 3, none⟩ (.slice r3 u.frm.length d3)).setCell ⟨O, 4, none⟩ (.int .u16 (u.flg : Int))).heap[w.heap.size + 1]? = _
                have hne : w.heap.size + 1 ≠ O := by have := HLO.out; omega
                rw [Below.heap_setCell _ _ _ _ hne, Below.heap_setCell _ _ _ _ hne, Below.heap_setCell _ _ _ _ hne, Below.heap_setCell _ _ _ _ hne, Below.heap_setCell _ _ _ _ hne]
                exact HZ7.out
              · exact bel_five (below_trans HB.out B7.out) (by have := HLO.out; omega)
          · have HE : Hid (R = .error c) := by
              rw [HA.out, show l = l.take (i + 1) ++ l.drop (i + 1) from (List.take_append_drop _ _).symm]
              refine acts_err m s _ _ c ?_
              rw [HSN.out, acts_snoc, HT.out]
              exact hrc
            have hc60 := (act_ok t xk xn xm m HTO.out.1).2 c hrc
            have hcn : (c != 0) = true := by rw [bne_iff_ne]; omega
            clear hrc hb6 hc60
            go_wp2_with fail
            refine hK.out _ _ ?_ (fun hHeld => ?_)
            · exact HCE.out _ BD.out
            clear hK K
            try simp only [Act.put, List.setIfInBounds_toArray, List.set_cons_zero, List.set_cons_succ]
            refine wpAnyH_take (i := 7) (oi := { dst := _, op := _, type := _, pos := _, after := _, guard := _ }) (v := ?_) rfl (by kernel_rfl) (by kernel_rfl) (by kernel_rfl) (fun _ _ _ h => h) (Or.inl ⟨by rfl, ?_⟩) (by assumption) ?_
            rotate_left
            · intro W hSw
              obtain ⟨⟨h0, h1, h2, h3, h4⟩, h5, h6, h7⟩ := hSw
              go_simp
              (try with_reducible rfl)
            try simp only [Act.put, List.setIfInBounds_toArray, List.set_cons_zero, List.set_cons_succ]
            refine wpAnyH_take (i := 8) (oi := { dst := _, op := _, type := _, pos := _, after := _, guard := _ }) (v := ?_) rfl (by kernel_rfl) (by kernel_rfl) (by kernel_rfl) (fun _ _ _ h => h) (Or.inl ⟨by rfl, ?_⟩) (by assumption) ?_
            rotate_left
            · intro W hSw
              obtain ⟨⟨h0, h1, h2, h3, h4⟩, h5, h6, h7⟩ := hSw
              go_simp
              (try with_reducible rfl)
            try simp only [Act.put, List.setIfInBounds_toArray, List.set_cons_zero, List.set_cons_succ]
            refine wpAnyH_take (i := 9) (oi := { dst := _, op := _, type := _, pos := _, after := _, guard := _ }) (v := ?_) rfl (by kernel_rfl) (by kernel_rfl) (by kernel_rfl) (fun _ _ _ h => h) (Or.inl ⟨by rfl, ?_⟩) (by assumption) ?_
            rotate_left
            · intro W hSw
              obtain ⟨⟨h0, h1, h2, h3, h4⟩, h5, h6, h7⟩ := hSw
              go_simp
              (try with_reducible rfl)
            try simp only [Act.put, List.setIfInBounds_toArray, List.set_cons_zero, List.set_cons_succ]
            have n0 := rcell HNB.out 0 (.slice none 0 0) rfl
            have n1 := rcell HNB.out 1 (.int .i64 0) rfl
            have n2 := rcell HNB.out 2 (.slice none 0 0) rfl
            have n3 := rcell HNB.out 3 (.slice none 0 0) rfl
            have n4 := rcell HNB.out 4 (.int .u16 0) rfl
            have nz : ∀ q, w6.frozen? ⟨wr.heap.size, q, none⟩ = false := fun q => Lib.frozen_of_heap HNB.out q
            refine wpAnyH_ready (rs := [11]) (by kernel_rfl) (by simp) ?_
            refine AllReadyH.cons (o := { dst := _, op := _, type := _, pos := _, after := _, guard := _ }) rfl (fun K hK => ?_) AllReadyH.nil
            go_simp
            refine hK.out _ _ ?_ (fun hHeld => ?_)
            · exact HCE.out _ (BD.out.trans (below5 (Nat.le_refl _)))
            clear hK K
            try simp only [Act.put, List.setIfInBounds_toArray, List.set_cons_zero, List.set_cons_succ]
            clear n0 n1 n2 n3 n4 nz
            refine wpAnyH_take (i := 12) (oi := { dst := _, op := _, type := _, pos := _, after := _, guard := _ }) (v := ?_) rfl (by kernel_rfl) (by kernel_rfl) (by kernel_rfl) (fun _ _ _ h => h) (Or.inl ⟨by rfl, ?_⟩) (by assumption) ?_
            rotate_left
            · intro W hSw
              obtain ⟨⟨h0, h1, h2, h3, h4⟩, h5, h6, h7⟩ := hSw
              go_simp
              (try with_reducible rfl)
            try simp only [Act.put, List.setIfInBounds_toArray, List.set_cons_zero, List.set_cons_succ]
            refine wpAnyH_done (by kernel_rfl) ?_ _
            refine NoPanic.normal ?_
            clear hHeld
            obtain ⟨W7, hW7⟩ : ∃ W7, W7 = (((((w6).setCell ⟨wr.heap.size, 0, none⟩ (.slice none 0 0)).setCell ⟨wr.heap.size, 1, none⟩ (.int .i64 0)).setCell ⟨wr.heap.size, 2, none⟩ (.slice none 0 0)).setCell ⟨wr.heap.size, 3, none⟩ (.slice none 0 0)).setCell ⟨wr.heap.size, 4, none⟩ (.int .u16 0) := ⟨_, rfl⟩
            rw [← hW7]
            have B7 : Hid (Below wr.heap.size wr W7) := by rw [hW7]; exact BD.out.trans (below5 (Nat.le_refl _))
            have HZ7 : Hid (W7.heap[w.heap.size + 1]? = some (.cells zrC 27 (0, 0))) := (B7.out.block _ (lt_of_heap HZ.out)).trans HZ.out
            clear hW7
            have z0 := rcell HZ7.out 0 (.slice none 0 0) rfl
            have z1 := rcell HZ7.out 1 (.int .i64 0) rfl
            have z2 := rcell HZ7.out 2 (.slice none 0 0) rfl
            have z3 := rcell HZ7.out 3 (.slice none 0 0) rfl
            have z4 := rcell HZ7.out 4 (.int .u16 0) rfl
            have rz : ∀ q, W7.frozen? ⟨w.heap.size + 1, q, none⟩ = false := fun q => Lib.frozen_of_heap HZ7.out q
            go_wp2_with fail
            (try simp only [Exit.inBlock, Exit.then])
            refine bodyPost_ret (v := .tuple #[.agg #[.slice none 0 0, .int .i64 0, .slice none 0 0, .slice none 0 0, .int .u16 0], .int .i64 c]) ?_ rfl ⟨?_, .inr ⟨c, HE.out, rfl⟩⟩
            · rw [results_cell_tmp rfl]; go_simp
            · exact bel_five (below_trans HB.out B7.out) (by omega)
      · have d1 : decide ((i : Int) < (l.length : Int)) = false := by rw [decide_eq_false_iff_not]; omega
        have d2 : decide (i < l.length) = false := by rw [decide_eq_false_iff_not]; omega
        have HE : Hid (R = .ok t) := by
          rw [HA.out]
          have := HT.out
          rw [List.take_of_length_le (by omega)] at this
          exact this
        clear hi
        obtain ⟨u0, u1, u2, u3, u4⟩ := box_cells HOB.out
        have z0 := rcell HZ.out 0 (.slice none 0 0) rfl
        have z1 := rcell HZ.out 1 (.int .i64 0) rfl
        have z2 := rcell HZ.out 2 (.slice none 0 0) rfl
        have z3 := rcell HZ.out 3 (.slice none 0 0) rfl
        have z4 := rcell HZ.out 4 (.int .u16 0) rfl
        have rz : ∀ q, wr.frozen? ⟨w.heap.size + 1, q, none⟩ = false := fun q => Lib.frozen_of_heap HZ.out q
        go_wp2_with fail
        (try simp only [Exit.inBlock, Exit.then])
        refine bodyPost_ret (v := .tuple #[sv (.slice e1 t.ind.length f1) (.slice e2 t.que.length f2) (.slice e3 t.frm.length f3) t, .int .i64 0]) ?_ rfl ⟨?_, .inl ⟨t, _, _, _, HE.out, rfl, ?_⟩⟩
        · rw [results_cell_tmp rfl]; go_simp
        · exact bel_five HB.out (by omega)
        · exact (HST.out.kab (kab_five (by omega))).low (by omega)
end Go.Proofs.Ytkaciochlemjiab
