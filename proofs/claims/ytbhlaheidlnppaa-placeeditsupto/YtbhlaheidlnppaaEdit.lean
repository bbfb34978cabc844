import Derived.Test.YtbhlaheidlnppaaEditq
import Derived.Test.YtbhlaheidlnppaaIxt
namespace Go.Proofs.Ytbhlaheidlnppaa
open Go.RowKit

theorem IxT.eq {w : World} {b : Nat} {s s' : ByteArray} {T : List ((Nat × Nat) × Value)} (h : IxT w b s' T) (e : s' = s) : IxT w b s T := e ▸ h
theorem rcells_one {T : List ((Nat × Nat) × Value)} (h : ∀ x ∈ T, ∃ p n c, x.2 = Value.slice p n c) : ∀ u ∈ rcells T, u.oneCell' = true := by
  intro u hu
  unfold rcells at hu
  rw [List.mem_flatMap] at hu
  obtain ⟨x, hx, hu⟩ := hu
  simp at hu
  rcases hu with rfl | rfl | rfl
  · rfl
  · rfl
  · obtain ⟨p, n, c, e⟩ := h x hx
    rw [e]
    rfl
theorem rcells_take (T : List ((Nat × Nat) × Value)) (n : Nat) (j : Nat) (u : Value) (h : (rcells (T.take n))[j]? = some u) : (rcells T)[j]? = some u := by
  have e : rcells T = rcells (T.take n) ++ rcells (T.drop n) := by rw [← rcells_app, List.take_append_drop]
  rw [e, List.getElem?_append_left (List.getElem?_eq_some_iff.1 h).1]
  exact h

theorem join3 (s : ByteArray) (a e : Nat) (ins : ByteArray) (bk : Nat) (W : World) (k0 : W.cell? ⟨bk, 0, none⟩ = some (.string (s.extract 0 a))) (k1 : W.cell? ⟨bk, 1, none⟩ = some (.string ins)) (k2 : W.cell? ⟨bk, 2, none⟩ = some (.string (s.extract e s.size))) (h : a ≤ e) (he : e ≤ s.size) (hs : s.size + ins.size ≤ 1099511627776) :
    Calls Try.prog 38 #[.slice (some ⟨bk, 0, none⟩) 3 3, .string ⟨#[]⟩] W fun x w' => x = .returned (.string (spl s a e ins)) ∧ Below W.heap.size W w' := by
  have hj : Lib.join ([s.extract 0 a, ins, s.extract e s.size].map (·.data.toList)) (⟨#[]⟩ : ByteArray).data.toList = (s.extract 0 a).data.toList ++ ins.data.toList ++ (s.extract e s.size).data.toList := by
    simp [Lib.join, List.intercalate, List.intersperse]
  have hsz := spl_size s a e ins h he
  have hlen : ((s.extract 0 a).data.toList ++ ins.data.toList ++ (s.extract e s.size).data.toList).length = (spl s a e ins).size := by
    unfold spl
    show _ = (List.toArray _).size
    rw [List.size_toArray]
  have H := Try.strings_Join bk 0 3 [s.extract 0 a, ins, s.extract e s.size] ⟨#[]⟩ W (fun j x hx => by
    match j, hx with
    | 0, hx => simp at hx; subst hx; exact k0
    | 1, hx => simp at hx; subst hx; exact k1
    | 2, hx => simp at hx; subst hx; exact k2
    | j + 3, hx => simp at hx) (cell_lt k0) (by simp) (by simp) (by rw [hj, hlen]; omega)
  rw [hj] at H
  exact H

set_option maxRecDepth 1000000 in
set_option maxHeartbeats 8000000 in
theorem edit_any (b : Nat) (s : ByteArray) (T : List ((Nat × Nat) × Value)) (at_ del : Int) (ins : ByteArray) (a e : Nat) (w : World) (h : Ix w b s T) (ha : cl at_ s.size = a) (he : cl del ((s.size : Int) - a) = (e : Int) - a) (hae : a ≤ e) (hes : e ≤ s.size) (hs : s.size + ins.size ≤ 1099511627776) :
    Calls Try.prog 22 #[.pointer (some ⟨b, 0, none⟩), .agg #[.int .i64 at_, .int .i64 del, .string ins]] w fun x w' => ∃ (b' : Nat) (T' : List ((Nat × Nat) × Value)), x = .returned (.pointer (some ⟨b', 0, none⟩)) ∧ IxT w' b' (spl s a e ins) T' ∧ Below w.heap.size w w' := by
  have b0 := bel_up w (.cells #[.int .i64 at_, .int .i64 del, .string ins] 47)
  have hI := h.mono b0
  obtain ⟨k0, k1, k2⟩ := cells3 w (.int .i64 at_) (.int .i64 del) (.string ins) 47
  have c0 := hI.text
  have HK1 : Hid (∀ W, Calls Try.prog 29 #[.int .i64 at_, .int .i64 (s.size : Int)] W fun e w' => e = .returned (.int .i64 (a : Int)) ∧ W = w') := fun W => by
    have := clamp_any at_ s.size W (by omega)
    rwa [ha] at this
  have HK2 : Hid (∀ W, Calls Try.prog 29 #[.int .i64 del, .int .i64 ((s.size : Int) - (a : Int))] W fun x w' => x = .returned (.int .i64 ((e : Int) - (a : Int))) ∧ W = w') := fun W => by
    have := clamp_any del ((s.size : Int) - a) W (by omega)
    rwa [he] at this
  have wr1 : IntKind.i64.wrap ((s.size : Int) - (a : Int)) = (s.size : Int) - (a : Int) := by rw [IntKind.wrap_i64]; omega
  have wr2 : IntKind.i64.wrap ((a : Int) + ((e : Int) - (a : Int))) = (e : Int) := by rw [IntKind.wrap_i64]; omega
  have HI : Hid _ := h
  have HS : Hid (a ≤ e ∧ e ≤ s.size ∧ s.size + ins.size ≤ 1099511627776) := ⟨hae, hes, hs⟩
  have h0e : (0 : Int) ≤ (e : Int) := by omega
  have h0a : (0 : Int) ≤ (a : Int) := by omega
  have hesI : (e : Int) ≤ (s.size : Int) := by omega
  have hasI : (a : Int) ≤ (s.size : Int) := by omega
  obtain ⟨W0, hW0⟩ : ∃ W0, W0 = w.alloc (.cells #[.int .i64 at_, .int .i64 del, .string ins] 47) := ⟨_, rfl⟩
  rw [← hW0] at b0 k0 k1 k2 c0
  have HE : Hid _ := hW0
  have B0 : Hid _ := b0
  clear h hI ha he hs b0 hW0
  go_enter Try.func22, Try.ntmps22
  go_wp2_with fail
  rw [← HE.out]
  go_quiet ((go_at_call 29; exact quiet_same (HK1.out _)))
  have d0 : Below W0.heap.size W0 (W0.drewN nq) := below_drewN (Below.refl _ _) _
  have k1' := below_cell d0 k1
  have k2' := below_cell d0 k2
  have c0' := below_cell d0 c0
  have B1 : Hid (Below w.heap.size w (W0.drewN nq)) := below_trans B0.out d0
  clear k0 k1 k2 c0 d0 B0 HE HK1
  generalize W0.drewN nq = W1 at *
  go_wp2_with fail
  go_quiet ((go_at_call 29; exact quiet_same (HK2.out _)))
  have d1 : Below W1.heap.size W1 (W1.drewN nq) := below_drewN (Below.refl _ _) _
  have k2 := below_cell d1 k2'
  have c0 := below_cell d1 c0'
  have B2 : Hid (Below w.heap.size w (W1.drewN nq)) := below_trans B1.out d1
  clear k1' k2' c0' d1 B1 HK2 wr1 wr2
  generalize W1.drewN nq = W2 at *
  have JN : Hid (∀ W', Below (W2.alloc (.cells #[.string (s.extract 0 a), .string ins, .string (s.extract e s.size)] 9)).heap.size (W2.alloc (.cells #[.string (s.extract 0 a), .string ins, .string (s.extract e s.size)] 9)) W' → Calls Try.prog 38 #[.slice (some ⟨W2.heap.size, 0, none⟩) 3 3, .string ⟨#[]⟩] W' fun x w' => x = .returned (.string (spl s a e ins)) ∧ Below W'.heap.size W' w') := fun W' hW => by
    obtain ⟨q0, q1, q2⟩ := cells3 W2 (.string (s.extract 0 a)) (.string ins) (.string (s.extract e s.size)) 9
    exact join3 s a e ins W2.heap.size W' (below_cell hW q0) (below_cell hW q1) (below_cell hW q2) HS.out.1 HS.out.2.1 HS.out.2.2
  have HP : Hid (∀ W, Below W2.heap.size W2 W → W.cell? ⟨b, 0, none⟩ = some (.string s) ∧ W.cell? ⟨w.heap.size, 2, none⟩ = some (.string ins) ∧ Below W2.heap.size W2 W) := fun W hW => ⟨below_cell hW c0, below_cell hW k2, hW⟩
  have HB : Hid (∀ W, (W.cell? ⟨b, 0, none⟩ = some (.string s) ∧ W.cell? ⟨w.heap.size, 2, none⟩ = some (.string ins) ∧ Below W2.heap.size W2 W) → Below W2.heap.size W2 W) := fun W h => h.2.2
  have hsz := spl_size s a e ins HS.out.1 HS.out.2.1
  obtain ⟨s', hs'⟩ : ∃ s', s' = spl s a e ins := ⟨_, rfl⟩
  rw [← hs'] at JN hsz
  have HSP : Hid _ := hs'
  clear hs'
  go_wp2_with fail
  go_region_held3 (fun W => W.cell? ⟨b, 0, none⟩ = some (.string s) ∧ W.cell? ⟨w.heap.size, 2, none⟩ = some (.string ins) ∧ Below W2.heap.size W2 W) (first | exact HP.out _ (Below.drew (Below.refl _ _)) | exact HP.out _ (below_trans (HB.out _ (by assumption)) hb) | exact HP.out _ (below_trans (HB.out _ (by assumption)) (bel_up _ _)) | exact HP.out _ (Below.drew (bel_up _ _)) | assumption)
    (first
    | (go_at_call 38; refine (JN.out _ ?_).mono ?_; exact Below.drew (Below.refl _ _); rintro x w3 ⟨rfl, hb⟩))
  have b3 : Below W2.heap.size W2 w3 := HB.out _ (by assumption)
  have B3 : Hid (Below w.heap.size w w3) := below_trans B2.out b3
  have HI3 : Hid (Ix w3 b s T) := HI.out.mono B3.out
  have c0 := HI3.out.text
  obtain ⟨jh, rh, hjh, p1, p2⟩ := HI.out.rw.find (t := a) (Nat.zero_le _) (by omega)
  obtain ⟨xh, hxh, rfl⟩ := get_of_map hjh
  obtain ⟨jt, rt, hjt, p3, p4⟩ := HI.out.rw.find (t := e) (Nat.zero_le _) hes
  obtain ⟨xt, hxt, rfl⟩ := get_of_map hjt
  have hjj : jh ≤ jt := by
    rcases Nat.lt_or_ge jt jh with hl | hl
    · have := HI.out.rw.apart' hjt hjh hl
      omega
    · exact hl
  have hzs := HS.out.2.2
  have hlt := HI.out.rw.le _ _ hjt
  obtain ⟨D, hD⟩ : ∃ D : Int, D = (s'.size : Int) - (s.size : Int) := ⟨_, rfl⟩
  obtain ⟨mm, hmm⟩ : ∃ mm : Nat, (mm : Int) = (xt.1.2 : Int) + D := ⟨((xt.1.2 : Int) + D).toNat, by omega⟩
  have O1 : Hid (∀ W, Below w3.heap.size w3 W → Calls Try.prog 30 #[.pointer (some ⟨b, 0, none⟩), .int .i64 (a : Int)] W fun x w' => x = .returned (.int .i64 (jh : Int)) ∧ Below W.heap.size W w') := fun W hW => rowOf_any b s T a jh xh W (HI3.out.mono hW) (by omega) hxh p1 p2
  have O2 : Hid (∀ W, Below w3.heap.size w3 W → Calls Try.prog 30 #[.pointer (some ⟨b, 0, none⟩), .int .i64 (e : Int)] W fun x w' => x = .returned (.int .i64 (jt : Int)) ∧ Below W.heap.size W w') := fun W hW => rowOf_any b s T e jt xt W (HI3.out.mono hW) hes hxt p3 p4
  have CU : Hid (∀ W, Calls Try.prog 28 #[.string s', .int .i64 (xh.1.1 : Int), .int .i64 (mm : Int)] W fun x w' => ∃ (rv : Value) (T2 : List ((Nat × Nat) × Value)), x = .returned rv ∧ w'.ownsRow W.heap.size 58 3 rv T2.length (rcells T2) ∧ (∀ x ∈ T2, Mk w' x.2 (s'.extract x.1.1 x.1.2)) ∧ Rw s' xh.1.1 mm (T2.map (·.1)) ∧ Below W.heap.size W w') := fun W => cut_any s' xh.1.1 mm W (by omega) (by omega) (by omega)
  have F : Hid (T[jh]? = some xh ∧ T[jt]? = some xt ∧ xh.1.1 ≤ a ∧ a ≤ xh.1.2 ∧ xt.1.1 ≤ e ∧ e ≤ xt.1.2 ∧ jh ≤ jt ∧ xt.1.2 ≤ s.size ∧ (mm : Int) = (xt.1.2 : Int) + D ∧ D = (s'.size : Int) - (s.size : Int) ∧ s'.size = s.size - (e - a) + ins.size) := ⟨hxh, hxt, p1, p2, p3, p4, hjj, hlt.2.2, hmm, hD, hsz⟩
  have HD : Hid (D = (s'.size : Int) - (s.size : Int)) := hD
  have hs2 : s'.size ≤ 1099511627776 := by omega
  have hs1 : s.size ≤ 1099511627776 := by omega
  have wrm : IntKind.i64.wrap ((xt.1.2 : Int) + D) = (mm : Int) := by rw [IntKind.wrap_i64]; omega
  clear b3 hjh hjt p1 p2 p3 p4 JN HP HB hlt k2 hsz hD hmm hzs
  go_wp2_with fail
  rw [← HD.out]
  refine (O1.out _ (Below.refl _ _)).mono ?_
  rintro x w4 ⟨rfl, hb4⟩
  have D4 : Hid (Below w3.heap.size w3 w4) := hb4
  clear hb4
  go_wp2_with fail
  refine (O2.out _ D4.out).mono ?_
  rintro x w5 ⟨rfl, hb5⟩
  have D5 : Hid (Below w3.heap.size w3 w5) := below_trans D4.out hb5
  obtain ⟨g, cap, C⟩ := (HI3.out.mono D5.out).cells
  have c1 := C.c1
  obtain ⟨r0, _, _⟩ := C.row jh xh hxh
  obtain ⟨_, t1, _⟩ := C.row jt xt hxt
  have hl := C.len
  have hhl : jh < T.length := (List.getElem?_eq_some_iff.1 hxh).1
  have htl : jt < T.length := (List.getElem?_eq_some_iff.1 hxt).1
  have HC : Hid _ := C
  clear hb5 C O1 O2 D4 c0
  go_upto_region 6 with fail
  go_cut [11] from 65 (fun v11 wd => ∃ (g2 cap2 : Nat) (T2 : List ((Nat × Nat) × Value)), v11 = .slice (some ⟨g2, 0, none⟩) T2.length cap2 ∧ wd.ownsRow 0 58 3 v11 T2.length (rcells T2) ∧ (∀ x ∈ T2, Mk wd x.2 (s'.extract x.1.1 x.1.2)) ∧ Rw s' xh.1.1 mm (T2.map (·.1)) ∧ Below w5.heap.size w5 wd)
  case first =>
    have HP : Hid (∀ W, Below w5.heap.size w5 W → W.cell? ⟨b, 1, none⟩ = some (.slice (some ⟨g, 0, none⟩) T.length cap) ∧ W.cell? ⟨g, jh * 3, none⟩ = some (.int .i64 (xh.1.1 : Int)) ∧ W.cell? ⟨g, jt * 3 + 1, none⟩ = some (.int .i64 (xt.1.2 : Int)) ∧ Below w5.heap.size w5 W) := fun W hW => ⟨below_cell hW c1, below_cell hW r0, below_cell hW t1, hW⟩
    have HB : Hid (∀ W, (W.cell? ⟨b, 1, none⟩ = some (.slice (some ⟨g, 0, none⟩) T.length cap) ∧ W.cell? ⟨g, jh * 3, none⟩ = some (.int .i64 (xh.1.1 : Int)) ∧ W.cell? ⟨g, jt * 3 + 1, none⟩ = some (.int .i64 (xt.1.2 : Int)) ∧ Below w5.heap.size w5 W) → Below w5.heap.size w5 W) := fun W h => h.2.2.2
    clear F HC HS HSP HD
    go_region_held3 (fun W => W.cell? ⟨b, 1, none⟩ = some (.slice (some ⟨g, 0, none⟩) T.length cap) ∧ W.cell? ⟨g, jh * 3, none⟩ = some (.int .i64 (xh.1.1 : Int)) ∧ W.cell? ⟨g, jt * 3 + 1, none⟩ = some (.int .i64 (xt.1.2 : Int)) ∧ Below w5.heap.size w5 W) (first | exact HP.out _ (Below.drew (Below.refl _ _)) | exact HP.out _ (below_trans (HB.out _ (by assumption)) hb) | assumption)
      (first
      | (go_at_call 28; refine (CU.out _).mono ?_; rintro x w6 ⟨rv, T2, rfl, ow, mk, rw2, hb⟩; have OW : Hid _ := ow; have MK : Hid _ := mk; have RW2 : Hid _ := rw2; clear ow mk rw2))
    have hp2 : 0 < T2.length := by have := RW2.out.pos; simpa using this
    obtain ⟨g2, cap2, hrv, _⟩ := own_form OW.out hp2
    go_wp2_with fail
    go_meet
    exact ⟨g2, cap2, T2, hrv, own_base OW.out, MK.out, RW2.out, HB.out _ (by assumption)⟩
  case rest =>
    obtain ⟨g2, cap2, T2, rfl, ow2, mk2, rw2, hbd⟩ := hcut
    have hI6 := (HI3.out.mono D5.out).mono hbd
    obtain ⟨rv, q1, q2⟩ := hI6.rows
    have c1' := below_cell hbd c1
    have hrv : rv = .slice (some ⟨g, 0, none⟩) T.length cap := by
      rw [q1] at c1'
      simpa using c1'
    subst hrv
    have l2 := rw2.len
    simp only [List.length_map] at l2
    have hcap : T.length ≤ cap := HC.out.cap
    have hcap2 : T2.length ≤ cap2 := by
      obtain ⟨_, _, e1, e2, _⟩ := own_form ow2 (by have := rw2.pos; simpa using this)
      simp at e1
      omega
    have hl2 : T2.length ≤ 1099511627777 := by
      obtain ⟨f1, f2, f3, f4, f5, f6, f7, f8, f9, f10, f11⟩ := F.out
      omega
    obtain ⟨i58, hi58, hz58, hs58, hy58⟩ := info_parts info58
    obtain ⟨N, hN⟩ : ∃ N : Nat, (N : Int) = (jh : Int) + (T2.length : Int) + (T.length : Int) - (jt : Int) - 1 := ⟨((jh : Int) + (T2.length : Int) + (T.length : Int) - (jt : Int) - 1).toNat, by omega⟩
    obtain ⟨wm, hmk, hom, hgm⟩ := run_make_own (P := Try.prog) wc wc.heap.size 52 58 i58 _ 3 Try.underlying52 hi58 hz58 hs58 .i64 .i64 N (by rw [hy58]; omega) (by unfold maxLen; omega) (Nat.le_refl _)
    rw [hN] at hmk
    have c1m := fun (hb : Below wc.heap.size wc wm) => below_cell hb q1
    have b7 : Below wc.heap.size wc wm := (Below.refl _ _).grown hgm (Nat.le_refl _) (fun k hk => by cases hk)
    have G : Hid (Ix wc b s T ∧ wc.ownsRow 0 58 3 (.slice (some ⟨g, 0, none⟩) T.length cap) T.length (rcells T) ∧ wc.ownsRow 0 58 3 (.slice (some ⟨g2, 0, none⟩) T2.length cap2) T2.length (rcells T2) ∧ (∀ x ∈ T2, Mk wc x.2 (s'.extract x.1.1 x.1.2)) ∧ Rw s' xh.1.1 mm (T2.map (·.1)) ∧ Below w5.heap.size w5 wc) :=
      ⟨hI6, q2, ow2, mk2, rw2, hbd⟩
    have G2 : Hid (Below wc.heap.size wc wm ∧ wm.ownsRow wc.heap.size 58 3 (.slice (some ⟨wc.heap.size, 0, none⟩) 0 N) 0 []) := ⟨b7, hom⟩
    have c1m := c1m b7
    have hNN : Hid _ := hN
    have hbm : wc.heap.size ≤ wm.heap.size := b7.size
    have hh1 : (0 : Int) ≤ (jh : Int) := by omega
    have hh2 : (jh : Int) ≤ (cap : Int) := by omega
    clear hI6 q1 q2 ow2 mk2 rw2 hbd hom hgm b7 l2 hN r0 t1 c1 CU
    go_wp2_with (at_builtin; refine wpList_append_own _ rfl (.tmp 99) (.tmp 105) 52 rfl wc.heap.size 58 i58 (.agg #[.int .i64 0, .int .i64 0, .slice none 0 0]) 3 40 Try.underlying52 hi58 hz58 hs58 hy58 rfl (by decide) _ _ _ rfl G2.out.2 ⟨g, 0, none⟩ jh cap (rcells (T.take jh)) rfl ?c0 ?c1 ?c2 ?c3 ?c4 ?c5 ?_)
    case c0 => rw [rcells_len, List.length_take]; congr 1; omega
    case c1 => exact fun j u hu => (own_mono G.out.2.1 G2.out.1).cells rfl j u (rcells_take T jh j u hu)
    case c2 => exact rcells_one (fun x hx => (G.out.1.marks x (List.mem_of_mem_take hx)).form)
    case c3 => unfold maxLen; omega
    case c4 => omega
    case c5 => exact hbm
    intro v1 w8 own1 grow1 _
    have b8 : Below wc.heap.size wc w8 := G2.out.1.grown grow1 hbm (fun k hk => by simp [Value.ownBlock] at hk; omega)
    have own1' : w8.ownsRow wc.heap.size 58 3 v1 jh (rcells (T.take jh)) := by
      simpa using own1
    have G3 : Hid (Below wc.heap.size wc w8 ∧ w8.ownsRow wc.heap.size 58 3 v1 jh (rcells (T.take jh))) := ⟨b8, own1'⟩
    have hb8 : wc.heap.size ≤ w8.heap.size := b8.size
    have c18 := below_cell b8 c1'
    clear own1 grow1 b8 own1' G2 c1m hmk hNN hbm
    go_wp2_with (at_builtin; refine wpList_append_own _ rfl (.tmp 107) (.tmp 108) 52 rfl wc.heap.size 58 i58 (.agg #[.int .i64 0, .int .i64 0, .slice none 0 0]) 3 40 Try.underlying52 hi58 hz58 hs58 hy58 rfl (by decide) _ _ _ rfl G3.out.2 ⟨g2, 0, none⟩ T2.length cap2 (rcells T2) rfl ?d0 ?d1 ?d2 ?d3 ?d4 ?d5 ?_)
    case d0 => exact rcells_len T2
    case d1 => exact fun j u hu => (own_mono G.out.2.2.1 G3.out.1).cells rfl j u hu
    case d2 => exact rcells_one (fun x hx => (G.out.2.2.2.1 x hx).form)
    case d3 => unfold maxLen; omega
    case d4 => omega
    case d5 => exact hb8
    intro v2 w9 own2 grow2 _
    have b9 : Below wc.heap.size wc w9 := G3.out.1.grown grow2 hb8 (fun k hk => (G3.out.2.lt k hk).1)
    have own2' : w9.ownsRow wc.heap.size 58 3 v2 (jh + T2.length) (rcells (T.take jh ++ T2)) := by
      rw [rcells_app]
      exact own2
    have G4 : Hid (Below wc.heap.size wc w9 ∧ w9.ownsRow wc.heap.size 58 3 v2 (jh + T2.length) (rcells (T.take jh ++ T2))) := ⟨b9, own2'⟩
    have c19 := below_cell b9 c1'
    have hq1 : (jt : Int) + 1 ≤ (T.length : Int) := by omega
    have hq2 : (T.length : Int) ≤ (cap : Int) := by omega
    have hq3 : (0 : Int) ≤ (jt : Int) + 1 := by omega
    clear own2 grow2 b9 own2' G3 c18 hb8
    by_cases hmore : jt + 1 < T.length
    · have hne : ¬ cap = jt + 1 := by omega
      have hne2 : (cap == jt + 1) = false := by rw [beq_eq_false_iff_ne]; exact hne
      have hne3 : ¬ jt + 1 = cap := by omega
      go_wp2_with fail
      obtain ⟨n, hn⟩ : ∃ n, n = T.length - (jt + 1) := ⟨_, rfl⟩
      go_loopg [12, 118] n (fun gk v12 v118 wr => ∃ i : Nat, v118 = .int .i64 (i : Int) ∧ i ≤ n ∧ Below wc.heap.size wc wr ∧ wr.ownsRow wc.heap.size 58 3 v12 (jh + T2.length + i) (rcells (T.take jh ++ T2 ++ ((T.drop (jt + 1)).take i).map (sh D))) ∧ gk = n - i)
      case atStart => exact ⟨0, rfl, Nat.zero_le _, G4.out.1, by simpa using G4.out.2, rfl⟩
      case round =>
        obtain ⟨i, rfl, hin, hbw, how, hgk⟩ := hrel
        have HK : Hid _ := hgk
        by_cases hi : i < n
        · obtain ⟨y, hy⟩ := getT (T := T) (i := jt + 1 + i) (by omega)
          have hIr := G.out.1.mono hbw
          have hcr := HC.out
          have c1r := below_cell hbw c1'
          have hmem := (hIr.mem hy).form
          subst hn
          obtain ⟨g', cap', C'⟩ := hIr.cells
          have hgg : g' = g := by
            have := C'.c1
            rw [c1r] at this
            simp at this
            exact this.1.symm
          subst hgg
          obtain ⟨m0, m1, m2⟩ := C'.row (jt + 1 + i) y hy
          obtain ⟨mp, mn, mc, he⟩ := hmem
          obtain ⟨⟨yf, yt⟩, v⟩ := y
          simp only at he m0 m1 m2
          subst he
          have HOW : Hid (wr.ownsRow wc.heap.size 58 3 u12 (jh + T2.length + i) (rcells (T.take jh ++ T2 ++ ((T.drop (jt + 1)).take i).map (sh D)))) := how
          have HBW : Hid (Below wc.heap.size wc wr) := hbw
          obtain ⟨f1, f2, f3, f4, f5, f6, f7, f8, f9, f10, f11⟩ := F.out
          have hyb := G.out.1.rw.apart' (map_get f2) (map_get hy) (by omega)
          have hyl := G.out.1.rw.le _ _ (map_get hy)
          simp only at hyb hyl
          have hnn : (0 : Int) ≤ (yf : Int) + D := by omega
          have hnn2 : (0 : Int) ≤ (yt : Int) + D := by omega
          have hD1 : D ≤ 1099511627776 := by omega
          have hD2 : -1099511627776 ≤ D := by omega
          have hy1 : yf ≤ 1099511627776 := by omega
          have hy2 : yt ≤ 1099511627776 := by omega
          have HSH : Hid (rcells [sh D ((yf, yt), .slice mp mn mc)] = [.int .i64 ((yf : Int) + D), .int .i64 ((yt : Int) + D), .slice mp mn mc]) := by
            show rcells [sh D ((yf, yt), .slice mp mn mc)] = _
            simp only [rcells, sh, List.flatMap_cons, List.flatMap_nil, List.append_nil]
            rw [show ((((yf : Int) + D).toNat : Nat) : Int) = (yf : Int) + D by omega, show ((((yt : Int) + D).toNat : Nat) : Int) = (yt : Int) + D by omega]
          have HTK : Hid ((T.drop (jt + 1)).take (i + 1) = (T.drop (jt + 1)).take i ++ [((yf, yt), .slice mp mn mc)]) := by
            show (T.drop (jt + 1)).take (i + 1) = _
            rw [List.take_add_one, List.getElem?_drop, hy]
            rfl
          obtain ⟨L, hL⟩ : ∃ L, L = T.take jh ++ T2 ++ ((T.drop (jt + 1)).take i).map (sh D) := ⟨_, rfl⟩
          have FIN3 : Hid (∀ (v : Value) (W : World), W.ownsRow wc.heap.size 58 3 v (jh + T2.length + i + 1) (rcells L ++ [.int .i64 ((yf : Int) + D), .int .i64 ((yt : Int) + D), .slice mp mn mc]) → W.ownsRow wc.heap.size 58 3 v (jh + T2.length + (i + 1)) (rcells (T.take jh ++ T2 ++ ((T.drop (jt + 1)).take (i + 1)).map (sh D)))) := fun v W h => by
            rw [HTK.out, List.map_append, ← List.append_assoc, rcells_app, List.map_cons, List.map_nil, HSH.out, ← hL]
            exact h
          rw [← hL] at how
          have hO : Hid (((wr.alloc (.cells #[.int .i64 (yf : Int), .int .i64 (yt : Int), .slice mp mn mc] 58)).alloc (.cells #[.int .i64 ((yf : Int) + D), .int .i64 ((yt : Int) + D), .slice mp mn mc] 58)).ownsRow wc.heap.size 58 3 u12 (jh + T2.length + i) (rcells L)) := (how.alloc _).alloc _
          have hbase : wc.heap.size ≤ ((wr.alloc (.cells #[.int .i64 (yf : Int), .int .i64 (yt : Int), .slice mp mn mc] 58)).alloc (.cells #[.int .i64 ((yf : Int) + D), .int .i64 ((yt : Int) + D), .slice mp mn mc] 58)).heap.size := by
            have := hbw.size
            simp
            omega
          have hnews := cell_three_new (wr.alloc (.cells #[.int .i64 (yf : Int), .int .i64 (yt : Int), .slice mp mn mc] 58)) (.int .i64 ((yf : Int) + D)) (.int .i64 ((yt : Int) + D)) (.slice mp mn mc) 58
          rw [World.size_alloc] at hnews
          have HNW : Hid _ := hnews
          have hbig : jh + T2.length + i ≤ 4398046511104 := by omega
          have hil : i ≤ 1099511627777 := by omega
          rw [show (jt + 1 + i) * 3 = (jt + 1) * 3 + i * 3 by omega] at m0 m1 m2
          clear HTK HSH HOW hL
          clear how hbw hIr hcr C' hgk c1r f1 f2 f3 f4 f5 f6 f7 f8 f9 f10 f11 hyb hyl hy hnews
          go_wp2_with (at_builtin; refine wpList_append_own _ rfl (.tmp 122) (.tmp 134) 52 rfl wc.heap.size 58 i58 (.agg #[.int .i64 0, .int .i64 0, .slice none 0 0]) 3 40 Try.underlying52 hi58 hz58 hs58 hy58 rfl (by decide) _ _ _ rfl hO.out ⟨wr.heap.size + 1, 0, none⟩ 1 1 [.int .i64 ((yf : Int) + D), .int .i64 ((yt : Int) + D), .slice mp mn mc] rfl rfl ?e1 ?e2 ?e3 ?e4 ?e5 ?_)
          case e1 => exact HNW.out
          case e2 => intro x hx; simp at hx; rcases hx with rfl | rfl | rfl <;> rfl
          case e3 => unfold maxLen; omega
          case e4 => omega
          case e5 => exact hbase
          intro v3 w10 own3 grow3 _
          have OW3 : Hid _ := own3
          have GR3 : Hid _ := grow3
          clear own3 grow3
          go_wp2_with fail
          go_roundg (T.length - (jt + 1) - (i + 1))
          case measure => have := HK.out; omega
          case rel =>
            refine ⟨i + 1, by simp, by omega, ?_, ?_, rfl⟩
            · exact (below_trans (below_trans HBW.out (bel_up _ _)) (bel_up _ _)).grown GR3.out hbase (fun k hk => (hO.out.lt k hk).1)
            · exact FIN3.out _ _ OW3.out
        · have hin2 : i = n := by omega
          obtain ⟨f1, f2, f3, f4, f5, f6, f7, f8, f9, f10, f11⟩ := F.out
          have hfull : (T.drop (jt + 1)).take i = T.drop (jt + 1) := List.take_of_length_le (by rw [List.length_drop]; omega)
          rw [hfull] at how
          have hll : (T.take jh ++ T2 ++ (T.drop (jt + 1)).map (sh D)).length = jh + T2.length + i := by
            rw [List.length_append, List.length_append, List.length_take, List.length_map, List.length_drop]
            omega
          have hT2p : 0 < T2.length := by have := G.out.2.2.2.2.1.pos; simpa using this
          rw [← hll] at how
          obtain ⟨g3, cap3, rfl, _⟩ := own_form how (by rw [hll]; omega)
          have FX : Hid _ := ixt_new (s := s') how (edit_marks G.out.1.rw (fun x hx => (G.out.1.marks x hx).mono hbw) (fun x hx => (G.out.2.2.2.1 x hx).mono hbw) HSP.out hae hes f1 f2 f3 f6 f10) (edit_rows G.out.1.rw HSP.out hae hes f1 f2 f3 f6 f9 f10 G.out.2.2.2.2.1) hs2
          have FB : Hid (Below w.heap.size w wr) := below_trans (below_trans (below_trans B3.out D5.out) G.out.2.2.2.2.2) hbw
          rw [hll] at *
          clear how hbw hgk f1 f2 f3 f4 f5 f6 f7 f8 f9 f10 f11 hfull
          subst hn
          clear hin2
          go_wp2_with fail
          go_ret
          have hfin := IxT.eq FX.out HSP.out
          first
          | exact ⟨_, rfl, ⟨_, hfin⟩, below_trans FB.out (bel_up _ _)⟩
          | exact ⟨_, _, rfl, hfin, below_trans FB.out (bel_up _ _)⟩
    · have hjl : jt + 1 = T.length := by omega
      obtain ⟨f1, f2, f3, f4, f5, f6, f7, f8, f9, f10, f11⟩ := F.out
      have hdr : T.drop (jt + 1) = [] := List.drop_eq_nil_of_le (by omega)
      have how := G4.out.2
      have hbw := G4.out.1
      have hT2p : 0 < T2.length := by have := G.out.2.2.2.2.1.pos; simpa using this
      have hll : (T.take jh ++ T2).length = jh + T2.length := by
        rw [List.length_append, List.length_take]
        omega
      have hmkk := edit_marks G.out.1.rw (fun x hx => (G.out.1.marks x hx).mono hbw) (fun x hx => (G.out.2.2.2.1 x hx).mono hbw) HSP.out hae hes f1 f2 f3 f6 f10
      have hrww := edit_rows G.out.1.rw HSP.out hae hes f1 f2 f3 f6 f9 f10 G.out.2.2.2.2.1
      rw [hdr, List.map_nil, List.append_nil] at hmkk hrww
      rw [← hll] at how
      obtain ⟨g3, cap3, rfl, _⟩ := own_form how (by rw [hll]; omega)
      have fx := ixt_new (s := s') how hmkk hrww hs2
      rw [hll] at fx
      have FX : Hid _ := fx
      have FB : Hid (Below w.heap.size w w9) := below_trans (below_trans (below_trans B3.out D5.out) G.out.2.2.2.2.2) hbw
      rw [hll] at *
      have hz : T.length - (jt + 1) = 0 := by omega
      clear how hbw hmkk hrww hdr fx f1 f2 f3 f4 f5 f6 f7 f8 f9 f10 f11 G4 G F
      by_cases hce : cap = jt + 1
      · go_wp2_with fail
        go_loopg [12, 118] 0 (fun gk v12 v118 wr => v118 = .int .i64 0 ∧ v12 = .slice (some ⟨g3, 0, none⟩) (jh + T2.length) cap3 ∧ wr = w9 ∧ gk = 0)
        case atStart => exact ⟨rfl, rfl, rfl, rfl⟩
        case round =>
          obtain ⟨rfl, rfl, rfl, hgk⟩ := hrel
          go_wp2_with fail
          go_ret
          have hfin := IxT.eq FX.out HSP.out
          first
          | exact ⟨_, rfl, ⟨_, hfin⟩, below_trans FB.out (bel_up _ _)⟩
          | exact ⟨_, _, rfl, hfin, below_trans FB.out (bel_up _ _)⟩
      · go_wp2_with fail
        go_loopg [12, 118] 0 (fun gk v12 v118 wr => v118 = .int .i64 0 ∧ v12 = .slice (some ⟨g3, 0, none⟩) (jh + T2.length) cap3 ∧ wr = w9 ∧ gk = 0)
        case atStart => exact ⟨rfl, rfl, rfl, rfl⟩
        case round =>
          obtain ⟨rfl, rfl, rfl, hgk⟩ := hrel
          go_wp2_with fail
          go_ret
          have hfin := IxT.eq FX.out HSP.out
          first
          | exact ⟨_, rfl, ⟨_, hfin⟩, below_trans FB.out (bel_up _ _)⟩
          | exact ⟨_, _, rfl, hfin, below_trans FB.out (bel_up _ _)⟩

end Go.Proofs.Ytbhlaheidlnppaa
