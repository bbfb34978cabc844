import Derived.Test.YtkaciochlemjiabCop
namespace Go.Proofs.Ytkaciochlemjiab
open Go.RowKit Go.Maps

section
variable {B : Nat} {W W' : World} {b : Nat} {vi vq vf vi' vq' vf' : Value} {s t : Stt}
theorem Own.off {k : Nat} {u : Value} {cs : Array Value} (h : Own B W vi vq vf s) (hb : W.heap[b]? = some (.cells cs 27 (0, 0))) : Own B (W.setCell ⟨b, k, none⟩ u) vi vq vf s :=
  ⟨(row_off hb h.i (by decide)).1, (row_off hb h.q (by decide)).1, (row_off hb h.f (by decide)).1⟩
/-- A cell of the box written. -/
theorem Nx.put (h : Nx B W b vi vq vf s) (k : Nat) (v : Value) (t : Stt) (he : (bxC vi vq vf s).setIfInBounds k v = bxC vi' vq' vf' t) (ho : Own B W vi' vq' vf' t) : Nx B (W.setCell ⟨b, k, none⟩ v) b vi' vq' vf' t ∧ Below B W (W.setCell ⟨b, k, none⟩ v) :=
  ⟨⟨by rw [blk_set v h.blk, he], ho.off h.blk, h.lo, by simp; exact h.lB⟩, (Below.refl B W).setCell (p := ⟨b, k, none⟩) h.lo v⟩
theorem Nx.cells (h : Nx B W b vi vq vf s) : W.cell? ⟨b, 0, none⟩ = some vi ∧ W.cell? ⟨b, 1, none⟩ = some (.int .i64 s.pen) ∧ W.cell? ⟨b, 2, none⟩ = some vq ∧ W.cell? ⟨b, 3, none⟩ = some vf ∧ W.cell? ⟨b, 4, none⟩ = some (.int .u16 (s.flg : Int)) :=
  ⟨h.cell 0 _ rfl, h.cell 1 _ rfl, h.cell 2 _ rfl, h.cell 3 _ rfl, h.cell 4 _ rfl⟩
theorem Nx.drew (h : Nx B W b vi vq vf s) : Nx B W.drew b vi vq vf s := h.up (Below.drew (Below.refl _ _))
/-- What an action answers. -/
def Rs (B : Nat) (W : World) (b : Nat) (r : Except Int Stt) (e : Ending) (W' : World) : Prop :=
  Below B W W' ∧ ((∃ t vi vq vf, r = .ok t ∧ e = .returned (.int .i64 0) ∧ Nx B W' b vi vq vf t) ∨ ∃ c, r = .error c ∧ e = .returned (.int .i64 c))
end
theorem row_take {W : World} {B : Nat} {e : TypeId} {size n m g cap : Nat} {xs : List Value} (h : W.ownsRow B e size (.slice (some ⟨g, 0, none⟩) n cap) n xs) (hm : m ≤ n) : W.ownsRow B e size (.slice (some ⟨g, 0, none⟩) m cap) m (xs.take (m * size)) := by
  obtain ⟨hl, h | ⟨g', cap', cur, h1, h2, h3, h4, h5, h6, h7⟩⟩ := h
  · cases h.1
  · cases h1
    have hms : m * size ≤ n * size := Nat.mul_le_mul_right _ hm
    refine ⟨by rw [List.length_take]; omega, .inr ⟨g, cap, cur, rfl, h2, h3, by omega, h5, h6, ?_⟩⟩
    rw [← h7, List.take_take, Nat.min_eq_left hms]
theorem iC_take (l : List Int) (m : Nat) : iC (l.take m) = (iC l).take (m * 1) := by simp [iC, List.map_take]
theorem fC_take (l : List (Int × ByteArray)) : ∀ m, fC (l.take m) = (fC l).take (m * 2) := by
  induction l with
  | nil => intro m; simp [fC]
  | cons a l ih =>
    intro m
    cases m with
    | zero => simp [fC]
    | succ m =>
      have e : (m + 1) * 2 = 2 + m * 2 := by omega
      rw [List.take_succ_cons, e]
      show [Value.int .i64 a.1, Value.string a.2] ++ fC (l.take m) = ([Value.int .i64 a.1, Value.string a.2] ++ fC l).take (2 + m * 2)
      rw [ih m, Nat.add_comm 2 (m * 2)]
      rfl

set_option maxRecDepth 100000 in
set_option maxHeartbeats 4000000 in
theorem settle_any {B : Nat} {W : World} {b : Nat} {vi vq vf : Value} {s : Stt} (h : Nx B W b vi vq vf s) (hl : s.ind.length ≤ 1000000) :
    Calls Try.prog 61 #[.pointer (some ⟨b, 0, none⟩)] W fun e W' => e = .returned (.tuple #[]) ∧ Below B W W' ∧ Nx B W' b vi vq vf s.settle := by
  obtain ⟨a1, c1, a2, c2, a3, c3, rfl, rfl, rfl⟩ := h.own.stm.form
  have HN : Hid (Nx B W b (.slice a1 s.ind.length c1) (.slice a2 s.que.length c2) (.slice a3 s.frm.length c3) s) := h
  have HL : Hid (s.ind.length ≤ 1000000) := hl
  have HPW : Hid (∀ W', Below W.heap.size W W' → (W'.cell? ⟨b, 0, none⟩ = some (.slice a1 s.ind.length c1) ∧ W'.cell? ⟨b, 1, none⟩ = some (.int .i64 s.pen) ∧ W'.cell? ⟨b, 2, none⟩ = some (.slice a2 s.que.length c2) ∧ W'.cell? ⟨b, 3, none⟩ = some (.slice a3 s.frm.length c3) ∧ W'.cell? ⟨b, 4, none⟩ = some (.int .u16 (s.flg : Int)))) := fun W' hW => (h.up hW).cells
  have HF : Hid (∀ W', Below W.heap.size W W' → ∀ k, W'.frozen? ⟨b, k, none⟩ = false) := fun W' hW => (h.up hW).frz
  clear h hl
  go_enter Try.func61, Try.ntmps61
  go_upto_region 0 with fail
  refine wp_region_noPanic ?_
  refine wp_region_held_drew (S := fun W => W.cell? ⟨b, 0, none⟩ = some (.slice a1 s.ind.length c1) ∧ W.cell? ⟨b, 1, none⟩ = some (.int .i64 s.pen) ∧ W.cell? ⟨b, 2, none⟩ = some (.slice a2 s.que.length c2) ∧ W.cell? ⟨b, 3, none⟩ = some (.slice a3 s.frm.length c3) ∧ W.cell? ⟨b, 4, none⟩ = some (.int .u16 (s.flg : Int))) (by kernel_rfl) (HPW.out _ (Below.drew (Below.refl _ _))) (fun hHeld => ?_)
  refine wpAnyH_take (i := 0) (oi := { dst := _, op := _, type := _, pos := _, after := _, guard := _ }) (v := ?_) rfl (by kernel_rfl) (by kernel_rfl) (by kernel_rfl) (fun _ _ _ h => h) (Or.inl ⟨by rfl, ?_⟩) (by assumption) ?_
  rotate_left
  · intro W hSw
    obtain ⟨h0, h1, h2, h3, h4⟩ := hSw
    go_simp
    (try with_reducible rfl)
  try simp only [Act.put, List.setIfInBounds_toArray, List.set_cons_zero, List.set_cons_succ]
  refine wpAnyH_take (i := 1) (oi := { dst := _, op := _, type := _, pos := _, after := _, guard := _ }) (v := ?_) rfl (by kernel_rfl) (by kernel_rfl) (by kernel_rfl) (fun _ _ _ h => h) (Or.inl ⟨by rfl, ?_⟩) (by assumption) ?_
  rotate_left
  · intro W hSw
    obtain ⟨h0, h1, h2, h3, h4⟩ := hSw
    go_simp
    (try with_reducible rfl)
  try simp only [Act.put, List.setIfInBounds_toArray, List.set_cons_zero, List.set_cons_succ]
  refine wpAnyH_take (i := 2) (oi := { dst := _, op := _, type := _, pos := _, after := _, guard := _ }) (v := ?_) rfl (by kernel_rfl) (by kernel_rfl) (by kernel_rfl) (fun _ _ _ h => h) (Or.inl ⟨by rfl, ?_⟩) (by assumption) ?_
  rotate_left
  · intro W hSw
    obtain ⟨h0, h1, h2, h3, h4⟩ := hSw
    go_simp
    (try with_reducible rfl)
  try simp only [Act.put, List.setIfInBounds_toArray, List.set_cons_zero, List.set_cons_succ]
  refine wpAnyH_take (i := 3) (oi := { dst := _, op := _, type := _, pos := _, after := _, guard := _ }) (v := ?_) rfl (by kernel_rfl) (by kernel_rfl) (by kernel_rfl) (fun _ _ _ h => h) (Or.inl ⟨by rfl, ?_⟩) (by assumption) ?_
  rotate_left
  · intro W hSw
    obtain ⟨h0, h1, h2, h3, h4⟩ := hSw
    go_simp
    (try with_reducible rfl)
  try simp only [Act.put, List.setIfInBounds_toArray, List.set_cons_zero, List.set_cons_succ]
  refine wpAnyH_take (i := 4) (oi := { dst := _, op := _, type := _, pos := _, after := _, guard := _ }) (v := ?_) rfl (by kernel_rfl) (by kernel_rfl) (by kernel_rfl) (fun _ _ _ h => h) (Or.inl ⟨by rfl, ?_⟩) (by assumption) ?_
  rotate_left
  · intro W hSw
    obtain ⟨h0, h1, h2, h3, h4⟩ := hSw
    go_simp
    (try with_reducible rfl)
  try simp only [Act.put, List.setIfInBounds_toArray, List.set_cons_zero, List.set_cons_succ]
  refine wpAnyH_take (i := 5) (oi := { dst := _, op := _, type := _, pos := _, after := _, guard := _ }) (v := ?_) rfl (by kernel_rfl) (by kernel_rfl) (by kernel_rfl) (fun _ _ _ h => h) (Or.inl ⟨by rfl, ?_⟩) (by assumption) ?_
  rotate_left
  · intro W hSw
    obtain ⟨h0, h1, h2, h3, h4⟩ := hSw
    go_simp
    (try with_reducible rfl)
  try simp only [Act.put, List.setIfInBounds_toArray, List.set_cons_zero, List.set_cons_succ]
  refine wpAnyH_take (i := 6) (oi := { dst := _, op := _, type := _, pos := _, after := _, guard := _ }) (v := ?_) rfl (by kernel_rfl) (by kernel_rfl) (by kernel_rfl) (fun _ _ _ h => h) (Or.inl ⟨by rfl, ?_⟩) (by assumption) ?_
  rotate_left
  · intro W hSw
    obtain ⟨h0, h1, h2, h3, h4⟩ := hSw
    go_simp
    (try with_reducible rfl)
  try simp only [Act.put, List.setIfInBounds_toArray, List.set_cons_zero, List.set_cons_succ]
  refine wpAnyH_ready (rs := [7]) (by kernel_rfl) (by simp) ?_
  refine AllReadyH.cons (o := { dst := _, op := _, type := _, pos := _, after := _, guard := _ }) rfl (fun K hK => ?_) AllReadyH.nil
  go_simp
  refine (top_any _ (HN.out.drew.own.stm) HL.out).mono ?_
  rintro e w6 ⟨rfl, hb6⟩
  have B6 : Hid (Below W.heap.size W w6) := below_trans (Below.drew (Below.refl _ _)) hb6
  clear hb6
  go_wp2_with fail
  refine hK.out _ _ ?_ (fun hHeld => ?_)
  · (try dsimp only)
    exact HPW.out _ B6.out
  clear hK K
  try simp only [Act.put, List.setIfInBounds_toArray, List.set_cons_zero, List.set_cons_succ]
  refine wpAnyH_take (i := 8) (oi := { dst := _, op := _, type := _, pos := _, after := _, guard := _ }) (v := ?_) rfl (by kernel_rfl) (by kernel_rfl) (by kernel_rfl) (fun _ _ _ h => h) (Or.inl ⟨by rfl, ?_⟩) (by assumption) ?_
  rotate_left
  · intro W hSw
    obtain ⟨h0, h1, h2, h3, h4⟩ := hSw
    go_simp
    (try with_reducible rfl)
  try simp only [Act.put, List.setIfInBounds_toArray, List.set_cons_zero, List.set_cons_succ]
  refine wpAnyH_done (by kernel_rfl) ?_ _
  refine NoPanic.normal ?_
  clear hHeld
  have hB6 : Below B W w6 := B6.out.mono HN.out.lB
  by_cases hp : s.pen = s.top
  · have e0 : (s.pen == s.top) = true := by rw [beq_iff_eq]; exact hp
    have HE : Hid (s.settle = { s with pen := -1 }) := by unfold Stt.settle; rw [if_pos hp]; exact rfl
    obtain ⟨k0, k1, k2, k3, k4⟩ := HPW.out _ B6.out
    have kf := HF.out _ B6.out 1
    obtain ⟨hn, hb⟩ := (HN.out.up B6.out).put (t := { s with pen := -1 }) 1 (.int .i64 (-1)) rfl ⟨(HN.out.up B6.out).own.i, (HN.out.up B6.out).own.q, (HN.out.up B6.out).own.f⟩
    have HR : Hid (Nx B (w6.setCell ⟨b, 1, none⟩ (.int .i64 (-1))) b (.slice a1 s.ind.length c1) (.slice a2 s.que.length c2) (.slice a3 s.frm.length c3) s.settle ∧ Below B W (w6.setCell ⟨b, 1, none⟩ (.int .i64 (-1)))) := ⟨by rw [HE.out]; exact hn, hB6.trans hb⟩
    clear hn hb hB6 hp
    go_wp2_with fail
    (try simp only [Exit.inBlock, Exit.then])
    refine bodyPost_end (results_none rfl _ _ _) rfl ?_
    exact ⟨rfl, HR.out.2, HR.out.1⟩
  · have e0 : (s.pen == s.top) = false := by rw [beq_eq_false_iff_ne]; exact hp
    have HE : Hid (s.settle = s) := by unfold Stt.settle; rw [if_neg hp]; exact rfl
    have HR : Hid (Nx B w6 b (.slice a1 s.ind.length c1) (.slice a2 s.que.length c2) (.slice a3 s.frm.length c3) s.settle ∧ Below B W w6) := ⟨by rw [HE.out]; exact HN.out.up B6.out, hB6⟩
    clear hB6 hp
    go_wp2_with fail
    (try simp only [Exit.inBlock, Exit.then])
    refine bodyPost_end (results_none rfl _ _ _) rfl ?_
    exact ⟨rfl, HR.out.2, HR.out.1⟩

set_option maxRecDepth 100000 in
set_option maxHeartbeats 4000000 in
theorem drop_any {B : Nat} {W : World} {b : Nat} {vi vq vf : Value} {s : Stt} (h : Nx B W b vi vq vf s) (hl : s.ind.length ≤ 1000000) :
    Calls Try.prog 34 #[.pointer (some ⟨b, 0, none⟩)] W fun e W' => Rs B W b (aDrop s) e W' := by
  obtain ⟨a1, c1, a2, c2, a3, c3, rfl, rfl, rfl⟩ := h.own.stm.form
  have HN : Hid (Nx B W b (.slice a1 s.ind.length c1) (.slice a2 s.que.length c2) (.slice a3 s.frm.length c3) s) := h
  have HL : Hid (s.ind.length ≤ 1000000) := hl
  obtain ⟨k0, k1, k2, k3, k4⟩ := h.cells
  by_cases c0 : s.ind.length = 0
  · have d0 : ((s.ind.length : Int) == 0) = true := by rw [beq_iff_eq]; omega
    have d1 : (s.ind.length == 0) = true := by rw [beq_iff_eq]; omega
    have HE : Hid (aDrop s = .error 66) := by unfold aDrop; rw [if_pos c0]; exact rfl
    clear h hl c0
    go_enter Try.func34, Try.ntmps34
    go_wp2_with fail
    go_ret
    exact ⟨Below.refl _ _, .inr ⟨66, HE.out, rfl⟩⟩
  · have d0 : ((s.ind.length : Int) == 0) = false := by rw [beq_eq_false_iff_ne]; omega
    have d1 : (s.ind.length == 0) = false := by rw [beq_eq_false_iff_ne]; omega
    have HE : Hid (aDrop s = .ok { s with ind := s.ind.take (s.ind.length - 1) }) := by unfold aDrop; rw [if_neg c0]; exact rfl
    obtain ⟨g, cp, hgf, hg1, hg2, hg3⟩ := row_form h.own.i (by omega)
    obtain ⟨rfl, -, rfl⟩ := Value.slice.inj hgf
    have hw : IntKind.i64.wrap ((s.ind.length : Int) - 1) = ((s.ind.length - 1 : Nat) : Int) := by rw [IntKind.wrap_i64]; omega
    have HK : Hid (s.ind.length - 1 ≤ c1) := by show s.ind.length - 1 ≤ c1; omega
    have r1 : ((s.ind.length - 1 : Nat) : Int) ≤ (c1 : Int) := by omega
    have r2 : s.ind.length - 1 ≤ c1 := by omega
    have HPW : Hid (∀ W', Below W.heap.size W W' → (W'.cell? ⟨b, 0, none⟩ = some (.slice (some ⟨g, 0, none⟩) s.ind.length c1) ∧ W'.cell? ⟨b, 1, none⟩ = some (.int .i64 s.pen) ∧ W'.cell? ⟨b, 2, none⟩ = some (.slice a2 s.que.length c2) ∧ W'.cell? ⟨b, 3, none⟩ = some (.slice a3 s.frm.length c3) ∧ W'.cell? ⟨b, 4, none⟩ = some (.int .u16 (s.flg : Int)))) := fun W' hW => (h.up hW).cells
    have hrow : W.drew.ownsRow B 3 1 (.slice (some ⟨g, 0, none⟩) (s.ind.length - 1) c1) (s.ind.take (s.ind.length - 1)).length (iC (s.ind.take (s.ind.length - 1))) := by
      rw [iC_take, List.length_take, Nat.min_eq_left (by omega)]
      exact row_take h.drew.own.i (by omega)
    obtain ⟨hn, hb⟩ := HN.out.drew.put (t := { s with ind := s.ind.take (s.ind.length - 1) }) 0 (.slice (some ⟨g, 0, none⟩) (s.ind.length - 1) c1) rfl ⟨hrow, HN.out.drew.own.q, HN.out.drew.own.f⟩
    have HR : Hid (Nx B (W.drew.setCell ⟨b, 0, none⟩ (.slice (some ⟨g, 0, none⟩) (s.ind.length - 1) c1)) b (.slice (some ⟨g, 0, none⟩) (s.ind.length - 1) c1) (.slice a2 s.que.length c2) (.slice a3 s.frm.length c3) { s with ind := s.ind.take (s.ind.length - 1) } ∧ Below B W (W.drew.setCell ⟨b, 0, none⟩ (.slice (some ⟨g, 0, none⟩) (s.ind.length - 1) c1))) := ⟨hn, (Below.drew (Below.refl B W)).trans hb⟩
    have kw := HN.out.drew.cells.1
    have kf := HN.out.drew.frz 0
    have HBN : Hid (b < W.heap.size) := lt_of_heap HN.out.blk
    clear h hl c0 hgf hg1 hg2 hg3 hrow hn hb
    go_enter Try.func34, Try.ntmps34
    go_upto_region 3 with fail
    go_region
    go_wp2_with fail
    go_ret
    exact ⟨HR.out.2, .inl ⟨_, _, _, _, HE.out, rfl, HR.out.1⟩⟩

set_option maxRecDepth 100000 in
set_option maxHeartbeats 4000000 in
theorem leave_any {B : Nat} {W : World} {b : Nat} {vi vq vf : Value} {s : Stt} (h : Nx B W b vi vq vf s) (hl : s.frm.length ≤ 1000000) :
    Calls Try.prog 38 #[.pointer (some ⟨b, 0, none⟩)] W fun e W' => Rs B W b (aLeave s) e W' := by
  obtain ⟨a1, c1, a2, c2, a3, c3, rfl, rfl, rfl⟩ := h.own.stm.form
  have HN : Hid (Nx B W b (.slice a1 s.ind.length c1) (.slice a2 s.que.length c2) (.slice a3 s.frm.length c3) s) := h
  have HL : Hid (s.frm.length ≤ 1000000) := hl
  obtain ⟨k0, k1, k2, k3, k4⟩ := h.cells
  by_cases c0 : s.frm.length = 0
  · have d0 : ((s.frm.length : Int) == 0) = true := by rw [beq_iff_eq]; omega
    have d1 : (s.frm.length == 0) = true := by rw [beq_iff_eq]; omega
    have HE : Hid (aLeave s = .error 66) := by unfold aLeave; rw [if_pos c0]; exact rfl
    clear h hl c0
    go_enter Try.func38, Try.ntmps38
    go_wp2_with fail
    go_ret
    exact ⟨Below.refl _ _, .inr ⟨66, HE.out, rfl⟩⟩
  · have d0 : ((s.frm.length : Int) == 0) = false := by rw [beq_eq_false_iff_ne]; omega
    have d1 : (s.frm.length == 0) = false := by rw [beq_eq_false_iff_ne]; omega
    have HE : Hid (aLeave s = .ok { s with frm := s.frm.take (s.frm.length - 1) }) := by unfold aLeave; rw [if_neg c0]; exact rfl
    obtain ⟨g, cp, hgf, hg1, hg2, hg3⟩ := row_form h.own.f (by omega)
    obtain ⟨rfl, -, rfl⟩ := Value.slice.inj hgf
    have hw : IntKind.i64.wrap ((s.frm.length : Int) - 1) = ((s.frm.length - 1 : Nat) : Int) := by rw [IntKind.wrap_i64]; omega
    have HK : Hid (s.frm.length - 1 ≤ c3) := by show s.frm.length - 1 ≤ c3; omega
    have r1 : ((s.frm.length - 1 : Nat) : Int) ≤ (c3 : Int) := by omega
    have r2 : s.frm.length - 1 ≤ c3 := by omega
    have HPW : Hid (∀ W', Below W.heap.size W W' → (W'.cell? ⟨b, 0, none⟩ = some (.slice a1 s.ind.length c1) ∧ W'.cell? ⟨b, 1, none⟩ = some (.int .i64 s.pen) ∧ W'.cell? ⟨b, 2, none⟩ = some (.slice a2 s.que.length c2) ∧ W'.cell? ⟨b, 3, none⟩ = some (.slice (some ⟨g, 0, none⟩) s.frm.length c3) ∧ W'.cell? ⟨b, 4, none⟩ = some (.int .u16 (s.flg : Int)))) := fun W' hW => (h.up hW).cells
    have hrow : W.drew.ownsRow B 42 2 (.slice (some ⟨g, 0, none⟩) (s.frm.length - 1) c3) (s.frm.take (s.frm.length - 1)).length (fC (s.frm.take (s.frm.length - 1))) := by
      rw [fC_take, List.length_take, Nat.min_eq_left (by omega)]
      exact row_take h.drew.own.f (by omega)
    obtain ⟨hn, hb⟩ := HN.out.drew.put (t := { s with frm := s.frm.take (s.frm.length - 1) }) 3 (.slice (some ⟨g, 0, none⟩) (s.frm.length - 1) c3) rfl ⟨HN.out.drew.own.i, HN.out.drew.own.q, hrow⟩
    have HR : Hid (Nx B (W.drew.setCell ⟨b, 3, none⟩ (.slice (some ⟨g, 0, none⟩) (s.frm.length - 1) c3)) b (.slice a1 s.ind.length c1) (.slice a2 s.que.length c2) (.slice (some ⟨g, 0, none⟩) (s.frm.length - 1) c3) { s with frm := s.frm.take (s.frm.length - 1) } ∧ Below B W (W.drew.setCell ⟨b, 3, none⟩ (.slice (some ⟨g, 0, none⟩) (s.frm.length - 1) c3))) := ⟨hn, (Below.drew (Below.refl B W)).trans hb⟩
    have kw := HN.out.drew.cells.2.2.2.1
    have kf := HN.out.drew.frz 3
    have HBN : Hid (b < W.heap.size) := lt_of_heap HN.out.blk
    clear h hl c0 hgf hg1 hg2 hg3 hrow hn hb
    go_enter Try.func38, Try.ntmps38
    go_upto_region 3 with fail
    go_region
    go_wp2_with fail
    go_ret
    exact ⟨HR.out.2, .inl ⟨_, _, _, _, HE.out, rfl, HR.out.1⟩⟩
end Go.Proofs.Ytkaciochlemjiab
