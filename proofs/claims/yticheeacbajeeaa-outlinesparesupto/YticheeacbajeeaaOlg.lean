import Derived.Test.YticheeacbajeeaaOsy
import Derived.Deep.MidRow
namespace Go.Proofs.Yticheeacbajeeaa
open Go.RowKit Go.Maps

def lgO (v u : Value) : Array Value := #[.string ⟨#[]⟩, .slice none 0 0, .slice none 0 0, .slice none 0 0, .slice none 0 0, .slice none 0 0, .slice none 0 0, .slice none 0 0, .slice none 0 0, v, u, .slice none 0 0]
theorem lgO_one (a b : Option Addr) (n c m d : Nat) : (lgO (.slice a n c) (.slice b m d)).all (·.oneCell') = true := by simp [lgO, Value.oneCell']
theorem bel_cells {B b : Nat} {w : World} (hb : B ≤ b) : ∀ (vs : List Value) (o : Nat) (W : World), Below B w W → Below B w (W.setCells b o vs)
  | [], _, _, h => h
  | v :: vs, o, _, h => bel_cells hb vs (o + 1) _ (Below.setCell h hb v)
theorem row_cells {B b : Nat} {e : TypeId} {size n : Nat} {v : Value} {xs : List Value} (hne : v.ownBlock ≠ some b) : ∀ (vs : List Value) (o : Nat) (W : World), W.ownsRow B e size v n xs → (W.setCells b o vs).ownsRow B e size v n xs
  | [], _, _, h => h
  | _ :: vs, o, _, h => row_cells hne vs (o + 1) _ (h.kept grown_set (.inr hne))
theorem cells_far {b : Nat} {a : Addr} {u : Value} (hne : a.block ≠ b) : ∀ (vs : List Value) (o : Nat) (W : World), W.cell? a = some u → (W.setCells b o vs).cell? a = some u
  | [], _, _, h => h
  | v :: vs, o, W, h => cells_far hne vs (o + 1) _ ((grown_set (W := W) (b := b) (k := o) (v := v)).cell h (fun e => hne (by injection e)))
theorem lgSize : (Try.prog.info? 45).map (·.size) = some 12 := by kernel_rfl
/-- Texts in memory. -/
def sf (x : ByteArray) : List Value := [.string x]
theorem sf_len (x : ByteArray) : (sf x).length = 1 := rfl
theorem sf_one (x : ByteArray) : ∀ u ∈ sf x, u.oneCell' = true := fun u hu => by
  simp only [sf, List.mem_cons, List.not_mem_nil, or_false] at hu
  subst hu; rfl
def Ss (W : World) (v : Value) (l : List ByteArray) : Prop := Rw W v l.length (flat sf l)
theorem Ss.up {W W' : World} {v : Value} {l : List ByteArray} (h : Ss W v l) (hb : Below W.heap.size W W') : Ss W' v l := Rw.up h hb
theorem Ss.form {W : World} {v : Value} {l : List ByteArray} (h : Ss W v l) : ∃ a cap, v = .slice a l.length cap := Rw.form h
theorem infoSt : (Try.prog.info? 9).map (fun i => (i.zero, i.size, i.bytes)) = some (some (.string ⟨#[]⟩), 1, 16) := by kernel_rfl
/-- A row that is there is appended to a row of the call's own: the run. -/
theorem run_rows {P : Program} (w : World) (t ty : TypeId) (base : Nat) (e : TypeId) (i : TypeInfo) (z : Value) (size bytes : Nat) (ht : P.underlying t = some (.slice e)) (hi : P.info? e = some i) (hz : i.zero = some z)
    (hsize : i.size = size) (hby : i.bytes = bytes) (hzs : z.cells.size = size) (hsz : 0 < size)
    (v : Value) (n : Nat) (xs : List Value) (hown : w.ownsRow base e size v n xs) (x : Value) (m : Nat) (cs : List Value) (hr : Rw w x m cs) (hl : cs.length = m * size) (h1 : ∀ u ∈ cs, u.oneCell' = true)
    (h63 : n + m ≤ maxLen) (hbytes : (n + m) * bytes ≤ 140737488355328) (hbase : base ≤ w.heap.size) :
    ∃ v' w', (Builtin.append_ #[t, t] ty #[v, x]).run P w = .ok v' w' ∧ w'.ownsRow base e size v' (n + m) (xs ++ cs) ∧ w.grownBy w' v.ownBlock ∧ (v'.ownBlock = v.ownBlock ∨ v'.ownBlock = some w.heap.size) := by
  obtain ⟨ao, g, of, cap, rfl, hcap, ha0, ha1, hc⟩ := hr
  cases ao with
  | none =>
    obtain ⟨rfl, rfl⟩ := ha0 rfl
    have : cs = [] := List.length_eq_zero_iff.1 (by omega)
    subst this
    exact ⟨v, w, run_append_owned_none (P := P) (w := w) base t ty e i size ht hi v n xs hown, by rw [List.append_nil]; exact hown, World.grownBy.refl _ _, .inl rfl⟩
  | some ad =>
    obtain ⟨v', w', hr, h2, h3, h4, h5⟩ := run_append_own_at (P := P) w base t ty e i z size bytes ht hi hz hsize hby hzs hsz v n xs hown ad m cap cs hl (fun j u hu => by
      have hj : j < cs.length := (List.getElem?_eq_some_iff.1 hu).1
      have hm : 0 < m := by
        rcases Nat.eq_zero_or_pos m with h | h
        · subst h; omega
        · exact h
      obtain rfl := Option.some.inj (ha1 hm)
      rw [addPl]
      exact hc j u hu) h1 h63 hbytes hbase
    exact ⟨v', w', hr, h2, h3, h5⟩
theorem step_rows {P : Program} {ops : Array Oper} {o : Oper} {a : Act} {K : Act → World → Prop} {Q : Exit → Act → World → Prop} {E : Prop} (w : World) (hgd : o.guard = none) (s x : Operand) (t : TypeId)
    (ho : o.op = .call { callee := .builtin .append, args := #[s, x], argTypes := #[t, t] })
    (base : Nat) (e : TypeId) (i : TypeInfo) (z : Value) (size bytes : Nat) (ht : P.underlying t = some (.slice e)) (hi : P.info? e = some i) (hz : i.zero = some z)
    (hsize : i.size = size) (hby : i.bytes = bytes) (hzs : z.cells.size = size) (hsz : 0 < size)
    (v : Value) (n : Nat) (xs : List Value) (hs : a.eval s = v) (hown : w.ownsRow base e size v n xs) (u : Value) (m : Nat) (cs : List Value) (hx : a.eval x = u) (hr : Rw w u m cs) (hl : cs.length = m * size) (h1 : ∀ u ∈ cs, u.oneCell' = true)
    (h63 : n + m ≤ maxLen) (hbytes : (n + m) * bytes ≤ 140737488355328) (hbase : base ≤ w.heap.size)
    (h : ∀ v' w', w'.ownsRow base e size v' (n + m) (xs ++ cs) → w.grownBy w' v.ownBlock → (v'.ownBlock = v.ownBlock ∨ v'.ownBlock = some w.heap.size) → K (a.put o.dst v') w') :
    if Region.wanted o (yielded ops a.tmps) = true then Oper.wp P o a w K Q else E := by
  have hw : Region.wanted o (yielded ops a.tmps) = true := by simp [Region.wanted, hgd]
  rw [if_pos hw]
  obtain ⟨v', w', hr', h2, h3, h4⟩ := run_rows (P := P) w t o.type base e i z size bytes ht hi hz hsize hby hzs hsz v n xs hown u m cs hr hl h1 h63 hbytes hbase
  exact Lib.wp_append_run w s x t t ho v u hs hx v' w' hr' (h v' w' h2 h3 h4)
theorem wpList_rows {P : Program} (w : World) {ops : Array Oper} {rest : List Oper} {o : Oper} {a : Act} {Q : Exit → Act → World → Prop} (hgd : o.guard = none) (s x : Operand) (t : TypeId)
    (ho : o.op = .call { callee := .builtin .append, args := #[s, x], argTypes := #[t, t] })
    (base : Nat) (e : TypeId) (i : TypeInfo) (z : Value) (size bytes : Nat) (ht : P.underlying t = some (.slice e)) (hi : P.info? e = some i) (hz : i.zero = some z)
    (hsize : i.size = size) (hby : i.bytes = bytes) (hzs : z.cells.size = size) (hsz : 0 < size)
    (v : Value) (n : Nat) (xs : List Value) (hs : a.eval s = v) (hown : w.ownsRow base e size v n xs) (u : Value) (m : Nat) (cs : List Value) (hx : a.eval x = u) (hr : Rw w u m cs) (hl : cs.length = m * size) (h1 : ∀ u ∈ cs, u.oneCell' = true)
    (h63 : n + m ≤ maxLen) (hbytes : (n + m) * bytes ≤ 140737488355328) (hbase : base ≤ w.heap.size)
    (h : ∀ v' w', w'.ownsRow base e size v' (n + m) (xs ++ cs) → w.grownBy w' v.ownBlock → (v'.ownBlock = v.ownBlock ∨ v'.ownBlock = some w.heap.size) → wpList P ops Q rest (a.put o.dst v') w') : wpList P ops Q (o :: rest) a w := by
  obtain ⟨v', w', hr', h2, h3, h4⟩ := run_rows (P := P) w t o.type base e i z size bytes ht hi hz hsize hby hzs hsz v n xs hown u m cs hr hl h1 h63 hbytes hbase
  exact Lib.wpList_append_run w hgd s x t t ho v u hs hx v' w' hr' (h v' w' h2 h3 h4)
theorem step_store_mid {P : Program} {ops : Array Oper} {o : Oper} {a : Act} {w : World} {K : Act → World → Prop} {Q : Exit → Act → World → Prop} {E : Prop} (hgd : o.guard = none) (ty : TypeId) (x y : Operand) (ho : o.op = .store ty x y)
    (b of : Nat) (cells : Array Value) (hx : a.eval x = .pointer (some ⟨b, of, none⟩)) (hy : a.eval y = .agg cells)
    (ht : w.there b of cells.size) (hi : (P.info? ty).map (·.size) = some cells.size) (h1 : cells.all (·.oneCell') = true)
    (h : K (a.put o.dst undef) (w.setCells b of cells.toList)) : if Region.wanted o (yielded ops a.tmps) = true then Oper.wp P o a w K Q else E := by
  have hw : Region.wanted o (yielded ops a.tmps) = true := by simp [Region.wanted, hgd]
  rw [if_pos hw]
  exact wp_store_mid ty x y ho b of cells hx hy ht hi h1 h
theorem own_empty (W : World) {B : Nat} (hb : B ≤ W.heap.size) (e : TypeId) (size : Nat) : (W.alloc (.cells #[] e)).ownsRow B e size (.slice (some ⟨W.heap.size, 0, none⟩) 0 0) 0 [] := World.ownsRow_lit W #[] 0 hb (by decide) (by simp)
set_option maxRecDepth 100000 in
set_option maxHeartbeats 8000000 in
theorem lang_any {va vb : Value} {F : List ByteArray} {M : List Pa} (w : World) (hF : Ss w va F) (hM : Pl w vb M) (hs : F.length * 16 ≤ 140737488355328) (hs2 : M.length * 32 ≤ 140737488355328) : Calls Try.prog 10 #[.agg #[va, vb]] w fun e w' => ∃ v' u', e = .returned (.agg (lgO v' u')) ∧ Ss w' v' F ∧ Pl w' u' M ∧ Below w.heap.size w w' := by
  obtain ⟨iS, hiS, hx0, hx1, hx2⟩ := info_parts infoSt
  obtain ⟨iP, hiP, hy0, hy1, hy2⟩ := info_parts infoPa
  obtain ⟨fa, fc, hfv⟩ := hF.form
  obtain ⟨pa, pc, hpv⟩ := hM.form
  have HF0 : Hid (Rw w va F.length (flat sf F)) := hF
  have HM0 : Hid (Rw w vb M.length (flat paf M)) := hM
  have HLN : Hid ((flat sf F).length = F.length * 1 ∧ (flat paf M).length = M.length * 2) := ⟨flat_len sf_len F, flat_len paf_len M⟩
  have HON : Hid ((∀ u ∈ flat sf F, u.oneCell' = true) ∧ (∀ u ∈ flat paf M, u.oneCell' = true)) := ⟨flat_one sf_one F, flat_one paf_one M⟩
  obtain ⟨nf, hnf⟩ : ∃ nf, F.length = nf := ⟨_, rfl⟩
  obtain ⟨nm, hnm⟩ : ∃ nm, M.length = nm := ⟨_, rfl⟩
  obtain ⟨cf, hcf⟩ : ∃ cf, flat sf F = cf := ⟨_, rfl⟩
  obtain ⟨cm, hcm⟩ : ∃ cm, flat paf M = cm := ⟨_, rfl⟩
  rw [hcf, hnf] at HF0
  rw [hcm, hnm] at HM0
  rw [hcf, hcm, hnf, hnm] at HLN
  rw [hcf, hcm] at HON
  rw [hnf] at hfv
  rw [hnm] at hpv
  subst hfv hpv
  have HZ : Hid (nf * 16 ≤ 140737488355328 ∧ nm * 32 ≤ 140737488355328 ∧ nf ≤ maxLen ∧ nm ≤ maxLen) := by rw [hnf] at hs; rw [hnm] at hs2; show _ ∧ _; unfold maxLen; omega
  have HX : Hid (F.length = nf ∧ flat sf F = cf ∧ M.length = nm ∧ flat paf M = cm) := ⟨hnf, hcf, hnm, hcm⟩
  clear hF hM hs hs2 hnf hnm hcf hcm
  obtain ⟨wl, hwl⟩ : ∃ wl, wl = w.alloc (.cells #[.slice fa nf fc, .slice pa nm pc] 25) := ⟨_, rfl⟩
  obtain ⟨wA, hwA⟩ : ∃ wA, wA = wl.alloc (.cells (lgO (.slice none 0 0) (.slice none 0 0)) 45) := ⟨_, rfl⟩
  have hbl : Below w.heap.size w wl := by rw [hwl]; exact bel_up _ _
  have hblA : Below wl.heap.size wl wA := by rw [hwA]; exact bel_up _ _
  have HBA : Hid (Below w.heap.size w wA) := below_trans hbl hblA
  have h1 : wl.heap[w.heap.size]? = some (.cells #[.slice fa nf fc, .slice pa nm pc] 25 (0, 0)) := by rw [hwl]; exact heap_new w _
  have HLB : Hid (wA.heap[w.heap.size]? = some (.cells #[.slice fa nf fc, .slice pa nm pc] 25 (0, 0))) := (hblA.block _ (lt_of_heap h1)).trans h1
  have HGB : Hid (wA.heap[wl.heap.size]? = some (.cells (lgO (.slice none 0 0) (.slice none 0 0)) 45 (0, 0))) := by rw [hwA]; exact heap_new wl _
  have hsz : wl.heap.size = w.heap.size + 1 := by rw [hwl]; simp
  have HWA : Hid (w.heap.size + 2 = wA.heap.size) := by show _ = _; rw [hwA]; simp [hsz]
  obtain ⟨b1, hb1⟩ : ∃ b1, w.heap.size = b1 := ⟨_, rfl⟩
  obtain ⟨b2, hb2⟩ : ∃ b2, b1 + 1 = b2 := ⟨_, rfl⟩
  have HB12 : Hid (w.heap.size = b1 ∧ b1 + 1 = b2 ∧ b2 < wA.heap.size ∧ b1 ≠ b2) := ⟨hb1, hb2, by have := HWA.out; omega, by omega⟩
  rw [hsz, hb1, hb2] at HGB
  rw [hb1] at HLB
  have HSL : Hid (∀ W, Below wA.heap.size wA W → W.cell? ⟨b1, 0, none⟩ = some (.slice fa nf fc) ∧ W.cell? ⟨b1, 1, none⟩ = some (.slice pa nm pc)) := fun W hW => ⟨below_cell hW (rcell HLB.out 0 _ rfl), below_cell hW (rcell HLB.out 1 _ rfl)⟩
  have HFA : Hid (∀ W, Below wA.heap.size wA W → Rw W (.slice fa nf fc) nf cf ∧ Rw W (.slice pa nm pc) nm cm) := fun W hW => ⟨HF0.out.up (below_trans HBA.out hW), HM0.out.up (below_trans HBA.out hW)⟩
  unfold lgO at hwA
  clear hbl hblA h1
  go_enter Try.func10, Try.ntmps10
  go_upto_region 1 with fail
  rw [← hwl, ← hwA]
  try rw [hsz]
  try rw [hb1]
  try rw [hb2]
  clear hwl hwA hsz hb1 hb2
  refine wp_region_noPanic ?_
  refine wp_region_held_drew (S := fun W => W.cell? ⟨b1, 0, none⟩ = some (.slice fa nf fc) ∧ W.cell? ⟨b1, 1, none⟩ = some (.slice pa nm pc)) (by kernel_rfl) (HSL.out wA (Below.refl _ _)) (fun hHeld => ?_)
  obtain ⟨w0, hw0⟩ : ∃ w0, wA.drew = w0 := ⟨_, rfl⟩
  have HB0 : Hid (Below wA.heap.size wA w0) := by rw [← hw0]; exact Below.drew (Below.refl _ _)
  rw [hw0] at hHeld ⊢
  clear hw0
  refine wpAnyH_take (i := 1) (oi := { dst := _, op := _, type := _, pos := _, after := _, guard := _ }) (v := ?_) rfl (by kernel_rfl) (by kernel_rfl) (by kernel_rfl) (fun _ _ _ h => h) (Or.inl ⟨by rfl, ?_⟩) (by assumption) ?_
  rotate_left
  · intro W hSw
    (try dsimp only at hSw)
    go_simp
    (try with_reducible rfl)
  try simp only [Act.put, List.setIfInBounds_toArray, List.set_cons_zero, List.set_cons_succ]
  refine wpAnyH_take (i := 2) (oi := { dst := _, op := _, type := _, pos := _, after := _, guard := _ }) (v := ?_) rfl (by kernel_rfl) (by kernel_rfl) (by kernel_rfl) (fun _ _ _ h => h) (Or.inl ⟨by rfl, ?_⟩) (by assumption) ?_
  rotate_left
  · intro W hSw
    (try dsimp only at hSw)
    obtain ⟨s0, s1⟩ := hSw
    go_simp
    (try with_reducible rfl)
  try simp only [Act.put, List.setIfInBounds_toArray, List.set_cons_zero, List.set_cons_succ]
  refine wpAnyH_take (i := 5) (oi := { dst := _, op := _, type := _, pos := _, after := _, guard := _ }) (v := ?_) rfl (by kernel_rfl) (by kernel_rfl) (by kernel_rfl) (fun _ _ _ h => h) (Or.inl ⟨by rfl, ?_⟩) (by assumption) ?_
  rotate_left
  · intro W hSw
    (try dsimp only at hSw)
    go_simp
    (try with_reducible rfl)
  try simp only [Act.put, List.setIfInBounds_toArray, List.set_cons_zero, List.set_cons_succ]
  refine wpAnyH_take (i := 6) (oi := { dst := _, op := _, type := _, pos := _, after := _, guard := _ }) (v := ?_) rfl (by kernel_rfl) (by kernel_rfl) (by kernel_rfl) (fun _ _ _ h => h) (Or.inl ⟨by rfl, ?_⟩) (by assumption) ?_
  rotate_left
  · intro W hSw
    (try dsimp only at hSw)
    obtain ⟨s0, s1⟩ := hSw
    go_simp
    (try with_reducible rfl)
  try simp only [Act.put, List.setIfInBounds_toArray, List.set_cons_zero, List.set_cons_succ]
  refine wpAnyH_ready (rs := [0, 4]) (by kernel_rfl) (by simp) ?_
  refine AllReadyH.cons (o := { dst := _, op := _, type := _, pos := _, after := _, guard := _ }) rfl (fun K hK => ?_) (AllReadyH.cons (o := { dst := _, op := _, type := _, pos := _, after := _, guard := _ }) rfl (fun K hK => ?_) (AllReadyH.nil))
  · go_simp
    refine hK.out _ _ ?_ (fun hHeld => ?_)
    · exact ⟨below_cell (bel_up _ _) hHeld.1, below_cell (bel_up _ _) hHeld.2⟩
    clear hK K
    try simp only [Act.put, List.setIfInBounds_toArray, List.set_cons_zero, List.set_cons_succ]
    obtain ⟨w1, hw1⟩ : ∃ w1, w0.alloc (.cells #[] 9) = w1 := ⟨_, rfl⟩
    obtain ⟨bf, hbf⟩ : ∃ bf, w0.heap.size = bf := ⟨_, rfl⟩
    have HOF : Hid (w1.ownsRow wA.heap.size 9 1 (.slice (some ⟨bf, 0, none⟩) 0 0) 0 []) := (by rw [← hw1, ← hbf]; exact own_empty w0 HB0.out.size _ _)
    have HB1 : Hid (Below wA.heap.size wA w1) := (by rw [← hw1]; exact below_trans HB0.out (bel_up _ _))
    rw [hw1] at hHeld ⊢
    rw [hbf]
    clear hw1 hbf
    refine wpAnyH_ready (rs := [3, 4]) (by kernel_rfl) (by simp) ?_
    refine AllReadyH.cons (o := { dst := _, op := _, type := _, pos := _, after := _, guard := _ }) rfl (fun K hK => ?_) (AllReadyH.cons (o := { dst := _, op := _, type := _, pos := _, after := _, guard := _ }) rfl (fun K hK => ?_) (AllReadyH.nil))
    · refine step_rows w1 rfl (.tmp 3) (.tmp 5) 22 rfl wA.heap.size 9 iS (.string ⟨#[]⟩) 1 16 Try.underlying22 hiS hx0 hx1 hx2 rfl (by decide) (.slice (some ⟨bf, 0, none⟩) 0 0) 0 [] rfl HOF.out (.slice fa nf fc) nf cf rfl (HFA.out _ HB1.out).1 HLN.out.1 HON.out.1 (by have := HZ.out; omega) (by have := HZ.out; omega) HB1.out.size ?_
      intro fv w2 ho hg _
      rw [Nat.zero_add, List.nil_append] at ho
      obtain ⟨fva, fvc, hfv⟩ := row_shape ho
      subst hfv
      have HB2 : Hid (Below wA.heap.size wA w2) := HB1.out.grown hg HB1.out.size (fun r hr => (row_tag HOF.out r hr).1)
      have HOF : Hid (w2.ownsRow wA.heap.size 9 1 (.slice fva nf fvc) nf cf) := ho
      clear ho hg
      refine hK.out _ _ ?_ (fun hHeld => ?_)
      · exact HSL.out w2 HB2.out
      clear hK K
      try simp only [Act.put, List.setIfInBounds_toArray, List.set_cons_zero, List.set_cons_succ]
      refine wpAnyH_ready (rs := [4]) (by kernel_rfl) (by simp) ?_
      refine AllReadyH.cons (o := { dst := _, op := _, type := _, pos := _, after := _, guard := _ }) rfl (fun K hK => ?_) (AllReadyH.nil)
      go_simp
      refine hK.out _ _ ?_ (fun hHeld => ?_)
      · exact ⟨below_cell (bel_up _ _) hHeld.1, below_cell (bel_up _ _) hHeld.2⟩
      clear hK K
      try simp only [Act.put, List.setIfInBounds_toArray, List.set_cons_zero, List.set_cons_succ]
      obtain ⟨w3, hw3⟩ : ∃ w3, w2.alloc (.cells #[] 74) = w3 := ⟨_, rfl⟩
      obtain ⟨bm, hbm⟩ : ∃ bm, w2.heap.size = bm := ⟨_, rfl⟩
      have HOM : Hid (w3.ownsRow wA.heap.size 74 2 (.slice (some ⟨bm, 0, none⟩) 0 0) 0 []) := (by rw [← hw3, ← hbm]; exact own_empty w2 HB2.out.size _ _)
      have HB3 : Hid (Below wA.heap.size wA w3) := (by rw [← hw3]; exact below_trans HB2.out (bel_up _ _))
      have HOF : Hid (w3.ownsRow wA.heap.size 9 1 (.slice fva nf fvc) nf cf) := (by rw [← hw3]; exact HOF.out.alloc _)
      rw [hw3] at hHeld ⊢
      rw [hbm]
      clear hw3 hbm
      refine wpAnyH_ready (rs := [7]) (by kernel_rfl) (by simp) ?_
      refine AllReadyH.cons (o := { dst := _, op := _, type := _, pos := _, after := _, guard := _ }) rfl (fun K hK => ?_) (AllReadyH.nil)
      refine step_rows w3 rfl (.tmp 7) (.tmp 9) 23 rfl wA.heap.size 74 iP (.agg #[.string ⟨#[]⟩, .string ⟨#[]⟩]) 2 32 Try.underlying23 hiP hy0 hy1 hy2 rfl (by decide) (.slice (some ⟨bm, 0, none⟩) 0 0) 0 [] rfl HOM.out (.slice pa nm pc) nm cm rfl (HFA.out _ HB3.out).2 HLN.out.2 HON.out.2 (by have := HZ.out; omega) (by have := HZ.out; omega) HB3.out.size ?_
      intro mv w4 ho hg _
      rw [Nat.zero_add, List.nil_append] at ho
      obtain ⟨mva, mvc, hmv⟩ := row_shape ho
      subst hmv
      have HB4 : Hid (Below wA.heap.size wA w4) := HB3.out.grown hg HB3.out.size (fun r hr => (row_tag HOM.out r hr).1)
      have HOF : Hid (w4.ownsRow wA.heap.size 9 1 (.slice fva nf fvc) nf cf) := HOF.out.kept hg (tag_ne HOF.out HOM.out (by decide))
      have HOM : Hid (w4.ownsRow wA.heap.size 74 2 (.slice mva nm mvc) nm cm) := ho
      clear ho hg
      refine hK.out _ _ ?_ (fun hHeld => ?_)
      · exact HSL.out w4 HB4.out
      clear hK K
      try simp only [Act.put, List.setIfInBounds_toArray, List.set_cons_zero, List.set_cons_succ]
      refine wpAnyH_take (i := 8) (oi := { dst := _, op := _, type := _, pos := _, after := _, guard := _ }) (v := ?_) rfl (by kernel_rfl) (by kernel_rfl) (by kernel_rfl) (fun _ _ _ h => h) (Or.inl ⟨by rfl, ?_⟩) (by assumption) ?_
      rotate_left
      · intro W hSw
        (try dsimp only at hSw)
        go_simp
        (try with_reducible rfl)
      try simp only [Act.put, List.setIfInBounds_toArray, List.set_cons_zero, List.set_cons_succ]
      refine wpAnyH_ready (rs := [9]) (by kernel_rfl) (by simp) ?_
      refine AllReadyH.cons (o := { dst := _, op := _, type := _, pos := _, after := _, guard := _ }) rfl (fun K hK => ?_) AllReadyH.nil
      have HTH : Hid (w4.there b2 0 12) := (by have hh : w4.heap[b2]? = some (.cells (lgO (.slice none 0 0) (.slice none 0 0)) 45 (0, 0)) := (HB4.out.block _ (lt_of_heap HGB.out)).trans HGB.out; exact fun j hj => ⟨by rw [Nat.zero_add, Lib.cell_of_heap hh]; simp [lgO, hj], Lib.frozen_of_heap hh _⟩)
      refine step_store_mid rfl 45 (.tmp 2) (.tmp 11) rfl b2 0 (lgO (.slice fva nf fvc) (.slice mva nm mvc)) rfl rfl HTH.out lgSize (lgO_one _ _ _ _ _ _) ?_
      obtain ⟨wz, hwz⟩ : ∃ wz, w4.setCells b2 0 (lgO (.slice fva nf fvc) (.slice mva nm mvc)).toList = wz := ⟨_, rfl⟩
      rw [hwz]
      have HBZ : Hid (Below w.heap.size w wz) := (by rw [← hwz]; exact bel_cells (by have := HB12.out; omega) _ _ _ (below_trans HBA.out HB4.out))
      have HRZ : Hid (wz.rangeAt b2 0 (lgO (.slice fva nf fvc) (.slice mva nm mvc)).toList) := (by rw [← hwz]; exact World.rangeAt_setCells_same _ _ _ _ HTH.out)
      have HFZ : Hid (Ss wz (.slice fva nf fvc) F) := (by show Rw _ _ _ _; rw [HX.out.1, HX.out.2.1, ← hwz]; exact row_rw (row_cells (fun e9 => by have h8 := (row_tag HOF.out _ e9).1; have := HB12.out; omega) _ _ _ HOF.out) (by decide))
      have HMZ : Hid (Pl wz (.slice mva nm mvc) M) := (by show Rw _ _ _ _; rw [HX.out.2.2.1, HX.out.2.2.2, ← hwz]; exact row_rw (row_cells (fun e9 => by have h8 := (row_tag HOM.out _ e9).1; have := HB12.out; omega) _ _ _ HOM.out) (by decide))
      have HSZ : Hid (wz.cell? ⟨b1, 0, none⟩ = some (.slice fa nf fc) ∧ wz.cell? ⟨b1, 1, none⟩ = some (.slice pa nm pc)) := (by rw [← hwz]; exact ⟨cells_far HB12.out.2.2.2 _ _ _ hHeld.1, cells_far HB12.out.2.2.2 _ _ _ hHeld.2⟩)
      clear hwz
      refine hK.out _ _ ?_ (fun hHeld => ?_)
      · exact HSZ.out
      clear hK K
      try simp only [Act.put]
      refine wpAnyH_done (by kernel_rfl) ?_ _
      clear hHeld
      refine NoPanic.normal ?_
      go_wp2_with fail
      refine bodyPost_ret (v := .agg (lgO (.slice fva nf fvc) (.slice mva nm mvc))) ((results_cell1 (fn := Try.f10) Try.results10 _ _ _).trans ?_) rfl ⟨_, _, rfl, HFZ.out, HMZ.out, HBZ.out⟩
      exact run_loadVar_mid (P := Try.prog) wz b2 0 45 _ _ HRZ.out Try.underlying45 rfl lgSize
    · go_simp
      refine hK.out _ _ ?_ (fun hHeld => ?_)
      · exact ⟨below_cell (bel_up _ _) hHeld.1, below_cell (bel_up _ _) hHeld.2⟩
      clear hK K
      try simp only [Act.put, List.setIfInBounds_toArray, List.set_cons_zero, List.set_cons_succ]
      obtain ⟨w5, hw5⟩ : ∃ w5, w1.alloc (.cells #[] 74) = w5 := ⟨_, rfl⟩
      obtain ⟨bm, hbm⟩ : ∃ bm, w1.heap.size = bm := ⟨_, rfl⟩
      have HOM : Hid (w5.ownsRow wA.heap.size 74 2 (.slice (some ⟨bm, 0, none⟩) 0 0) 0 []) := (by rw [← hw5, ← hbm]; exact own_empty w1 HB1.out.size _ _)
      have HB5 : Hid (Below wA.heap.size wA w5) := (by rw [← hw5]; exact below_trans HB1.out (bel_up _ _))
      have HOF : Hid (w5.ownsRow wA.heap.size 9 1 (.slice (some ⟨bf, 0, none⟩) 0 0) 0 []) := (by rw [← hw5]; exact HOF.out.alloc _)
      rw [hw5] at hHeld ⊢
      rw [hbm]
      clear hw5 hbm
      refine wpAnyH_ready (rs := [3]) (by kernel_rfl) (by simp) ?_
      refine AllReadyH.cons (o := { dst := _, op := _, type := _, pos := _, after := _, guard := _ }) rfl (fun K hK => ?_) (AllReadyH.nil)
      refine step_rows w5 rfl (.tmp 3) (.tmp 5) 22 rfl wA.heap.size 9 iS (.string ⟨#[]⟩) 1 16 Try.underlying22 hiS hx0 hx1 hx2 rfl (by decide) (.slice (some ⟨bf, 0, none⟩) 0 0) 0 [] rfl HOF.out (.slice fa nf fc) nf cf rfl (HFA.out _ HB5.out).1 HLN.out.1 HON.out.1 (by have := HZ.out; omega) (by have := HZ.out; omega) HB5.out.size ?_
      intro fv w6 ho hg _
      rw [Nat.zero_add, List.nil_append] at ho
      obtain ⟨fva, fvc, hfv⟩ := row_shape ho
      subst hfv
      have HB6 : Hid (Below wA.heap.size wA w6) := HB5.out.grown hg HB5.out.size (fun r hr => (row_tag HOF.out r hr).1)
      have HOM : Hid (w6.ownsRow wA.heap.size 74 2 (.slice (some ⟨bm, 0, none⟩) 0 0) 0 []) := HOM.out.kept hg (tag_ne HOM.out HOF.out (by decide))
      have HOF : Hid (w6.ownsRow wA.heap.size 9 1 (.slice fva nf fvc) nf cf) := ho
      clear ho hg
      refine hK.out _ _ ?_ (fun hHeld => ?_)
      · exact HSL.out w6 HB6.out
      clear hK K
      try simp only [Act.put, List.setIfInBounds_toArray, List.set_cons_zero, List.set_cons_succ]
      refine wpAnyH_ready (rs := [7]) (by kernel_rfl) (by simp) ?_
      refine AllReadyH.cons (o := { dst := _, op := _, type := _, pos := _, after := _, guard := _ }) rfl (fun K hK => ?_) (AllReadyH.nil)
      refine step_rows w6 rfl (.tmp 7) (.tmp 9) 23 rfl wA.heap.size 74 iP (.agg #[.string ⟨#[]⟩, .string ⟨#[]⟩]) 2 32 Try.underlying23 hiP hy0 hy1 hy2 rfl (by decide) (.slice (some ⟨bm, 0, none⟩) 0 0) 0 [] rfl HOM.out (.slice pa nm pc) nm cm rfl (HFA.out _ HB6.out).2 HLN.out.2 HON.out.2 (by have := HZ.out; omega) (by have := HZ.out; omega) HB6.out.size ?_
      intro mv w7 ho hg _
      rw [Nat.zero_add, List.nil_append] at ho
      obtain ⟨mva, mvc, hmv⟩ := row_shape ho
      subst hmv
      have HB7 : Hid (Below wA.heap.size wA w7) := HB6.out.grown hg HB6.out.size (fun r hr => (row_tag HOM.out r hr).1)
      have HOF : Hid (w7.ownsRow wA.heap.size 9 1 (.slice fva nf fvc) nf cf) := HOF.out.kept hg (tag_ne HOF.out HOM.out (by decide))
      have HOM : Hid (w7.ownsRow wA.heap.size 74 2 (.slice mva nm mvc) nm cm) := ho
      clear ho hg
      refine hK.out _ _ ?_ (fun hHeld => ?_)
      · exact HSL.out w7 HB7.out
      clear hK K
      try simp only [Act.put, List.setIfInBounds_toArray, List.set_cons_zero, List.set_cons_succ]
      refine wpAnyH_take (i := 8) (oi := { dst := _, op := _, type := _, pos := _, after := _, guard := _ }) (v := ?_) rfl (by kernel_rfl) (by kernel_rfl) (by kernel_rfl) (fun _ _ _ h => h) (Or.inl ⟨by rfl, ?_⟩) (by assumption) ?_
      rotate_left
      · intro W hSw
        (try dsimp only at hSw)
        go_simp
        (try with_reducible rfl)
      try simp only [Act.put, List.setIfInBounds_toArray, List.set_cons_zero, List.set_cons_succ]
      refine wpAnyH_ready (rs := [9]) (by kernel_rfl) (by simp) ?_
      refine AllReadyH.cons (o := { dst := _, op := _, type := _, pos := _, after := _, guard := _ }) rfl (fun K hK => ?_) AllReadyH.nil
      have HTH : Hid (w7.there b2 0 12) := (by have hh : w7.heap[b2]? = some (.cells (lgO (.slice none 0 0) (.slice none 0 0)) 45 (0, 0)) := (HB7.out.block _ (lt_of_heap HGB.out)).trans HGB.out; exact fun j hj => ⟨by rw [Nat.zero_add, Lib.cell_of_heap hh]; simp [lgO, hj], Lib.frozen_of_heap hh _⟩)
      refine step_store_mid rfl 45 (.tmp 2) (.tmp 11) rfl b2 0 (lgO (.slice fva nf fvc) (.slice mva nm mvc)) rfl rfl HTH.out lgSize (lgO_one _ _ _ _ _ _) ?_
      obtain ⟨wz, hwz⟩ : ∃ wz, w7.setCells b2 0 (lgO (.slice fva nf fvc) (.slice mva nm mvc)).toList = wz := ⟨_, rfl⟩
      rw [hwz]
      have HBZ : Hid (Below w.heap.size w wz) := (by rw [← hwz]; exact bel_cells (by have := HB12.out; omega) _ _ _ (below_trans HBA.out HB7.out))
      have HRZ : Hid (wz.rangeAt b2 0 (lgO (.slice fva nf fvc) (.slice mva nm mvc)).toList) := (by rw [← hwz]; exact World.rangeAt_setCells_same _ _ _ _ HTH.out)
      have HFZ : Hid (Ss wz (.slice fva nf fvc) F) := (by show Rw _ _ _ _; rw [HX.out.1, HX.out.2.1, ← hwz]; exact row_rw (row_cells (fun e9 => by have h8 := (row_tag HOF.out _ e9).1; have := HB12.out; omega) _ _ _ HOF.out) (by decide))
      have HMZ : Hid (Pl wz (.slice mva nm mvc) M) := (by show Rw _ _ _ _; rw [HX.out.2.2.1, HX.out.2.2.2, ← hwz]; exact row_rw (row_cells (fun e9 => by have h8 := (row_tag HOM.out _ e9).1; have := HB12.out; omega) _ _ _ HOM.out) (by decide))
      have HSZ : Hid (wz.cell? ⟨b1, 0, none⟩ = some (.slice fa nf fc) ∧ wz.cell? ⟨b1, 1, none⟩ = some (.slice pa nm pc)) := (by rw [← hwz]; exact ⟨cells_far HB12.out.2.2.2 _ _ _ hHeld.1, cells_far HB12.out.2.2.2 _ _ _ hHeld.2⟩)
      clear hwz
      refine hK.out _ _ ?_ (fun hHeld => ?_)
      · exact HSZ.out
      clear hK K
      try simp only [Act.put]
      refine wpAnyH_done (by kernel_rfl) ?_ _
      clear hHeld
      refine NoPanic.normal ?_
      go_wp2_with fail
      refine bodyPost_ret (v := .agg (lgO (.slice fva nf fvc) (.slice mva nm mvc))) ((results_cell1 (fn := Try.f10) Try.results10 _ _ _).trans ?_) rfl ⟨_, _, rfl, HFZ.out, HMZ.out, HBZ.out⟩
      exact run_loadVar_mid (P := Try.prog) wz b2 0 45 _ _ HRZ.out Try.underlying45 rfl lgSize
  · go_simp
    refine hK.out _ _ ?_ (fun hHeld => ?_)
    · exact ⟨below_cell (bel_up _ _) hHeld.1, below_cell (bel_up _ _) hHeld.2⟩
    clear hK K
    try simp only [Act.put, List.setIfInBounds_toArray, List.set_cons_zero, List.set_cons_succ]
    obtain ⟨w8, hw8⟩ : ∃ w8, w0.alloc (.cells #[] 74) = w8 := ⟨_, rfl⟩
    obtain ⟨bm, hbm⟩ : ∃ bm, w0.heap.size = bm := ⟨_, rfl⟩
    have HOM : Hid (w8.ownsRow wA.heap.size 74 2 (.slice (some ⟨bm, 0, none⟩) 0 0) 0 []) := (by rw [← hw8, ← hbm]; exact own_empty w0 HB0.out.size _ _)
    have HB8 : Hid (Below wA.heap.size wA w8) := (by rw [← hw8]; exact below_trans HB0.out (bel_up _ _))
    rw [hw8] at hHeld ⊢
    rw [hbm]
    clear hw8 hbm
    refine wpAnyH_ready (rs := [0]) (by kernel_rfl) (by simp) ?_
    refine AllReadyH.cons (o := { dst := _, op := _, type := _, pos := _, after := _, guard := _ }) rfl (fun K hK => ?_) (AllReadyH.nil)
    go_simp
    refine hK.out _ _ ?_ (fun hHeld => ?_)
    · exact ⟨below_cell (bel_up _ _) hHeld.1, below_cell (bel_up _ _) hHeld.2⟩
    clear hK K
    try simp only [Act.put, List.setIfInBounds_toArray, List.set_cons_zero, List.set_cons_succ]
    obtain ⟨w9, hw9⟩ : ∃ w9, w8.alloc (.cells #[] 9) = w9 := ⟨_, rfl⟩
    obtain ⟨bf, hbf⟩ : ∃ bf, w8.heap.size = bf := ⟨_, rfl⟩
    have HOF : Hid (w9.ownsRow wA.heap.size 9 1 (.slice (some ⟨bf, 0, none⟩) 0 0) 0 []) := (by rw [← hw9, ← hbf]; exact own_empty w8 HB8.out.size _ _)
    have HB9 : Hid (Below wA.heap.size wA w9) := (by rw [← hw9]; exact below_trans HB8.out (bel_up _ _))
    have HOM : Hid (w9.ownsRow wA.heap.size 74 2 (.slice (some ⟨bm, 0, none⟩) 0 0) 0 []) := (by rw [← hw9]; exact HOM.out.alloc _)
    rw [hw9] at hHeld ⊢
    rw [hbf]
    clear hw9 hbf
    refine wpAnyH_ready (rs := [3]) (by kernel_rfl) (by simp) ?_
    refine AllReadyH.cons (o := { dst := _, op := _, type := _, pos := _, after := _, guard := _ }) rfl (fun K hK => ?_) (AllReadyH.nil)
    refine step_rows w9 rfl (.tmp 3) (.tmp 5) 22 rfl wA.heap.size 9 iS (.string ⟨#[]⟩) 1 16 Try.underlying22 hiS hx0 hx1 hx2 rfl (by decide) (.slice (some ⟨bf, 0, none⟩) 0 0) 0 [] rfl HOF.out (.slice fa nf fc) nf cf rfl (HFA.out _ HB9.out).1 HLN.out.1 HON.out.1 (by have := HZ.out; omega) (by have := HZ.out; omega) HB9.out.size ?_
    intro fv w10 ho hg _
    rw [Nat.zero_add, List.nil_append] at ho
    obtain ⟨fva, fvc, hfv⟩ := row_shape ho
    subst hfv
    have HB10 : Hid (Below wA.heap.size wA w10) := HB9.out.grown hg HB9.out.size (fun r hr => (row_tag HOF.out r hr).1)
    have HOM : Hid (w10.ownsRow wA.heap.size 74 2 (.slice (some ⟨bm, 0, none⟩) 0 0) 0 []) := HOM.out.kept hg (tag_ne HOM.out HOF.out (by decide))
    have HOF : Hid (w10.ownsRow wA.heap.size 9 1 (.slice fva nf fvc) nf cf) := ho
    clear ho hg
    refine hK.out _ _ ?_ (fun hHeld => ?_)
    · exact HSL.out w10 HB10.out
    clear hK K
    try simp only [Act.put, List.setIfInBounds_toArray, List.set_cons_zero, List.set_cons_succ]
    refine wpAnyH_ready (rs := [7]) (by kernel_rfl) (by simp) ?_
    refine AllReadyH.cons (o := { dst := _, op := _, type := _, pos := _, after := _, guard := _ }) rfl (fun K hK => ?_) (AllReadyH.nil)
    refine step_rows w10 rfl (.tmp 7) (.tmp 9) 23 rfl wA.heap.size 74 iP (.agg #[.string ⟨#[]⟩, .string ⟨#[]⟩]) 2 32 Try.underlying23 hiP hy0 hy1 hy2 rfl (by decide) (.slice (some ⟨bm, 0, none⟩) 0 0) 0 [] rfl HOM.out (.slice pa nm pc) nm cm rfl (HFA.out _ HB10.out).2 HLN.out.2 HON.out.2 (by have := HZ.out; omega) (by have := HZ.out; omega) HB10.out.size ?_
    intro mv w11 ho hg _
    rw [Nat.zero_add, List.nil_append] at ho
    obtain ⟨mva, mvc, hmv⟩ := row_shape ho
    subst hmv
    have HB11 : Hid (Below wA.heap.size wA w11) := HB10.out.grown hg HB10.out.size (fun r hr => (row_tag HOM.out r hr).1)
    have HOF : Hid (w11.ownsRow wA.heap.size 9 1 (.slice fva nf fvc) nf cf) := HOF.out.kept hg (tag_ne HOF.out HOM.out (by decide))
    have HOM : Hid (w11.ownsRow wA.heap.size 74 2 (.slice mva nm mvc) nm cm) := ho
    clear ho hg
    refine hK.out _ _ ?_ (fun hHeld => ?_)
    · exact HSL.out w11 HB11.out
    clear hK K
    try simp only [Act.put, List.setIfInBounds_toArray, List.set_cons_zero, List.set_cons_succ]
    refine wpAnyH_take (i := 8) (oi := { dst := _, op := _, type := _, pos := _, after := _, guard := _ }) (v := ?_) rfl (by kernel_rfl) (by kernel_rfl) (by kernel_rfl) (fun _ _ _ h => h) (Or.inl ⟨by rfl, ?_⟩) (by assumption) ?_
    rotate_left
    · intro W hSw
      (try dsimp only at hSw)
      go_simp
      (try with_reducible rfl)
    try simp only [Act.put, List.setIfInBounds_toArray, List.set_cons_zero, List.set_cons_succ]
    refine wpAnyH_ready (rs := [9]) (by kernel_rfl) (by simp) ?_
    refine AllReadyH.cons (o := { dst := _, op := _, type := _, pos := _, after := _, guard := _ }) rfl (fun K hK => ?_) AllReadyH.nil
    have HTH : Hid (w11.there b2 0 12) := (by have hh : w11.heap[b2]? = some (.cells (lgO (.slice none 0 0) (.slice none 0 0)) 45 (0, 0)) := (HB11.out.block _ (lt_of_heap HGB.out)).trans HGB.out; exact fun j hj => ⟨by rw [Nat.zero_add, Lib.cell_of_heap hh]; simp [lgO, hj], Lib.frozen_of_heap hh _⟩)
    refine step_store_mid rfl 45 (.tmp 2) (.tmp 11) rfl b2 0 (lgO (.slice fva nf fvc) (.slice mva nm mvc)) rfl rfl HTH.out lgSize (lgO_one _ _ _ _ _ _) ?_
    obtain ⟨wz, hwz⟩ : ∃ wz, w11.setCells b2 0 (lgO (.slice fva nf fvc) (.slice mva nm mvc)).toList = wz := ⟨_, rfl⟩
    rw [hwz]
    have HBZ : Hid (Below w.heap.size w wz) := (by rw [← hwz]; exact bel_cells (by have := HB12.out; omega) _ _ _ (below_trans HBA.out HB11.out))
    have HRZ : Hid (wz.rangeAt b2 0 (lgO (.slice fva nf fvc) (.slice mva nm mvc)).toList) := (by rw [← hwz]; exact World.rangeAt_setCells_same _ _ _ _ HTH.out)
    have HFZ : Hid (Ss wz (.slice fva nf fvc) F) := (by show Rw _ _ _ _; rw [HX.out.1, HX.out.2.1, ← hwz]; exact row_rw (row_cells (fun e9 => by have h8 := (row_tag HOF.out _ e9).1; have := HB12.out; omega) _ _ _ HOF.out) (by decide))
    have HMZ : Hid (Pl wz (.slice mva nm mvc) M) := (by show Rw _ _ _ _; rw [HX.out.2.2.1, HX.out.2.2.2, ← hwz]; exact row_rw (row_cells (fun e9 => by have h8 := (row_tag HOM.out _ e9).1; have := HB12.out; omega) _ _ _ HOM.out) (by decide))
    have HSZ : Hid (wz.cell? ⟨b1, 0, none⟩ = some (.slice fa nf fc) ∧ wz.cell? ⟨b1, 1, none⟩ = some (.slice pa nm pc)) := (by rw [← hwz]; exact ⟨cells_far HB12.out.2.2.2 _ _ _ hHeld.1, cells_far HB12.out.2.2.2 _ _ _ hHeld.2⟩)
    clear hwz
    refine hK.out _ _ ?_ (fun hHeld => ?_)
    · exact HSZ.out
    clear hK K
    try simp only [Act.put]
    refine wpAnyH_done (by kernel_rfl) ?_ _
    clear hHeld
    refine NoPanic.normal ?_
    go_wp2_with fail
    refine bodyPost_ret (v := .agg (lgO (.slice fva nf fvc) (.slice mva nm mvc))) ((results_cell1 (fn := Try.f10) Try.results10 _ _ _).trans ?_) rfl ⟨_, _, rfl, HFZ.out, HMZ.out, HBZ.out⟩
    exact run_loadVar_mid (P := Try.prog) wz b2 0 45 _ _ HRZ.out Try.underlying45 rfl lgSize
end Go.Proofs.Yticheeacbajeeaa
