import Derived.Test.YtkjljnneghnpiaaNcb
import Derived.Test.YtkjljnneghnpiaaZyf
import Derived.Laws.OwnMore
namespace Go.Proofs.Ytkjljnneghnpiaa
open Go.RowKit Go.Maps

/-- A machine that is being made. -/
structure Ms where
  on : List (Nat → Bool)
  tos : List Int
  frs : List (List Int)
def Ms.add (M : Ms) (m : Nat → Bool) (x : Int) (l : List Int) : Ms := ⟨M.on ++ [m], M.tos ++ [x], M.frs ++ [l]⟩
def Ms.setF (M : Ms) (k : Nat) (l : List Int) : Ms := { M with frs := M.frs.set k l }
def nob : Nat → Bool := fun _ => false
/-- The states of a part, made from its end on. -/
def prt (re : List Rg.Nd) : Nat → Nat → Int → Ms → Ms × Int
  | 0, _, b, M => (M, b)
  | f + 1, i, b, M =>
    match re[i]? with
    | none => (M, b)
    | some n =>
      if n.op = 1 then (M.add n.m b [], (M.on.length : Int))
      else if n.op = 3 then
        let r := prt re f n.b.toNat b M
        prt re f n.a.toNat r.2 r.1
      else if n.op = 4 then
        let r := prt re f n.a.toNat b M
        let r2 := prt re f n.b.toNat b r.1
        (r2.1.add nob (-1) [r.2, r2.2], (r2.1.on.length : Int))
      else if n.op = 7 then
        let r := prt re f n.a.toNat b M
        (r.1.add nob (-1) [r.2, b], (r.1.on.length : Int))
      else if n.op = 5 then
        let r := prt re f n.a.toNat (M.on.length : Int) (M.add nob (-1) [])
        (r.1.setF M.on.length [r.2, b], (M.on.length : Int))
      else if n.op = 6 then
        let r := prt re f n.a.toNat (M.on.length : Int) (M.add nob (-1) [])
        (r.1.setF M.on.length [r.2, b], r.2)
      else (M, b)
/-- A maker in memory. -/
def MkM (B : Nat) (W : World) (bk : Nat) (M : Ms) (st en : Int) (rv : Value) : Prop :=
  ∃ fvs vo vt vf, MkV B W bk M.on M.tos fvs M.frs st en rv vo vt vf ∧ M.tos.length = M.on.length ∧ fvs.length = M.on.length
theorem MkM.below {B : Nat} {W W' : World} {bk : Nat} {M : Ms} {st en : Int} {rv : Value} (h : MkM B W bk M st en rv) (hb : Below W.heap.size W W') : MkM B W' bk M st en rv := by
  obtain ⟨fvs, vo, vt, vf, h1, h2⟩ := h
  exact ⟨fvs, vo, vt, vf, h1.below hb, h2⟩
theorem MkM.lB {B : Nat} {W : World} {bk : Nat} {M : Ms} {st en : Int} {rv : Value} (h : MkM B W bk M st en rv) : B ≤ W.heap.size := by
  obtain ⟨fvs, vo, vt, vf, h1, h2⟩ := h
  exact h1.lB
/-- part(i) does what prt says. -/
def PartOk (B bk gr oo cap : Nat) (re : List Rg.Nd) (z : List Nat) (i : Nat) : Prop :=
  ∀ f, i < f → ∀ (W : World) (bh : Int) (M : Ms) (st en : Int), MkM B W bk M st en (.slice (some ⟨gr, oo, none⟩) re.length cap) → Rg.NdsAt W gr oo re → M.on.length + z.getD i 0 ≤ 1000 →
    Calls Try.prog 33 #[.pointer (some ⟨bk, 0, none⟩), .int .i64 (i : Int), .int .i64 bh] W fun e w' => e = .returned (.int .i64 (prt re f i bh M).2) ∧ Below B W w' ∧ FrK W w' ∧ MkM B w' bk (prt re f i bh M).1 st en (.slice (some ⟨gr, oo, none⟩) re.length cap)

/-- A new state, the maker as a whole. -/
theorem state_m {B bk : Nat} {M : Ms} {st en : Int} {rv fv : Value} {l : List Int} (m : Nat → Bool) (x : Int) (W : World) (h : MkM B W bk M st en rv) (hv : (fv = .slice none 0 0 ∧ l = []) ∨ ∃ W0 g, fv = .slice (some ⟨g, 0, none⟩) l.length l.length ∧ l ≠ [] ∧ B ≤ g ∧ W = W0.alloc (.cells (l.map (Value.int .i64)).toArray 3) ∧ g = W0.heap.size ∧ MkM B W0 bk M st en rv) (hn : M.on.length ≤ 1000000) :
    Calls Try.prog 32 #[.pointer (some ⟨bk, 0, none⟩), CV m, .int .i64 x, fv] W fun e w' => e = .returned (.int .i64 (M.on.length : Int)) ∧ Below B W w' ∧ FrK W w' ∧ MkM B w' bk (M.add m x l) st en rv := by
  have key : ∃ fvs vo vt vf, MkV B W bk M.on M.tos fvs M.frs st en rv vo vt vf ∧ M.tos.length = M.on.length ∧ fvs.length = M.on.length ∧ FrE B W vt fv l := by
    rcases hv with h1 | ⟨W0, g, e1, e2, e3, e4, e5, h0⟩
    · obtain ⟨fvs, vo, vt, vf, h1', h2, h3⟩ := h
      exact ⟨fvs, vo, vt, vf, h1', h2, h3, .inl h1⟩
    · obtain ⟨fvs, vo, vt, vf, h1', h2, h3⟩ := h0
      subst e4
      refine ⟨fvs, vo, vt, vf, h1'.below (bel_up _ _), h2, h3, .inr ⟨g, e1, e2, e3, fun e => ?_, ?_⟩⟩
      · have := (h1'.tos.lt g e).2; omega
      · rw [e5]; exact World.alloc_heap_new W0 _
  obtain ⟨fvs, vo, vt, vf, h1, h2, h3, h4⟩ := key
  refine (state_any m x W h1 h4 hn h2 h3).mono ?_
  rintro e w' ⟨he, hb, vo', vt', vf', hm, hk⟩
  exact ⟨he, hb, hk, fvs ++ [fv], vo', vt', vf', hm, by simp [Ms.add, h2], by simp [Ms.add, h3]⟩

set_option maxRecDepth 100000 in
set_option maxHeartbeats 4000000 in
theorem part_class {B bk gr oo cap i : Nat} {re : List Rg.Nd} {z : List Nat} {m : Nat → Bool} {na nb : Int} (hn : ∃ p s, re = p ++ (⟨1, m, na, nb⟩ : Rg.Nd) :: s ∧ p.length = i) : PartOk B bk gr oo cap re z i := by
  intro f hf W bh M st en hM hN hL
  obtain ⟨p, s, hre, hpl⟩ := hn
  have hnd := hN.nd p _ s hre
  obtain ⟨c0, c1, c2, c3, c4, c5, c6⟩ := hnd
  rw [hpl] at c0 c1 c2 c3 c4 c5 c6
  have hil : i < re.length := by rw [hre, ← hpl]; simp
  have hget : re[i]? = some ⟨1, m, na, nb⟩ := by rw [hre, ← hpl]; simp
  obtain ⟨f', rfl⟩ : ∃ f', f = f' + 1 := ⟨f - 1, by omega⟩
  have HPR : Hid (prt re (f' + 1) i bh M = (M.add m bh [], (M.on.length : Int))) := by
    show prt _ _ _ _ _ = _
    rw [prt, hget]; rfl
  have HM1 : Hid (MkM B (W.alloc (.cells #[.int .i64 1, .int .u64 (wd m 0 : Nat), .int .u64 (wd m 1 : Nat), .int .u64 (wd m 2 : Nat), .int .u64 (wd m 3 : Nat), .int .i64 na, .int .i64 nb] 58)) bk M st en (.slice (some ⟨gr, oo, none⟩) re.length cap)) := hM.below (bel_up _ _)
  have HB0 : Hid (Below B W (W.alloc (.cells #[.int .i64 1, .int .u64 (wd m 0 : Nat), .int .u64 (wd m 1 : Nat), .int .u64 (wd m 2 : Nat), .int .u64 (wd m 3 : Nat), .int .i64 na, .int .i64 nb] 58))) := (bel_up _ _).mono hM.lB
  have HL : Hid (M.on.length ≤ 1000) := by show M.on.length ≤ 1000; omega
  obtain ⟨fvs, vo, vt, vf, hv, _⟩ := hM
  have k5 := hv.cell 5 (.slice (some ⟨gr, oo, none⟩) re.length cap) rfl
  clear hv hL hN hf hget hre hpl
  go_enter Try.func33, Try.ntmps33
  go_wp2_with fail
  refine (state_m m bh _ HM1.out (.inl ⟨rfl, rfl⟩) (by have := HL.out; omega)).mono ?_
  rintro e w3 ⟨rfl, hb3, hk3, hm3⟩
  have HB3 : Hid _ := hb3
  have HK3 : Hid _ := hk3
  have HM3 : Hid _ := hm3
  clear hb3 hk3 hm3
  go_wp2_with fail
  go_ret
  refine ⟨(by rw [HPR.out]; rfl), HB0.out.trans HB3.out, (FrK.bel (bel_up _ _)).trans HK3.out, ?_⟩
  rw [HPR.out]
  exact HM3.out

set_option maxRecDepth 100000 in
set_option maxHeartbeats 4000000 in
theorem part_cat {B bk gr oo cap i : Nat} {re : List Rg.Nd} {z : List Nat} {m : Nat → Bool} {na nb : Nat} (hgr : gr < B) (hn : ∃ p s, re = p ++ (⟨3, m, (na : Int), (nb : Int)⟩ : Rg.Nd) :: s ∧ p.length = i) (ha : na < i) (hb : nb < i) (hz : z.getD na 0 + z.getD nb 0 ≤ z.getD i 0)
    (hlen : ∀ f bh M, nb < f → (prt re f nb bh M).1.on.length ≤ M.on.length + z.getD nb 0) (hA : PartOk B bk gr oo cap re z na) (hBk : PartOk B bk gr oo cap re z nb) : PartOk B bk gr oo cap re z i := by
  intro f hf W bh M st en hM hN hL
  obtain ⟨p, s, hre, hpl⟩ := hn
  have hnd := hN.nd p _ s hre
  obtain ⟨c0, c1, c2, c3, c4, c5, c6⟩ := hnd
  rw [hpl] at c0 c1 c2 c3 c4 c5 c6
  have hil : i < re.length := by rw [hre, ← hpl]; simp
  have hget : re[i]? = some ⟨3, m, na, nb⟩ := by rw [hre, ← hpl]; simp
  obtain ⟨f, rfl⟩ : ∃ f', f = f' + 1 := ⟨f - 1, by omega⟩
  have HPR : Hid (prt re (f + 1) i bh M = prt re f na (prt re f nb bh M).2 (prt re f nb bh M).1) := by
    show prt _ _ _ _ _ = _
    rw [prt, hget]; rfl
  have HM1 : Hid (MkM B (W.alloc (.cells #[.int .i64 3, .int .u64 (wd m 0 : Nat), .int .u64 (wd m 1 : Nat), .int .u64 (wd m 2 : Nat), .int .u64 (wd m 3 : Nat), .int .i64 (na : Int), .int .i64 (nb : Int)] 58)) bk M st en (.slice (some ⟨gr, oo, none⟩) re.length cap)) := hM.below (bel_up _ _)
  have HB0 : Hid (Below B W (W.alloc (.cells #[.int .i64 3, .int .u64 (wd m 0 : Nat), .int .u64 (wd m 1 : Nat), .int .u64 (wd m 2 : Nat), .int .u64 (wd m 3 : Nat), .int .i64 (na : Int), .int .i64 (nb : Int)] 58))) := (bel_up _ _).mono hM.lB
  have HGR : Hid (gr < B) := hgr
  have HN1 : Hid (Rg.NdsAt (W.alloc (.cells #[.int .i64 3, .int .u64 (wd m 0 : Nat), .int .u64 (wd m 1 : Nat), .int .u64 (wd m 2 : Nat), .int .u64 (wd m 3 : Nat), .int .i64 (na : Int), .int .i64 (nb : Int)] 58)) gr oo re) := hN.below HB0.out hgr
  have HPA : Hid (PartOk B bk gr oo cap re z na) := hA
  have HPB : Hid (PartOk B bk gr oo cap re z nb) := hBk
  have HBF : Hid (nb < f) := by show nb < f; omega
  have HAF : Hid (na < f) := by show na < f; omega
  have HLB : Hid (M.on.length + z.getD nb 0 ≤ 1000) := by show _ ≤ _; omega
  have HLA : Hid ((prt re f nb bh M).1.on.length + z.getD na 0 ≤ 1000) := by have := hlen f bh M HBF.out; show _ ≤ _; omega
  obtain ⟨fvs, vo, vt, vf, hv, _⟩ := hM
  have k5 := hv.cell 5 (.slice (some ⟨gr, oo, none⟩) re.length cap) rfl
  clear hv hL hN hf hget hre hpl hA hBk hz hlen ha hb
  go_enter Try.func33, Try.ntmps33
  go_upto_region 6 with fail
  obtain ⟨WD, hWD⟩ : ∃ WD, (W.alloc (.cells #[.int .i64 3, .int .u64 (wd m 0 : Nat), .int .u64 (wd m 1 : Nat), .int .u64 (wd m 2 : Nat), .int .u64 (wd m 3 : Nat), .int .i64 (na : Int), .int .i64 (nb : Int)] 58)).drew = WD := ⟨_, rfl⟩
  obtain ⟨bx, hbx⟩ : ∃ bx, W.heap.size = bx := ⟨_, rfl⟩
  have HMD : Hid (MkM B WD bk M st en (.slice (some ⟨gr, oo, none⟩) re.length cap)) := by rw [← hWD]; exact HM1.out.below (Below.drew (Below.refl _ _))
  have HND : Hid (Rg.NdsAt WD gr oo re) := by rw [← hWD]; exact HN1.out.below (Below.drew (Below.refl _ _)) hgr
  have HBW : Hid (Below B W WD) := by rw [← hWD]; exact HB0.out.drew
  have HKW : Hid (FrK W WD) := by rw [← hWD]; exact FrK.bel (Below.drew (bel_up _ _))
  have hS0 : WD.heap[bx]? = some (.cells #[.int .i64 3, .int .u64 (wd m 0 : Nat), .int .u64 (wd m 1 : Nat), .int .u64 (wd m 2 : Nat), .int .u64 (wd m 3 : Nat), .int .i64 (na : Int), .int .i64 (nb : Int)] 58 (0, 0)) := by rw [← hWD, ← hbx]; exact World.alloc_heap_new W _
  rw [hbx]
  refine wp_region_noPanic ?_
  refine wp_region_held_drew (S := fun W' => W'.heap[bx]? = some (.cells #[.int .i64 3, .int .u64 (wd m 0 : Nat), .int .u64 (wd m 1 : Nat), .int .u64 (wd m 2 : Nat), .int .u64 (wd m 3 : Nat), .int .i64 (na : Int), .int .i64 (nb : Int)] 58 (0, 0))) (by kernel_rfl) (by rw [hWD]; exact hS0) (fun hHeld => ?_)
  rw [hWD] at hHeld ⊢
  clear hWD hS0 hbx c0 c1 c2 c3 c4 c5 c6 k5
  refine wpAnyH_take (i := 0) (oi := { dst := _, op := _, type := _, pos := _, after := _, guard := _ }) (v := ?_) rfl (by kernel_rfl) (by kernel_rfl) (by kernel_rfl) (fun _ _ _ h => h) (Or.inl ⟨by rfl, ?_⟩) (by assumption) ?_
  rotate_left
  · intro W hSw
    (try dsimp only at hSw)
    go_simp
    (try with_reducible rfl)
  try simp only [Act.put, List.setIfInBounds_toArray, List.set_cons_zero, List.set_cons_succ]
  refine wpAnyH_take (i := 1) (oi := { dst := _, op := _, type := _, pos := _, after := _, guard := _ }) (v := ?_) rfl (by kernel_rfl) (by kernel_rfl) (by kernel_rfl) (fun _ _ _ h => h) (Or.inl ⟨by rfl, ?_⟩) (by assumption) ?_
  rotate_left
  · intro W hSw
    (try dsimp only at hSw)
    go_simp
    (try with_reducible rfl)
  try simp only [Act.put, List.setIfInBounds_toArray, List.set_cons_zero, List.set_cons_succ]
  refine wpAnyH_take (i := 2) (oi := { dst := _, op := _, type := _, pos := _, after := _, guard := _ }) (v := ?_) rfl (by kernel_rfl) (by kernel_rfl) (by kernel_rfl) (fun _ _ _ h => h) (Or.inl ⟨by rfl, ?_⟩) (by assumption) ?_
  rotate_left
  · intro W hSw
    (try dsimp only at hSw)
    have s5 : W.cell? ⟨bx, 5, none⟩ = some (.int .i64 (na : Int)) := by rw [Lib.cell_of_heap hSw]; rfl
    have s6 : W.cell? ⟨bx, 6, none⟩ = some (.int .i64 (nb : Int)) := by rw [Lib.cell_of_heap hSw]; rfl
    go_simp
    (try with_reducible rfl)
  try simp only [Act.put, List.setIfInBounds_toArray, List.set_cons_zero, List.set_cons_succ]
  refine wpAnyH_take (i := 3) (oi := { dst := _, op := _, type := _, pos := _, after := _, guard := _ }) (v := ?_) rfl (by kernel_rfl) (by kernel_rfl) (by kernel_rfl) (fun _ _ _ h => h) (Or.inl ⟨by rfl, ?_⟩) (by assumption) ?_
  rotate_left
  · intro W hSw
    (try dsimp only at hSw)
    go_simp
    (try with_reducible rfl)
  try simp only [Act.put, List.setIfInBounds_toArray, List.set_cons_zero, List.set_cons_succ]
  refine wpAnyH_take (i := 4) (oi := { dst := _, op := _, type := _, pos := _, after := _, guard := _ }) (v := ?_) rfl (by kernel_rfl) (by kernel_rfl) (by kernel_rfl) (fun _ _ _ h => h) (Or.inl ⟨by rfl, ?_⟩) (by assumption) ?_
  rotate_left
  · intro W hSw
    (try dsimp only at hSw)
    go_simp
    (try with_reducible rfl)
  try simp only [Act.put, List.setIfInBounds_toArray, List.set_cons_zero, List.set_cons_succ]
  refine wpAnyH_take (i := 5) (oi := { dst := _, op := _, type := _, pos := _, after := _, guard := _ }) (v := ?_) rfl (by kernel_rfl) (by kernel_rfl) (by kernel_rfl) (fun _ _ _ h => h) (Or.inl ⟨by rfl, ?_⟩) (by assumption) ?_
  rotate_left
  · intro W hSw
    (try dsimp only at hSw)
    have s5 : W.cell? ⟨bx, 5, none⟩ = some (.int .i64 (na : Int)) := by rw [Lib.cell_of_heap hSw]; rfl
    have s6 : W.cell? ⟨bx, 6, none⟩ = some (.int .i64 (nb : Int)) := by rw [Lib.cell_of_heap hSw]; rfl
    go_simp
    (try with_reducible rfl)
  try simp only [Act.put, List.setIfInBounds_toArray, List.set_cons_zero, List.set_cons_succ]
  refine wpAnyH_take (i := 6) (oi := { dst := _, op := _, type := _, pos := _, after := _, guard := _ }) (v := ?_) rfl (by kernel_rfl) (by kernel_rfl) (by kernel_rfl) (fun _ _ _ h => h) (Or.inl ⟨by rfl, ?_⟩) (by assumption) ?_
  rotate_left
  · intro W hSw
    (try dsimp only at hSw)
    go_simp
    (try with_reducible rfl)
  try simp only [Act.put, List.setIfInBounds_toArray, List.set_cons_zero, List.set_cons_succ]
  refine wpAnyH_ready (rs := [7]) (by kernel_rfl) (by simp) ?_
  refine AllReadyH.cons (o := { dst := _, op := _, type := _, pos := _, after := _, guard := _ }) rfl (fun K hK => ?_) AllReadyH.nil
  go_simp
  refine (HPB.out f HBF.out WD bh M st en HMD.out HND.out HLB.out).mono ?_
  rintro e w3 ⟨rfl, hb3, hk3, hm3⟩
  have HM3 : Hid _ := hm3
  have HB3 : Hid (Below B WD w3) := hb3
  have HK3 : Hid (FrK WD w3) := hk3
  clear hb3 hm3
  refine hK.out _ _ ?_ (fun hHeld => ?_)
  · exact hk3 _ _ hHeld
  clear hK K
  try simp only [Act.put, List.setIfInBounds_toArray, List.set_cons_zero, List.set_cons_succ]
  clear hk3
  refine wpAnyH_ready (rs := [8]) (by kernel_rfl) (by simp) ?_
  refine AllReadyH.cons (o := { dst := _, op := _, type := _, pos := _, after := _, guard := _ }) rfl (fun K hK => ?_) AllReadyH.nil
  go_simp
  refine (HPA.out f HAF.out w3 _ _ st en HM3.out (HND.out.below HB3.out HGR.out) HLA.out).mono ?_
  rintro e w4 ⟨rfl, hb4, hk4, hm4⟩
  have HM4 : Hid _ := hm4
  have HB4 : Hid (Below B w3 w4) := hb4
  have HK4 : Hid (FrK w3 w4) := hk4
  clear hb4 hm4
  refine hK.out _ _ ?_ (fun hHeld => ?_)
  · exact hk4 _ _ hHeld
  clear hK K
  try simp only [Act.put, List.setIfInBounds_toArray, List.set_cons_zero, List.set_cons_succ]
  clear hk4
  refine wpAnyH_take (i := 9) (oi := { dst := _, op := _, type := _, pos := _, after := _, guard := _ }) (v := ?_) rfl (by kernel_rfl) (by kernel_rfl) (by kernel_rfl) (fun _ _ _ h => h) (Or.inl ⟨by rfl, ?_⟩) (by assumption) ?_
  rotate_left
  · intro W hSw
    (try dsimp only at hSw)
    go_simp
    (try with_reducible rfl)
  try simp only [Act.put, List.setIfInBounds_toArray, List.set_cons_zero, List.set_cons_succ]
  refine wpAnyH_done (by kernel_rfl) ?_ _
  clear hHeld
  refine NoPanic.normal ?_
  go_wp2_with fail
  go_ret
  refine ⟨(by rw [HPR.out]; rfl), HBW.out.trans (HB3.out.trans HB4.out), HKW.out.trans (HK3.out.trans HK4.out), ?_⟩
  rw [HPR.out]
  exact HM4.out
end Go.Proofs.Ytkjljnneghnpiaa
