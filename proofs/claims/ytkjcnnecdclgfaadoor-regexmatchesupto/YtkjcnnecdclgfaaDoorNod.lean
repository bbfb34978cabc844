import Derived.Test.YtkjcnnecdclgfaaDoorTre
import Derived.Test.YtkjcnnecdclgfaaDoorWcs
namespace Go.Proofs.YtkjcnnecdclgfaaDoor
open Go.RowKit
/-- The seven cells of a node. -/
structure NdAt (W : World) (g o : Nat) (n : Nd) : Prop where
  c0 : W.cell? ⟨g, o, none⟩ = some (.int .i64 n.op)
  c1 : W.cell? ⟨g, o + 1, none⟩ = some (.int .u64 (wd n.m 0 : Nat))
  c2 : W.cell? ⟨g, o + 2, none⟩ = some (.int .u64 (wd n.m 1 : Nat))
  c3 : W.cell? ⟨g, o + 3, none⟩ = some (.int .u64 (wd n.m 2 : Nat))
  c4 : W.cell? ⟨g, o + 4, none⟩ = some (.int .u64 (wd n.m 3 : Nat))
  c5 : W.cell? ⟨g, o + 5, none⟩ = some (.int .i64 n.a)
  c6 : W.cell? ⟨g, o + 6, none⟩ = some (.int .i64 n.b)
/-- A list of nodes in memory. -/
structure NdsAt (W : World) (g o : Nat) (re : List Nd) : Prop where
  nd : ∀ p n s, re = p ++ n :: s → NdAt W g (o + p.length * 7) n
theorem NdsAt.below {W W' : World} {g o B : Nat} {re : List Nd} (h : NdsAt W g o re) (hb : Below B W W') (hg : g < B) : NdsAt W' g o re := by
  refine ⟨fun p n s e => ?_⟩
  obtain ⟨c0, c1, c2, c3, c4, c5, c6⟩ := h.nd p n s e
  have k : ∀ j v, W.cell? ⟨g, j, none⟩ = some v → W'.cell? ⟨g, j, none⟩ = some v := fun j v hv => by rw [hb.cell (p := ⟨g, j, none⟩) hg]; exact hv
  exact ⟨k _ _ c0, k _ _ c1, k _ _ c2, k _ _ c3, k _ _ c4, k _ _ c5, k _ _ c6⟩
/-- A node in a block of its own. -/
structure AtN (W : World) (k : Nat) (op : Int) (m : Nat → Bool) (a b : Int) : Prop where
  h : W.heap[k]? = some (.cells #[.int .i64 op, .int .u64 (wd m 0 : Nat), .int .u64 (wd m 1 : Nat), .int .u64 (wd m 2 : Nat), .int .u64 (wd m 3 : Nat), .int .i64 a, .int .i64 b] 34 (0, 0))
theorem AtN.new (w : World) (op : Int) (m : Nat → Bool) (a b : Int) : AtN (w.alloc (.cells #[.int .i64 op, .int .u64 (wd m 0 : Nat), .int .u64 (wd m 1 : Nat), .int .u64 (wd m 2 : Nat), .int .u64 (wd m 3 : Nat), .int .i64 a, .int .i64 b] 34)) w.heap.size op m a b := by
  refine ⟨?_⟩
  unfold World.alloc
  simp
theorem AtN.fr {B b : Nat} {W W' : World} {k : Nat} {op : Int} {m : Nat → Bool} {x y : Int} (h : AtN W k op m x y) (hf : Fr B b W W') (hk : k ≠ b) : AtN W' k op m x y := ⟨hf.kept k _ _ _ h.h hk (by decide)⟩
theorem AtN.cells {W : World} {k : Nat} {op : Int} {m : Nat → Bool} {a b : Int} (h : AtN W k op m a b) : W.cell? ⟨k, 0, none⟩ = some (.int .i64 op) ∧ W.cell? ⟨k, 1, none⟩ = some (.int .u64 (wd m 0 : Nat)) ∧ W.cell? ⟨k, 2, none⟩ = some (.int .u64 (wd m 1 : Nat)) ∧ W.cell? ⟨k, 3, none⟩ = some (.int .u64 (wd m 2 : Nat)) ∧ W.cell? ⟨k, 4, none⟩ = some (.int .u64 (wd m 3 : Nat)) ∧ W.cell? ⟨k, 5, none⟩ = some (.int .i64 a) ∧ W.cell? ⟨k, 6, none⟩ = some (.int .i64 b) :=
  ⟨by rw [Lib.cell_of_heap h.h]; rfl, by rw [Lib.cell_of_heap h.h]; rfl, by rw [Lib.cell_of_heap h.h]; rfl, by rw [Lib.cell_of_heap h.h]; rfl, by rw [Lib.cell_of_heap h.h]; rfl, by rw [Lib.cell_of_heap h.h]; rfl, by rw [Lib.cell_of_heap h.h]; rfl⟩
theorem IsW.c0 {B b : Nat} {rv : Value} {l : List UInt8} {w : World} (h : IsW B b rv l w) : w.cell? ⟨b, 0, none⟩ = some rv := by
  rcases h.h with ⟨_, v, hb, _⟩ | ⟨_, v, hb, _⟩
  · rw [Lib.cell_of_heap hb]; rfl
  · rw [Lib.cell_of_heap hb]; rfl
/-- How tightly an operator binds. -/
def bds (op : Int) : Nat := if op = 4 then 0 else if op = 3 then 1 else 2
theorem binds_any (op : Int) (w : World) : Calls Tryd.prog 63 #[.int .i64 op] w fun e w' => e = .returned (.int .i64 (bds op : Nat)) ∧ w' = w := by
  unfold bds
  by_cases h4 : op = 4
  · subst h4
    go_enter Tryd.func63, Tryd.ntmps63
    go_wp2_with fail
    go_ret
    exact ⟨rfl, rfl⟩
  · by_cases h3 : op = 3
    · subst h3
      go_enter Tryd.func63, Tryd.ntmps63
      go_wp2_with fail
      go_ret
      exact ⟨rfl, rfl⟩
    · have e4 : (op == 4) = false := by simpa using h4
      have e3 : (op == 3) = false := by simpa using h3
      rw [if_neg h4, if_neg h3]
      clear h4 h3
      go_enter Tryd.func63, Tryd.ntmps63
      go_wp2_with fail
      go_ret
      exact ⟨rfl, rfl⟩
/-- node(i) writes the node's text. -/
def NodeOk (B b g o cap : Nat) (re : List Nd) (i : Nat) : Prop := ∀ (W : World) (l : List UInt8), IsW B b (.slice (some ⟨g, o, none⟩) re.length cap) l W → NdsAt W g o re → l.length + (TX re i).1.length ≤ 60000000 → B ≤ W.heap.size →
  Calls Tryd.prog 26 #[.pointer (some ⟨b, 0, none⟩), .int .i64 (i : Int)] W fun e w' => e = .returned (.tuple #[]) ∧ IsW B b (.slice (some ⟨g, o, none⟩) re.length cap) (l ++ (TX re i).1) w' ∧ Fr B b W w' ∧ B ≤ w'.heap.size

set_option maxRecDepth 100000 in
set_option maxHeartbeats 2000000 in
theorem operand_any (B b g o cap : Nat) (re : List Nd) (z : List Nat) (hz : szs re [] = some z) (hg : g < B) (i : Nat) (hi : i < re.length) (hN : NodeOk B b g o cap re i) (mu : Nat) (hmu : mu ≤ 2) (W : World) (l : List UInt8)
    (h : IsW B b (.slice (some ⟨g, o, none⟩) re.length cap) l W) (hn : NdsAt W g o re) (hl : l.length + (bnd (TX re i) (mu + 1)).length ≤ 60000000) (hB : B ≤ W.heap.size) :
    Calls Tryd.prog 41 #[.pointer (some ⟨b, 0, none⟩), .int .i64 (i : Int), .int .i64 (mu : Int)] W fun e w' => e = .returned (.tuple #[]) ∧ IsW B b (.slice (some ⟨g, o, none⟩) re.length cap) (l ++ bnd (TX re i) (mu + 1)) w' ∧ Fr B b W w' ∧ B ≤ w'.heap.size := by
  obtain ⟨p, n, s, hre, hp, hni⟩ := split_at re i hi
  have hk := kind_of p n s z (by rw [← hre]; exact hz)
  have hlv : (TX re i).2 = lvl n.op := by
    have := (TX_at p n s).1
    rw [← hre, hp] at this
    rw [this, ent_lvl]
  have hops : n.op = 1 ∨ n.op = 2 ∨ n.op = 3 ∨ n.op = 4 ∨ n.op = 5 ∨ n.op = 6 ∨ n.op = 7 := by
    cases hk with
    | leaf h => omega
    | un h => omega
    | bin h => omega
  have hiff : (bds n.op < mu) ↔ ((TX re i).2 < mu + 1) := by
    rw [hlv]
    unfold bds lvl
    rcases hops with e | e | e | e | e | e | e <;> rw [e] <;> simp <;> omega
  have hnd := hn.nd p n s hre
  rw [hp] at hnd
  have c0 := h.c0
  have k0 := hnd.c0
  have HH : Hid _ := h
  have HN : Hid _ := hn
  have HL : Hid _ := hl
  have HB : Hid _ := hB
  have HNO : Hid _ := hN
  have HG : Hid _ := hg
  have HIFF : Hid _ := hiff
  have htt : (TX re i).1.length ≤ (bnd (TX re i) (mu + 1)).length := by
    unfold bnd
    split
    · simp only [List.length_append, List.length_cons, List.length_nil]; omega
    · exact Nat.le_refl _
  have HTT : Hid _ := htt
  clear htt
  clear hk hlv hops hnd h hn hl hB hN hg hiff hni hz hp hre p s
  go_enter Tryd.func41, Tryd.ntmps41
  go_wp2_with fail
  refine (binds_any n.op _).mono ?_
  rintro e w1 ⟨rfl, rfl⟩
  obtain ⟨bb, hbb⟩ : ∃ bb, bb = bds n.op := ⟨_, rfl⟩
  rw [← hbb]
  have HBB : Hid _ := hbb
  clear hbb
  by_cases hlt : bb < mu
  · have hI : ¬ mu ≤ bb := by omega
    have e : bnd (TX re i) (mu + 1) = [40] ++ (TX re i).1 ++ [41] := by
      unfold bnd
      rw [if_pos (HIFF.out.1 (by rw [← HBB.out]; exact hlt))]
    have HE : Hid _ := e
    clear hlt e
    go_wp2_with fail
    refine (wB B b _ l 40 _ HH.out (by have := HL.out; omega) HB.out).mono ?_
    rintro e w2 ⟨rfl, h1, h2, h3⟩
    have V2 : Hid (IsW B b (.slice (some ⟨g, o, none⟩) re.length cap) (l ++ [40]) w2) := h1
    have R2 : Hid _ := h2
    have S2 : Hid _ := h3
    have N2 : Hid (NdsAt w2 g o re) := HN.out.below h2.bel HG.out
    clear h1 h2 h3
    go_wp2_with fail
    refine (HNO.out w2 (l ++ [40]) V2.out N2.out (by have := HL.out; rw [HE.out] at this; simp only [List.length_append, List.length_cons, List.length_nil] at this ⊢; omega) S2.out).mono ?_
    rintro e w3 ⟨rfl, h1, h2, h3⟩
    have V3 : Hid (IsW B b (.slice (some ⟨g, o, none⟩) re.length cap) (l ++ [40] ++ (TX re i).1) w3) := h1
    have R3 : Hid _ := R2.out.trans h2
    have S3 : Hid _ := h3
    clear h1 h2 h3
    go_wp2_with fail
    refine (wB B b _ (l ++ [40] ++ (TX re i).1) 41 _ V3.out (by have := HL.out; rw [HE.out] at this; simp only [List.length_append, List.length_cons, List.length_nil] at this ⊢; omega) S3.out).mono ?_
    rintro e w4 ⟨rfl, h1, h2, h3⟩
    have V4 : Hid (IsW B b (.slice (some ⟨g, o, none⟩) re.length cap) (l ++ [40] ++ (TX re i).1 ++ [41]) w4) := h1
    have R4 : Hid _ := R3.out.trans h2
    have S4 : Hid _ := h3
    clear h1 h2 h3
    go_wp2_with fail
    go_end0
    refine ⟨rfl, ?_, R4.out, S4.out⟩
    have := V4.out
    rw [HE.out]
    simp only [List.append_assoc] at this ⊢
    exact this
  · have hI : mu ≤ bb := by omega
    have e : bnd (TX re i) (mu + 1) = (TX re i).1 := by
      unfold bnd
      rw [if_neg (fun h => hlt (by rw [HBB.out]; exact HIFF.out.2 h))]
    have HE : Hid _ := e
    clear hlt e
    go_wp2_with fail
    refine (HNO.out _ l HH.out HN.out (by have := HL.out; have := HTT.out; omega) HB.out).mono ?_
    rintro e w3 ⟨rfl, h1, h2, h3⟩
    have V3 : Hid (IsW B b (.slice (some ⟨g, o, none⟩) re.length cap) (l ++ (TX re i).1) w3) := h1
    have R3 : Hid _ := h2
    have S3 : Hid _ := h3
    clear h1 h2 h3
    go_wp2_with fail
    refine bodyPost_ret (results_none rfl _ _ _) rfl ?_
    exact ⟨rfl, by rw [HE.out]; exact V3.out, R3.out, S3.out⟩
theorem bnd1 (re : List Nd) (i : Nat) (hi : i < re.length) : bnd (TX re i) 1 = (TX re i).1 := by
  obtain ⟨p, n, s, hre, hp, hni⟩ := split_at re i hi
  have hlv : (TX re i).2 = lvl n.op := by
    have := (TX_at p n s).1
    rw [← hre, hp] at this
    rw [this, ent_lvl]
  unfold bnd
  rw [if_neg]
  rw [hlv]
  unfold lvl
  repeat' split
  all_goals omega

set_option maxRecDepth 100000 in
set_option maxHeartbeats 4000000 in
theorem node_any (B b g o cap : Nat) (re : List Nd) (z : List Nat) (hz : szs re [] = some z) (hg : g < B) : ∀ i, i < re.length → NodeOk B b g o cap re i := by
  intro i
  induction i using Nat.strongRecOn with
  | ind i ih =>
    intro hi W l h hn hl hB
    obtain ⟨p, n, s, hre, hp, hni⟩ := split_at re i hi
    have hk := kind_of p n s z (by rw [← hre]; exact hz)
    rw [hp] at hk
    obtain ⟨t1, t2⟩ := TX_at p n s
    rw [← hre, hp] at t1 t2
    have hnd := hn.nd p n s hre
    rw [hp] at hnd
    obtain ⟨k0, k1, k2, k3, k4, k5, k6⟩ := hnd
    have c0 := h.c0
    have HH : Hid _ := h
    have HN : Hid _ := hn
    have HL : Hid _ := hl
    have HB : Hid _ := hB
    have HG : Hid _ := hg
    have HZ : Hid _ := hz
    have HI : Hid _ := hi
    have HGW : Hid _ := Nat.lt_of_lt_of_le hg hB
    have HLB : Hid _ := h.lt
    have IH : Hid _ := ih
    clear h hn hl hB hg hz ih
    cases hk with
    | leaf h1 hb ha hbb hzz =>
      rcases h1 with h1 | h1
      · have hT : TX re i = (cst n.m, 4) := by rw [t1]; unfold ent; rw [if_pos h1]
        have HT : Hid _ := hT
        rw [h1] at k0
        have A0 : Hid _ := AtN.new W 1 n.m n.a n.b
        clear hT h1 ha hb hbb hzz t1 t2 hre hp hni
        go_enter Tryd.func26, Tryd.ntmps26
        go_wp2_with fail
        refine (wclass_any B b _ l n.m _ (HH.out.mono (bel_up _ _)) (by have := HL.out; omega) (Nat.le_trans HB.out (by simp))).mono ?_
        rintro e w2 ⟨rfl, h1, h2, h3⟩
        have V2 : Hid (IsW B b (.slice (some ⟨g, o, none⟩) re.length cap) (l ++ cst n.m) w2) := h1
        have R2 : Hid _ := (Fr.of (bel_up _ _) HB.out).trans h2
        have S2 : Hid _ := h3
        clear h1 h2 h3
        go_wp2_with fail
        go_end0
        exact ⟨rfl, by rw [HT.out]; exact V2.out, R2.out, S2.out⟩
      · have hT : TX re i = ([40, 41], 4) := by rw [t1]; unfold ent; rw [if_neg (by omega), if_pos h1]
        have HT : Hid _ := hT
        rw [h1] at k0
        clear hT h1 ha hb hbb hzz t1 t2 hre hp hni
        go_enter Tryd.func26, Tryd.ntmps26
        go_wp2_with fail
        refine (wS B b _ l [40, 41] _ (HH.out.mono (bel_up _ _)) (by have := HL.out; omega) (by decide) (Nat.le_trans HB.out (by simp))).mono ?_
        rintro e w2 ⟨⟨v, rfl⟩, h1, h2, h3⟩
        have V2 : Hid (IsW B b (.slice (some ⟨g, o, none⟩) re.length cap) (l ++ [40, 41]) w2) := h1
        have R2 : Hid _ := (Fr.of (bel_up _ _) HB.out).trans h2
        have S2 : Hid _ := h3
        clear h1 h2 h3
        go_wp2_with fail
        go_end0
        exact ⟨rfl, by rw [HT.out]; exact V2.out, R2.out, S2.out⟩
    | un h1 hb h2 ha hbb hzz =>
      have e : n.a.toNat = i - 1 := by omega
      have IHC : Hid (NodeOk B b g o cap re (i - 1)) := IH.out (i - 1) (by omega) (by omega)
      rcases h1 with h1 | h1 | h1
      · have hT : TX re i = (bnd (TX re (i - 1)) 3 ++ [42], 3) := by
          rw [t1]; unfold ent
          rw [h1, e, t2 _ (by omega)]
          simp
        have HT : Hid _ := hT
        rw [h1] at k0
        rw [ha] at k5
        have A0 : Hid _ := AtN.new W 5 n.m ((i - 1 : Nat) : Int) n.b
        clear hT h1 e h2 ha hb hbb hzz t1 t2 hre hp hni
        go_enter Tryd.func26, Tryd.ntmps26
        go_wp2_with fail
        refine (operand_any B b g o cap re z HZ.out HG.out (i - 1) (by have := HI.out; omega) (IHC.out) 2 (by omega) _ l (HH.out.mono (bel_up _ _)) (HN.out.below (bel_up _ _) HGW.out) (by have := HL.out; rw [HT.out] at this; simp only [List.length_append, List.length_cons, List.length_nil] at this; (try simp only [Nat.reduceAdd]); omega) (Nat.le_trans HB.out (by simp))).mono ?_
        rintro e w2 ⟨rfl, h1, h2, h3⟩
        have V2 : Hid (IsW B b (.slice (some ⟨g, o, none⟩) re.length cap) (l ++ bnd (TX re (i - 1)) 3) w2) := h1
        have R2 : Hid _ := (Fr.of (bel_up _ _) HB.out).trans h2
        have S2 : Hid _ := h3
        clear h1 h2 h3
        go_wp2_with fail
        refine (wB B b _ (l ++ bnd (TX re (i - 1)) 3) 42 _ V2.out (by have := HL.out; rw [HT.out] at this; simp only [List.length_append, List.length_cons, List.length_nil] at this ⊢; (try simp only [Nat.reduceAdd]); omega) S2.out).mono ?_
        rintro e w3 ⟨rfl, h1, h2, h3⟩
        have V3 : Hid (IsW B b (.slice (some ⟨g, o, none⟩) re.length cap) (l ++ bnd (TX re (i - 1)) 3 ++ [42]) w3) := h1
        have R3 : Hid _ := R2.out.trans h2
        have S3 : Hid _ := h3
        clear h1 h2 h3
        go_wp2_with fail
        go_end0
        refine ⟨rfl, ?_, R3.out, S3.out⟩
        have := V3.out
        rw [HT.out]
        simp only [List.append_assoc] at this ⊢
        exact this
      · have hT : TX re i = (bnd (TX re (i - 1)) 3 ++ [43], 3) := by
          rw [t1]; unfold ent
          rw [h1, e, t2 _ (by omega)]
          simp
        have HT : Hid _ := hT
        rw [h1] at k0
        rw [ha] at k5
        have A0 : Hid _ := AtN.new W 6 n.m ((i - 1 : Nat) : Int) n.b
        clear hT h1 e h2 ha hb hbb hzz t1 t2 hre hp hni
        go_enter Tryd.func26, Tryd.ntmps26
        go_wp2_with fail
        refine (operand_any B b g o cap re z HZ.out HG.out (i - 1) (by have := HI.out; omega) (IHC.out) 2 (by omega) _ l (HH.out.mono (bel_up _ _)) (HN.out.below (bel_up _ _) HGW.out) (by have := HL.out; rw [HT.out] at this; simp only [List.length_append, List.length_cons, List.length_nil] at this; (try simp only [Nat.reduceAdd]); omega) (Nat.le_trans HB.out (by simp))).mono ?_
        rintro e w2 ⟨rfl, h1, h2, h3⟩
        have V2 : Hid (IsW B b (.slice (some ⟨g, o, none⟩) re.length cap) (l ++ bnd (TX re (i - 1)) 3) w2) := h1
        have R2 : Hid _ := (Fr.of (bel_up _ _) HB.out).trans h2
        have S2 : Hid _ := h3
        clear h1 h2 h3
        go_wp2_with fail
        refine (wB B b _ (l ++ bnd (TX re (i - 1)) 3) 43 _ V2.out (by have := HL.out; rw [HT.out] at this; simp only [List.length_append, List.length_cons, List.length_nil] at this ⊢; (try simp only [Nat.reduceAdd]); omega) S2.out).mono ?_
        rintro e w3 ⟨rfl, h1, h2, h3⟩
        have V3 : Hid (IsW B b (.slice (some ⟨g, o, none⟩) re.length cap) (l ++ bnd (TX re (i - 1)) 3 ++ [43]) w3) := h1
        have R3 : Hid _ := R2.out.trans h2
        have S3 : Hid _ := h3
        clear h1 h2 h3
        go_wp2_with fail
        go_end0
        refine ⟨rfl, ?_, R3.out, S3.out⟩
        have := V3.out
        rw [HT.out]
        simp only [List.append_assoc] at this ⊢
        exact this
      · have hT : TX re i = (bnd (TX re (i - 1)) 3 ++ [63], 3) := by
          rw [t1]; unfold ent
          rw [h1, e, t2 _ (by omega)]
          simp
        have HT : Hid _ := hT
        rw [h1] at k0
        rw [ha] at k5
        have A0 : Hid _ := AtN.new W 7 n.m ((i - 1 : Nat) : Int) n.b
        clear hT h1 e h2 ha hb hbb hzz t1 t2 hre hp hni
        go_enter Tryd.func26, Tryd.ntmps26
        go_wp2_with fail
        refine (operand_any B b g o cap re z HZ.out HG.out (i - 1) (by have := HI.out; omega) (IHC.out) 2 (by omega) _ l (HH.out.mono (bel_up _ _)) (HN.out.below (bel_up _ _) HGW.out) (by have := HL.out; rw [HT.out] at this; simp only [List.length_append, List.length_cons, List.length_nil] at this; (try simp only [Nat.reduceAdd]); omega) (Nat.le_trans HB.out (by simp))).mono ?_
        rintro e w2 ⟨rfl, h1, h2, h3⟩
        have V2 : Hid (IsW B b (.slice (some ⟨g, o, none⟩) re.length cap) (l ++ bnd (TX re (i - 1)) 3) w2) := h1
        have R2 : Hid _ := (Fr.of (bel_up _ _) HB.out).trans h2
        have S2 : Hid _ := h3
        clear h1 h2 h3
        go_wp2_with fail
        refine (wB B b _ (l ++ bnd (TX re (i - 1)) 3) 63 _ V2.out (by have := HL.out; rw [HT.out] at this; simp only [List.length_append, List.length_cons, List.length_nil] at this ⊢; (try simp only [Nat.reduceAdd]); omega) S2.out).mono ?_
        rintro e w3 ⟨rfl, h1, h2, h3⟩
        have V3 : Hid (IsW B b (.slice (some ⟨g, o, none⟩) re.length cap) (l ++ bnd (TX re (i - 1)) 3 ++ [63]) w3) := h1
        have R3 : Hid _ := R2.out.trans h2
        have S3 : Hid _ := h3
        clear h1 h2 h3
        go_wp2_with fail
        go_end0
        refine ⟨rfl, ?_, R3.out, S3.out⟩
        have := V3.out
        rw [HT.out]
        simp only [List.append_assoc] at this ⊢
        exact this
    | bin h1 hb a hi2 h3 ha hbb hzz =>
      have e1 : n.a.toNat = a := by omega
      have e2 : n.b.toNat = i - 1 := by omega
      have IHA : Hid (NodeOk B b g o cap re a) := IH.out a (by omega) (by omega)
      have IHB : Hid (NodeOk B b g o cap re (i - 1)) := IH.out (i - 1) (by omega) (by omega)
      have HA1 : Hid _ := hi2
      have HA2 : Hid _ := h3
      rcases h1 with h1 | h1
      · have hT : TX re i = (bnd (TX re a) 2 ++ bnd (TX re (i - 1)) 3, 2) := by
          rw [t1]; unfold ent
          have q1 := t2 a (by omega)
          have q2 := t2 (i - 1) (by omega)
          rw [h1, e1, e2, q1, q2]
          simp
        have HT : Hid _ := hT
        rw [h1] at k0
        rw [ha] at k5
        rw [hbb] at k6
        have A0 : Hid _ := AtN.new W 3 n.m (a : Int) ((i - 1 : Nat) : Int)
        clear hT h1 e1 e2 hi2 h3 ha hb hbb hzz t1 t2 hre hp hni
        go_enter Tryd.func26, Tryd.ntmps26
        go_wp2_with fail
        refine (operand_any B b g o cap re z HZ.out HG.out a (by have := HI.out; have := HA1.out; omega) (IHA.out) 1 (by omega) _ l (HH.out.mono (bel_up _ _)) (HN.out.below (bel_up _ _) HGW.out) (by have := HL.out; rw [HT.out] at this; simp only [List.length_append] at this; (try simp only [Nat.reduceAdd]); omega) (Nat.le_trans HB.out (by simp))).mono ?_
        rintro e w2 ⟨rfl, h1, h2, h3⟩
        have V2 : Hid (IsW B b (.slice (some ⟨g, o, none⟩) re.length cap) (l ++ bnd (TX re a) 2) w2) := h1
        have A2 : Hid _ := A0.out.fr h2 (by have := HLB.out; omega)
        have R2 : Hid _ := (Fr.of (bel_up _ _) HB.out).trans h2
        have S2 : Hid _ := h3
        have N2 : Hid _ := (HN.out.below (bel_up W _) HGW.out).below h2.bel HG.out
        clear h1 h2 h3
        obtain ⟨d0, d1, d2, d3, d4, d5, d6⟩ := A2.out.cells
        go_wp2_with fail
        refine (operand_any B b g o cap re z HZ.out HG.out (i - 1) (by have := HI.out; omega) (IHB.out) 2 (by omega) _ (l ++ bnd (TX re a) 2) V2.out N2.out (by have := HL.out; rw [HT.out] at this; simp only [List.length_append] at this ⊢; (try simp only [Nat.reduceAdd]); omega) S2.out).mono ?_
        rintro e w4 ⟨rfl, h1, h2, h3⟩
        have V4 : Hid (IsW B b (.slice (some ⟨g, o, none⟩) re.length cap) ((l ++ bnd (TX re a) 2) ++ bnd (TX re (i - 1)) 3) w4) := h1
        have R4 : Hid _ := R2.out.trans h2
        have S4 : Hid _ := h3
        clear h1 h2 h3 d0 d1 d2 d3 d4 d5 d6
        go_wp2_with fail
        go_end0
        refine ⟨rfl, ?_, R4.out, S4.out⟩
        have := V4.out
        skip
        rw [HT.out]
        simp only [List.append_assoc] at this ⊢
        exact this
      · have hT : TX re i = ((TX re a).1 ++ [124] ++ bnd (TX re (i - 1)) 2, 1) := by
          rw [t1]; unfold ent
          have q1 := t2 a (by omega)
          have q2 := t2 (i - 1) (by omega)
          rw [h1, e1, e2, q1, q2]
          simp
        have HT : Hid _ := hT
        rw [h1] at k0
        rw [ha] at k5
        rw [hbb] at k6
        have A0 : Hid _ := AtN.new W 4 n.m (a : Int) ((i - 1 : Nat) : Int)
        clear hT h1 e1 e2 hi2 h3 ha hb hbb hzz t1 t2 hre hp hni
        go_enter Tryd.func26, Tryd.ntmps26
        go_wp2_with fail
        refine (operand_any B b g o cap re z HZ.out HG.out a (by have := HI.out; have := HA1.out; omega) (IHA.out) 0 (by omega) _ l (HH.out.mono (bel_up _ _)) (HN.out.below (bel_up _ _) HGW.out) (by have := HL.out; rw [HT.out] at this; simp only [List.length_append, List.length_cons, List.length_nil] at this; rw [bnd1 re a (by have := HI.out; have := HA1.out; omega)]; (try simp only [Nat.reduceAdd]); omega) (Nat.le_trans HB.out (by simp))).mono ?_
        rintro e w2 ⟨rfl, h1, h2, h3⟩
        have V2 : Hid (IsW B b (.slice (some ⟨g, o, none⟩) re.length cap) (l ++ bnd (TX re a) 1) w2) := h1
        have A2 : Hid _ := A0.out.fr h2 (by have := HLB.out; omega)
        have R2 : Hid _ := (Fr.of (bel_up _ _) HB.out).trans h2
        have S2 : Hid _ := h3
        have N2 : Hid _ := (HN.out.below (bel_up W _) HGW.out).below h2.bel HG.out
        clear h1 h2 h3
        obtain ⟨d0, d1, d2, d3, d4, d5, d6⟩ := A2.out.cells
        go_wp2_with fail
        refine (wB B b _ (l ++ bnd (TX re a) 1) 124 _ V2.out (by have := HL.out; rw [HT.out] at this; simp only [List.length_append, List.length_cons, List.length_nil] at this ⊢; rw [bnd1 re a (by have := HI.out; have := HA1.out; omega)]; (try simp only [Nat.reduceAdd]); omega) S2.out).mono ?_
        rintro e w3 ⟨rfl, h1, h2, h3⟩
        have V3 : Hid (IsW B b (.slice (some ⟨g, o, none⟩) re.length cap) ((l ++ bnd (TX re a) 1) ++ [124]) w3) := h1
        have A3 : Hid _ := A2.out.fr h2 (by have := HLB.out; omega)
        have R3 : Hid _ := R2.out.trans h2
        have S3 : Hid _ := h3
        have N3 : Hid _ := N2.out.below h2.bel HG.out
        clear h1 h2 h3 d0 d1 d2 d3 d4 d5 d6
        obtain ⟨d0, d1, d2, d3, d4, d5, d6⟩ := A3.out.cells
        go_wp2_with fail
        refine (operand_any B b g o cap re z HZ.out HG.out (i - 1) (by have := HI.out; omega) (IHB.out) 1 (by omega) _ ((l ++ bnd (TX re a) 1) ++ [124]) V3.out N3.out (by have := HL.out; rw [HT.out] at this; simp only [List.length_append, List.length_cons, List.length_nil] at this ⊢; rw [bnd1 re a (by have := HI.out; have := HA1.out; omega)]; (try simp only [Nat.reduceAdd]); omega) S3.out).mono ?_
        rintro e w4 ⟨rfl, h1, h2, h3⟩
        have V4 : Hid (IsW B b (.slice (some ⟨g, o, none⟩) re.length cap) (((l ++ bnd (TX re a) 1) ++ [124]) ++ bnd (TX re (i - 1)) 2) w4) := h1
        have R4 : Hid _ := R3.out.trans h2
        have S4 : Hid _ := h3
        clear h1 h2 h3 d0 d1 d2 d3 d4 d5 d6
        go_wp2_with fail
        go_end0
        refine ⟨rfl, ?_, R4.out, S4.out⟩
        have := V4.out
        rw [bnd1 re a (by have := HI.out; have := HA1.out; omega)] at this
        rw [HT.out]
        simp only [List.append_assoc] at this ⊢
        exact this
end Go.Proofs.YtkjcnnecdclgfaaDoor
