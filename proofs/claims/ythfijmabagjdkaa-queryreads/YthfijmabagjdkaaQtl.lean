import Derived.Test.YthfijmabagjdkaaQtj
import Derived.Deep.AppendLies
namespace Go.Proofs.Ythfijmabagjdkaa.Qy
open Go.RowKit Go.Maps

/-- A query's copy under way. -/
structure Tw (B : Nat) (W : World) (b3 : Nat) (un uc : Value) (l : List Pn) (cs : List Cd) : Prop where
  lt : B ≤ b3
  blk : W.heap[b3]? = some (.cells #[un, uc] 25 (0, 0))
  ns : W.ownsRow B 46 5 un l.length (flat pf l)
  cs : W.ownsRow B 48 4 uc cs.length (flat cf cs)
theorem take_snoc {α : Type} (l : List α) (d : α) (i : Nat) (hi : i < l.length) : l.take i ++ [l.getD i d] = l.take (i + 1) := by
  rw [List.take_add_one, List.getElem?_eq_getElem hi, List.getD_eq_getElem?_getD, List.getElem?_eq_getElem hi]; rfl
theorem Tw.size {B : Nat} {W : World} {b3 : Nat} {un uc : Value} {l : List Pn} {cs : List Cd} (h : Tw B W b3 un uc l cs) : B ≤ W.heap.size ∧ b3 < W.heap.size := by
  have := lt_of_heap h.blk
  have := h.lt
  exact ⟨by omega, by omega⟩
theorem Tw.up {B : Nat} {W W' : World} {b3 : Nat} {un uc : Value} {l : List Pn} {cs : List Cd} (h : Tw B W b3 un uc l cs) (hb : Below W.heap.size W W') : Tw B W' b3 un uc l cs :=
  ⟨h.lt, (hb.block _ (lt_of_heap h.blk)).trans h.blk, row_up h.ns hb, row_up h.cs hb⟩
theorem Tw.appN {B : Nat} {W W5 : World} {b3 : Nat} {un uc v5 : Value} {l : List Pn} {cs : List Cd} {o : Obj} (p : Pn) (h : Tw B W b3 un uc l cs) (hg : (W.alloc o).grownBy W5 un.ownBlock) (ho : W5.ownsRow B 46 5 v5 (l.length + 1) (flat pf l ++ pf p)) : Tw B (W5.setCell ⟨b3, 0, none⟩ v5) b3 v5 uc (l ++ [p]) cs ∧ Below B W (W5.setCell ⟨b3, 0, none⟩ v5) := by
  have hg' : W.grownBy W5 un.ownBlock := (World.grownBy_alloc W o un.ownBlock).trans hg
  have hb : Below B W W5 := (Below.refl B W).grown hg' h.size.1 (fun r hr => (row_tag h.ns r hr).1)
  have k1 : W5.heap[b3]? = some (.cells #[un, uc] 25 (0, 0)) := (hg'.block b3 (lt_of_heap h.blk) (fun e => tag_ne_blk h.ns h.blk (by decide) e.symm)).trans h.blk
  have kc : W5.ownsRow B 48 4 uc cs.length (flat cf cs) := h.cs.kept hg' (tag_ne h.cs h.ns (by decide))
  have kn : W5.ownsRow B 46 5 v5 (l ++ [p]).length (flat pf (l ++ [p])) := by
    rw [List.length_append, flat_app]
    have : flat pf [p] = pf p := by simp [flat]
    rw [this]
    exact ho
  exact ⟨⟨h.lt, by rw [blk_set _ k1]; rfl, (row_off k1 kn (by decide)).1, (row_off k1 kc (by decide)).1⟩, Below.setCell hb h.lt _⟩
theorem Tw.appC {B : Nat} {W W5 : World} {b3 : Nat} {un uc v5 : Value} {l : List Pn} {cs : List Cd} {o : Obj} (p : Cd) (h : Tw B W b3 un uc l cs) (hg : (W.alloc o).grownBy W5 uc.ownBlock) (ho : W5.ownsRow B 48 4 v5 (cs.length + 1) (flat cf cs ++ cf p)) : Tw B (W5.setCell ⟨b3, 1, none⟩ v5) b3 un v5 l (cs ++ [p]) ∧ Below B W (W5.setCell ⟨b3, 1, none⟩ v5) := by
  have hg' : W.grownBy W5 uc.ownBlock := (World.grownBy_alloc W o uc.ownBlock).trans hg
  have hb : Below B W W5 := (Below.refl B W).grown hg' h.size.1 (fun r hr => (row_tag h.cs r hr).1)
  have k1 : W5.heap[b3]? = some (.cells #[un, uc] 25 (0, 0)) := (hg'.block b3 (lt_of_heap h.blk) (fun e => tag_ne_blk h.cs h.blk (by decide) e.symm)).trans h.blk
  have kn : W5.ownsRow B 46 5 un l.length (flat pf l) := h.ns.kept hg' (tag_ne h.ns h.cs (by decide))
  have kc : W5.ownsRow B 48 4 v5 (cs ++ [p]).length (flat cf (cs ++ [p])) := by
    rw [List.length_append, flat_app]
    have : flat cf [p] = cf p := by simp [flat]
    rw [this]
    exact ho
  exact ⟨⟨h.lt, by rw [blk_set _ k1]; rfl, (row_off k1 kn (by decide)).1, (row_off k1 kc (by decide)).1⟩, Below.setCell hb h.lt _⟩
set_option maxRecDepth 100000 in
set_option maxHeartbeats 16000000 in
theorem twinq_any {vn vc : Value} {l : List Pn} {cs : List Cd} (w : World) (ha : Ps w vn l) (hc : Cs w vc cs) (hl : l.length ≤ 1048576) (hm : cs.length ≤ 1048576) : Calls Try.prog 6 #[.agg #[vn, vc]] w fun e w' => ∃ un uc, e = .returned (.agg #[un, uc]) ∧ w'.ownsRow w.heap.size 46 5 un l.length (flat pf l) ∧ w'.ownsRow w.heap.size 48 4 uc cs.length (flat cf cs) ∧ Below w.heap.size w w' := by
  obtain ⟨iP, hiP, px0, px1, px2⟩ := info_parts infoP
  obtain ⟨iC, hiC, cx0, cx1, cx2⟩ := info_parts infoC
  obtain ⟨na, nc, hvn⟩ := ha.form
  obtain ⟨ka, kc, hvc⟩ := hc.form
  obtain ⟨n, hn⟩ : ∃ n, l.length = n := ⟨_, rfl⟩
  obtain ⟨m, hm1⟩ : ∃ m, cs.length = m := ⟨_, rfl⟩
  have HN : Hid (l.length = n ∧ n ≤ 1048576) := ⟨hn, by rw [← hn]; exact hl⟩
  have HM : Hid (cs.length = m ∧ m ≤ 1048576) := ⟨hm1, by rw [← hm1]; exact hm⟩
  rw [hn] at hvn
  rw [hm1] at hvc
  subst hvn hvc
  obtain ⟨W1, hW1⟩ : ∃ W1, W1 = w.alloc (.cells #[.slice na n nc, .slice ka m kc] 25) := ⟨_, rfl⟩
  obtain ⟨W2, hW2⟩ : ∃ W2, W2 = W1.alloc (.cells #[.slice none 0 0, .slice none 0 0] 25) := ⟨_, rfl⟩
  obtain ⟨W3, hW3⟩ : ∃ W3, W3 = W2.alloc (.cells #[.slice none 0 0, .slice none 0 0] 25) := ⟨_, rfl⟩
  have HB1 : Hid (Below w.heap.size w W1) := by rw [hW1]; exact bel_up _ _
  have HB2 : Hid (Below W1.heap.size W1 W2) := by rw [hW2]; exact bel_up _ _
  have HB3 : Hid (Below W2.heap.size W2 W3) := by rw [hW3]; exact bel_up _ _
  obtain ⟨B, hB⟩ : ∃ B, w.heap.size = B := ⟨_, rfl⟩
  have s1 : W1.heap.size = B + 1 := by rw [hW1, ← hB]; simp
  have s2 : W2.heap.size = B + 2 := by rw [hW2]; simp [s1]
  have h1 : W1.heap[B]? = some (.cells #[.slice na n nc, .slice ka m kc] 25 (0, 0)) := by rw [hW1, ← hB]; exact heap_new w _
  have h2 : W2.heap[B + 1]? = some (.cells #[.slice none 0 0, .slice none 0 0] 25 (0, 0)) := by rw [hW2, ← s1]; exact heap_new W1 _
  have h3 : W3.heap[B + 2]? = some (.cells #[.slice none 0 0, .slice none 0 0] 25 (0, 0)) := by rw [hW3, ← s2]; exact heap_new W2 _
  have HBW : Hid (Below B w W3) := by rw [← hB]; exact below_trans (below_trans HB1.out HB2.out) HB3.out
  have H1 : Hid (∀ W, Below (B + 2) W3 W → W.heap[B]? = some (.cells #[.slice na n nc, .slice ka m kc] 25 (0, 0)) ∧ W.heap[B + 1]? = some (.cells #[.slice none 0 0, .slice none 0 0] 25 (0, 0)) ∧ Ps W (.slice na n nc) l ∧ Cs W (.slice ka m kc) cs) := fun W hW => by
    have g1 := (HB2.out.block B (by omega)).trans h1
    have g2 := (HB3.out.block B (by omega)).trans g1
    have g3 := (HB3.out.block (B + 1) (by omega)).trans h2
    have hb : Below w.heap.size w W := by rw [hB]; exact HBW.out.trans (hW.mono (by omega))
    exact ⟨(hW.block B (by omega)).trans g2, (hW.block (B + 1) (by omega)).trans g3, ha.up hb, hc.up hb⟩
  have HT0 : Hid (Tw (B + 2) W3 (B + 2) (.slice none 0 0) (.slice none 0 0) [] []) := ⟨Nat.le_refl _, h3, World.ownsRow_nil _ _ _ _, World.ownsRow_nil _ _ _ _⟩
  have HS : Hid (w.heap.size = B) := hB
  clear ha hc hl hm hn hm1 HB1 HB2 HB3 h1 h2 h3
  go_enter Try.func6, Try.ntmps6
  go_upto_region 3 with fail
  rw [← hW1, ← hW2, ← hW3, show B + 1 + 1 = B + 2 from rfl]
  clear hW1 hW2 hW3 s1 s2
  obtain ⟨b3, hb3⟩ : ∃ b3, B + 2 = b3 := ⟨_, rfl⟩
  have HB3 : Hid (B + 2 = b3) := hb3
  rw [hb3] at H1 HT0 ⊢
  clear hb3 hB
  go_loopg [4] n (fun gm v4 wr => ∃ (i : Nat) (un : Value), v4 = .int .i64 (i : Int) ∧ Hid (i ≤ n ∧ gm = n - i) ∧ Hid (Tw b3 wr b3 un (.slice none 0 0) (l.take i) []) ∧ Hid (Below b3 W3 wr))
  case atStart => exact ⟨0, .slice none 0 0, rfl, ⟨Nat.zero_le _, rfl⟩, HT0.out, Below.refl _ _⟩
  case round =>
    obtain ⟨i, un, rfl, HI, HT, HB⟩ := hrel
    obtain ⟨w5, hw5⟩ : ∃ w5, w5 = wr := ⟨_, rfl⟩
    rw [← hw5] at HT HB ⊢
    clear hw5 HT0
    have hq1 := (H1.out w5 HB.out).1
    have k1 := rcell hq1 0 _ rfl
    clear hq1
    by_cases hi : i < n
    · have HIL : Hid (i < l.length) := by have := HN.out; show _ < _; omega
      obtain ⟨g, o, e9, -⟩ := (H1.out w5 HB.out).2.2.1.all i HIL.out
      subst e9
      have HSC : Hid (∀ W, Below b3 W3 W → W.cell? ⟨B, 0, none⟩ = some (.slice (some ⟨g, o, none⟩) n nc)) := fun W hW => rcell (H1.out W hW).1 0 _ rfl
      obtain ⟨p, hp⟩ : ∃ p, l.getD i pz = p := ⟨_, rfl⟩
      have HPC : Hid (∀ W, Below b3 W3 W → W.cell? ⟨g, o + i * 5, none⟩ = some (.string p.nm) ∧ W.cell? ⟨g, o + i * 5 + 1, none⟩ = some (.bool p.lit) ∧ W.cell? ⟨g, o + i * 5 + 2, none⟩ = some (.string p.fd) ∧ W.cell? ⟨g, o + i * 5 + 3, none⟩ = some (.string p.cp) ∧ W.cell? ⟨g, o + i * 5 + 4, none⟩ = some (.int .i64 p.kd)) := fun W hW => by
        obtain ⟨g2, o2, e2, h3⟩ := (H1.out W hW).2.2.1.all i HIL.out
        have e4 := Option.some.inj e2
        injection e4 with e5 e6
        subst e5 e6
        rw [hp] at h3
        exact h3
      have HTS : Hid (l.take i ++ [p] = l.take (i + 1)) := by rw [← hp]; exact take_snoc l pz i HIL.out
      have HTL : Hid ((l.take i).length = i) := by show _ = _; rw [List.length_take]; have := HIL.out; omega
      obtain ⟨ua, uc, hun⟩ := row_shape HT.out.ns
      rw [HTL.out] at hun
      subst hun
      have b0 : (0 : Int) ≤ (i : Int) := by omega
      have b1 : (i : Int) < (n : Int) := by omega
      have d1 : decide ((i : Int) < (n : Int)) = true := decide_eq_true b1
      have HI2 : Hid (i < n) := hi
      clear hp
      go_upto_region 5 with fail
      obtain ⟨wD, hwD⟩ : ∃ wD, wD = w5.drew := ⟨_, rfl⟩
      have HTD : Hid (Tw b3 wD b3 (.slice ua i uc) (.slice none 0 0) (l.take i) []) := by rw [hwD]; exact HT.out.up (Below.drew (Below.refl _ _))
      have HBD : Hid (Below b3 W3 wD) := by rw [hwD]; exact Below.drew HB.out
      have HROW : Hid ((wD.alloc (.cells #[.string p.nm, .bool p.lit, .string p.fd, .string p.cp, .int .i64 p.kd] 46)).ownsRow b3 46 5 (.slice ua i uc) i (flat pf (l.take i))) := by
        have h9 := HTD.out.ns
        rw [HTL.out] at h9
        exact h9.alloc _
      have kD : wD.cell? ⟨b3, 0, none⟩ = some (.slice ua i uc) := rcell HTD.out.blk 0 _ rfl
      have kE : (wD.alloc (.cells #[.string p.nm, .bool p.lit, .string p.fd, .string p.cp, .int .i64 p.kd] 46)).cell? ⟨b3, 0, none⟩ = some (.slice ua i uc) := cell_up _ kD
      clear HT HB k1
      refine wp_region_noPanic ?_
      refine wp_region_held_drew (S := fun W => Below b3 W3 W) (by kernel_rfl) (by rw [← hwD]; exact HBD.out) (fun hHeld => ?_)
      rw [← hwD] at hHeld ⊢
      clear hwD
      refine wpAnyH_take (i := 0) (oi := { dst := _, op := _, type := _, pos := _, after := _, guard := _ }) (v := ?_) rfl (by kernel_rfl) (by kernel_rfl) (by kernel_rfl) (fun _ _ _ h => h) (Or.inl ⟨by rfl, ?_⟩) (by assumption) ?_
      rotate_left
      · intro W hSw
        (try dsimp only at hSw)
        go_simp
        (try with_reducible rfl)
      try simp only [Act.put, List.setIfInBounds_toArray, List.set_cons_zero, List.set_cons_succ]
      refine wpAnyH_take (i := 2) (oi := { dst := _, op := _, type := _, pos := _, after := _, guard := _ }) (v := ?_) rfl (by kernel_rfl) (by kernel_rfl) (by kernel_rfl) (fun _ _ _ h => h) (Or.inl ⟨by rfl, ?_⟩) (by assumption) ?_
      rotate_left
      · intro W hSw
        (try dsimp only at hSw)
        go_simp
        (try with_reducible rfl)
      try simp only [Act.put, List.setIfInBounds_toArray, List.set_cons_zero, List.set_cons_succ]
      refine wpAnyH_take (i := 3) (oi := { dst := _, op := _, type := _, pos := _, after := _, guard := _ }) (v := ?_) rfl (by kernel_rfl) (by kernel_rfl) (by kernel_rfl) (fun _ _ _ h => h) (Or.inl ⟨by rfl, ?_⟩) (by assumption) ?_
      rotate_left
      · intro W hSw
        (try dsimp only at hSw)
        have y0 := HSC.out W hSw
        go_simp
        (try with_reducible rfl)
      try simp only [Act.put, List.setIfInBounds_toArray, List.set_cons_zero, List.set_cons_succ]
      refine wpAnyH_take (i := 4) (oi := { dst := _, op := _, type := _, pos := _, after := _, guard := _ }) (v := ?_) rfl (by kernel_rfl) (by kernel_rfl) (by kernel_rfl) (fun _ _ _ h => h) (Or.inl ⟨by rfl, ?_⟩) (by assumption) ?_
      rotate_left
      · intro W hSw
        (try dsimp only at hSw)
        go_simp
        (try with_reducible rfl)
      try simp only [Act.put, List.setIfInBounds_toArray, List.set_cons_zero, List.set_cons_succ]
      refine wpAnyH_take (i := 5) (oi := { dst := _, op := _, type := _, pos := _, after := _, guard := _ }) (v := ?_) rfl (by kernel_rfl) (by kernel_rfl) (by kernel_rfl) (fun _ _ _ h => h) (Or.inl ⟨by rfl, ?_⟩) (by assumption) ?_
      rotate_left
      · intro W hSw
        (try dsimp only at hSw)
        go_simp
        (try with_reducible rfl)
      try simp only [Act.put, List.setIfInBounds_toArray, List.set_cons_zero, List.set_cons_succ]
      refine wpAnyH_take (i := 6) (oi := { dst := _, op := _, type := _, pos := _, after := _, guard := _ }) (v := ?_) rfl (by kernel_rfl) (by kernel_rfl) (by kernel_rfl) (fun _ _ _ h => h) (Or.inl ⟨by rfl, ?_⟩) (by assumption) ?_
      rotate_left
      · intro W hSw
        (try dsimp only at hSw)
        obtain ⟨s0, s1, s2, s3, s4⟩ := HPC.out W hSw
        go_simp
        (try with_reducible rfl)
      try simp only [Act.put, List.setIfInBounds_toArray, List.set_cons_zero, List.set_cons_succ]
      refine wpAnyH_ready (rs := [1, 7]) (by kernel_rfl) (by simp) ?_
      refine AllReadyH.cons (o := { dst := _, op := _, type := _, pos := _, after := _, guard := _ }) rfl (fun K hK => ?_) (AllReadyH.cons (o := { dst := _, op := _, type := _, pos := _, after := _, guard := _ }) rfl (fun K hK => ?_) AllReadyH.nil)
      · go_simp
        refine hK.out _ _ ?_ (fun hHeld => ?_)
        · exact HBD.out
        clear hK K
        try simp only [Act.put, List.setIfInBounds_toArray, List.set_cons_zero, List.set_cons_succ]
        refine wpAnyH_ready (rs := [7]) (by kernel_rfl) (by simp) ?_
        refine AllReadyH.cons (o := { dst := _, op := _, type := _, pos := _, after := _, guard := _ }) rfl (fun K hK => ?_) AllReadyH.nil
        go_simp
        refine hK.out _ _ ?_ (fun hHeld => ?_)
        · exact HBD.out.trans ((bel_up _ _).mono HTD.out.size.1)
        clear hK K
        try simp only [Act.put, List.setIfInBounds_toArray, List.set_cons_zero, List.set_cons_succ]
        refine wpAnyH_ready (rs := [8]) (by kernel_rfl) (by simp) ?_
        refine AllReadyH.cons (o := { dst := _, op := _, type := _, pos := _, after := _, guard := _ }) rfl (fun K hK => ?_) AllReadyH.nil
        refine step_append_lies _ rfl (.tmp 14) (.tmp 20) 22 rfl b3 46 iP _ 5 64 Try.underlying22 hiP px0 px1 px2 rfl (by decide) (.slice ua i uc) i (flat pf (l.take i)) rfl HROW.out ⟨wD.heap.size, 0, none⟩ 1 1 [.string p.nm, .bool p.lit, .string p.fd, .string p.cp, .int .i64 p.kd] rfl rfl (World.news_of_block (heap_new wD _)) (by simp [Value.oneCell']) (by decide) (by have := HI2.out; have := HN.out; unfold maxLen; omega) (by have := HI2.out; have := HN.out; omega) (by have := HTD.out.size.1; simp; omega) (wD.heap.size + 1) (by simp) ?_
        intro g1 q1 w6 ho hg ha _
        have HO5 : Hid (w6.ownsRow b3 46 5 (.slice (some ⟨g1, 0, none⟩) (i + 1) q1) (i + 1) (flat pf (l.take i) ++ pf p)) := ho
        have HG5 : Hid ((wD.alloc (.cells #[.string p.nm, .bool p.lit, .string p.fd, .string p.cp, .int .i64 p.kd] 46)).grownBy w6 (Value.ownBlock (.slice ua i uc))) := hg
        have k6 : w6.heap[b3]? = some (.cells #[.slice ua i uc, .slice none 0 0] 25 (0, 0)) := (((World.grownBy_alloc _ _ _).trans HG5.out).block b3 (lt_of_heap HTD.out.blk) (fun e => tag_ne_blk HTD.out.ns HTD.out.blk (by decide) e.symm)).trans HTD.out.blk
        have c6 := rcell k6 0 _ rfl
        have z6 : w6.frozen? ⟨b3, 0, none⟩ = false := Lib.frozen_of_heap k6 0
        have HB6 : Hid (Below b3 W3 w6) := HBD.out.trans ((Below.refl b3 wD).grown ((World.grownBy_alloc _ _ _).trans HG5.out) HTD.out.size.1 (fun r hr => (row_tag HTD.out.ns r hr).1))
        clear ho hg ha k6
        refine hK.out _ _ ?_ (fun hHeld => ?_)
        · exact HB6.out
        clear hK K
        try simp only [Act.put, List.setIfInBounds_toArray, List.set_cons_zero, List.set_cons_succ]
        refine wpAnyH_take (i := 9) (oi := { dst := _, op := _, type := _, pos := _, after := _, guard := _ }) (v := ?_) rfl (by kernel_rfl) (by kernel_rfl) (by kernel_rfl) (fun _ _ _ h => h) (Or.inl ⟨by rfl, ?_⟩) (by assumption) ?_
        rotate_left
        · intro W hSw
          (try dsimp only at hSw)
          go_simp
          (try with_reducible rfl)
        try simp only [Act.put, List.setIfInBounds_toArray, List.set_cons_zero, List.set_cons_succ]
        refine wpAnyH_ready (rs := [10]) (by kernel_rfl) (by simp) ?_
        refine AllReadyH.cons (o := { dst := _, op := _, type := _, pos := _, after := _, guard := _ }) rfl (fun K hK => ?_) AllReadyH.nil
        go_simp
        refine hK.out _ _ ?_ (fun hHeld => ?_)
        · exact Below.setCell HB6.out (Nat.le_refl _) _
        clear hK K
        try simp only [Act.put, List.setIfInBounds_toArray, List.set_cons_zero, List.set_cons_succ]
        refine wpAnyH_done (by kernel_rfl) ?_ _
        refine NoPanic.normal ?_
        clear hHeld
        have hap := HTD.out.appN (W5 := w6) (v5 := .slice (some ⟨g1, 0, none⟩) (i + 1) q1) p HG5.out (by rw [HTL.out]; exact HO5.out)
        have HAP : Hid _ := hap
        clear hap c6 z6
        have hwi : IntKind.i64.wrap ((i : Int) + 1) = ((i + 1 : Nat) : Int) := by have := HI2.out; have := HN.out; rw [IntKind.wrap_i64]; omega
        go_wp2_with fail
        go_roundg (n - (i + 1))
        case measure => have := HI.out; have := HI2.out; omega
        case rel => exact ⟨i + 1, .slice (some ⟨g1, 0, none⟩) (i + 1) q1, by push_cast; rfl, ⟨HI2.out, rfl⟩, (by have h9 := HAP.out.1; rw [HTS.out] at h9; exact h9), HBD.out.trans HAP.out.2⟩
      · go_simp
        refine hK.out _ _ ?_ (fun hHeld => ?_)
        · exact HBD.out.trans ((bel_up _ _).mono HTD.out.size.1)
        clear hK K
        try simp only [Act.put, List.setIfInBounds_toArray, List.set_cons_zero, List.set_cons_succ]
        refine wpAnyH_ready (rs := [1]) (by kernel_rfl) (by simp) ?_
        refine AllReadyH.cons (o := { dst := _, op := _, type := _, pos := _, after := _, guard := _ }) rfl (fun K hK => ?_) AllReadyH.nil
        go_simp
        refine hK.out _ _ ?_ (fun hHeld => ?_)
        · exact HBD.out.trans ((bel_up _ _).mono HTD.out.size.1)
        clear hK K
        try simp only [Act.put, List.setIfInBounds_toArray, List.set_cons_zero, List.set_cons_succ]
        refine wpAnyH_ready (rs := [8]) (by kernel_rfl) (by simp) ?_
        refine AllReadyH.cons (o := { dst := _, op := _, type := _, pos := _, after := _, guard := _ }) rfl (fun K hK => ?_) AllReadyH.nil
        refine step_append_lies _ rfl (.tmp 14) (.tmp 20) 22 rfl b3 46 iP _ 5 64 Try.underlying22 hiP px0 px1 px2 rfl (by decide) (.slice ua i uc) i (flat pf (l.take i)) rfl HROW.out ⟨wD.heap.size, 0, none⟩ 1 1 [.string p.nm, .bool p.lit, .string p.fd, .string p.cp, .int .i64 p.kd] rfl rfl (World.news_of_block (heap_new wD _)) (by simp [Value.oneCell']) (by decide) (by have := HI2.out; have := HN.out; unfold maxLen; omega) (by have := HI2.out; have := HN.out; omega) (by have := HTD.out.size.1; simp; omega) (wD.heap.size + 1) (by simp) ?_
        intro g1 q1 w6 ho hg ha _
        have HO5 : Hid (w6.ownsRow b3 46 5 (.slice (some ⟨g1, 0, none⟩) (i + 1) q1) (i + 1) (flat pf (l.take i) ++ pf p)) := ho
        have HG5 : Hid ((wD.alloc (.cells #[.string p.nm, .bool p.lit, .string p.fd, .string p.cp, .int .i64 p.kd] 46)).grownBy w6 (Value.ownBlock (.slice ua i uc))) := hg
        have k6 : w6.heap[b3]? = some (.cells #[.slice ua i uc, .slice none 0 0] 25 (0, 0)) := (((World.grownBy_alloc _ _ _).trans HG5.out).block b3 (lt_of_heap HTD.out.blk) (fun e => tag_ne_blk HTD.out.ns HTD.out.blk (by decide) e.symm)).trans HTD.out.blk
        have c6 := rcell k6 0 _ rfl
        have z6 : w6.frozen? ⟨b3, 0, none⟩ = false := Lib.frozen_of_heap k6 0
        have HB6 : Hid (Below b3 W3 w6) := HBD.out.trans ((Below.refl b3 wD).grown ((World.grownBy_alloc _ _ _).trans HG5.out) HTD.out.size.1 (fun r hr => (row_tag HTD.out.ns r hr).1))
        clear ho hg ha k6
        refine hK.out _ _ ?_ (fun hHeld => ?_)
        · exact HB6.out
        clear hK K
        try simp only [Act.put, List.setIfInBounds_toArray, List.set_cons_zero, List.set_cons_succ]
        refine wpAnyH_take (i := 9) (oi := { dst := _, op := _, type := _, pos := _, after := _, guard := _ }) (v := ?_) rfl (by kernel_rfl) (by kernel_rfl) (by kernel_rfl) (fun _ _ _ h => h) (Or.inl ⟨by rfl, ?_⟩) (by assumption) ?_
        rotate_left
        · intro W hSw
          (try dsimp only at hSw)
          go_simp
          (try with_reducible rfl)
        try simp only [Act.put, List.setIfInBounds_toArray, List.set_cons_zero, List.set_cons_succ]
        refine wpAnyH_ready (rs := [10]) (by kernel_rfl) (by simp) ?_
        refine AllReadyH.cons (o := { dst := _, op := _, type := _, pos := _, after := _, guard := _ }) rfl (fun K hK => ?_) AllReadyH.nil
        go_simp
        refine hK.out _ _ ?_ (fun hHeld => ?_)
        · exact Below.setCell HB6.out (Nat.le_refl _) _
        clear hK K
        try simp only [Act.put, List.setIfInBounds_toArray, List.set_cons_zero, List.set_cons_succ]
        refine wpAnyH_done (by kernel_rfl) ?_ _
        refine NoPanic.normal ?_
        clear hHeld
        have hap := HTD.out.appN (W5 := w6) (v5 := .slice (some ⟨g1, 0, none⟩) (i + 1) q1) p HG5.out (by rw [HTL.out]; exact HO5.out)
        have HAP : Hid _ := hap
        clear hap c6 z6
        have hwi : IntKind.i64.wrap ((i : Int) + 1) = ((i + 1 : Nat) : Int) := by have := HI2.out; have := HN.out; rw [IntKind.wrap_i64]; omega
        go_wp2_with fail
        go_roundg (n - (i + 1))
        case measure => have := HI.out; have := HI2.out; omega
        case rel => exact ⟨i + 1, .slice (some ⟨g1, 0, none⟩) (i + 1) q1, by push_cast; rfl, ⟨HI2.out, rfl⟩, (by have h9 := HAP.out.1; rw [HTS.out] at h9; exact h9), HBD.out.trans HAP.out.2⟩
    · have hin : i = n := by have := HI.out; omega
      subst hin
      have d1 : decide ((i : Int) < (i : Int)) = false := by simp
      have HT2 : Hid (Tw b3 w5 b3 un (.slice none 0 0) l []) := by have h9 := HT.out; rw [List.take_of_length_le (by have := HN.out; omega)] at h9; exact h9
      have HBE : Hid (Below b3 W3 w5) := HB.out
      clear hi HT HB HI
      go_upto_region 7 with fail
      clear k1 d1
      go_loopg [5] m (fun gm v5 wr => ∃ (j : Nat) (vc2 : Value), v5 = .int .i64 (j : Int) ∧ Hid (j ≤ m ∧ gm = m - j) ∧ Hid (Tw b3 wr b3 un vc2 l (cs.take j)) ∧ Hid (Below b3 W3 wr))
      case atStart => exact ⟨0, .slice none 0 0, rfl, ⟨Nat.zero_le _, rfl⟩, HT2.out, HBE.out⟩
      case round =>
        obtain ⟨j, vc2, rfl, HJ, HT, HB⟩ := hrel
        obtain ⟨w7, hw7⟩ : ∃ w7, w7 = wr := ⟨_, rfl⟩
        rw [← hw7] at HT HB ⊢
        clear hw7 HT2 HBE
        have hq1 := (H1.out w7 HB.out).1
        have k1 := rcell hq1 1 _ rfl
        clear hq1
        by_cases hj : j < m
        · have HIL : Hid (j < cs.length) := by have := HM.out; show _ < _; omega
          obtain ⟨g, o, e9, -⟩ := (H1.out w7 HB.out).2.2.2.all j HIL.out
          subst e9
          have HSC : Hid (∀ W, Below b3 W3 W → W.cell? ⟨B, 1, none⟩ = some (.slice (some ⟨g, o, none⟩) m kc)) := fun W hW => rcell (H1.out W hW).1 1 _ rfl
          obtain ⟨p, hp⟩ : ∃ p, cs.getD j cz = p := ⟨_, rfl⟩
          have HPC : Hid (∀ W, Below b3 W3 W → W.cell? ⟨g, o + j * 4, none⟩ = some (.bool p.nt) ∧ W.cell? ⟨g, o + j * 4 + 1, none⟩ = some (.string p.a) ∧ W.cell? ⟨g, o + j * 4 + 2, none⟩ = some (.string p.b) ∧ W.cell? ⟨g, o + j * 4 + 3, none⟩ = some (.string p.tx)) := fun W hW => by
            obtain ⟨g2, o2, e2, h3⟩ := (H1.out W hW).2.2.2.all j HIL.out
            have e4 := Option.some.inj e2
            injection e4 with e5 e6
            subst e5 e6
            rw [hp] at h3
            exact h3
          have HTS : Hid (cs.take j ++ [p] = cs.take (j + 1)) := by rw [← hp]; exact take_snoc cs cz j HIL.out
          have HTL : Hid ((cs.take j).length = j) := by show _ = _; rw [List.length_take]; have := HIL.out; omega
          obtain ⟨ua, uc, hun⟩ := row_shape HT.out.cs
          rw [HTL.out] at hun
          subst hun
          have b0 : (0 : Int) ≤ (j : Int) := by omega
          have b1 : (j : Int) < (m : Int) := by omega
          have d1 : decide ((j : Int) < (m : Int)) = true := decide_eq_true b1
          have HJ2 : Hid (j < m) := hj
          clear hp
          go_upto_region 9 with fail
          obtain ⟨wD, hwD⟩ : ∃ wD, wD = w7.drew := ⟨_, rfl⟩
          have HTD : Hid (Tw b3 wD b3 un (.slice ua j uc) l (cs.take j)) := by rw [hwD]; exact HT.out.up (Below.drew (Below.refl _ _))
          have HBD : Hid (Below b3 W3 wD) := by rw [hwD]; exact Below.drew HB.out
          have HROW : Hid ((wD.alloc (.cells #[.bool p.nt, .string p.a, .string p.b, .string p.tx] 48)).ownsRow b3 48 4 (.slice ua j uc) j (flat cf (cs.take j))) := by
            have h9 := HTD.out.cs
            rw [HTL.out] at h9
            exact h9.alloc _
          have kD : wD.cell? ⟨b3, 1, none⟩ = some (.slice ua j uc) := rcell HTD.out.blk 1 _ rfl
          have kE : (wD.alloc (.cells #[.bool p.nt, .string p.a, .string p.b, .string p.tx] 48)).cell? ⟨b3, 1, none⟩ = some (.slice ua j uc) := cell_up _ kD
          clear HT HB k1
          refine wp_region_noPanic ?_
          refine wp_region_held_drew (S := fun W => Below b3 W3 W) (by kernel_rfl) (by rw [← hwD]; exact HBD.out) (fun hHeld => ?_)
          rw [← hwD] at hHeld ⊢
          clear hwD
          refine wpAnyH_take (i := 0) (oi := { dst := _, op := _, type := _, pos := _, after := _, guard := _ }) (v := ?_) rfl (by kernel_rfl) (by kernel_rfl) (by kernel_rfl) (fun _ _ _ h => h) (Or.inl ⟨by rfl, ?_⟩) (by assumption) ?_
          rotate_left
          · intro W hSw
            (try dsimp only at hSw)
            go_simp
            (try with_reducible rfl)
          try simp only [Act.put, List.setIfInBounds_toArray, List.set_cons_zero, List.set_cons_succ]
          refine wpAnyH_take (i := 2) (oi := { dst := _, op := _, type := _, pos := _, after := _, guard := _ }) (v := ?_) rfl (by kernel_rfl) (by kernel_rfl) (by kernel_rfl) (fun _ _ _ h => h) (Or.inl ⟨by rfl, ?_⟩) (by assumption) ?_
          rotate_left
          · intro W hSw
            (try dsimp only at hSw)
            go_simp
            (try with_reducible rfl)
          try simp only [Act.put, List.setIfInBounds_toArray, List.set_cons_zero, List.set_cons_succ]
          refine wpAnyH_take (i := 3) (oi := { dst := _, op := _, type := _, pos := _, after := _, guard := _ }) (v := ?_) rfl (by kernel_rfl) (by kernel_rfl) (by kernel_rfl) (fun _ _ _ h => h) (Or.inl ⟨by rfl, ?_⟩) (by assumption) ?_
          rotate_left
          · intro W hSw
            (try dsimp only at hSw)
            have y0 := HSC.out W hSw
            go_simp
            (try with_reducible rfl)
          try simp only [Act.put, List.setIfInBounds_toArray, List.set_cons_zero, List.set_cons_succ]
          refine wpAnyH_take (i := 4) (oi := { dst := _, op := _, type := _, pos := _, after := _, guard := _ }) (v := ?_) rfl (by kernel_rfl) (by kernel_rfl) (by kernel_rfl) (fun _ _ _ h => h) (Or.inl ⟨by rfl, ?_⟩) (by assumption) ?_
          rotate_left
          · intro W hSw
            (try dsimp only at hSw)
            go_simp
            (try with_reducible rfl)
          try simp only [Act.put, List.setIfInBounds_toArray, List.set_cons_zero, List.set_cons_succ]
          refine wpAnyH_take (i := 5) (oi := { dst := _, op := _, type := _, pos := _, after := _, guard := _ }) (v := ?_) rfl (by kernel_rfl) (by kernel_rfl) (by kernel_rfl) (fun _ _ _ h => h) (Or.inl ⟨by rfl, ?_⟩) (by assumption) ?_
          rotate_left
          · intro W hSw
            (try dsimp only at hSw)
            go_simp
            (try with_reducible rfl)
          try simp only [Act.put, List.setIfInBounds_toArray, List.set_cons_zero, List.set_cons_succ]
          refine wpAnyH_take (i := 6) (oi := { dst := _, op := _, type := _, pos := _, after := _, guard := _ }) (v := ?_) rfl (by kernel_rfl) (by kernel_rfl) (by kernel_rfl) (fun _ _ _ h => h) (Or.inl ⟨by rfl, ?_⟩) (by assumption) ?_
          rotate_left
          · intro W hSw
            (try dsimp only at hSw)
            obtain ⟨s0, s1, s2, s3⟩ := HPC.out W hSw
            go_simp
            (try with_reducible rfl)
          try simp only [Act.put, List.setIfInBounds_toArray, List.set_cons_zero, List.set_cons_succ]
          refine wpAnyH_ready (rs := [1, 7]) (by kernel_rfl) (by simp) ?_
          refine AllReadyH.cons (o := { dst := _, op := _, type := _, pos := _, after := _, guard := _ }) rfl (fun K hK => ?_) (AllReadyH.cons (o := { dst := _, op := _, type := _, pos := _, after := _, guard := _ }) rfl (fun K hK => ?_) AllReadyH.nil)
          · go_simp
            refine hK.out _ _ ?_ (fun hHeld => ?_)
            · exact HBD.out
            clear hK K
            try simp only [Act.put, List.setIfInBounds_toArray, List.set_cons_zero, List.set_cons_succ]
            refine wpAnyH_ready (rs := [7]) (by kernel_rfl) (by simp) ?_
            refine AllReadyH.cons (o := { dst := _, op := _, type := _, pos := _, after := _, guard := _ }) rfl (fun K hK => ?_) AllReadyH.nil
            go_simp
            refine hK.out _ _ ?_ (fun hHeld => ?_)
            · exact HBD.out.trans ((bel_up _ _).mono HTD.out.size.1)
            clear hK K
            try simp only [Act.put, List.setIfInBounds_toArray, List.set_cons_zero, List.set_cons_succ]
            refine wpAnyH_ready (rs := [8]) (by kernel_rfl) (by simp) ?_
            refine AllReadyH.cons (o := { dst := _, op := _, type := _, pos := _, after := _, guard := _ }) rfl (fun K hK => ?_) AllReadyH.nil
            refine step_append_lies _ rfl (.tmp 31) (.tmp 37) 23 rfl b3 48 iC _ 4 56 Try.underlying23 hiC cx0 cx1 cx2 rfl (by decide) (.slice ua j uc) j (flat cf (cs.take j)) rfl HROW.out ⟨wD.heap.size, 0, none⟩ 1 1 [.bool p.nt, .string p.a, .string p.b, .string p.tx] rfl rfl (World.news_of_block (heap_new wD _)) (by simp [Value.oneCell']) (by decide) (by have := HJ2.out; have := HM.out; unfold maxLen; omega) (by have := HJ2.out; have := HM.out; omega) (by have := HTD.out.size.1; simp; omega) (wD.heap.size + 1) (by simp) ?_
            intro g1 q1 w6 ho hg ha _
            have HO5 : Hid (w6.ownsRow b3 48 4 (.slice (some ⟨g1, 0, none⟩) (j + 1) q1) (j + 1) (flat cf (cs.take j) ++ cf p)) := ho
            have HG5 : Hid ((wD.alloc (.cells #[.bool p.nt, .string p.a, .string p.b, .string p.tx] 48)).grownBy w6 (Value.ownBlock (.slice ua j uc))) := hg
            have k6 : w6.heap[b3]? = some (.cells #[un, .slice ua j uc] 25 (0, 0)) := (((World.grownBy_alloc _ _ _).trans HG5.out).block b3 (lt_of_heap HTD.out.blk) (fun e => tag_ne_blk HTD.out.cs HTD.out.blk (by decide) e.symm)).trans HTD.out.blk
            have c6 := rcell k6 1 _ rfl
            have z6 : w6.frozen? ⟨b3, 1, none⟩ = false := Lib.frozen_of_heap k6 1
            have HB6 : Hid (Below b3 W3 w6) := HBD.out.trans ((Below.refl b3 wD).grown ((World.grownBy_alloc _ _ _).trans HG5.out) HTD.out.size.1 (fun r hr => (row_tag HTD.out.cs r hr).1))
            clear ho hg ha k6
            refine hK.out _ _ ?_ (fun hHeld => ?_)
            · exact HB6.out
            clear hK K
            try simp only [Act.put, List.setIfInBounds_toArray, List.set_cons_zero, List.set_cons_succ]
            refine wpAnyH_take (i := 9) (oi := { dst := _, op := _, type := _, pos := _, after := _, guard := _ }) (v := ?_) rfl (by kernel_rfl) (by kernel_rfl) (by kernel_rfl) (fun _ _ _ h => h) (Or.inl ⟨by rfl, ?_⟩) (by assumption) ?_
            rotate_left
            · intro W hSw
              (try dsimp only at hSw)
              go_simp
              (try with_reducible rfl)
            try simp only [Act.put, List.setIfInBounds_toArray, List.set_cons_zero, List.set_cons_succ]
            refine wpAnyH_ready (rs := [10]) (by kernel_rfl) (by simp) ?_
            refine AllReadyH.cons (o := { dst := _, op := _, type := _, pos := _, after := _, guard := _ }) rfl (fun K hK => ?_) AllReadyH.nil
            go_simp
            refine hK.out _ _ ?_ (fun hHeld => ?_)
            · exact Below.setCell HB6.out (Nat.le_refl _) _
            clear hK K
            try simp only [Act.put, List.setIfInBounds_toArray, List.set_cons_zero, List.set_cons_succ]
            refine wpAnyH_done (by kernel_rfl) ?_ _
            refine NoPanic.normal ?_
            clear hHeld
            have hap := HTD.out.appC (W5 := w6) (v5 := .slice (some ⟨g1, 0, none⟩) (j + 1) q1) p HG5.out (by rw [HTL.out]; exact HO5.out)
            have HAP : Hid _ := hap
            clear hap c6 z6
            have hwi : IntKind.i64.wrap ((j : Int) + 1) = ((j + 1 : Nat) : Int) := by have := HJ2.out; have := HM.out; rw [IntKind.wrap_i64]; omega
            go_wp2_with fail
            go_roundg (m - (j + 1))
            case measure => have := HJ.out; have := HJ2.out; omega
            case rel => exact ⟨j + 1, .slice (some ⟨g1, 0, none⟩) (j + 1) q1, by push_cast; rfl, ⟨HJ2.out, rfl⟩, (by have h9 := HAP.out.1; rw [HTS.out] at h9; exact h9), HBD.out.trans HAP.out.2⟩
          · go_simp
            refine hK.out _ _ ?_ (fun hHeld => ?_)
            · exact HBD.out.trans ((bel_up _ _).mono HTD.out.size.1)
            clear hK K
            try simp only [Act.put, List.setIfInBounds_toArray, List.set_cons_zero, List.set_cons_succ]
            refine wpAnyH_ready (rs := [1]) (by kernel_rfl) (by simp) ?_
            refine AllReadyH.cons (o := { dst := _, op := _, type := _, pos := _, after := _, guard := _ }) rfl (fun K hK => ?_) AllReadyH.nil
            go_simp
            refine hK.out _ _ ?_ (fun hHeld => ?_)
            · exact HBD.out.trans ((bel_up _ _).mono HTD.out.size.1)
            clear hK K
            try simp only [Act.put, List.setIfInBounds_toArray, List.set_cons_zero, List.set_cons_succ]
            refine wpAnyH_ready (rs := [8]) (by kernel_rfl) (by simp) ?_
            refine AllReadyH.cons (o := { dst := _, op := _, type := _, pos := _, after := _, guard := _ }) rfl (fun K hK => ?_) AllReadyH.nil
            refine step_append_lies _ rfl (.tmp 31) (.tmp 37) 23 rfl b3 48 iC _ 4 56 Try.underlying23 hiC cx0 cx1 cx2 rfl (by decide) (.slice ua j uc) j (flat cf (cs.take j)) rfl HROW.out ⟨wD.heap.size, 0, none⟩ 1 1 [.bool p.nt, .string p.a, .string p.b, .string p.tx] rfl rfl (World.news_of_block (heap_new wD _)) (by simp [Value.oneCell']) (by decide) (by have := HJ2.out; have := HM.out; unfold maxLen; omega) (by have := HJ2.out; have := HM.out; omega) (by have := HTD.out.size.1; simp; omega) (wD.heap.size + 1) (by simp) ?_
            intro g1 q1 w6 ho hg ha _
            have HO5 : Hid (w6.ownsRow b3 48 4 (.slice (some ⟨g1, 0, none⟩) (j + 1) q1) (j + 1) (flat cf (cs.take j) ++ cf p)) := ho
            have HG5 : Hid ((wD.alloc (.cells #[.bool p.nt, .string p.a, .string p.b, .string p.tx] 48)).grownBy w6 (Value.ownBlock (.slice ua j uc))) := hg
            have k6 : w6.heap[b3]? = some (.cells #[un, .slice ua j uc] 25 (0, 0)) := (((World.grownBy_alloc _ _ _).trans HG5.out).block b3 (lt_of_heap HTD.out.blk) (fun e => tag_ne_blk HTD.out.cs HTD.out.blk (by decide) e.symm)).trans HTD.out.blk
            have c6 := rcell k6 1 _ rfl
            have z6 : w6.frozen? ⟨b3, 1, none⟩ = false := Lib.frozen_of_heap k6 1
            have HB6 : Hid (Below b3 W3 w6) := HBD.out.trans ((Below.refl b3 wD).grown ((World.grownBy_alloc _ _ _).trans HG5.out) HTD.out.size.1 (fun r hr => (row_tag HTD.out.cs r hr).1))
            clear ho hg ha k6
            refine hK.out _ _ ?_ (fun hHeld => ?_)
            · exact HB6.out
            clear hK K
            try simp only [Act.put, List.setIfInBounds_toArray, List.set_cons_zero, List.set_cons_succ]
            refine wpAnyH_take (i := 9) (oi := { dst := _, op := _, type := _, pos := _, after := _, guard := _ }) (v := ?_) rfl (by kernel_rfl) (by kernel_rfl) (by kernel_rfl) (fun _ _ _ h => h) (Or.inl ⟨by rfl, ?_⟩) (by assumption) ?_
            rotate_left
            · intro W hSw
              (try dsimp only at hSw)
              go_simp
              (try with_reducible rfl)
            try simp only [Act.put, List.setIfInBounds_toArray, List.set_cons_zero, List.set_cons_succ]
            refine wpAnyH_ready (rs := [10]) (by kernel_rfl) (by simp) ?_
            refine AllReadyH.cons (o := { dst := _, op := _, type := _, pos := _, after := _, guard := _ }) rfl (fun K hK => ?_) AllReadyH.nil
            go_simp
            refine hK.out _ _ ?_ (fun hHeld => ?_)
            · exact Below.setCell HB6.out (Nat.le_refl _) _
            clear hK K
            try simp only [Act.put, List.setIfInBounds_toArray, List.set_cons_zero, List.set_cons_succ]
            refine wpAnyH_done (by kernel_rfl) ?_ _
            refine NoPanic.normal ?_
            clear hHeld
            have hap := HTD.out.appC (W5 := w6) (v5 := .slice (some ⟨g1, 0, none⟩) (j + 1) q1) p HG5.out (by rw [HTL.out]; exact HO5.out)
            have HAP : Hid _ := hap
            clear hap c6 z6
            have hwi : IntKind.i64.wrap ((j : Int) + 1) = ((j + 1 : Nat) : Int) := by have := HJ2.out; have := HM.out; rw [IntKind.wrap_i64]; omega
            go_wp2_with fail
            go_roundg (m - (j + 1))
            case measure => have := HJ.out; have := HJ2.out; omega
            case rel => exact ⟨j + 1, .slice (some ⟨g1, 0, none⟩) (j + 1) q1, by push_cast; rfl, ⟨HJ2.out, rfl⟩, (by have h9 := HAP.out.1; rw [HTS.out] at h9; exact h9), HBD.out.trans HAP.out.2⟩
        · have hjm : j = m := by have := HJ.out; omega
          subst hjm
          have d1 : decide ((j : Int) < (j : Int)) = false := by simp
          have HT2 : Hid (Tw b3 w7 b3 un vc2 l cs) := by have h9 := HT.out; rw [List.take_of_length_le (by have := HM.out; omega)] at h9; exact h9
          obtain ⟨ua, uc, hun⟩ := row_shape HT2.out.ns
          obtain ⟨va, vc, hvc⟩ := row_shape HT2.out.cs
          subst hun hvc
          have q0 := rcell HT2.out.blk 0 _ rfl
          have q1 := rcell HT2.out.blk 1 _ rfl
          have h2 := (H1.out w7 HB.out).2.1
          have HQ2 : Hid (w7.heap[B + 1]? = some (.cells #[.slice none 0 0, .slice none 0 0] 25 (0, 0))) := h2
          have z0 := rcell h2 0 _ rfl
          have z1 := rcell h2 1 _ rfl
          have f0 := Lib.frozen_of_heap h2 0
          have f1 := Lib.frozen_of_heap h2 1
          clear h2 hj
          go_wp2_with fail
          refine bodyPost_ret (v := .agg #[.slice ua l.length uc, .slice va cs.length vc]) ?_ rfl ⟨_, _, rfl, ?_, ?_, ?_⟩
          · rw [results_cell1 rfl]; go_simp
          · obtain ⟨h1, h2⟩ := row_off (k := 0) (u := .slice ua l.length uc) HQ2.out HT2.out.ns (by decide)
            exact row_base (row_off h2 h1 (by decide)).1 (by have := HB3.out; have := HS.out; omega)
          · obtain ⟨h1, h2⟩ := row_off (k := 0) (u := .slice ua l.length uc) HQ2.out HT2.out.cs (by decide)
            exact row_base (row_off h2 h1 (by decide)).1 (by have := HB3.out; have := HS.out; omega)
          · rw [HS.out]
            exact Below.setCell (Below.setCell (HBW.out.trans (HB.out.mono (by have := HB3.out; omega))) (by show B ≤ B + 1; omega) _) (by show B ≤ B + 1; omega) _
end Go.Proofs.Ythfijmabagjdkaa.Qy
