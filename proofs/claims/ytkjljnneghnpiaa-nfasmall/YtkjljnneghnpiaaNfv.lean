import Derived.Test.YtkjljnneghnpiaaNya
namespace Go.Proofs.Ytkjljnneghnpiaa
open Go.RowKit Go.Maps Go.Shelf
attribute [local go_sem] Oper.semAt_some

theorem WMap.up {W : World} {base bm k k' : Nat} {G : Nat → List Nat} (h : WMap W base bm k G) (hk : k ≤ k') : WMap W base bm k' G := by
  obtain ⟨D, ⟨es, clock, h1, h2, h3, h4, h5, h6, h7⟩, hD⟩ := h
  exact ⟨D, ⟨es, clock, h1, h2, Nat.le_trans h3 hk, h4, h5, fun x hx zs hz => Nat.le_trans (h6 x hx zs hz) hk, h7⟩, hD⟩
theorem WMap.len {W : World} {base bm k t : Nat} {G : Nat → List Nat} (h : WMap W base bm k G) (hk : k ≤ 1000000000) (ht : t < 1000000000000) : (G t).length ≤ k := by
  obtain ⟨_, _, _, _, h, _⟩ := h.look hk ht
  exact h
theorem Blw.keptM {W W' : World} {lo g n : Nat} {L : Nat → Bool} (h : Blw W g n L) (hn : 0 < n) (hk : KeptM lo W W') : Blw W' g n L := by
  obtain ⟨o, h1, h2⟩ := cells_of_cell (h.row.c 0 hn)
  have e : W'.heap[g]? = W.heap[g]? := (hk.cells g o h1 h2).trans h1.symm
  exact ⟨⟨fun i hi => by rw [World.cell?_of_block (a := ⟨g, i, none⟩) e]; exact h.row.c i hi⟩, fun i => by rw [World.frozen?_of_block (a := ⟨g, i, none⟩) e]; exact h.fr i, Nat.lt_of_lt_of_le h.lt hk.bel.size⟩
theorem Blw.made1 (w : World) (n f : Nat) (hf : f < n) : Blw (w.alloc (.cells ((madeCells #[.bool false] n).setIfInBounds f (.bool true)) 4)) w.heap.size n (upd (fun _ => false) f) := by
  refine ⟨⟨fun i hi => ?_⟩, fun i => fr_up (Below.refl _ _) i, by simp⟩
  rw [World.cell?_alloc_at _ _ _ _ (by simp)]
  unfold upd
  by_cases e : i = f
  · subst e
    rw [if_pos rfl, Array.getElem?_setIfInBounds_self_of_lt (by rw [size_madeCells]; exact hi)]
  · rw [if_neg e, Array.getElem?_setIfInBounds_ne (fun h => e h.symm)]
    exact made_get _ _ _ hi

set_option maxRecDepth 100000 in
set_option maxHeartbeats 4000000 in
theorem living_any {B b : Nat} {N : Mc} (hs : Small N) (hfin : N.isS N.fin = true) (w : World) (hm : Mac B w b N) (hB : B ≤ w.heap.size) :
    Calls Try.prog 39 #[.pointer (some ⟨b, 0, none⟩)] w fun e w' => ∃ g L, e = .returned (.slice (some ⟨g, 0, none⟩) N.on.length N.on.length) ∧ Blw w' g N.on.length L ∧ (∀ t, t < N.on.length → (L t = true ↔ N.Live t)) ∧ Below w.heap.size w w' ∧ w.heap.size ≤ g := by
  refine (callsIn_wide (n := 5)).1 ?_
  refine callsIn_of_wp_marks Try.func39 rfl trivial ?_ rfl
  refine wpIn_wide.2 ?_
  simp only [Try.ntmps39, List.size_toArray, List.length_cons, List.length_nil, Nat.reduceAdd, Nat.reduceSub, Array.replicate_succ, Array.replicate_zero, List.push_toArray, List.append_toArray, List.nil_append, List.cons_append]
  obtain ⟨vo, vt, vf, hp, h0, h1, h2⟩ := hm.parts
  have HP : Hid (Parts B w vo vt vf N) := hp
  obtain ⟨a, go, oo, cap, rfl, ha, hc⟩ := hp.on
  have hen := hm.en
  have HM : Hid (Mac B w b N) := hm
  have HS : Hid (Small N) := hs
  have HBW : Hid (B ≤ w.heap.size) := hB
  have HF : Hid (N.isS N.fin = true) := hfin
  obtain ⟨f, hf⟩ : ∃ f : Nat, N.fin = (f : Int) := ⟨N.fin.toNat, by simp [Mc.isS] at hfin; omega⟩
  have hfn : f < N.on.length := by rw [hf] at hfin; simp [Mc.isS] at hfin; omega
  rw [hf] at hen
  have HFF : Hid (N.fin = (f : Int)) := hf
  have hmk := mk_bools N.on.length hs.on
  have hmm := @run_makeMap Try.prog
  have h0' : ∀ x, (w.alloc x).cell? ⟨b, 0, none⟩ = some (.slice a N.on.length cap) := fun x => cell_up x h0
  have h4' : ∀ x, (w.alloc x).cell? ⟨b, 4, none⟩ = some (.int .i64 (f : Int)) := fun x => cell_up x hen
  have h000 : ∀ x y z, (((w.alloc x).alloc y).alloc z).cell? ⟨b, 0, none⟩ = some (.slice a N.on.length cap) := fun x y z => cell_up z (cell_up y (cell_up x h0))
  have hfr : (w.alloc (.cells (madeCells #[.bool false] N.on.length) 4)).frozen? ⟨w.heap.size, f, none⟩ = false := (Blw.made w N.on.length).fr f
  have hcf : (w.alloc (.cells (madeCells #[.bool false] N.on.length) 4)).cell? ⟨w.heap.size, f, none⟩ = some (.bool false) := (Blw.made w N.on.length).row.c f hfn
  clear hs hm hB hfin hp ha hc h1 h2 hf hen
  have HFN : Hid (f < N.on.length) := hfn
  go_wp2_with fail
  clear hmk hmm h0' h4' h000 hfr hcf h0
  refine wp_loop (fun a' wr => ∃ (q : Nat) (ds : List Deferred) (L : Nat → Bool) (G : Nat → List Nat) (u5 u6 u29 u30 u31 u32 u33 u34 u35 u36 u37 u38 u39 u40 u41 u42 u43 u44 u45 u46 u47 u48 u49 u50 u51 u52 u53 u54 u55 : Value), a' = { tmps := #[.pointer (some ⟨b, 0, none⟩), undef, .slice none 0 0, .slice (some ⟨w.heap.size, 0, none⟩) N.on.length N.on.length, .pointer (some ⟨w.heap.size + 1 + 1, 0, none⟩), u5, u6, .pointer (some ⟨b, 0, none⟩), .pointer (some ⟨b, 0, none⟩), .pointer (some ⟨b, 0, none⟩), .pointer (some ⟨b, 0, none⟩), .slice a N.on.length cap, .int .i64 (N.on.length : Int), .slice (some ⟨w.heap.size, 0, none⟩) N.on.length N.on.length, .slice (some ⟨w.heap.size, 0, none⟩) N.on.length N.on.length, .pointer (some ⟨b, 0, none⟩), .pointer (some ⟨b, 0, none⟩), .pointer (some ⟨b, 0, none⟩), .pointer (some ⟨b, 4, none⟩), .int .i64 (f : Int), .pointer (some ⟨w.heap.size, f, none⟩), .map (some (w.heap.size + 1)), .pointer (some ⟨b, 0, none⟩), .pointer (some ⟨b, 0, none⟩), .pointer (some ⟨b, 0, none⟩), .pointer (some ⟨b, 0, none⟩), .slice a N.on.length cap, .int .i64 (N.on.length : Int), .int .i64 (q : Int), u29, u30, u31, u32, u33, u34, u35, u36, u37, u38, u39, u40, u41, u42, u43, u44, u45, u46, u47, u48, u49, u50, u51, u52, u53, u54, u55, undef], defers := ds } ∧ q ≤ N.on.length ∧ Hid (LvR N w q L G ds wr)) (fun a' _ => N.on.length - (intOf (a'.tmps.getD 28 undef)).toNat) ?start ?round
  case start =>
    refine ⟨0, [], upd (fun _ => false) f, fun _ => [], _, _, _, _, _, _, _, _, _, _, _, _, _, _, _, _, _, _, _, _, _, _, _, _, _, _, _, _, _, rfl, Nat.zero_le _, ?_⟩
    have e : N.fin.toNat = f := by rw [HFF.out]; rfl
    refine ⟨e ▸ LvI.start HF.out, ?_, ?_, ?_, ?_, trivial⟩
    · have h := WMap.made (w.alloc (.cells ((madeCells #[.bool false] N.on.length).setIfInBounds f (.bool true)) 4))
      rw [World.size_alloc] at h
      exact h.alloc _
    · exact ((Blw.made1 w N.on.length f HFN.out).kept (World.grownBy_alloc _ _ none) (by simp)).kept (World.grownBy_alloc _ _ none) (by simp)
    · have h := Boxed.new ((w.alloc (.cells ((madeCells #[.bool false] N.on.length).setIfInBounds f (.bool true)) 4)).alloc (.map #[] 0)) 86 (.map (some (w.heap.size + 1)))
      rw [World.size_alloc, World.size_alloc] at h
      exact h
    · exact below_trans (below_trans (bel_up _ _) (bel_up _ _)) (bel_up _ _)
  case round =>
    rintro a' wr ⟨q, ds, L, G, u5, u6, u29, u30, u31, u32, u33, u34, u35, u36, u37, u38, u39, u40, u41, u42, u43, u44, u45, u46, u47, u48, u49, u50, u51, u52, u53, u54, u55, rfl, hq, HR⟩
    rcases Nat.lt_or_ge q N.on.length with hlt | hge
    · have hlq := HR.out.bl.row.c q hlt
      have hbw := HR.out.bx.cell
      have HW1 : Hid (wrap64 ((q : Int) + 1) = ((q + 1 : Nat) : Int)) := w64 q (by have := HS.out.on; omega)
      have h1q : ∀ x, (wr.alloc x).cell? ⟨w.heap.size, q, none⟩ = some (.bool (L q)) := fun x => cell_up x hlq
      have HRA : Hid (LvR N w q L G ds (wr.alloc (.cells #[.int .i64 (q : Int)] 3))) := by
        have h := HR.out
        exact ⟨h.lv, h.wm.alloc _, h.bl.kept (World.grownBy_alloc _ _ none) (by simp), h.bx.alloc _, below_trans h.be (bel_up _ _), h.ma.grown (by simp) (World.grownBy_alloc _ _ none) (fun r e => by cases e)⟩
      clear hlq hbw
      cases hL : L q
      · rw [hL] at h1q
        have HL : Hid (L q = false) := hL
        clear hL
        have HMA : Hid (Mac B (wr.alloc (.cells #[.int .i64 (q : Int)] 3)) b N) := HM.out.mono ((below_trans HR.out.be (bel_up _ _)).mono HBW.out) (Nat.le_refl _)
        go_wp2_with fail
        refine (meets_any (g := w.heap.size) (L := L) HS.out hlt _ HMA.out (by have := HBW.out; have := HR.out.be.size; simp; omega) HRA.out.bl.row).mono ?_
        rintro e w2 ⟨rfl, hb2⟩
        have HB2 : Hid (Below (wr.alloc (.cells #[.int .i64 (q : Int)] 3)).heap.size (wr.alloc (.cells #[.int .i64 (q : Int)] 3)) w2) := hb2
        have HR2 : Hid (LvR N w q L G ds w2) := by
          have h := HRA.out
          have g2 := grown_of_below hb2
          exact ⟨h.lv, h.wm.kept2 g2 (by simp) (fun r e => by cases e), h.bl.kept g2 (by simp), h.bx.kept g2 (by simp), below_trans h.be hb2, h.ma.grown g2.size g2 (fun r e => by cases e)⟩
        have hbq2 : w2.cell? ⟨wr.heap.size, 0, none⟩ = some (.int .i64 (q : Int)) := below_cell hb2 (cell_new_l wr (.int .i64 (q : Int)) 3).1
        have hbw2 : w2.cell? ⟨w.heap.size + 1 + 1, 0, none⟩ = some (.map (some (w.heap.size + 1))) := HR2.out.bx.cell
        have HBX : Hid (Boxed w2 wr.heap.size 3 (.int .i64 (q : Int))) := (Boxed.new wr 3 (.int .i64 (q : Int))).kept (grown_of_below hb2) (by simp)
        have HSZ : Hid (wr.heap.size < w2.heap.size) := by have := hb2.size; simp at this; exact this
        have HSH : Hid (w2.Shuns (w.heap.size + 1) (fun g => wr.heap.size ≤ g)) := ((HR.out.wm.shuns).kept (World.grownBy_alloc _ _ none) HR.out.wm.lt (by simp)).kept (grown_of_below hb2) (by have := HR.out.wm.lt; simp; omega) (by simp)
        clear hb2 h1q
        cases hany : (N.nx q).any (fun t => L t.val)
        · have HANY : Hid ((N.nx q).any (fun t => L t.val) = false) := hany
          clear hany
          go_wp2_with fail
          refine (next_any b q _).mono ?_
          rintro e w4 ⟨rfl, rfl⟩
          go_wp2_with fail
          obtain ⟨W0, hW0⟩ : ∃ W0, W0 = (w2.alloc (.cells #[.pointer (some ⟨b, 0, none⟩)] 51)).alloc (.cells #[.int .i64 (q : Int)] 3) := ⟨_, rfl⟩
          have hB0 : Below w2.heap.size w2 W0 := by rw [hW0]; exact below_trans (bel_up _ _) (bel_up _ _)
          have hsz : W0.heap.size = w2.heap.size + 2 := by rw [hW0]; simp
          have hc2 := cell_new_l w2 (.pointer (some ⟨b, 0, none⟩)) 51
          have hc3 := cell_new_l (w2.alloc (.cells #[.pointer (some ⟨b, 0, none⟩)] 51)) (.int .i64 (q : Int)) 3
          rw [World.size_alloc] at hc3
          have d2 : W0.cell? ⟨w2.heap.size, 0, none⟩ = some (.pointer (some ⟨b, 0, none⟩)) := by rw [hW0]; exact cell_up _ hc2.1
          have d3 : W0.cell? ⟨w2.heap.size + 1, 0, none⟩ = some (.int .i64 (q : Int)) := by rw [hW0]; exact hc3.1
          rw [← hW0]
          clear hc2 hc3 hW0
          have hg0 := grown_of_below hB0
          have hm0 : Mac B W0 b N := HMA.out.mono ((below_trans HB2.out (hB0.mono (Nat.le_refl _))).mono (by have := HBW.out; have := HR.out.be.size; simp; omega)) (Nat.le_refl _)
          have HR0 : Hid (LvR N w q L G ds W0) := by
            have h := HR2.out
            exact ⟨h.lv, h.wm.kept2 hg0 (by simp) (fun r e => by cases e), h.bl.kept hg0 (by simp), h.bx.kept hg0 (by simp), below_trans h.be hB0, h.ma.grown hg0.size hg0 (fun r e => by cases e)⟩
          have hwr : w.heap.size + 3 ≤ wr.heap.size := by have := HR.out.bx.lt; omega
          have hJ0 : LvJ N w q L G ds W0.heap.size wr.heap.size w2.heap.size (w2.heap.size + 1) [] W0 := by
            have h := HR0.out
            refine ⟨?_, ?_, h.bl, h.bx, HBX.out.kept hg0 (by simp), h.be, h.ma, Nat.le_refl _⟩
            · rw [List.map_nil, addW_nil]; exact h.wm
            · intro es clock hb x hx g hg hno
              have hk := HSH.out.kept hg0 (by have := HR.out.wm.lt; have := HSZ.out; omega) (by simp)
              exact hk es clock hb x hx g hg (by have := HSZ.out; omega)
          have HJ0 : Hid _ := hJ0
          have HD2 : Hid _ := d2
          have HD3 : Hid _ := d3
          have HM0 : Hid _ := hm0
          have HG0 : Hid _ := hg0
          have HWR : Hid _ := hwr
          have HSZ0 : Hid (W0.heap.size = w2.heap.size + 2) := hsz
          clear hJ0 d2 d3 hm0 hg0 hB0 hwr hsz
          refine (wpIn_wide (n := 5)).1 ?_
          refine wpIn_rangeFunc_ownG rfl (by decide) (gf := 56) (lb := #[.pointer (some ⟨w2.heap.size, 0, none⟩), .pointer (some ⟨w2.heap.size + 1, 0, none⟩)]) rfl trivial (enters_of Try.func56 (by kernel_rfl) rfl)
            (next_stops (n := 5 - 1) HS.out hlt W0 HM0.out (by have := HBW.out; have := HR.out.be.size; have := HSZ.out; have := HSZ0.out; omega) HD2.out HD3.out) Kept.trans (kept_b (by have := HBW.out; have := HR.out.be.size; have := HSZ.out; have := HSZ0.out; omega) (by have := HSZ0.out; omega) (by have := HSZ0.out; omega)) (Below.refl _ _) (fun _ => rfl)
            (LvJ N w q L G ds W0.heap.size wr.heap.size w2.heap.size (w2.heap.size + 1))
            (fun _ _ _ => False)
            (LvJ.own HWR.out (by have := HSZ.out; have := HSZ0.out; omega))
            (fun _ _ _ _ _ h _ _ => h)
            HJ0.out
            (fun x => { tmps := #[.pointer (some ⟨b, 0, none⟩), undef, .slice none 0 0, .slice (some ⟨w.heap.size, 0, none⟩) N.on.length N.on.length, .pointer (some ⟨w.heap.size + 1 + 1, 0, none⟩), .pointer (some ⟨wr.heap.size, 0, none⟩), .int .i64 (x.val : Int), .pointer (some ⟨b, 0, none⟩), .pointer (some ⟨b, 0, none⟩), .pointer (some ⟨b, 0, none⟩), .pointer (some ⟨b, 0, none⟩), .slice a N.on.length cap, .int .i64 (N.on.length : Int), .slice (some ⟨w.heap.size, 0, none⟩) N.on.length N.on.length, .slice (some ⟨w.heap.size, 0, none⟩) N.on.length N.on.length, .pointer (some ⟨b, 0, none⟩), .pointer (some ⟨b, 0, none⟩), .pointer (some ⟨b, 0, none⟩), .pointer (some ⟨b, 4, none⟩), .int .i64 (f : Int), .pointer (some ⟨w.heap.size, f, none⟩), .map (some (w.heap.size + 1)), .pointer (some ⟨b, 0, none⟩), .pointer (some ⟨b, 0, none⟩), .pointer (some ⟨b, 0, none⟩), .pointer (some ⟨b, 0, none⟩), .slice a N.on.length cap, .int .i64 (N.on.length : Int), .int .i64 (q : Int), .bool true, .int .i64 (q : Int), .slice (some ⟨w.heap.size, 0, none⟩) N.on.length N.on.length, .int .i64 (q : Int), .pointer (some ⟨w.heap.size, q, none⟩), .bool false, .pointer (some ⟨b, 0, none⟩), .int .i64 (q : Int), .slice (some ⟨w.heap.size, 0, none⟩) N.on.length N.on.length, .bool false, u39, u40, u41, u42, .pointer (some ⟨b, 0, none⟩), .int .i64 (q : Int), .func (.func 56) #[] #[.pointer (some ⟨w2.heap.size, 0, none⟩), .pointer (some ⟨w2.heap.size + 1, 0, none⟩)], .int .i64 (x.val : Int), u47, u48, u49, u50, u51, u52, u53, u54, u55, undef], defers := [] }) ?assign ?body ?done ?stop
          case assign =>
            intro l x W K hK
            gi_wp2
            exact hK
          case body =>
            rintro l pre x W hJ hlen
            have HKB : Hid (kk N q + pre.length ≤ 1000000000) := by have h1 := kk_le HS.out hq; have h2 := nx_len (N := N) q; have h3 := frees_le HS.out q; show kk N q + pre.length ≤ 1000000000; omega
            have HXB : Hid (x.val < 1000000000000) := by have := x.isLt; have := HS.out.on; show x.val < _; omega
            have hQ : ¬ LetsOut (Exit.inBlock 3 (ownPostG W0.heap.size (Kept B w2.heap.size (w2.heap.size + 1)) (LvJ N w q L G ds W0.heap.size wr.heap.size w2.heap.size (w2.heap.size + 1)) (fun _ _ _ => False) (pre ++ [x]) W)) := by rintro ⟨_, _, h⟩; exact h
            obtain ⟨i3, hi3, hz0, hz1, hz2⟩ := info_parts info3
            have HI3 : Hid (Try.prog.info? 3 = some i3 ∧ i3.zero = some (.int .i64 0) ∧ i3.size = 1 ∧ i3.bytes = 8) := ⟨hi3, hz0, hz1, hz2⟩
            clear hi3 hz0 hz1 hz2
            have hJd : LvJ N w q L G ds W0.heap.size wr.heap.size w2.heap.size (w2.heap.size + 1) pre W.drew := LvJ.own HWR.out (by have := HSZ.out; have := HSZ0.out; omega) pre W W.drew none hJ (grown_of_below (Below.drew (Below.refl _ _))) (fun r e => by cases e)
            refine wpIn_block ?_
            refine region_round (S := fun W' => W'.cell? ⟨w.heap.size + 1 + 1, 0, none⟩ = some (.map (some (w.heap.size + 1))) ∧ W'.cell? ⟨wr.heap.size, 0, none⟩ = some (.int .i64 (q : Int))) (by kernel_rfl) ?hd hQ ⟨hJd.bx.cell, hJd.bxq.cell⟩ (fun hHeld => ?_)
            case hd =>
              intro i o c h e
              rcases i with _ | _ | _ | _ | _ | _ | _ | _ | _ | i
              all_goals (first | (cases h; cases e) | (simp at h))
            obtain ⟨Wd, hWd⟩ : ∃ Wd, W.drew = Wd := ⟨_, rfl⟩
            have HJd : Hid (LvJ N w q L G ds W0.heap.size wr.heap.size w2.heap.size (w2.heap.size + 1) pre Wd) := hWd ▸ hJd
            have HKW : Hid (KeepsFrom W0.heap.size W Wd ∧ Kept B w2.heap.size (w2.heap.size + 1) W Wd) := by rw [← hWd]; exact ⟨(KeepsOthers.drew W).from _, Below.drew (Below.refl _ _), rfl, rfl⟩
            rw [hWd] at hHeld ⊢
            clear hJd hJ hWd hQ
            refine wpAnyH_take (i := 0) (oi := { dst := _, op := _, type := _, pos := _, after := _, guard := _ }) (v := ?_) rfl (by kernel_rfl) (by kernel_rfl) (by kernel_rfl) (fun _ _ _ h => h) (Or.inl ⟨by rfl, ?_⟩) (by assumption) ?_
            rotate_left
            · intro W hSw
              (try dsimp only at hSw)
              obtain ⟨s1, s2⟩ := hSw
              go_simp
              (try with_reducible rfl)
            try simp only [Act.put, List.setIfInBounds_toArray, List.set_cons_zero, List.set_cons_succ]
            refine wpAnyH_take (i := 1) (oi := { dst := _, op := _, type := _, pos := _, after := _, guard := _ }) (v := ?_) rfl (by kernel_rfl) (by kernel_rfl) (by kernel_rfl) (fun _ _ _ h => h) (Or.inl ⟨by rfl, ?_⟩) (by assumption) ?_
            rotate_left
            · intro W hSw
              (try dsimp only at hSw)
              obtain ⟨s1, s2⟩ := hSw
              go_simp
              (try with_reducible rfl)
            try simp only [Act.put, List.setIfInBounds_toArray, List.set_cons_zero, List.set_cons_succ]
            refine wpAnyH_take (i := 2) (oi := { dst := _, op := _, type := _, pos := _, after := _, guard := _ }) (v := ?_) rfl (by kernel_rfl) (by kernel_rfl) (by kernel_rfl) (fun _ _ _ h => h) (Or.inl ⟨by rfl, ?_⟩) (by assumption) ?_
            rotate_left
            · intro W hSw
              (try dsimp only at hSw)
              obtain ⟨s1, s2⟩ := hSw
              go_simp
              (try with_reducible rfl)
            try simp only [Act.put, List.setIfInBounds_toArray, List.set_cons_zero, List.set_cons_succ]
            refine wpAnyH_take (i := 3) (oi := { dst := _, op := _, type := _, pos := _, after := _, guard := _ }) (v := ?_) rfl (by kernel_rfl) (by kernel_rfl) (by kernel_rfl) (fun _ _ _ h => h) (Or.inl ⟨by rfl, ?_⟩) (by assumption) ?_
            rotate_left
            · intro W hSw
              (try dsimp only at hSw)
              obtain ⟨s1, s2⟩ := hSw
              go_simp
              (try with_reducible rfl)
            try simp only [Act.put, List.setIfInBounds_toArray, List.set_cons_zero, List.set_cons_succ]
            refine wpAnyH_take (i := 5) (oi := { dst := _, op := _, type := _, pos := _, after := _, guard := _ }) (v := ?_) rfl (by kernel_rfl) (by kernel_rfl) (by kernel_rfl) (fun _ _ _ h => h) (Or.inl ⟨by rfl, ?_⟩) (by assumption) ?_
            rotate_left
            · intro W hSw
              (try dsimp only at hSw)
              obtain ⟨s1, s2⟩ := hSw
              go_simp
              (try with_reducible rfl)
            try simp only [Act.put, List.setIfInBounds_toArray, List.set_cons_zero, List.set_cons_succ]
            refine wpAnyH_ready (rs := [4, 6]) (by kernel_rfl) (by simp) ?_
            refine AllReadyH.cons (o := { dst := _, op := _, type := _, pos := _, after := _, guard := _ }) rfl (fun K hK => ?_) (AllReadyH.cons (o := { dst := _, op := _, type := _, pos := _, after := _, guard := _ }) rfl (fun K hK => ?_) (AllReadyH.nil))
            · obtain ⟨v, hrun, hoi, hsv, hlv, hbk⟩ := WMap.look (t := x.val) HJd.out.wm HKB.out HXB.out
              have HOI : Hid _ := hoi
              have HSV : Hid _ := hsv
              have HLV : Hid _ := hlv
              have HBK : Hid _ := hbk
              clear hoi hsv hlv hbk
              go_simp
              refine hK.out _ _ ?_ (fun hHeld => ?_)
              · exact hHeld
              clear hK K
              try simp only [Act.put, List.setIfInBounds_toArray, List.set_cons_zero, List.set_cons_succ]
              clear hrun
              refine wpAnyH_ready (rs := [6]) (by kernel_rfl) (by simp) ?_
              refine AllReadyH.cons (o := { dst := _, op := _, type := _, pos := _, after := _, guard := _ }) rfl (fun K hK => ?_) AllReadyH.nil
              go_simp
              refine hK.out _ _ ?_ (fun hHeld => ?_)
              · exact ⟨cell_up _ hHeld.1, cell_up _ hHeld.2⟩
              clear hK K
              try simp only [Act.put, List.setIfInBounds_toArray, List.set_cons_zero, List.set_cons_succ]
              refine wpAnyH_ready (rs := [7]) (by kernel_rfl) (by simp) ?_
              refine AllReadyH.cons (o := { dst := _, op := _, type := _, pos := _, after := _, guard := _ }) rfl (fun K hK => ?_) AllReadyH.nil
              have hrowv : (Wd.alloc (.cells #[.int .i64 (q : Int)] 3)).ownsRow (w.heap.size + 2) 3 1 v (addW G q (pre.map Fin.val) x.val).length ((addW G q (pre.map Fin.val) x.val).map fun t : Nat => Value.int .i64 (t : Int)) := by
                have h := (HOI.out.1.alloc (.cells #[.int .i64 (q : Int)] 3))
                rw [List.length_map, List.map_map] at h
                exact h
              refine step_append_lies _ rfl (.tmp 51) (.tmp 53) 23 rfl (w.heap.size + 2) 3 i3 _ 1 8 Try.underlying23 HI3.out.1 HI3.out.2.1 HI3.out.2.2.1 HI3.out.2.2.2 rfl (by decide) v _ _ rfl hrowv ⟨Wd.heap.size, 0, none⟩ 1 1 [.int .i64 (q : Int)] rfl rfl (cell_one_new _ _ _) (ints_oneCell .i64 [(q : Int)]) (by decide) (by have := HLV.out; have := HKB.out; unfold maxLen; omega) (by have := HLV.out; have := HKB.out; omega) (by have := HJd.out.bx.lt; simp; omega) (Wd.heap.size + 1) (by simp) ?_
              intro g' cap' w' h2 h3 h4 _
              obtain ⟨W3, hrun3, hk1, hk2, hk3⟩ := LvJ.put (B := B) (by have := HBW.out; omega) HWR.out (by have := HSZ.out; have := HSZ0.out; omega) (by have := HWR.out; have := HSZ.out; omega) (by have := HSZ0.out; omega) (by have := HWR.out; have := HSZ.out; omega) (by have := HSZ0.out; omega) (by have := HS.out.on; omega) HJd.out (.inl rfl) HOI.out HSV.out HBK.out h2 h3 h4
              have hS2 : w'.cell? ⟨w.heap.size + 1 + 1, 0, none⟩ = some (.map (some (w.heap.size + 1))) ∧ w'.cell? ⟨wr.heap.size, 0, none⟩ = some (.int .i64 (q : Int)) := by
                refine ⟨h3.cell hHeld.1 (fun e => ?_), h3.cell hHeld.2 (fun e => ?_)⟩
                · exact (HJd.out.bx.alloc _).not_row (by decide) hrowv e
                · exact HSV.out _ HJd.out.sh _ e.symm (.inl rfl)
              have HK1 : Hid _ := hk1
              have HK2 : Hid _ := hk2
              have HK3 : Hid _ := hk3
              clear h2 h3 h4 hrowv hk1 hk2 hk3
              refine hK.out _ _ ?_ (fun hHeld => ?_)
              · exact hS2
              clear hK K
              try simp only [Act.put, List.setIfInBounds_toArray, List.set_cons_zero, List.set_cons_succ]
              clear hS2
              refine wpAnyH_ready (rs := [8]) (by kernel_rfl) (by simp) ?_
              refine AllReadyH.cons (o := { dst := _, op := _, type := _, pos := _, after := _, guard := _ }) rfl (fun K hK => ?_) AllReadyH.nil
              go_simp
              refine hK.out _ _ ?_ (fun hHeld => ?_)
              · exact ⟨HK3.out.bx.cell, HK3.out.bxq.cell⟩
              clear hK K
              try simp only [Act.put, List.setIfInBounds_toArray, List.set_cons_zero, List.set_cons_succ]
              refine wpAnyH_done (by kernel_rfl) ?_ _
              exact ⟨HKW.out.1.trans HK1.out, HKW.out.2.trans HK2.out, HK3.out⟩
            · go_simp
              refine hK.out _ _ ?_ (fun hHeld => ?_)
              · exact ⟨cell_up _ hHeld.1, cell_up _ hHeld.2⟩
              clear hK K
              try simp only [Act.put, List.setIfInBounds_toArray, List.set_cons_zero, List.set_cons_succ]
              refine wpAnyH_ready (rs := [4]) (by kernel_rfl) (by simp) ?_
              refine AllReadyH.cons (o := { dst := _, op := _, type := _, pos := _, after := _, guard := _ }) rfl (fun K hK => ?_) AllReadyH.nil
              obtain ⟨v, hrun, hoi, hsv, hlv, hbk⟩ := WMap.look (t := x.val) (HJd.out.wm.alloc (.cells #[.int .i64 (q : Int)] 3)) HKB.out HXB.out
              have HOI : Hid _ := hoi
              have HSV : Hid _ := hsv
              have HLV : Hid _ := hlv
              have HBK : Hid _ := hbk
              clear hoi hsv hlv hbk
              go_simp
              refine hK.out _ _ ?_ (fun hHeld => ?_)
              · exact hHeld
              clear hK K
              try simp only [Act.put, List.setIfInBounds_toArray, List.set_cons_zero, List.set_cons_succ]
              clear hrun
              refine wpAnyH_ready (rs := [7]) (by kernel_rfl) (by simp) ?_
              refine AllReadyH.cons (o := { dst := _, op := _, type := _, pos := _, after := _, guard := _ }) rfl (fun K hK => ?_) AllReadyH.nil
              have hrowv : (Wd.alloc (.cells #[.int .i64 (q : Int)] 3)).ownsRow (w.heap.size + 2) 3 1 v (addW G q (pre.map Fin.val) x.val).length ((addW G q (pre.map Fin.val) x.val).map fun t : Nat => Value.int .i64 (t : Int)) := by
                have h := HOI.out.1
                rw [List.length_map, List.map_map] at h
                exact h
              refine step_append_lies _ rfl (.tmp 51) (.tmp 53) 23 rfl (w.heap.size + 2) 3 i3 _ 1 8 Try.underlying23 HI3.out.1 HI3.out.2.1 HI3.out.2.2.1 HI3.out.2.2.2 rfl (by decide) v _ _ rfl hrowv ⟨Wd.heap.size, 0, none⟩ 1 1 [.int .i64 (q : Int)] rfl rfl (cell_one_new _ _ _) (ints_oneCell .i64 [(q : Int)]) (by decide) (by have := HLV.out; have := HKB.out; unfold maxLen; omega) (by have := HLV.out; have := HKB.out; omega) (by have := HJd.out.bx.lt; simp; omega) (Wd.heap.size + 1) (by simp) ?_
              intro g' cap' w' h2 h3 h4 _
              obtain ⟨W3, hrun3, hk1, hk2, hk3⟩ := LvJ.put (B := B) (by have := HBW.out; omega) HWR.out (by have := HSZ.out; have := HSZ0.out; omega) (by have := HWR.out; have := HSZ.out; omega) (by have := HSZ0.out; omega) (by have := HWR.out; have := HSZ.out; omega) (by have := HSZ0.out; omega) (by have := HS.out.on; omega) HJd.out (.inr rfl) HOI.out HSV.out HBK.out h2 h3 h4
              have hS2 : w'.cell? ⟨w.heap.size + 1 + 1, 0, none⟩ = some (.map (some (w.heap.size + 1))) ∧ w'.cell? ⟨wr.heap.size, 0, none⟩ = some (.int .i64 (q : Int)) := by
                refine ⟨h3.cell hHeld.1 (fun e => ?_), h3.cell hHeld.2 (fun e => ?_)⟩
                · exact (HJd.out.bx.alloc _).not_row (by decide) hrowv e
                · exact HSV.out _ (HJd.out.sh.kept (World.grownBy_alloc _ _ none) HJd.out.wm.lt (by simp)) _ e.symm (.inl rfl)
              have HK1 : Hid _ := hk1
              have HK2 : Hid _ := hk2
              have HK3 : Hid _ := hk3
              clear h2 h3 h4 hrowv hk1 hk2 hk3
              refine hK.out _ _ ?_ (fun hHeld => ?_)
              · exact hS2
              clear hK K
              try simp only [Act.put, List.setIfInBounds_toArray, List.set_cons_zero, List.set_cons_succ]
              clear hS2
              refine wpAnyH_ready (rs := [8]) (by kernel_rfl) (by simp) ?_
              refine AllReadyH.cons (o := { dst := _, op := _, type := _, pos := _, after := _, guard := _ }) rfl (fun K hK => ?_) AllReadyH.nil
              go_simp
              refine hK.out _ _ ?_ (fun hHeld => ?_)
              · exact ⟨HK3.out.bx.cell, HK3.out.bxq.cell⟩
              clear hK K
              try simp only [Act.put, List.setIfInBounds_toArray, List.set_cons_zero, List.set_cons_succ]
              refine wpAnyH_done (by kernel_rfl) ?_ _
              exact ⟨HKW.out.1.trans HK1.out, HKW.out.2.trans HK2.out, HK3.out⟩
          case done =>
            rintro D ys W hD rfl hJ hK
            have hR3 : LvR N w (q + 1) L (addW G q ((N.nx q).map Fin.val)) ({ target := .collected D, args := #[] } :: ds) W := by
              refine ⟨HR.out.lv.waits hlt HL.out (fun t => ?_) (fun t ht => ?_), hJ.wm, hJ.bl, hJ.bx, hJ.be, ⟨D, rfl, by have := HSZ0.out; have := HSZ.out; have := HWR.out; omega, lt_of_heap hK, hK, hJ.ma.same hD (fun _ _ _ h => h)⟩⟩
              · constructor
                · intro h
                  obtain ⟨y, hy, rfl⟩ := List.mem_map.1 h
                  exact nx_mem.1 hy
                · intro h
                  exact List.mem_map.2 ⟨⟨t, nxt_lt h⟩, nx_mem.2 h, rfl⟩
              · obtain ⟨y, hy, rfl⟩ := List.mem_map.1 ht
                have := List.any_eq_false.1 HANY.out y hy
                simpa using this
            have HR3 : Hid (LvR N w (q + 1) L (addW G q ((N.nx q).map Fin.val)) ({ target := .collected D, args := #[] } :: ds) W) := hR3
            clear hR3 hJ hK
            go_wp2_with fail
            rw [HW1.out]
            exact ⟨⟨q + 1, { target := .collected D, args := #[] } :: ds, L, addW G q ((N.nx q).map Fin.val), _, _, _, _, _, _, _, _, _, _, _, _, _, _, _, _, _, _, _, _, _, _, _, _, _, _, _, _, _, rfl, hlt, HR3⟩, meas_step rfl hlt⟩
          case stop =>
            rintro D c pre W _ _ h _
            exact h.elim
        · have HANY : Hid ((N.nx q).any (fun t => L t.val) = true) := hany
          clear hany
          go_wp2_with fail
          refine (wake_any (n := N.on.length) (base := w.heap.size + 2) (bm := w.heap.size + 1) (k := kk N q) (g := w.heap.size) (G := G) (L := L) (fun t p h => (HR2.out.lv.wait t p h).1) (fun t => ?_) hlt HS.out.on w2 HR2.out.wm (by have := kk_le HS.out hq; omega) (by omega) (by omega) (by have := HR2.out.bx.lt; omega) HR2.out.bl).mono ?_
          · rcases Nat.lt_or_ge t 1000000000000 with ht | ht
            · have := kk_le HS.out hq
              exact Nat.le_trans (HR2.out.wm.len (by omega) ht) (by omega)
            · have : G t = [] := by
                cases hG : G t with
                | nil => rfl
                | cons p l =>
                  have h1 := (HR2.out.lv.wait t p (by rw [hG]; simp)).2
                  have h2 := nxt_lt h1
                  have := HS.out.on
                  omega
              rw [this]; simp
          rintro e w3 ⟨⟨v, rfl⟩, L', hwo, hbl3, hg3⟩
          have HR3 : Hid (LvR N w (q + 1) L' G ds w3) := by
            have h := HR2.out
            obtain ⟨t, ht, hLt⟩ := List.any_eq_true.1 HANY.out
            exact ⟨h.lv.wake hlt (nx_mem.1 ht) hLt hwo, ((h.wm.kept hg3 (by simp) (fun j e => by cases e; exact .inl (by omega))).up (Nat.le_add_right _ _)), hbl3, h.bx.kept hg3 (by simp only [ne_eq, Option.some.injEq]; omega), h.be.grown hg3 h.be.size (fun k e => by cases e; exact Nat.le_refl _), h.ma.grown hg3.size hg3 (fun r e => by cases e; exact .inl (by omega))⟩
          clear hwo hbl3 hg3
          go_wp2_with fail
          rw [HW1.out]
          exact ⟨⟨q + 1, ds, L', G, _, _, _, _, _, _, _, _, _, _, _, _, _, _, _, _, _, _, _, _, _, _, _, _, _, _, _, _, _, rfl, hlt, HR3⟩, meas_step rfl hlt⟩
      · rw [hL] at h1q
        have HL : Hid (L q = true) := hL
        clear hL
        have HR3 : Hid (LvR N w (q + 1) L G ds (wr.alloc (.cells #[.int .i64 (q : Int)] 3))) := by
          have h := HRA.out
          exact ⟨h.lv.pass HL.out, h.wm.up (Nat.le_add_right _ _), h.bl, h.bx, h.be, h.ma⟩
        go_wp2_with fail
        rw [HW1.out]
        exact ⟨⟨q + 1, ds, L, G, _, _, _, _, _, _, _, _, _, _, _, _, _, _, _, _, _, _, _, _, _, _, _, _, _, _, _, _, _, rfl, hlt, HR3⟩, meas_step rfl hlt⟩
    · obtain rfl : q = N.on.length := by omega
      go_wp2_with fail
      refine marks_leave ds _ wr HR.out.ma (fun W' hk => ?_)
      refine ⟨_, results_tmp rfl _ _ _, w.heap.size, L, rfl, HR.out.bl.keptM (by have := HFN.out; omega) hk, HR.out.lv.done, HR.out.be.trans (hk.bel.mono (by omega)), Nat.le_refl _⟩
end Go.Proofs.Ytkjljnneghnpiaa
