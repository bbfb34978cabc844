import Derived.Test.YtkjcnnecdclgfaaRgc
namespace Go.Proofs.Ytkjcnnecdclgfaa
open Go.RowKit
theorem brn_len (o : List Nd) (g : Grp) : (brn o g).1.length ≤ o.length + 2 := by
  have := stl_len o g
  unfold brn
  split
  · simp; omega
  · simp; omega
theorem mst_grow {s : ByteArray} {M M2 : Mc} (h : mst s M = .ok M2) : M2.out.length ≤ M.out.length + 2 ∧ (M.st.length ≤ 128 → M2.st.length ≤ 128) := by
  have h1 := stl_len M.out M.g
  have h2 := brn_len M.out M.g
  unfold mst at h
  split at h
  · split at h
    · cases h
    · injection h with h; rw [← h]; dsimp only; exact ⟨by omega, fun _ => by simp; omega⟩
  · split at h
    · split at h
      · cases h
      · rename_i x t ht
        split at h
        · injection h with h; rw [← h]; dsimp only; exact ⟨by simp, fun hh => by rw [ht] at hh; simp at hh; omega⟩
        · split at h
          · cases h
          · injection h with h; rw [← h]; dsimp only; exact ⟨by omega, fun hh => by rw [ht] at hh; simp at hh; omega⟩
    · split at h
      · split at h
        · cases h
        · split at h
          · injection h with h; rw [← h]; dsimp only; exact ⟨by omega, fun hh => hh⟩
          · injection h with h; rw [← h]; dsimp only; exact ⟨by simp, fun hh => hh⟩
      · split at h
        · cases h
        · injection h with h; rw [← h]; dsimp only; exact ⟨by simp; omega, fun hh => hh⟩
theorem atm_code {s : ByteArray} {i : Nat} {c : Int} {p : Nat} (h : atm s i = .error (c, p)) : c ≠ 0 := by
  unfold atm at h
  split at h
  · exact pclass_code h
  · split at h
    · cases h
    · split at h
      · cases h
      · split at h
        · injection h with h; injection h with h1 h2; omega
        · cases h
theorem mst_code {s : ByteArray} {M : Mc} {c : Int} {p : Nat} (h : mst s M = .error (c, p)) : c ≠ 0 := by
  unfold mst at h
  split at h
  · split at h
    · injection h with h; injection h with h1 h2; omega
    · cases h
  · split at h
    · split at h
      · injection h with h; injection h with h1 h2; omega
      · split at h
        · cases h
        · split at h
          · injection h with h; injection h with h1 h2; omega
          · cases h
    · split at h
      · split at h
        · injection h with h; injection h with h1 h2; omega
        · split at h
          · cases h
          · cases h
      · split at h
        · rename_i e he
          injection h with h
          subst h
          exact atm_code he
        · cases h
theorem ParRes.bad {s : ByteArray} {w w' : World} {c : Int} {p : Nat} (h : V s ⟨0, [], frG, []⟩ = .error (c, p)) (hb : Below w.heap.size w w') : ParRes s w (.returned (.tuple #[.slice none 0 0, .int .i64 c, .int .i64 (p : Int)])) w' := by
  unfold ParRes
  rw [h]
  exact ⟨rfl, hb⟩
theorem ParRes.good {s : ByteArray} {w w' : World} {o : List Nd} {v : Value} (h : V s ⟨0, [], frG, []⟩ = .ok o) (ho : w'.ownsRow w.heap.size 34 7 v o.length (ncs o)) (hl : o.length ≤ 128) (hb : Below w.heap.size w w') : ParRes s w (.returned (.tuple #[v, .int .i64 0, .int .i64 0])) w' := by
  unfold ParRes
  rw [h]
  exact ⟨⟨⟨v, rfl, ho⟩, hl⟩, hb⟩
/-- A new reader. -/
theorem IsR.new (s : ByteArray) (w : World) : IsR w.heap.size (w.heap.size + 1) s ⟨0, [], frG, []⟩ ((w.alloc (.cells #[.int .i64 (-1), .int .i64 (-1), .int .i64 (-1)] 62)).alloc (.cells #[.string s, .int .i64 0, .slice none 0 0, .slice (some ⟨w.heap.size, 0, none⟩) 1 1] 65)) := by
  have a := (AtV.new w #[.int .i64 (-1), .int .i64 (-1), .int .i64 (-1)] 62).up (.cells #[.string s, .int .i64 0, .slice none 0 0, .slice (some ⟨w.heap.size, 0, none⟩) 1 1] 65)
  have b := AtV.new (w.alloc (.cells #[.int .i64 (-1), .int .i64 (-1), .int .i64 (-1)] 62)) #[.string s, .int .i64 0, .slice none 0 0, .slice (some ⟨w.heap.size, 0, none⟩) 1 1] 65
  rw [World.size_alloc] at b
  refine ⟨by omega, by simp; omega, .slice none 0 0, w.heap.size, 1, b.h, World.ownsRow_nil _ _ _ _, ?_⟩
  refine ⟨rfl, .inr ⟨w.heap.size, 1, _, rfl, Nat.le_refl _, a.h, Nat.le_refl _, by first | decide | simp | omega, rfl, rfl⟩⟩
set_option maxRecDepth 100000 in
set_option maxHeartbeats 8000000 in
theorem rparse_any (s : ByteArray) (hs : s.size ≤ 1099511627776) (w : World) : Calls Try.prog 13 #[.string s] w fun e w' => ParRes s w e w' := by
  have R0 : Hid _ := IsR.new s w
  have B0 : Hid (Below w.heap.size w ((w.alloc (.cells #[.int .i64 (-1), .int .i64 (-1), .int .i64 (-1)] 62)).alloc (.cells #[.string s, .int .i64 0, .slice none 0 0, .slice (some ⟨w.heap.size, 0, none⟩) 1 1] 65))) := below_trans (bel_up _ _) (bel_up _ _)
  have HS : Hid _ := hs
  clear hs
  go_enter Try.func13, Try.ntmps13
  go_wp2_with fail
  go_loopg [] s.size (fun gh wr => ∃ M : Mc, gh = s.size - M.i ∧ M.i ≤ s.size ∧ M.st.length ≤ 128 ∧ M.out.length ≤ 2 * M.i ∧ V s ⟨0, [], frG, []⟩ = V s M ∧ IsR w.heap.size (w.heap.size + 1) s M wr ∧ Below w.heap.size w wr)
  case atStart => exact ⟨⟨0, [], frG, []⟩, rfl, by simp, by simp, by simp, rfl, R0.out, B0.out⟩
  case round =>
    obtain ⟨M, hg, hi, hst, ho, hv, hr, hb⟩ := hrel
    obtain ⟨gg, cap, hgg⟩ := hr.toG
    have HG : Hid _ := hg
    have HI : Hid _ := hi
    have HST : Hid _ := hst
    have HO : Hid _ := ho
    have HV : Hid _ := hv
    have HR : Hid _ := hgg
    have HB : Hid _ := hb
    clear hg hi hst ho hv hr hb hgg R0 B0
    obtain ⟨c0, c1, c3, cf⟩ := HR.out.cells
    by_cases hlt : M.i < s.size
    · have HLT : Hid _ := hlt
      have T := step_any _ _ _ _ s M wr HR.out HST.out (by have := HO.out; have := HS.out; have := HI.out; omega) hlt HS.out
      clear c0 c3
      go_wp2_with fail
      refine T.mono ?_
      clear T hlt c1 cf
      intro e w1 hres
      unfold SRes at hres
      obtain ⟨hres, hf⟩ := hres
      have HF : Hid _ := hf
      clear hf
      cases hm : mst s M with
      | ok M2 =>
        rw [hm] at hres
        obtain ⟨rfl, hr2⟩ := hres
        have HR2 : Hid _ := hr2
        have N2 : Hid _ := mst_next HLT.out hm
        have G2 : Hid _ := mst_grow hm
        have V2 : Hid _ := HV.out.trans (V_step HLT.out hm)
        clear hr2 hm
        go_wp2_with fail
        go_roundg (s.size - M2.i)
        case measure =>
          have := HG.out
          have := N2.out
          omega
        case rel =>
          refine ⟨M2, rfl, N2.out.2, G2.out.2 HST.out, ?_, V2.out, HR2.out.mono (bel_up _ _), below_trans (HB.out.trans HF.out.bel) (bel_up _ _)⟩
          have := G2.out.1
          have := HO.out
          have := N2.out
          omega
      | error ce =>
        obtain ⟨c, p⟩ := ce
        rw [hm] at hres
        dsimp only at hres
        subst hres
        have hc0 : (c != 0) = true := by rw [bne_iff_ne]; exact mst_code hm
        have V2 : Hid (V s ⟨0, [], frG, []⟩ = .error (c, p)) := HV.out.trans (V_err HLT.out hm)
        clear hm
        go_wp2_with fail
        go_region
        go_wp2_with fail
        refine bodyPost_ret (v := .tuple #[.slice none 0 0, .int .i64 c, .int .i64 (p : Int)]) ?_ rfl (ParRes.bad V2.out ?_)
        · simp [results, Try.results13, go_sem]
        · exact Below.drew (below_trans (HB.out.trans HF.out.bel) (bel_up _ _))
    · have HVF : Hid (V s ⟨0, [], frG, []⟩ = vfin s M) := HV.out.trans (V_end hlt)
      obtain ⟨n, hn⟩ : ∃ n, M.st.length + 1 = n := ⟨_, rfl⟩
      rw [hn] at c3
      have HN : Hid _ := hn
      clear hn
      by_cases h0 : M.st = []
      · have hn1 : decide ((1 : Int) < (n : Int)) = false := by
          have := HN.out
          rw [h0] at this
          rw [decide_eq_false_iff_not]
          simp at this
          omega
        have H0 : Hid _ := h0
        have T := rtop_any _ _ _ _ s M.i M.out M.g M.st wr HR.out HST.out
        have hfld := fld62_2 M.g.alt M.g.cat M.g.part
        clear h0
        go_wp2_with fail
        refine T.mono ?_
        clear T
        rintro e w1 ⟨rfl, hb1⟩
        have R1 : Hid _ := HR.out.mono hb1
        have B1 : Hid _ := below_trans HB.out hb1
        clear hb1 c0 c1 c3 cf
        by_cases hp : M.g.part < 0
        · have hpI : decide (M.g.part < 0) = true := decide_eq_true hp
          have V2 : Hid (V s ⟨0, [], frG, []⟩ = .error (40, s.size)) := by
            rw [HVF.out]
            unfold vfin
            rw [if_pos (.inr hp)]
            rfl
          clear hp
          go_wp2_with fail
          refine bodyPost_ret (v := .tuple #[.slice none 0 0, .int .i64 40, .int .i64 (s.size : Int)]) ?_ rfl (ParRes.bad V2.out ?_)
          · simp [results, Try.results13, go_sem]
          · exact B1.out
        · have hpI : decide (M.g.part < 0) = false := decide_eq_false hp
          have BR := branch_any _ _ _ _ s M.i M.out M.g M.st w1 R1.out HST.out (by have := HO.out; have := HI.out; have := HS.out; omega)
          obtain ⟨ob, gb, hbr⟩ : ∃ ob gb, brn M.out M.g = (ob, gb) := ⟨_, _, rfl⟩
          rw [hbr] at BR
          dsimp only at BR
          have hv2 : V s ⟨0, [], frG, []⟩ = if 128 < ob.length then .error (42, 0) else .ok ob := by
            rw [HVF.out]
            unfold vfin
            rw [if_neg (by intro h; rcases h with h | h; exact h H0.out; exact hp h), hbr]
          clear hp hbr
          go_wp2_with fail
          refine BR.mono ?_
          clear BR
          rintro e w2 ⟨rfl, p2, f2⟩
          have B2 : Hid _ := B1.out.trans f2.bel
          obtain ⟨v, hv, ho⟩ := p2.h
          dsimp only at hv ho
          obtain ⟨av, cv, hvs⟩ := own_slice ho
          subst hvs
          have c2 : w2.cell? ⟨w.heap.size + 1, 2, none⟩ = some (.slice av ob.length cv) := by rw [Lib.cell_of_heap hv]; rfl
          have HOO : Hid _ := ho
          clear p2 f2 hv ho
          by_cases hl : 128 < ob.length
          · rw [if_pos hl] at hv2
            have V2 : Hid _ := hv2
            have hlI : decide ((128 : Int) < (ob.length : Int)) = true := by rw [decide_eq_true_eq]; omega
            clear hv2
            go_wp2_with fail
            refine bodyPost_ret (v := .tuple #[.slice none 0 0, .int .i64 42, .int .i64 ((0 : Nat) : Int)]) ?_ rfl (ParRes.bad V2.out ?_)
            · simp [results, Try.results13, go_sem]
            · exact B2.out
          · rw [if_neg hl] at hv2
            have V2 : Hid _ := hv2
            have HL : Hid (ob.length ≤ 128) := (by omega : ob.length ≤ 128)
            have hlI : decide ((128 : Int) < (ob.length : Int)) = false := by rw [decide_eq_false_iff_not]; omega
            clear hv2
            go_wp2_with fail
            refine bodyPost_ret (v := .tuple #[.slice av ob.length cv, .int .i64 0, .int .i64 0]) ?_ rfl (ParRes.good V2.out HOO.out HL.out B2.out)
            simp [results, Try.results13, go_sem]
      · have hn1 : decide ((1 : Int) < (n : Int)) = true := by
          have := HN.out
          have : 0 < M.st.length := List.length_pos_iff.mpr h0
          rw [decide_eq_true_eq]
          omega
        have V2 : Hid (V s ⟨0, [], frG, []⟩ = .error (40, s.size)) := by
          rw [HVF.out]
          unfold vfin
          rw [if_pos (.inl h0)]
          rfl
        clear h0
        go_wp2_with fail
        refine bodyPost_ret (v := .tuple #[.slice none 0 0, .int .i64 40, .int .i64 (s.size : Int)]) ?_ rfl (ParRes.bad V2.out ?_)
        · simp [results, Try.results13, go_sem]
        · exact HB.out
end Go.Proofs.Ytkjcnnecdclgfaa
namespace Go.Proofs.Ytkjcnnecdclgfaa
open Go.RowKit
/-- A row of nodes of the call's own is a list. -/
theorem own_lst {w : World} {B : Nat} {v : Value} {o : List Nd} (h : w.ownsRow B 34 7 v o.length (ncs o)) : ∃ lp g cap, v = .slice lp o.length cap ∧ Lst w lp g 0 cap o := by
  by_cases h0 : o = []
  · subst h0
    obtain ⟨a, cap, rfl⟩ := own_slice h
    exact ⟨a, 0, cap, rfl, fun h => absurd rfl h, fun h => absurd rfl h, ⟨fun p n s e => by cases p <;> cases e⟩⟩
  · obtain ⟨g, cap, rfl, _, _, hlt⟩ := own_form h (List.length_pos_iff.mpr h0)
    exact ⟨_, g, cap, rfl, fun _ => rfl, fun _ => hlt, own_nds h rfl⟩
theorem lst_nil (w : World) : Lst w none 0 0 0 [] := ⟨fun h => absurd rfl h, fun h => absurd rfl h, ⟨fun p n s e => by cases p <;> cases e⟩⟩
set_option maxRecDepth 100000 in
set_option maxHeartbeats 4000000 in
theorem parses_any (s : ByteArray) (hs : s.size ≤ 1099511627776) (w : World) : Calls Try.prog 4 #[.string s] w fun e w' => e = .returned (.bool true) ∧ Below w.heap.size w w' := by
  have C1 := parse_any s (by omega) w
  have C2 := fun W => rparse_any s hs W
  clear hs
  cases hv : V s ⟨0, [], frG, []⟩ with
  | error ce =>
    obtain ⟨c, p⟩ := ce
    unfold ParRes at C1 C2
    rw [hv] at C1 C2
    dsimp only at C1 C2
    clear hv
    go_enter Try.func4, Try.ntmps4
    go_wp2_with fail
    refine C1.mono ?_
    clear C1
    rintro e w1 ⟨rfl, hb1⟩
    have B1 : Hid _ := hb1
    clear hb1
    go_wp2_with fail
    refine (C2 _).mono ?_
    clear C2
    rintro e w2 ⟨rfl, hb2⟩
    have B2 : Hid _ := below_trans B1.out hb2
    have hcc : (c == c) = true := by rw [beq_iff_eq]
    have hpp : ((p : Int) == (p : Int)) = true := by rw [beq_iff_eq]
    clear hb2 B1
    go_wp2_with fail
    refine (sameTree_any [] none none 0 0 0 0 0 0 _ (lst_nil _) (lst_nil _) (by simp)).mono ?_
    rintro e w3 ⟨rfl, hb3⟩
    go_wp2_with fail
    go_ret
    exact ⟨rfl, below_trans B2.out hb3⟩
  | ok o =>
    unfold ParRes at C1 C2
    rw [hv] at C1 C2
    dsimp only at C1 C2
    clear hv
    go_enter Try.func4, Try.ntmps4
    go_wp2_with fail
    refine C1.mono ?_
    clear C1
    rintro e w1 ⟨⟨⟨v, rfl, ho⟩, hl⟩, hb1⟩
    obtain ⟨lp, g, cap, rfl, hlst⟩ := own_lst ho
    have B1 : Hid _ := hb1
    have L1 : Hid _ := hlst
    have HL : Hid _ := hl
    clear hb1 ho hlst hl
    go_wp2_with fail
    refine (C2 _).mono ?_
    clear C2
    rintro e w2 ⟨⟨⟨v, rfl, ho⟩, _⟩, hb2⟩
    obtain ⟨lq, g2, cap2, rfl, hlst⟩ := own_lst ho
    have B2 : Hid _ := below_trans B1.out hb2
    have L2 : Hid _ := L1.out.up hb2
    have L3 : Hid _ := hlst
    clear hb2 ho hlst B1 L1
    go_wp2_with fail
    refine (sameTree_any o lp lq g 0 cap g2 0 cap2 _ L2.out L3.out (by have := HL.out; omega)).mono ?_
    rintro e w3 ⟨rfl, hb3⟩
    go_wp2_with fail
    go_ret
    exact ⟨rfl, below_trans B2.out hb3⟩
end Go.Proofs.Ytkjcnnecdclgfaa
