import Derived.Test.YtbkhhegmmkcbbaaDoorSld
import Derived.Test.YtbkhhegmmkcbbaaDoorSax
import Derived.Test.YtbkhhegmmkcbbaaDoorTbe
namespace Go.Proofs.YtbkhhegmmkcbbaaDoor
open Go.RowKit Go.Maps

theorem cnm_size (i : Nat) (h : i ≤ 9223372036854775807) : (cnm i).size ≤ 22 := by
  have h1 := Lib.itoa_length_le (i : Int) (by omega) (by omega)
  show (99 :: Lib.itoa (i : Int)).toArray.size ≤ 22
  simp; omega
theorem cld_size (O : List Pa) (hO : O.length ≤ 9223372036854775807) (c : ByteArray) : (cld O c).size ≤ 22 := by
  unfold cld
  split
  · show (0 : Nat) ≤ 22; omega
  · split
    · next i hi => exact cnm_size i (by have := (cid_some hi).1; omega)
    · show (0 : Nat) ≤ 22; omega
theorem Onc.zp {O L : List Pa} {T : List Nd} (h : Onc O L) (hz : Zp L T) : Zp O T := ⟨by have := h.len; have := hz.ll; omega, hz.tl, fun x hx => hz.ln x (h.sub x hx), hz.tn⟩
theorem zp_rev {O : List Pa} {T : List Nd} (hz : Zp O T) : Zp O.reverse T := ⟨by rw [List.length_reverse]; exact hz.ll, hz.tl, fun x hx => hz.ln x (List.mem_reverse.1 hx), hz.tn⟩
theorem zp_oth {O : List Pa} {T : List Nd} (hz : Zp O T) : Zp (oth O) T := ⟨by unfold oth; rw [List.length_map]; exact hz.ll, hz.tl, fun x hx => by
  obtain ⟨y, hy, rfl⟩ := List.mem_map.1 hx
  have h1 := hz.ll
  exact ⟨(hz.ln y hy).1, by have := cld_size O (by omega) y.cl; show (cld O y.cl).size ≤ _; omega⟩, hz.tn⟩
theorem hasN_take (O : List Pa) (k : Nat) (hk : k < O.length) (t : ByteArray) : hasN (O.take (k + 1)) t = (hasN (O.take k) t || decide ((O.getD k paz).nm = t)) := by
  rw [take_pa O k hk]
  unfold hasN
  rw [List.any_append]
  simp
theorem rev_drop (O : List Pa) (j : Nat) (h : j < O.length) : (O.drop j).reverse = (O.drop (j + 1)).reverse ++ [O.getD j paz] := by
  rw [List.drop_eq_getElem_cons h, List.reverse_cons, List.getD_eq_getElem?_getD, List.getElem?_eq_getElem h]; rfl
theorem oth_len (O : List Pa) : (oth O).length = O.length := List.length_map _
theorem oth_get (O : List Pa) (i : Nat) (h : i < O.length) : (oth O).getD i paz = ⟨(O.getD i paz).nm, cld O (O.getD i paz).cl⟩ := by
  unfold oth
  rw [List.getD_eq_getElem?_getD, List.getD_eq_getElem?_getD, List.getElem?_map, List.getElem?_eq_getElem h]; rfl
set_option maxRecDepth 100000 in
set_option maxHeartbeats 32000000 in
/-- PaintLines. -/
theorem paintLines_any {v u : Value} {L : List Pa} {T : List Nd} (w : World) (h : Pl w v L) (hT : Ns w u T) (hz : Zp L T) (hI : ∀ x ∈ T, inI x.fr ∧ inI x.tt ∧ inI x.kd) (ht : Tab w) : Calls Tryd.prog 3 #[v, u] w fun e w' => e = .returned (.bool true) ∧ Below w.heap.size w w' := by
  obtain ⟨iP, hiP, hp0, hp1, hp2⟩ := info_parts infoPa
  have HP : Hid (Pl w v L) := h
  have HT : Hid (Ns w u T) := hT
  have HZ : Hid (Zp L T) := hz
  have HTB : Hid (Tab w) := ht
  obtain ⟨pa, pc, rfl⟩ := h.form
  obtain ⟨ta, tc, rfl⟩ := hT.form
  obtain ⟨m, hmm⟩ : ∃ m, L.length = m := ⟨_, rfl⟩
  obtain ⟨n, hnn⟩ : ∃ n, T.length = n := ⟨_, rfl⟩
  have HN : Hid (T.length = n ∧ n * 72 + 4096 ≤ 140737488355328 ∧ L.length = m ∧ m * 32 ≤ 140737488355328) := ⟨hnn, by have h9 := hz.tl; unfold Sm at h9; rw [hnn] at h9; exact h9, hmm, by rw [← hmm]; exact hz.ll⟩
  have HOT : Hid (∀ O : List Pa, spn (lcl (oth O)) T = (spn (lcl O) T).map (rnm (cld O))) := fun O => spn_oth (by have h9 := hz.tl; unfold Sm at h9; omega) hI
  rw [hmm] at HP ⊢
  rw [hnn] at HT ⊢
  have HBY : Hid (∀ W, Below w.heap.size w W → Calls Tryd.prog 5 #[.slice ta n tc] W fun e w' => ∃ b, e = .returned (.bool b) ∧ Below W.heap.size W w') := fun W hW => beyond_any W (HT.out.up hW) hz.tl
  obtain ⟨X, hX⟩ : ∃ X, spn (lcl L) T = X := ⟨_, rfl⟩
  obtain ⟨p, hp⟩ : ∃ p, X.length = p := ⟨_, rfl⟩
  have HXP : Hid (spn (lcl L) T = X ∧ X.length = p) := ⟨hX, hp⟩
  have HPZ : Hid (p ≤ 3909374676424) := by
    have a1 := spn_le (lcl L) T
    rw [hX, hp, hnn] at a1
    have a3 := HN.out
    show _ ≤ _
    omega
  have HSN : Hid (∀ (W : World) (v' : Value) (L' : List Pa) (X' : List Sn), spn (lcl L') T = X' → X'.length = p → Zp L' T → Below w.heap.size w W → Pl W v' L' → Calls Tryd.prog 7 #[.agg (lgA v'), .slice ta n tc] W fun e w' => ∃ a c, e = .returned (.slice a p c) ∧ Qs w' (.slice a p c) X' ∧ Below W.heap.size W w') := fun W v' L' X' hX' hp' hz' hW h1 => by
    refine Calls.mono (spans_any W h1 (HT.out.up hW) hz' (fun x hx => ⟨(hI x hx).1, (hI x hx).2.1⟩)) ?_
    rintro e w' ⟨vo, rfl, ho, hb⟩
    rw [hX', hp'] at ho
    obtain ⟨a, c, rfl⟩ := row_shape ho
    exact ⟨a, c, rfl, (by show Rw _ _ _ _; rw [hp']; exact row_rw ho (by decide)), hb⟩
  have HLA : Hid (∀ (W : World) (v' : Value) (L' : List Pa), Zp L' T → Pl W v' L' → Calls Tryd.prog 8 #[v'] W fun e w' => ∃ v'', e = .returned (.agg (lgA v'')) ∧ Pl w' v'' L' ∧ Below W.heap.size W w') := fun W v' L' hz' hp => lang_any W hp hz'.ll
  have HCD : Hid (∀ (O : List Pa) (W : World) (v' : Value) (c d : ByteArray), cld O c = d → O.length * 32 ≤ 140737488355328 → Below w.heap.size w W → Pl W v' O → Calls Tryd.prog 6 #[v', .string c] W fun e w' => e = .returned (.string d) ∧ Below W.heap.size W w') := fun O W v' c d hd hl hW h1 => by
    rw [← hd]; exact called_any W h1 (HTB.out.up hW) hl c
  clear h hT hz hI hmm hnn hX hp ht
  unfold lgA at HLA HSN
  go_enter Tryd.func3, Tryd.ntmps3
  go_upto_region 3 with (go_at_call 4; refine Calls.mono (awake_any w) ?_; rintro e y0 ⟨rfl, hb⟩; have HV0 : Hid (Below w.heap.size w y0) := hb; clear hb)
  go_upto_if 20 with (go_at_call 5; refine Calls.mono (HBY.out y0 HV0.out) ?_; rintro e y1 ⟨b, rfl, hb⟩; have HV1 : Hid (Below w.heap.size w y1) := below_trans HV0.out hb; clear hb)
  cases b with
  | true =>
    go_wp2_with fail
    go_ret
    exact ⟨rfl, HV1.out⟩
  | false =>
    go_upto_region 7 with fail
    obtain ⟨B0, hB0⟩ : ∃ B0, y1.heap.size = B0 := ⟨_, rfl⟩
    have HB0 : Hid (y1.heap.size = B0) := hB0
    clear hB0 HBY HV0
    go_loopg [5, 6] m (fun gm v5 v6 wr => ∃ i : Nat, v6 = .int .i64 (i : Int) ∧ Hid (i ≤ m ∧ gm = m - i) ∧ Hid (wr.ownsRow B0 27 2 v5 (onc (L.take i)).length (flat paf (onc (L.take i)))) ∧ Hid (Below B0 y1 wr))
    case atStart => exact ⟨0, rfl, ⟨Nat.zero_le _, rfl⟩, ⟨rfl, .inl ⟨rfl, rfl⟩⟩, by rw [← HB0.out]; exact Below.refl _ _⟩
    case round =>
      obtain ⟨i, rfl, HI, HO, HB⟩ := hrel
      obtain ⟨w0, hw0⟩ : ∃ w0, w0 = wr := ⟨_, rfl⟩
      rw [← hw0] at HO HB ⊢
      clear hw0
      obtain ⟨va, vc, e9⟩ := row_shape HO.out
      subst e9
      have HSZ : Hid (B0 ≤ w0.heap.size) := by show _ ≤ _; have := HB.out.size; have := HB0.out; omega
      have HBW : Hid (Below w.heap.size w w0) := below_trans HV1.out (by rw [HB0.out]; exact HB.out)
      by_cases hi : i < m
      · have e1 : decide ((i : Int) < (m : Int)) = true := by rw [decide_eq_true_eq]; omega
        have e2 : decide (i < m) = true := by rw [decide_eq_true_eq]; omega
        have b0 : (0 : Int) ≤ (i : Int) := by omega
        have b1 : (i : Int) < (m : Int) := by omega
        have b2 : i < m := hi
        have HIL : Hid (i < m) := hi
        have HWI : Hid (IntKind.i64.wrap ((i : Int) + 1) = (i : Int) + 1) := by have := HN.out; show _ = _; rw [IntKind.wrap_i64]; omega
        have HON : Hid (Onc (onc (L.take i)) (L.take i)) := onc_is _
        have HOS : Hid (onc (L.take (i + 1)) = ons (onc (L.take i)) (L.getD i paz)) := onc_take L i (by rw [HN.out.2.2.1]; exact hi)
        obtain ⟨O, hO⟩ : ∃ O, onc (L.take i) = O := ⟨_, rfl⟩
        rw [hO] at HO HON HOS
        rw [hO]
        obtain ⟨q, hq⟩ : ∃ q, O.length = q := ⟨_, rfl⟩
        have HQ : Hid (O.length = q ∧ q ≤ m) := ⟨hq, by have h1 := HON.out.len; have h2 := List.length_take_le i L; rw [hq] at h1; have := HIL.out; omega⟩
        have HOQ : Hid (w0.ownsRow B0 27 2 (.slice va q vc) q (flat paf O)) := by have h9 := HO.out; rw [hq] at h9; exact h9
        rw [hq]
        obtain ⟨g1, o1, epa, hc1⟩ := HP.out.two i (by rw [HN.out.2.2.1]; exact hi)
        subst epa
        obtain ⟨x, hx⟩ : ∃ x, L.getD i paz = x := ⟨_, rfl⟩
        rw [hx] at hc1 HOS
        have HXC : Hid (∀ W, Below w0.heap.size w0 W → W.cell? ⟨g1, o1 + i * 2, none⟩ = some (.string x.nm) ∧ W.cell? ⟨g1, o1 + i * 2 + 1, none⟩ = some (.string x.cl)) := fun W hW => hc1 W (below_trans HBW.out hW)
        have HPO : Hid (Pl w0 (.slice va q vc) O) := by show Rw _ _ _ _; rw [hq]; exact row_rw HOQ.out (by decide)
        clear hi hO hq hx hc1 HO
        go_upto_region 11 with fail
        go_loopg [7, 8] q (fun gm v7 v8 wr => ∃ (k : Nat) (b : Bool), v7 = .bool b ∧ v8 = .int .i64 (k : Int) ∧ Hid (k ≤ q ∧ gm = q - k) ∧ Hid (hasN (O.take k) x.nm = b) ∧ Hid (Below w0.heap.size w0 wr))
        case atStart => exact ⟨0, false, rfl, rfl, ⟨Nat.zero_le _, rfl⟩, rfl, Below.refl _ _⟩
        case round =>
          obtain ⟨k, b, rfl, rfl, HK, HH, HB3⟩ := hrel
          obtain ⟨w3, hw3⟩ : ∃ w3, w3 = wr := ⟨_, rfl⟩
          rw [← hw3] at HB3 ⊢
          clear hw3
          by_cases hk : k < q
          · have d1 : decide ((k : Int) < (q : Int)) = true := by rw [decide_eq_true_eq]; omega
            have d2 : decide (k < q) = true := by rw [decide_eq_true_eq]; omega
            have d3 : (0 : Int) ≤ (k : Int) := by omega
            have d4 : (k : Int) < (q : Int) := by omega
            have d5 : k < q := hk
            have HKL : Hid (k < q) := hk
            have HWK : Hid (IntKind.i64.wrap ((k : Int) + 1) = (k : Int) + 1) := by have := HN.out; have := HQ.out; show _ = _; rw [IntKind.wrap_i64]; omega
            have HHT : Hid (hasN (O.take (k + 1)) x.nm = (b || decide ((O.getD k paz).nm = x.nm))) := by show _ = _; rw [hasN_take O k (by rw [HQ.out.1]; exact hk), HH.out]
            obtain ⟨g2, o2, eva, hc2⟩ := HPO.out.two k (by rw [HQ.out.1]; exact hk)
            subst eva
            obtain ⟨y, hy⟩ : ∃ y, O.getD k paz = y := ⟨_, rfl⟩
            rw [hy] at hc2 HHT
            obtain ⟨r, hr⟩ : ∃ r, (y.nm.toList == x.nm.toList) = r := ⟨_, rfl⟩
            have HHR : Hid (hasN (O.take (k + 1)) x.nm = (b || r)) := by show _ = _; rw [HHT.out, ← hr, str_eq]
            have HXW : Hid (∀ W, Below w3.heap.size w3 W → W.cell? ⟨g1, o1 + i * 2, none⟩ = some (.string x.nm) ∧ W.cell? ⟨g1, o1 + i * 2 + 1, none⟩ = some (.string x.cl)) := fun W hW => HXC.out W (below_trans HB3.out hW)
            have HYW : Hid (∀ W, Below w3.heap.size w3 W → W.cell? ⟨g2, o2 + k * 2, none⟩ = some (.string y.nm) ∧ W.cell? ⟨g2, o2 + k * 2 + 1, none⟩ = some (.string y.cl)) := fun W hW => hc2 W (below_trans HB3.out hW)
            have HB3D : Hid (Below w0.heap.size w0 w3.drew) := below_trans HB3.out (Below.drew (Below.refl _ _))
            clear hk hc2 hy HHT
            go_upto_region 13 with fail
            cases b with
            | true =>
              refine wp_region_noPanic ?_
              refine wp_region_held_drew (S := fun W => Below w3.heap.size w3 W) (by kernel_rfl) (Below.drew (Below.refl _ _)) (fun hHeld => ?_)
              refine wpAnyH_take (i := 0) (oi := { dst := _, op := _, type := _, pos := _, after := _, guard := _ }) (v := ?_) rfl (by kernel_rfl) (by kernel_rfl) (by kernel_rfl) (fun _ _ _ h => h) (Or.inl ⟨by rfl, ?_⟩) (by assumption) ?_
              rotate_left
              · intro W hSw
                (try dsimp only at hSw)
                go_simp
                (try with_reducible rfl)
              try simp only [Act.put, List.setIfInBounds_toArray, List.set_cons_zero, List.set_cons_succ]
              refine wpAnyH_take (i := 1) (oi := { dst := _, op := _, type := _, pos := _, after := _, guard := _ }) (v := ?_) rfl (by kernel_rfl) (by kernel_rfl) (by kernel_rfl) (fun _ _ _ h => h) (Or.inl ⟨by rfl, ?_⟩) (by assumption) ?_
              rotate_left
              · intro W hSw
                (try dsimp only at hSw)
                go_simp
                (try with_reducible rfl)
              try simp only [Act.put, List.setIfInBounds_toArray, List.set_cons_zero, List.set_cons_succ]
              refine wpAnyH_take (i := 2) (oi := { dst := _, op := _, type := _, pos := _, after := _, guard := _ }) rfl (by kernel_rfl) (by kernel_rfl) (by kernel_rfl) (fun _ _ _ h => h) (Or.inr ⟨by rfl, rfl⟩) (by assumption) ?_
              try simp only [Act.put, List.setIfInBounds_toArray, List.set_cons_zero, List.set_cons_succ]
              refine wpAnyH_take (i := 3) (oi := { dst := _, op := _, type := _, pos := _, after := _, guard := _ }) rfl (by kernel_rfl) (by kernel_rfl) (by kernel_rfl) (fun _ _ _ h => h) (Or.inr ⟨by rfl, rfl⟩) (by assumption) ?_
              try simp only [Act.put, List.setIfInBounds_toArray, List.set_cons_zero, List.set_cons_succ]
              refine wpAnyH_take (i := 4) (oi := { dst := _, op := _, type := _, pos := _, after := _, guard := _ }) rfl (by kernel_rfl) (by kernel_rfl) (by kernel_rfl) (fun _ _ _ h => h) (Or.inr ⟨by rfl, rfl⟩) (by assumption) ?_
              try simp only [Act.put, List.setIfInBounds_toArray, List.set_cons_zero, List.set_cons_succ]
              refine wpAnyH_take (i := 5) (oi := { dst := _, op := _, type := _, pos := _, after := _, guard := _ }) rfl (by kernel_rfl) (by kernel_rfl) (by kernel_rfl) (fun _ _ _ h => h) (Or.inr ⟨by rfl, rfl⟩) (by assumption) ?_
              try simp only [Act.put, List.setIfInBounds_toArray, List.set_cons_zero, List.set_cons_succ]
              refine wpAnyH_take (i := 6) (oi := { dst := _, op := _, type := _, pos := _, after := _, guard := _ }) rfl (by kernel_rfl) (by kernel_rfl) (by kernel_rfl) (fun _ _ _ h => h) (Or.inr ⟨by rfl, rfl⟩) (by assumption) ?_
              try simp only [Act.put, List.setIfInBounds_toArray, List.set_cons_zero, List.set_cons_succ]
              refine wpAnyH_take (i := 7) (oi := { dst := _, op := _, type := _, pos := _, after := _, guard := _ }) rfl (by kernel_rfl) (by kernel_rfl) (by kernel_rfl) (fun _ _ _ h => h) (Or.inr ⟨by rfl, rfl⟩) (by assumption) ?_
              try simp only [Act.put, List.setIfInBounds_toArray, List.set_cons_zero, List.set_cons_succ]
              refine wpAnyH_take (i := 8) (oi := { dst := _, op := _, type := _, pos := _, after := _, guard := _ }) rfl (by kernel_rfl) (by kernel_rfl) (by kernel_rfl) (fun _ _ _ h => h) (Or.inr ⟨by rfl, rfl⟩) (by assumption) ?_
              try simp only [Act.put, List.setIfInBounds_toArray, List.set_cons_zero, List.set_cons_succ]
              refine wpAnyH_take (i := 9) (oi := { dst := _, op := _, type := _, pos := _, after := _, guard := _ }) rfl (by kernel_rfl) (by kernel_rfl) (by kernel_rfl) (fun _ _ _ h => h) (Or.inr ⟨by rfl, rfl⟩) (by assumption) ?_
              try simp only [Act.put, List.setIfInBounds_toArray, List.set_cons_zero, List.set_cons_succ]
              refine wpAnyH_take (i := 10) (oi := { dst := _, op := _, type := _, pos := _, after := _, guard := _ }) rfl (by kernel_rfl) (by kernel_rfl) (by kernel_rfl) (fun _ _ _ h => h) (Or.inr ⟨by rfl, rfl⟩) (by assumption) ?_
              try simp only [Act.put, List.setIfInBounds_toArray, List.set_cons_zero, List.set_cons_succ]
              refine wpAnyH_take (i := 11) (oi := { dst := _, op := _, type := _, pos := _, after := _, guard := _ }) rfl (by kernel_rfl) (by kernel_rfl) (by kernel_rfl) (fun _ _ _ h => h) (Or.inr ⟨by rfl, rfl⟩) (by assumption) ?_
              try simp only [Act.put, List.setIfInBounds_toArray, List.set_cons_zero, List.set_cons_succ]
              refine wpAnyH_take (i := 12) (oi := { dst := _, op := _, type := _, pos := _, after := _, guard := _ }) rfl (by kernel_rfl) (by kernel_rfl) (by kernel_rfl) (fun _ _ _ h => h) (Or.inr ⟨by rfl, rfl⟩) (by assumption) ?_
              try simp only [Act.put, List.setIfInBounds_toArray, List.set_cons_zero, List.set_cons_succ]
              refine wpAnyH_take (i := 13) (oi := { dst := _, op := _, type := _, pos := _, after := _, guard := _ }) (v := ?_) rfl (by kernel_rfl) (by kernel_rfl) (by kernel_rfl) (fun _ _ _ h => h) (Or.inl ⟨by rfl, ?_⟩) (by assumption) ?_
              rotate_left
              · intro W hSw
                (try dsimp only at hSw)
                go_simp
                (try with_reducible rfl)
              try simp only [Act.put, List.setIfInBounds_toArray, List.set_cons_zero, List.set_cons_succ]
              refine wpAnyH_take (i := 14) (oi := { dst := _, op := _, type := _, pos := _, after := _, guard := _ }) (v := ?_) rfl (by kernel_rfl) (by kernel_rfl) (by kernel_rfl) (fun _ _ _ h => h) (Or.inl ⟨by rfl, ?_⟩) (by assumption) ?_
              rotate_left
              · intro W hSw
                (try dsimp only at hSw)
                go_simp
                (try with_reducible rfl)
              try simp only [Act.put, List.setIfInBounds_toArray, List.set_cons_zero, List.set_cons_succ]
              refine wpAnyH_done (by kernel_rfl) ?_ _
              refine NoPanic.normal ?_
              clear hHeld
              have hwk := HWK.out
              clear hr
              go_wp2_with fail
              go_roundg (q - (k + 1))
              case measure => have := HK.out; have := HKL.out; omega
              case rel => exact ⟨k + 1, true, rfl, by push_cast; rfl, ⟨HKL.out, rfl⟩, HHR.out, HB3D.out⟩
            | false =>
              refine wp_region_noPanic ?_
              refine wp_region_held_drew (S := fun W => Below w3.heap.size w3 W) (by kernel_rfl) (Below.drew (Below.refl _ _)) (fun hHeld => ?_)
              refine wpAnyH_take (i := 0) (oi := { dst := _, op := _, type := _, pos := _, after := _, guard := _ }) (v := ?_) rfl (by kernel_rfl) (by kernel_rfl) (by kernel_rfl) (fun _ _ _ h => h) (Or.inl ⟨by rfl, ?_⟩) (by assumption) ?_
              rotate_left
              · intro W hSw
                (try dsimp only at hSw)
                go_simp
                (try with_reducible rfl)
              try simp only [Act.put, List.setIfInBounds_toArray, List.set_cons_zero, List.set_cons_succ]
              refine wpAnyH_take (i := 1) (oi := { dst := _, op := _, type := _, pos := _, after := _, guard := _ }) (v := ?_) rfl (by kernel_rfl) (by kernel_rfl) (by kernel_rfl) (fun _ _ _ h => h) (Or.inl ⟨by rfl, ?_⟩) (by assumption) ?_
              rotate_left
              · intro W hSw
                (try dsimp only at hSw)
                go_simp
                (try with_reducible rfl)
              try simp only [Act.put, List.setIfInBounds_toArray, List.set_cons_zero, List.set_cons_succ]
              refine wpAnyH_take (i := 2) (oi := { dst := _, op := _, type := _, pos := _, after := _, guard := _ }) (v := ?_) rfl (by kernel_rfl) (by kernel_rfl) (by kernel_rfl) (fun _ _ _ h => h) (Or.inl ⟨by rfl, ?_⟩) (by assumption) ?_
              rotate_left
              · intro W hSw
                (try dsimp only at hSw)
                go_simp
                (try with_reducible rfl)
              try simp only [Act.put, List.setIfInBounds_toArray, List.set_cons_zero, List.set_cons_succ]
              refine wpAnyH_take (i := 3) (oi := { dst := _, op := _, type := _, pos := _, after := _, guard := _ }) (v := ?_) rfl (by kernel_rfl) (by kernel_rfl) (by kernel_rfl) (fun _ _ _ h => h) (Or.inl ⟨by rfl, ?_⟩) (by assumption) ?_
              rotate_left
              · intro W hSw
                (try dsimp only at hSw)
                go_simp
                (try with_reducible rfl)
              try simp only [Act.put, List.setIfInBounds_toArray, List.set_cons_zero, List.set_cons_succ]
              refine wpAnyH_take (i := 4) (oi := { dst := _, op := _, type := _, pos := _, after := _, guard := _ }) (v := ?_) rfl (by kernel_rfl) (by kernel_rfl) (by kernel_rfl) (fun _ _ _ h => h) (Or.inl ⟨by rfl, ?_⟩) (by assumption) ?_
              rotate_left
              · intro W hSw
                (try dsimp only at hSw)
                go_simp
                (try with_reducible rfl)
              try simp only [Act.put, List.setIfInBounds_toArray, List.set_cons_zero, List.set_cons_succ]
              refine wpAnyH_take (i := 5) (oi := { dst := _, op := _, type := _, pos := _, after := _, guard := _ }) (v := ?_) rfl (by kernel_rfl) (by kernel_rfl) (by kernel_rfl) (fun _ _ _ h => h) (Or.inl ⟨by rfl, ?_⟩) (by assumption) ?_
              rotate_left
              · intro W hSw
                (try dsimp only at hSw)
                go_simp
                (try with_reducible rfl)
              try simp only [Act.put, List.setIfInBounds_toArray, List.set_cons_zero, List.set_cons_succ]
              refine wpAnyH_take (i := 6) (oi := { dst := _, op := _, type := _, pos := _, after := _, guard := _ }) (v := ?_) rfl (by kernel_rfl) (by kernel_rfl) (by kernel_rfl) (fun _ _ _ h => h) (Or.inl ⟨by rfl, ?_⟩) (by assumption) ?_
              rotate_left
              · intro W hSw
                (try dsimp only at hSw)
                obtain ⟨s0, s1⟩ := HYW.out W hSw
                go_simp
                (try with_reducible rfl)
              try simp only [Act.put, List.setIfInBounds_toArray, List.set_cons_zero, List.set_cons_succ]
              refine wpAnyH_take (i := 7) (oi := { dst := _, op := _, type := _, pos := _, after := _, guard := _ }) (v := ?_) rfl (by kernel_rfl) (by kernel_rfl) (by kernel_rfl) (fun _ _ _ h => h) (Or.inl ⟨by rfl, ?_⟩) (by assumption) ?_
              rotate_left
              · intro W hSw
                (try dsimp only at hSw)
                go_simp
                (try with_reducible rfl)
              try simp only [Act.put, List.setIfInBounds_toArray, List.set_cons_zero, List.set_cons_succ]
              refine wpAnyH_take (i := 8) (oi := { dst := _, op := _, type := _, pos := _, after := _, guard := _ }) (v := ?_) rfl (by kernel_rfl) (by kernel_rfl) (by kernel_rfl) (fun _ _ _ h => h) (Or.inl ⟨by rfl, ?_⟩) (by assumption) ?_
              rotate_left
              · intro W hSw
                (try dsimp only at hSw)
                go_simp
                (try with_reducible rfl)
              try simp only [Act.put, List.setIfInBounds_toArray, List.set_cons_zero, List.set_cons_succ]
              refine wpAnyH_take (i := 9) (oi := { dst := _, op := _, type := _, pos := _, after := _, guard := _ }) (v := ?_) rfl (by kernel_rfl) (by kernel_rfl) (by kernel_rfl) (fun _ _ _ h => h) (Or.inl ⟨by rfl, ?_⟩) (by assumption) ?_
              rotate_left
              · intro W hSw
                (try dsimp only at hSw)
                go_simp
                (try with_reducible rfl)
              try simp only [Act.put, List.setIfInBounds_toArray, List.set_cons_zero, List.set_cons_succ]
              refine wpAnyH_take (i := 10) (oi := { dst := _, op := _, type := _, pos := _, after := _, guard := _ }) (v := ?_) rfl (by kernel_rfl) (by kernel_rfl) (by kernel_rfl) (fun _ _ _ h => h) (Or.inl ⟨by rfl, ?_⟩) (by assumption) ?_
              rotate_left
              · intro W hSw
                (try dsimp only at hSw)
                go_simp
                (try with_reducible rfl)
              try simp only [Act.put, List.setIfInBounds_toArray, List.set_cons_zero, List.set_cons_succ]
              refine wpAnyH_take (i := 11) (oi := { dst := _, op := _, type := _, pos := _, after := _, guard := _ }) (v := ?_) rfl (by kernel_rfl) (by kernel_rfl) (by kernel_rfl) (fun _ _ _ h => h) (Or.inl ⟨by rfl, ?_⟩) (by assumption) ?_
              rotate_left
              · intro W hSw
                (try dsimp only at hSw)
                obtain ⟨s0, s1⟩ := HXW.out W hSw
                go_simp
                (try with_reducible rfl)
              try simp only [Act.put, List.setIfInBounds_toArray, List.set_cons_zero, List.set_cons_succ]
              refine wpAnyH_take (i := 12) (oi := { dst := _, op := _, type := _, pos := _, after := _, guard := _ }) (v := ?_) rfl (by kernel_rfl) (by kernel_rfl) (by kernel_rfl) (fun _ _ _ h => h) (Or.inl ⟨by rfl, ?_⟩) (by assumption) ?_
              rotate_left
              · intro W hSw
                (try dsimp only at hSw)
                go_simp
                (try with_reducible rfl)
              try simp only [Act.put, List.setIfInBounds_toArray, List.set_cons_zero, List.set_cons_succ]
              refine wpAnyH_take (i := 13) (oi := { dst := _, op := _, type := _, pos := _, after := _, guard := _ }) (v := ?_) rfl (by kernel_rfl) (by kernel_rfl) (by kernel_rfl) (fun _ _ _ h => h) (Or.inl ⟨by rfl, ?_⟩) (by assumption) ?_
              rotate_left
              · intro W hSw
                (try dsimp only at hSw)
                go_simp
                (try with_reducible rfl)
              try simp only [Act.put, List.setIfInBounds_toArray, List.set_cons_zero, List.set_cons_succ]
              refine wpAnyH_take (i := 14) (oi := { dst := _, op := _, type := _, pos := _, after := _, guard := _ }) (v := ?_) rfl (by kernel_rfl) (by kernel_rfl) (by kernel_rfl) (fun _ _ _ h => h) (Or.inl ⟨by rfl, ?_⟩) (by assumption) ?_
              rotate_left
              · intro W hSw
                (try dsimp only at hSw)
                go_simp
                (try with_reducible rfl)
              try simp only [Act.put, List.setIfInBounds_toArray, List.set_cons_zero, List.set_cons_succ]
              refine wpAnyH_done (by kernel_rfl) ?_ _
              refine NoPanic.normal ?_
              clear hHeld
              have hwk := HWK.out
              clear hr
              go_wp2_with fail
              go_roundg (q - (k + 1))
              case measure => have := HK.out; have := HKL.out; omega
              case rel => exact ⟨k + 1, r, rfl, by push_cast; rfl, ⟨HKL.out, rfl⟩, HHR.out, HB3D.out⟩
          · have d1 : decide ((k : Int) < (q : Int)) = false := by rw [decide_eq_false_iff_not]; omega
            have d2 : decide (k < q) = false := by rw [decide_eq_false_iff_not]; exact hk
            have HHO : Hid (hasN O x.nm = b) := by show _ = _; rw [← HH.out, List.take_of_length_le (by rw [HQ.out.1]; omega)]
            have HOQ3 : Hid (w3.ownsRow B0 27 2 (.slice va q vc) q (flat paf O)) := row_up HOQ.out HB3.out
            have HBW3 : Hid (Below B0 y1 w3) := HB.out.trans (HB3.out.mono HSZ.out)
            have HSZ3 : Hid (B0 ≤ w3.heap.size) := by have := HB3.out.size; have := HSZ.out; show _ ≤ _; omega
            have hwi := HWI.out
            clear hk
            cases b with
            | true =>
              have HOE : Hid (onc (L.take (i + 1)) = O) := by show _ = _; rw [HOS.out]; unfold ons; rw [if_pos HHO.out]
              go_wp2_with fail
              go_roundg (m - (i + 1))
              case measure => have := HI.out; have := HIL.out; omega
              case rel => exact ⟨i + 1, by push_cast; rfl, ⟨HIL.out, rfl⟩, by rw [HOE.out, HQ.out.1]; exact HOQ3.out, HBW3.out⟩
            | false =>
              have HOE : Hid (onc (L.take (i + 1)) = O ++ [x]) := by show _ = _; rw [HOS.out]; unfold ons; rw [if_neg (by rw [HHO.out]; decide)]
              obtain ⟨k0, k1⟩ := HXC.out w3 HB3.out
              obtain ⟨ys, hys⟩ : ∃ ys, flat paf O = ys := ⟨_, rfl⟩
              have HYS : Hid (flat paf O = ys) := hys
              rw [hys] at HOQ3
              clear hys
              have HMX : Hid (q + 1 ≤ maxLen ∧ (q + 1) * 32 ≤ 140737488355328) := by have h8 := HQ.out; have := HN.out; have h7 := HON.out.len; have h6 := List.length_take_le i L; have := HIL.out; exact ⟨by unfold maxLen; omega, by omega⟩
              go_wp2_with (at_builtin; refine wpList_append_own_at _ rfl _ _ 22 rfl B0 27 iP _ 2 32 Tryd.underlying22 hiP hp0 hp1 hp2 rfl (by decide) (.slice va q vc) q ys rfl (row_up HOQ3.out (bel_up _ _)) ⟨w3.heap.size, 0, none⟩ 1 1 [.string x.nm, .string x.cl] rfl rfl (World.news_of_block (heap_new _ _)) (fun u hu => paf_one x u hu) HMX.out.1 HMX.out.2 (by have := HSZ3.out; simp; omega) ?_; intro v7 w7 ho7 hg7 _ _; have HO7 : Hid (w7.ownsRow B0 27 2 v7 (q + 1) (ys ++ [.string x.nm, .string x.cl])) := ho7; have HG7 : Hid ((w3.alloc (.cells #[.string x.nm, .string x.cl] 27)).grownBy w7 (.slice va q vc : Value).ownBlock) := hg7; clear ho7 hg7)
              go_roundg (m - (i + 1))
              case measure => have := HI.out; have := HIL.out; omega
              case rel =>
                refine ⟨i + 1, by push_cast; rfl, ⟨HIL.out, rfl⟩, ?_, (HBW3.out.alloc HSZ3.out _).grown HG7.out (by have := HSZ3.out; simp; omega) (fun rr e => (HOQ3.out.lt rr e).1)⟩
                show World.ownsRow _ _ _ _ _ _ _
                rw [HOE.out, List.length_append, flat_app, HQ.out.1, HYS.out]
                exact HO7.out
      · have e1 : decide ((i : Int) < (m : Int)) = false := by rw [decide_eq_false_iff_not]; omega
        have e2 : decide (i < m) = false := by rw [decide_eq_false_iff_not]; exact hi
        obtain ⟨O, hO⟩ : ∃ O, onc (L.take i) = O := ⟨_, rfl⟩
        have HON : Hid (Onc O L) := by have h9 := onc_is (L.take i); rw [hO, List.take_of_length_le (by rw [HN.out.2.2.1]; omega)] at h9; exact h9
        rw [hO] at HO
        rw [hO]
        obtain ⟨q, hq⟩ : ∃ q, O.length = q := ⟨_, rfl⟩
        have HQ : Hid (O.length = q ∧ q ≤ m) := ⟨hq, by have h1 := HON.out.len; rw [hq, HN.out.2.2.1] at h1; exact h1⟩
        rw [hq]
        have HPO : Hid (Pl w0 (.slice va q vc) O) := by have h9 := HO.out; rw [hq] at h9; show Rw _ _ _ _; rw [hq]; exact row_rw h9 (by decide)
        have HZO : Hid (Zp O T) := HON.out.zp HZ.out
        have HXO : Hid (spn (lcl O) T = X) := by show _ = _; rw [spn_same HON.out.same]; exact HXP.out.1
        have HXR : Hid (spn (lcl O.reverse) T = X) := by show _ = _; rw [spn_same (lcl_rev HON.out.unq)]; exact HXO.out
        have HXT : Hid (spn (lcl (oth O)) T = X.map (rnm (cld O))) := by show _ = _; rw [HOT.out O, HXO.out]
        clear hi hO hq HO HB HSZ HI HB0 HV1
        have hwq : IntKind.i64.wrap ((q : Int) - 1) = (q : Int) - 1 := by have := HQ.out; have := HN.out; rw [IntKind.wrap_i64]; omega
        go_upto_region 19 with fail
        clear hwq e1 e2
        obtain ⟨N1, hN1⟩ : ∃ N1, w0.heap.size = N1 := ⟨_, rfl⟩
        have HN1 : Hid (w0.heap.size = N1) := hN1
        clear hN1
        go_loopg [9, 11] q (fun gm v9 v11 wr => ∃ (j : Nat) (R : List Pa), v11 = .int .i64 ((j : Int) - 1) ∧ Hid (j ≤ q ∧ gm = j) ∧ Hid (R = (O.drop j).reverse) ∧ Hid (wr.ownsRow N1 27 2 v9 R.length (flat paf R)) ∧ Hid (Below N1 w0 wr))
        case atStart => exact ⟨q, [], rfl, ⟨Nat.le_refl _, rfl⟩, by rw [List.drop_eq_nil_of_le (by rw [HQ.out.1]; exact Nat.le_refl _)]; rfl, ⟨rfl, .inl ⟨rfl, rfl⟩⟩, by rw [← HN1.out]; exact Below.refl _ _⟩
        case round =>
          obtain ⟨j, R, rfl, HJ, HR, HRO, HRB⟩ := hrel
          obtain ⟨w3, hw3⟩ : ∃ w3, w3 = wr := ⟨_, rfl⟩
          rw [← hw3] at HRO HRB ⊢
          clear hw3
          obtain ⟨ra, rc, e9⟩ := row_shape HRO.out
          subst e9
          have HSZ3 : Hid (N1 ≤ w3.heap.size) := by show _ ≤ _; have := HRB.out.size; have := HN1.out; omega
          have HPO3 : Hid (Pl w3 (.slice va q vc) O) := HPO.out.up (by rw [HN1.out]; exact HRB.out)
          obtain ⟨rl, hrl⟩ : ∃ rl, R.length = rl := ⟨_, rfl⟩
          have HRL : Hid (R.length = rl ∧ rl = q - j) := ⟨hrl, by rw [← hrl, HR.out, List.length_reverse, List.length_drop, HQ.out.1]⟩
          rw [hrl] at HRO
          rw [hrl]
          clear hrl
          cases j with
          | zero =>
            have d2 : decide ((0 : Int) ≤ ((0 : Nat) : Int) - 1) = false := by decide
            have HRR : Hid (R = O.reverse) := HR.out
            have HPR : Hid (Pl w3 (.slice ra rl rc) O.reverse) := by rw [← HRR.out]; show Rw _ _ _ _; rw [HRL.out.1]; exact row_rw HRO.out (by decide)
            have HBW3 : Hid (Below w.heap.size w w3) := below_trans HBW.out (by rw [HN1.out]; exact HRB.out)
            clear HR HRR HRO HRB HRL HSZ3 HJ HPO HBW
            go_upto_region 23 with fail
            clear d2 HN1
            obtain ⟨N2, hN2⟩ : ∃ N2, w3.heap.size = N2 := ⟨_, rfl⟩
            have HN2 : Hid (w3.heap.size = N2) := hN2
            clear hN2
            go_loopg [10, 12] q (fun gm v10 v12 wr => ∃ i : Nat, v12 = .int .i64 (i : Int) ∧ Hid (i ≤ q ∧ gm = q - i) ∧ Hid (wr.ownsRow N2 27 2 v10 i (flat paf ((oth O).take i))) ∧ Hid (Below N2 w3 wr))
            case atStart => exact ⟨0, rfl, ⟨Nat.zero_le _, rfl⟩, ⟨rfl, .inl ⟨rfl, rfl⟩⟩, by rw [← HN2.out]; exact Below.refl _ _⟩
            case round =>
              obtain ⟨i, rfl, HI, HCO, HCB⟩ := hrel
              obtain ⟨w4, hw4⟩ : ∃ w4, w4 = wr := ⟨_, rfl⟩
              rw [← hw4] at HCO HCB ⊢
              clear hw4
              obtain ⟨ca, cc, e9⟩ := row_shape HCO.out
              subst e9
              have HSZ4 : Hid (N2 ≤ w4.heap.size) := by show _ ≤ _; have := HCB.out.size; have := HN2.out; omega
              have HB34 : Hid (Below w3.heap.size w3 w4) := by rw [HN2.out]; exact HCB.out
              have HPO4 : Hid (Pl w4 (.slice va q vc) O) := HPO3.out.up HB34.out
              have HBW4 : Hid (Below w.heap.size w w4) := below_trans HBW3.out HB34.out
              by_cases hi : i < q
              · have e1 : decide ((i : Int) < (q : Int)) = true := by rw [decide_eq_true_eq]; omega
                have e2 : decide (i < q) = true := by rw [decide_eq_true_eq]; omega
                have b0 : (0 : Int) ≤ (i : Int) := by omega
                have b1 : (i : Int) < (q : Int) := by omega
                have b2 : i < q := hi
                have HIL : Hid (i < q) := hi
                have HWI : Hid (IntKind.i64.wrap ((i : Int) + 1) = (i : Int) + 1) := by have := HN.out; have := HQ.out; show _ = _; rw [IntKind.wrap_i64]; omega
                obtain ⟨g2, o2, eva, hc2⟩ := HPO4.out.two i (by rw [HQ.out.1]; exact hi)
                subst eva
                obtain ⟨y, hy⟩ : ∃ y, O.getD i paz = y := ⟨_, rfl⟩
                obtain ⟨k0, k1⟩ := hc2 w4 (Below.refl _ _)
                rw [hy] at k0 k1
                obtain ⟨d, hd⟩ : ∃ d, cld O y.cl = d := ⟨_, rfl⟩
                have HOT1 : Hid ((oth O).take (i + 1) = (oth O).take i ++ [⟨y.nm, d⟩]) := by show _ = _; rw [take_pa (oth O) i (by rw [oth_len, HQ.out.1]; exact hi), oth_get O i (by rw [HQ.out.1]; exact hi), hy, hd]
                obtain ⟨ys, hys⟩ : ∃ ys, flat paf ((oth O).take i) = ys := ⟨_, rfl⟩
                have HYS : Hid (flat paf ((oth O).take i) = ys) := hys
                rw [hys] at HCO
                have HD : Hid (cld O y.cl = d) := hd
                clear hi hc2 hy hd hys
                go_upto_region 26 with fail
                clear k0 k1 e1 e2
                obtain ⟨w5, hw5⟩ : ∃ w5, w5 = w4.alloc (.cells #[.string y.nm, .string y.cl] 27) := ⟨_, rfl⟩
                obtain ⟨xb, hxb⟩ : ∃ xb, w4.heap.size = xb := ⟨_, rfl⟩
                have HG5 : Hid (w5.heap[xb]? = some (.cells #[.string y.nm, .string y.cl] 27 (0, 0))) := by rw [hw5, ← hxb]; exact heap_new w4 _
                have HB45 : Hid (Below w4.heap.size w4 w5) := by rw [hw5]; exact bel_up _ _
                have HXB : Hid (w4.heap.size = xb) := hxb
                rw [← hw5]
                rw [hxb]
                clear hw5 hxb
                have k1 : w5.cell? ⟨xb, 1, none⟩ = some (.string y.cl) := rcell HG5.out 1 _ rfl
                have HCW : Hid _ := HCD.out O w5 (.slice (some ⟨g2, o2, none⟩) q vc) y.cl d HD.out (by have := HQ.out; have := HN.out; omega) (below_trans HBW4.out HB45.out) (HPO4.out.up HB45.out)
                go_upto_region 27 with (go_at_call 6; refine Calls.mono HCW.out ?_; rintro e w6 ⟨rfl, hb⟩; have HB56 : Hid (Below w5.heap.size w5 w6) := hb; have HG6 : Hid (w6.heap[xb]? = some (.cells #[.string y.nm, .string y.cl] 27 (0, 0))) := (hb.block xb (lt_of_heap HG5.out)).trans HG5.out; have fz6 : w6.frozen? ⟨xb, 1, none⟩ = false := Lib.frozen_of_heap HG6.out 1; have k16 : w6.cell? ⟨xb, 1, none⟩ = some (.string y.cl) := rcell HG6.out 1 _ rfl; clear hb)
                clear HCW k1 fz6 k16
                obtain ⟨w7, hw7⟩ : ∃ w7, w7 = w6.setCell ⟨xb, 1, none⟩ (.string d) := ⟨_, rfl⟩
                have HS7 : Hid (w6.grownBy w7 (some xb)) := by rw [hw7]; exact grown_set
                have HG7x : Hid (w7.heap[xb]? = some (.cells #[.string y.nm, .string d] 27 (0, 0))) := by rw [hw7]; exact blk_set (.string d) HG6.out
                have HO6 : Hid (w6.ownsRow N2 27 2 (.slice ca i cc) i ys) := row_up (row_up HCO.out HB45.out) HB56.out
                have HO7x : Hid (w7.ownsRow N2 27 2 (.slice ca i cc) i ys) := HO6.out.kept HS7.out (by
                  cases hv : (Value.slice ca i cc).ownBlock with
                  | none => exact .inl rfl
                  | some r => exact .inr (fun e => by
                      have h8 : r < w4.heap.size := (HCO.out.lt r hv).2
                      have h7 : r = xb := by injection e
                      have := HXB.out
                      omega))
                have HB46 : Hid (Below N2 w3 w6) := HCB.out.trans ((below_trans HB45.out HB56.out).mono HSZ4.out)
                have HSZ6 : Hid (N2 ≤ w6.heap.size) := by show _ ≤ _; have := HB46.out.size; have := HN2.out; omega
                have HB7 : Hid (Below N2 w3 w7) := HB46.out.grown HS7.out HSZ6.out (fun rr e => by cases e; have := HXB.out; have := HSZ4.out; omega)
                have HSZ7 : Hid (N2 ≤ w7.heap.size) := by show _ ≤ _; have := HB7.out.size; have := HN2.out; omega
                rw [← hw7]
                clear hw7 HG6 HO6 HS7 HB45 HB56 HB46 HCO HCB
                have k0 : w7.cell? ⟨xb, 0, none⟩ = some (.string y.nm) := rcell HG7x.out 0 _ rfl
                have k1 : w7.cell? ⟨xb, 1, none⟩ = some (.string d) := rcell HG7x.out 1 _ rfl
                have hwi := HWI.out
                have HMX : Hid (i + 1 ≤ maxLen ∧ (i + 1) * 32 ≤ 140737488355328) := by have h8 := HQ.out; have := HN.out; have := HIL.out; exact ⟨by unfold maxLen; omega, by omega⟩
                go_wp2_with (at_builtin; refine wpList_append_own_at _ rfl _ _ 22 rfl N2 27 iP _ 2 32 Tryd.underlying22 hiP hp0 hp1 hp2 rfl (by decide) (.slice ca i cc) i ys rfl (row_up HO7x.out (bel_up _ _)) ⟨w7.heap.size, 0, none⟩ 1 1 [.string y.nm, .string d] rfl rfl (World.news_of_block (heap_new _ _)) (fun u hu => paf_one ⟨y.nm, d⟩ u hu) HMX.out.1 HMX.out.2 (by have := HSZ7.out; simp; omega) ?_; intro v8 w8 ho8 hg8 _ _; have HO8 : Hid (w8.ownsRow N2 27 2 v8 (i + 1) (ys ++ [.string y.nm, .string d])) := ho8; have HG8 : Hid ((w7.alloc (.cells #[.string y.nm, .string d] 27)).grownBy w8 (.slice ca i cc : Value).ownBlock) := hg8; clear ho8 hg8)
                go_roundg (q - (i + 1))
                case measure => have := HI.out; have := HIL.out; omega
                case rel =>
                  refine ⟨i + 1, by push_cast; rfl, ⟨HIL.out, rfl⟩, ?_, (HB7.out.alloc HSZ7.out _).grown HG8.out (by have := HSZ7.out; simp; omega) (fun rr e => (HO7x.out.lt rr e).1)⟩
                  show World.ownsRow _ _ _ _ _ _ _
                  rw [HOT1.out, flat_app, HYS.out]
                  exact HO8.out
              · have e1 : decide ((i : Int) < (q : Int)) = false := by rw [decide_eq_false_iff_not]; omega
                have e2 : decide (i < q) = false := by rw [decide_eq_false_iff_not]; exact hi
                have hiq : i = q := by have := HI.out; omega
                have HPT4 : Hid (Pl w4 (.slice ca i cc) (oth O)) := by
                  have h9 := HCO.out
                  rw [List.take_of_length_le (by rw [oth_len, HQ.out.1]; omega)] at h9
                  have h8 : (oth O).length = i := by rw [oth_len, HQ.out.1, hiq]
                  show Rw _ _ _ _
                  rw [h8]
                  exact row_rw h9 (by decide)
                have HPR4 : Hid (Pl w4 (.slice ra rl rc) O.reverse) := HPR.out.up HB34.out
                have HXL : Hid (X.length < 4611686018427387904) := by show _ < _; rw [HXP.out.2]; have := HPZ.out; omega
                clear hi hiq HCO HCB HI HN2 HSZ4 HB34 HPO3 HPR HBW3
                go_upto_region 28 with fail
                clear e1 e2
                go_upto_region 29 with first | (go_at_call 8; refine Calls.mono (HLA.out w4 _ L HZ.out (HP.out.up HBW4.out)) ?_; rintro e a1 ⟨lv1, rfl, hlp, hlb⟩; have HLP1 : Hid (Pl a1 lv1 L) := hlp; have HA1 : Hid (Below w4.heap.size w4 a1) := hlb; clear hlp hlb) | (go_at_call 7; refine Calls.mono (HSN.out a1 lv1 L X HXP.out.1 HXP.out.2 HZ.out (below_trans HBW4.out HA1.out) HLP1.out) ?_; rintro e a2 ⟨sa, sc, rfl, hq, hb⟩; have HQS2 : Hid (Qs a2 (.slice sa p sc) X) := hq; have HA2 : Hid (Below w4.heap.size w4 a2) := below_trans HA1.out hb; clear hq hb)
                clear HLP1 HA1
                go_upto_region 31 with first | (have hx9 := HA5.out; clear hx9; go_at_call 8; refine Calls.mono (HLA.out a5 _ O.reverse (zp_rev HZO.out) (HPR4.out.up HA5.out)) ?_; rintro e a6 ⟨lv6, rfl, hlp, hlb⟩; have HLP6 : Hid (Pl a6 lv6 O.reverse) := hlp; have HA6 : Hid (Below w4.heap.size w4 a6) := below_trans HA5.out hlb; have HT6 : Hid (Below a5.heap.size a5 a6) := hlb; clear hlp hlb) | (have hx9 := HA6.out; clear hx9; go_at_call 7; refine Calls.mono (HSN.out a6 lv6 O.reverse X HXR.out HXP.out.2 (zp_rev HZO.out) (below_trans HBW4.out HA6.out) HLP6.out) ?_; rintro e a7 ⟨ra7, rc7, rfl, hq, hb⟩; have HQR7 : Hid (Qs a7 (.slice ra7 p rc7) X) := hq; have HA7 : Hid (Below w4.heap.size w4 a7) := below_trans HA6.out hb; have HQS7 : Hid (Qs a7 (.slice sa p sc) X) := HQS5.out.up (below_trans HT6.out hb); clear hq hb) | (have hx9 := HA7.out; clear hx9; go_at_call 9; refine Calls.mono (sameSpans_any HXL.out a7 HQR7.out HQS7.out) ?_; rintro e a8 ⟨rfl, hb⟩; have HA8 : Hid (Below w4.heap.size w4 a8) := below_trans HA7.out hb; have HQS8 : Hid (Qs a8 (.slice sa p sc) X) := HQS7.out.up hb; clear hb) | (go_at_call 8; refine Calls.mono (HLA.out a2 _ O HZO.out (HPO4.out.up HA2.out)) ?_; rintro e a3 ⟨lv3, rfl, hlp, hlb⟩; have HLP3 : Hid (Pl a3 lv3 O) := hlp; have HA3 : Hid (Below w4.heap.size w4 a3) := below_trans HA2.out hlb; have HQS3 : Hid (Qs a3 (.slice sa p sc) X) := HQS2.out.up hlb; clear hlp hlb) | (go_at_call 7; refine Calls.mono (HSN.out a3 lv3 O X HXO.out HXP.out.2 HZO.out (below_trans HBW4.out HA3.out) HLP3.out) ?_; rintro e a4 ⟨oa4, oc4, rfl, hq, hb⟩; have HQO4 : Hid (Qs a4 (.slice oa4 p oc4) X) := hq; have HA4 : Hid (Below w4.heap.size w4 a4) := below_trans HA3.out hb; have HQS4 : Hid (Qs a4 (.slice sa p sc) X) := HQS3.out.up hb; clear hq hb) | (go_at_call 9; refine Calls.mono (sameSpans_any HXL.out a4 HQO4.out HQS4.out) ?_; rintro e a5 ⟨rfl, hb⟩; have HA5 : Hid (Below w4.heap.size w4 a5) := below_trans HA4.out hb; have HQS5 : Hid (Qs a5 (.slice sa p sc) X) := HQS4.out.up hb; clear hb)
                have hpn : (X.map (rnm (cld O))).length = p := by rw [List.length_map]; exact HXP.out.2
                have HPN : Hid ((X.map (rnm (cld O))).length = p) := hpn
                clear hpn HA2 HA3 HA4 HA5 HA6 HA7 HQS2 HQS3 HQS4 HQS5 HQS7 HQO4 HQR7 HLP3 HLP6 HT6
                go_upto_region 32 with first | (go_at_call 8; refine Calls.mono (HLA.out a8 _ (oth O) (zp_oth HZO.out) (HPT4.out.up HA8.out)) ?_; rintro e a9 ⟨lv9, rfl, hlp, hlb⟩; have HLP9 : Hid (Pl a9 lv9 (oth O)) := hlp; have HA9 : Hid (Below w4.heap.size w4 a9) := below_trans HA8.out hlb; have HQS9 : Hid (Qs a9 (.slice sa p sc) X) := HQS8.out.up hlb; clear hlp hlb) | (go_at_call 7; refine Calls.mono (HSN.out a9 lv9 (oth O) (X.map (rnm (cld O))) HXT.out HPN.out (zp_oth HZO.out) (below_trans HBW4.out HA9.out) HLP9.out) ?_; rintro e b0 ⟨ua, uc, rfl, hq, hb⟩; have HQU : Hid (Qs b0 (.slice ua p uc) (X.map (rnm (cld O)))) := hq; have HAB : Hid (Below w4.heap.size w4 b0) := below_trans HA9.out hb; have HQS : Hid (Qs b0 (.slice sa p sc) X) := HQS9.out.up hb; clear hq hb)
                clear HA8 HA9 HQS8 HQS9 HLP9 HPR4 HPT4
                have HBWB : Hid (Below w.heap.size w b0) := below_trans HBW4.out HAB.out
                have HPOB : Hid (Pl b0 (.slice va q vc) O) := HPO4.out.up HAB.out
                have n1 : ((p : Int) != (p : Int)) = false := by simp
                go_upto_region 35 with fail
                clear n1
                go_loopg [16] p (fun gm v16 wr => ∃ i : Nat, v16 = .int .i64 (i : Int) ∧ Hid (i ≤ p ∧ gm = p - i) ∧ Hid (Below b0.heap.size b0 wr))
                case atStart => exact ⟨0, rfl, ⟨Nat.zero_le _, rfl⟩, Below.refl _ _⟩
                case round =>
                  obtain ⟨s, rfl, HI, HB⟩ := hrel
                  obtain ⟨w8, hw8⟩ : ∃ w8, w8 = wr := ⟨_, rfl⟩
                  rw [← hw8] at HB ⊢
                  clear hw8
                  by_cases hs : s < p
                  · have e1 : decide ((s : Int) < (p : Int)) = true := by rw [decide_eq_true_eq]; omega
                    have e2 : decide (s < p) = true := by rw [decide_eq_true_eq]; omega
                    have b0' : (0 : Int) ≤ (s : Int) := by omega
                    have b1 : (s : Int) < (p : Int) := by omega
                    have b2 : s < p := hs
                    have HSL : Hid (s < p) := hs
                    have HWI : Hid (IntKind.i64.wrap ((s : Int) + 1) = (s : Int) + 1) := by have := HPZ.out; show _ = _; rw [IntKind.wrap_i64]; omega
                    obtain ⟨g3, o3, esa, hc3⟩ := HQS.out.three s (by rw [HXP.out.2]; exact hs)
                    subst esa
                    obtain ⟨g4, o4, eua, hc4⟩ := HQU.out.three s (by rw [HPN.out]; exact hs)
                    subst eua
                    have hgt : (X.map (rnm (cld O))).getD s snz = rnm (cld O) (X.getD s snz) := by
                      rw [List.getD_eq_getElem?_getD, List.getD_eq_getElem?_getD, List.getElem?_map, List.getElem?_eq_getElem (by rw [HXP.out.2]; exact hs)]; rfl
                    rw [hgt] at hc4
                    obtain ⟨x, hx⟩ : ∃ x, X.getD s snz = x := ⟨_, rfl⟩
                    rw [hx] at hc3 hc4
                    obtain ⟨d, hd⟩ : ∃ d, cld O x.cl = d := ⟨_, rfl⟩
                    have HSW : Hid (∀ W, Below w8.heap.size w8 W → W.cell? ⟨g3, o3 + s * 3, none⟩ = some (.int .i64 x.fr) ∧ W.cell? ⟨g3, o3 + s * 3 + 1, none⟩ = some (.int .i64 x.tt) ∧ W.cell? ⟨g3, o3 + s * 3 + 2, none⟩ = some (.string x.cl)) := fun W hW => hc3 W (below_trans HB.out hW)
                    have HUW : Hid (∀ W, Below w8.heap.size w8 W → W.cell? ⟨g4, o4 + s * 3, none⟩ = some (.int .i64 x.fr) ∧ W.cell? ⟨g4, o4 + s * 3 + 1, none⟩ = some (.int .i64 x.tt) ∧ W.cell? ⟨g4, o4 + s * 3 + 2, none⟩ = some (.string d)) := fun W hW => by rw [← hd]; exact hc4 W (below_trans HB.out hW)
                    have HCW : Hid (∀ W, Below w8.heap.size w8 W → Calls Tryd.prog 6 #[.slice va q vc, .string x.cl] W fun e w' => e = .returned (.string d) ∧ Below W.heap.size W w') := fun W hW => HCD.out O W (.slice va q vc) x.cl d hd (by have := HQ.out; have := HN.out; omega) (below_trans HBWB.out (below_trans HB.out hW)) (HPOB.out.up (below_trans HB.out hW))
                    clear hs hc3 hc4 hgt hx hd
                    go_upto_region 37 with fail
                    refine wp_region_noPanic ?_
                    refine wp_region_held_drew (S := fun W => Below w8.heap.size w8 W) (by kernel_rfl) (Below.drew (Below.refl _ _)) (fun hHeld => ?_)
                    refine wpAnyH_take (i := 0) (oi := { dst := _, op := _, type := _, pos := _, after := _, guard := _ }) (v := ?_) rfl (by kernel_rfl) (by kernel_rfl) (by kernel_rfl) (fun _ _ _ h => h) (Or.inl ⟨by rfl, ?_⟩) (by assumption) ?_
                    rotate_left
                    · intro W hSw
                      (try dsimp only at hSw)
                      go_simp
                      (try with_reducible rfl)
                    try simp only [Act.put, List.setIfInBounds_toArray, List.set_cons_zero, List.set_cons_succ]
                    refine wpAnyH_take (i := 1) (oi := { dst := _, op := _, type := _, pos := _, after := _, guard := _ }) (v := ?_) rfl (by kernel_rfl) (by kernel_rfl) (by kernel_rfl) (fun _ _ _ h => h) (Or.inl ⟨by rfl, ?_⟩) (by assumption) ?_
                    rotate_left
                    · intro W hSw
                      (try dsimp only at hSw)
                      go_simp
                      (try with_reducible rfl)
                    try simp only [Act.put, List.setIfInBounds_toArray, List.set_cons_zero, List.set_cons_succ]
                    refine wpAnyH_take (i := 2) (oi := { dst := _, op := _, type := _, pos := _, after := _, guard := _ }) (v := ?_) rfl (by kernel_rfl) (by kernel_rfl) (by kernel_rfl) (fun _ _ _ h => h) (Or.inl ⟨by rfl, ?_⟩) (by assumption) ?_
                    rotate_left
                    · intro W hSw
                      (try dsimp only at hSw)
                      go_simp
                      (try with_reducible rfl)
                    try simp only [Act.put, List.setIfInBounds_toArray, List.set_cons_zero, List.set_cons_succ]
                    refine wpAnyH_take (i := 3) (oi := { dst := _, op := _, type := _, pos := _, after := _, guard := _ }) (v := ?_) rfl (by kernel_rfl) (by kernel_rfl) (by kernel_rfl) (fun _ _ _ h => h) (Or.inl ⟨by rfl, ?_⟩) (by assumption) ?_
                    rotate_left
                    · intro W hSw
                      (try dsimp only at hSw)
                      go_simp
                      (try with_reducible rfl)
                    try simp only [Act.put, List.setIfInBounds_toArray, List.set_cons_zero, List.set_cons_succ]
                    refine wpAnyH_take (i := 4) (oi := { dst := _, op := _, type := _, pos := _, after := _, guard := _ }) (v := ?_) rfl (by kernel_rfl) (by kernel_rfl) (by kernel_rfl) (fun _ _ _ h => h) (Or.inl ⟨by rfl, ?_⟩) (by assumption) ?_
                    rotate_left
                    · intro W hSw
                      (try dsimp only at hSw)
                      obtain ⟨s0, s1, s2⟩ := HUW.out W hSw
                      go_simp
                      (try with_reducible rfl)
                    try simp only [Act.put, List.setIfInBounds_toArray, List.set_cons_zero, List.set_cons_succ]
                    refine wpAnyH_take (i := 5) (oi := { dst := _, op := _, type := _, pos := _, after := _, guard := _ }) (v := ?_) rfl (by kernel_rfl) (by kernel_rfl) (by kernel_rfl) (fun _ _ _ h => h) (Or.inl ⟨by rfl, ?_⟩) (by assumption) ?_
                    rotate_left
                    · intro W hSw
                      (try dsimp only at hSw)
                      go_simp
                      (try with_reducible rfl)
                    try simp only [Act.put, List.setIfInBounds_toArray, List.set_cons_zero, List.set_cons_succ]
                    refine wpAnyH_take (i := 6) (oi := { dst := _, op := _, type := _, pos := _, after := _, guard := _ }) (v := ?_) rfl (by kernel_rfl) (by kernel_rfl) (by kernel_rfl) (fun _ _ _ h => h) (Or.inl ⟨by rfl, ?_⟩) (by assumption) ?_
                    rotate_left
                    · intro W hSw
                      (try dsimp only at hSw)
                      go_simp
                      (try with_reducible rfl)
                    try simp only [Act.put, List.setIfInBounds_toArray, List.set_cons_zero, List.set_cons_succ]
                    refine wpAnyH_take (i := 7) (oi := { dst := _, op := _, type := _, pos := _, after := _, guard := _ }) (v := ?_) rfl (by kernel_rfl) (by kernel_rfl) (by kernel_rfl) (fun _ _ _ h => h) (Or.inl ⟨by rfl, ?_⟩) (by assumption) ?_
                    rotate_left
                    · intro W hSw
                      (try dsimp only at hSw)
                      go_simp
                      (try with_reducible rfl)
                    try simp only [Act.put, List.setIfInBounds_toArray, List.set_cons_zero, List.set_cons_succ]
                    refine wpAnyH_take (i := 8) (oi := { dst := _, op := _, type := _, pos := _, after := _, guard := _ }) (v := ?_) rfl (by kernel_rfl) (by kernel_rfl) (by kernel_rfl) (fun _ _ _ h => h) (Or.inl ⟨by rfl, ?_⟩) (by assumption) ?_
                    rotate_left
                    · intro W hSw
                      (try dsimp only at hSw)
                      go_simp
                      (try with_reducible rfl)
                    try simp only [Act.put, List.setIfInBounds_toArray, List.set_cons_zero, List.set_cons_succ]
                    refine wpAnyH_take (i := 9) (oi := { dst := _, op := _, type := _, pos := _, after := _, guard := _ }) (v := ?_) rfl (by kernel_rfl) (by kernel_rfl) (by kernel_rfl) (fun _ _ _ h => h) (Or.inl ⟨by rfl, ?_⟩) (by assumption) ?_
                    rotate_left
                    · intro W hSw
                      (try dsimp only at hSw)
                      obtain ⟨s0, s1, s2⟩ := HSW.out W hSw
                      go_simp
                      (try with_reducible rfl)
                    try simp only [Act.put, List.setIfInBounds_toArray, List.set_cons_zero, List.set_cons_succ]
                    refine wpAnyH_take (i := 10) (oi := { dst := _, op := _, type := _, pos := _, after := _, guard := _ }) (v := ?_) rfl (by kernel_rfl) (by kernel_rfl) (by kernel_rfl) (fun _ _ _ h => h) (Or.inl ⟨by rfl, ?_⟩) (by assumption) ?_
                    rotate_left
                    · intro W hSw
                      (try dsimp only at hSw)
                      go_simp
                      (try with_reducible rfl)
                    try simp only [Act.put, List.setIfInBounds_toArray, List.set_cons_zero, List.set_cons_succ]
                    refine wpAnyH_take (i := 11) (oi := { dst := _, op := _, type := _, pos := _, after := _, guard := _ }) (v := ?_) rfl (by kernel_rfl) (by kernel_rfl) (by kernel_rfl) (fun _ _ _ h => h) (Or.inl ⟨by rfl, ?_⟩) (by assumption) ?_
                    rotate_left
                    · intro W hSw
                      (try dsimp only at hSw)
                      go_simp
                      (try with_reducible rfl)
                    try simp only [Act.put, List.setIfInBounds_toArray, List.set_cons_zero, List.set_cons_succ]
                    refine wpAnyH_take (i := 12) (oi := { dst := _, op := _, type := _, pos := _, after := _, guard := _ }) (v := ?_) rfl (by kernel_rfl) (by kernel_rfl) (by kernel_rfl) (fun _ _ _ h => h) (Or.inl ⟨by rfl, ?_⟩) (by assumption) ?_
                    rotate_left
                    · intro W hSw
                      (try dsimp only at hSw)
                      go_simp
                      (try with_reducible rfl)
                    try simp only [Act.put, List.setIfInBounds_toArray, List.set_cons_zero, List.set_cons_succ]
                    refine wpAnyH_take (i := 13) (oi := { dst := _, op := _, type := _, pos := _, after := _, guard := _ }) (v := ?_) rfl (by kernel_rfl) (by kernel_rfl) (by kernel_rfl) (fun _ _ _ h => h) (Or.inl ⟨by rfl, ?_⟩) (by assumption) ?_
                    rotate_left
                    · intro W hSw
                      (try dsimp only at hSw)
                      go_simp
                      (try with_reducible rfl)
                    try simp only [Act.put, List.setIfInBounds_toArray, List.set_cons_zero, List.set_cons_succ]
                    refine wpAnyH_take (i := 14) (oi := { dst := _, op := _, type := _, pos := _, after := _, guard := _ }) (v := ?_) rfl (by kernel_rfl) (by kernel_rfl) (by kernel_rfl) (fun _ _ _ h => h) (Or.inl ⟨by rfl, ?_⟩) (by assumption) ?_
                    rotate_left
                    · intro W hSw
                      (try dsimp only at hSw)
                      go_simp
                      (try with_reducible rfl)
                    try simp only [Act.put, List.setIfInBounds_toArray, List.set_cons_zero, List.set_cons_succ]
                    refine wpAnyH_take (i := 15) (oi := { dst := _, op := _, type := _, pos := _, after := _, guard := _ }) (v := ?_) rfl (by kernel_rfl) (by kernel_rfl) (by kernel_rfl) (fun _ _ _ h => h) (Or.inl ⟨by rfl, ?_⟩) (by assumption) ?_
                    rotate_left
                    · intro W hSw
                      (try dsimp only at hSw)
                      go_simp
                      (try with_reducible rfl)
                    try simp only [Act.put, List.setIfInBounds_toArray, List.set_cons_zero, List.set_cons_succ]
                    refine wpAnyH_take (i := 16) (oi := { dst := _, op := _, type := _, pos := _, after := _, guard := _ }) (v := ?_) rfl (by kernel_rfl) (by kernel_rfl) (by kernel_rfl) (fun _ _ _ h => h) (Or.inl ⟨by rfl, ?_⟩) (by assumption) ?_
                    rotate_left
                    · intro W hSw
                      (try dsimp only at hSw)
                      obtain ⟨s0, s1, s2⟩ := HUW.out W hSw
                      go_simp
                      (try with_reducible rfl)
                    try simp only [Act.put, List.setIfInBounds_toArray, List.set_cons_zero, List.set_cons_succ]
                    refine wpAnyH_take (i := 17) (oi := { dst := _, op := _, type := _, pos := _, after := _, guard := _ }) (v := ?_) rfl (by kernel_rfl) (by kernel_rfl) (by kernel_rfl) (fun _ _ _ h => h) (Or.inl ⟨by rfl, ?_⟩) (by assumption) ?_
                    rotate_left
                    · intro W hSw
                      (try dsimp only at hSw)
                      go_simp
                      (try with_reducible rfl)
                    try simp only [Act.put, List.setIfInBounds_toArray, List.set_cons_zero, List.set_cons_succ]
                    refine wpAnyH_take (i := 18) (oi := { dst := _, op := _, type := _, pos := _, after := _, guard := _ }) (v := ?_) rfl (by kernel_rfl) (by kernel_rfl) (by kernel_rfl) (fun _ _ _ h => h) (Or.inl ⟨by rfl, ?_⟩) (by assumption) ?_
                    rotate_left
                    · intro W hSw
                      (try dsimp only at hSw)
                      go_simp
                      (try with_reducible rfl)
                    try simp only [Act.put, List.setIfInBounds_toArray, List.set_cons_zero, List.set_cons_succ]
                    refine wpAnyH_take (i := 19) (oi := { dst := _, op := _, type := _, pos := _, after := _, guard := _ }) (v := ?_) rfl (by kernel_rfl) (by kernel_rfl) (by kernel_rfl) (fun _ _ _ h => h) (Or.inl ⟨by rfl, ?_⟩) (by assumption) ?_
                    rotate_left
                    · intro W hSw
                      (try dsimp only at hSw)
                      go_simp
                      (try with_reducible rfl)
                    try simp only [Act.put, List.setIfInBounds_toArray, List.set_cons_zero, List.set_cons_succ]
                    refine wpAnyH_take (i := 20) (oi := { dst := _, op := _, type := _, pos := _, after := _, guard := _ }) (v := ?_) rfl (by kernel_rfl) (by kernel_rfl) (by kernel_rfl) (fun _ _ _ h => h) (Or.inl ⟨by rfl, ?_⟩) (by assumption) ?_
                    rotate_left
                    · intro W hSw
                      (try dsimp only at hSw)
                      go_simp
                      (try with_reducible rfl)
                    try simp only [Act.put, List.setIfInBounds_toArray, List.set_cons_zero, List.set_cons_succ]
                    refine wpAnyH_take (i := 21) (oi := { dst := _, op := _, type := _, pos := _, after := _, guard := _ }) (v := ?_) rfl (by kernel_rfl) (by kernel_rfl) (by kernel_rfl) (fun _ _ _ h => h) (Or.inl ⟨by rfl, ?_⟩) (by assumption) ?_
                    rotate_left
                    · intro W hSw
                      (try dsimp only at hSw)
                      obtain ⟨s0, s1, s2⟩ := HSW.out W hSw
                      go_simp
                      (try with_reducible rfl)
                    try simp only [Act.put, List.setIfInBounds_toArray, List.set_cons_zero, List.set_cons_succ]
                    refine wpAnyH_take (i := 22) (oi := { dst := _, op := _, type := _, pos := _, after := _, guard := _ }) (v := ?_) rfl (by kernel_rfl) (by kernel_rfl) (by kernel_rfl) (fun _ _ _ h => h) (Or.inl ⟨by rfl, ?_⟩) (by assumption) ?_
                    rotate_left
                    · intro W hSw
                      (try dsimp only at hSw)
                      go_simp
                      (try with_reducible rfl)
                    try simp only [Act.put, List.setIfInBounds_toArray, List.set_cons_zero, List.set_cons_succ]
                    refine wpAnyH_take (i := 23) (oi := { dst := _, op := _, type := _, pos := _, after := _, guard := _ }) (v := ?_) rfl (by kernel_rfl) (by kernel_rfl) (by kernel_rfl) (fun _ _ _ h => h) (Or.inl ⟨by rfl, ?_⟩) (by assumption) ?_
                    rotate_left
                    · intro W hSw
                      (try dsimp only at hSw)
                      go_simp
                      (try with_reducible rfl)
                    try simp only [Act.put, List.setIfInBounds_toArray, List.set_cons_zero, List.set_cons_succ]
                    refine wpAnyH_take (i := 24) (oi := { dst := _, op := _, type := _, pos := _, after := _, guard := _ }) (v := ?_) rfl (by kernel_rfl) (by kernel_rfl) (by kernel_rfl) (fun _ _ _ h => h) (Or.inl ⟨by rfl, ?_⟩) (by assumption) ?_
                    rotate_left
                    · intro W hSw
                      (try dsimp only at hSw)
                      go_simp
                      (try with_reducible rfl)
                    try simp only [Act.put, List.setIfInBounds_toArray, List.set_cons_zero, List.set_cons_succ]
                    refine wpAnyH_take (i := 25) (oi := { dst := _, op := _, type := _, pos := _, after := _, guard := _ }) (v := ?_) rfl (by kernel_rfl) (by kernel_rfl) (by kernel_rfl) (fun _ _ _ h => h) (Or.inl ⟨by rfl, ?_⟩) (by assumption) ?_
                    rotate_left
                    · intro W hSw
                      (try dsimp only at hSw)
                      go_simp
                      (try with_reducible rfl)
                    try simp only [Act.put, List.setIfInBounds_toArray, List.set_cons_zero, List.set_cons_succ]
                    refine wpAnyH_take (i := 26) (oi := { dst := _, op := _, type := _, pos := _, after := _, guard := _ }) (v := ?_) rfl (by kernel_rfl) (by kernel_rfl) (by kernel_rfl) (fun _ _ _ h => h) (Or.inl ⟨by rfl, ?_⟩) (by assumption) ?_
                    rotate_left
                    · intro W hSw
                      (try dsimp only at hSw)
                      go_simp
                      (try with_reducible rfl)
                    try simp only [Act.put, List.setIfInBounds_toArray, List.set_cons_zero, List.set_cons_succ]
                    refine wpAnyH_take (i := 27) (oi := { dst := _, op := _, type := _, pos := _, after := _, guard := _ }) (v := ?_) rfl (by kernel_rfl) (by kernel_rfl) (by kernel_rfl) (fun _ _ _ h => h) (Or.inl ⟨by rfl, ?_⟩) (by assumption) ?_
                    rotate_left
                    · intro W hSw
                      (try dsimp only at hSw)
                      go_simp
                      (try with_reducible rfl)
                    try simp only [Act.put, List.setIfInBounds_toArray, List.set_cons_zero, List.set_cons_succ]
                    refine wpAnyH_take (i := 28) (oi := { dst := _, op := _, type := _, pos := _, after := _, guard := _ }) (v := ?_) rfl (by kernel_rfl) (by kernel_rfl) (by kernel_rfl) (fun _ _ _ h => h) (Or.inl ⟨by rfl, ?_⟩) (by assumption) ?_
                    rotate_left
                    · intro W hSw
                      (try dsimp only at hSw)
                      go_simp
                      (try with_reducible rfl)
                    try simp only [Act.put, List.setIfInBounds_toArray, List.set_cons_zero, List.set_cons_succ]
                    refine wpAnyH_take (i := 29) (oi := { dst := _, op := _, type := _, pos := _, after := _, guard := _ }) (v := ?_) rfl (by kernel_rfl) (by kernel_rfl) (by kernel_rfl) (fun _ _ _ h => h) (Or.inl ⟨by rfl, ?_⟩) (by assumption) ?_
                    rotate_left
                    · intro W hSw
                      (try dsimp only at hSw)
                      obtain ⟨s0, s1, s2⟩ := HUW.out W hSw
                      go_simp
                      (try with_reducible rfl)
                    try simp only [Act.put, List.setIfInBounds_toArray, List.set_cons_zero, List.set_cons_succ]
                    refine wpAnyH_take (i := 30) (oi := { dst := _, op := _, type := _, pos := _, after := _, guard := _ }) (v := ?_) rfl (by kernel_rfl) (by kernel_rfl) (by kernel_rfl) (fun _ _ _ h => h) (Or.inl ⟨by rfl, ?_⟩) (by assumption) ?_
                    rotate_left
                    · intro W hSw
                      (try dsimp only at hSw)
                      go_simp
                      (try with_reducible rfl)
                    try simp only [Act.put, List.setIfInBounds_toArray, List.set_cons_zero, List.set_cons_succ]
                    refine wpAnyH_take (i := 31) (oi := { dst := _, op := _, type := _, pos := _, after := _, guard := _ }) (v := ?_) rfl (by kernel_rfl) (by kernel_rfl) (by kernel_rfl) (fun _ _ _ h => h) (Or.inl ⟨by rfl, ?_⟩) (by assumption) ?_
                    rotate_left
                    · intro W hSw
                      (try dsimp only at hSw)
                      go_simp
                      (try with_reducible rfl)
                    try simp only [Act.put, List.setIfInBounds_toArray, List.set_cons_zero, List.set_cons_succ]
                    refine wpAnyH_take (i := 32) (oi := { dst := _, op := _, type := _, pos := _, after := _, guard := _ }) (v := ?_) rfl (by kernel_rfl) (by kernel_rfl) (by kernel_rfl) (fun _ _ _ h => h) (Or.inl ⟨by rfl, ?_⟩) (by assumption) ?_
                    rotate_left
                    · intro W hSw
                      (try dsimp only at hSw)
                      go_simp
                      (try with_reducible rfl)
                    try simp only [Act.put, List.setIfInBounds_toArray, List.set_cons_zero, List.set_cons_succ]
                    refine wpAnyH_take (i := 33) (oi := { dst := _, op := _, type := _, pos := _, after := _, guard := _ }) (v := ?_) rfl (by kernel_rfl) (by kernel_rfl) (by kernel_rfl) (fun _ _ _ h => h) (Or.inl ⟨by rfl, ?_⟩) (by assumption) ?_
                    rotate_left
                    · intro W hSw
                      (try dsimp only at hSw)
                      go_simp
                      (try with_reducible rfl)
                    try simp only [Act.put, List.setIfInBounds_toArray, List.set_cons_zero, List.set_cons_succ]
                    refine wpAnyH_take (i := 34) (oi := { dst := _, op := _, type := _, pos := _, after := _, guard := _ }) (v := ?_) rfl (by kernel_rfl) (by kernel_rfl) (by kernel_rfl) (fun _ _ _ h => h) (Or.inl ⟨by rfl, ?_⟩) (by assumption) ?_
                    rotate_left
                    · intro W hSw
                      (try dsimp only at hSw)
                      go_simp
                      (try with_reducible rfl)
                    try simp only [Act.put, List.setIfInBounds_toArray, List.set_cons_zero, List.set_cons_succ]
                    refine wpAnyH_take (i := 35) (oi := { dst := _, op := _, type := _, pos := _, after := _, guard := _ }) (v := ?_) rfl (by kernel_rfl) (by kernel_rfl) (by kernel_rfl) (fun _ _ _ h => h) (Or.inl ⟨by rfl, ?_⟩) (by assumption) ?_
                    rotate_left
                    · intro W hSw
                      (try dsimp only at hSw)
                      obtain ⟨s0, s1, s2⟩ := HSW.out W hSw
                      go_simp
                      (try with_reducible rfl)
                    try simp only [Act.put, List.setIfInBounds_toArray, List.set_cons_zero, List.set_cons_succ]
                    refine wpAnyH_ready (rs := [36]) (by kernel_rfl) (by simp) ?_
                    refine AllReadyH.cons (o := { dst := _, op := _, type := _, pos := _, after := _, guard := _ }) rfl (fun K hK => ?_) AllReadyH.nil
                    go_simp
                    refine Calls.mono (HCW.out _ (Below.drew (Below.refl _ _))) ?_
                    rintro e w9 ⟨rfl, hb⟩
                    have HB9 : Hid (Below w8.heap.size w8 w9) := below_trans (Below.drew (Below.refl _ _)) hb
                    clear hb
                    go_wp2_with fail
                    refine hK.out _ _ ?_ (fun hHeld => ?_)
                    · first | exact trivial | (exact HB9.out)
                    clear hK K
                    try simp only [Act.put, List.setIfInBounds_toArray, List.set_cons_zero, List.set_cons_succ]
                    refine wpAnyH_take (i := 37) (oi := { dst := _, op := _, type := _, pos := _, after := _, guard := _ }) (v := ?_) rfl (by kernel_rfl) (by kernel_rfl) (by kernel_rfl) (fun _ _ _ h => h) (Or.inl ⟨by rfl, ?_⟩) (by assumption) ?_
                    rotate_left
                    · intro W hSw
                      (try dsimp only at hSw)
                      go_simp
                      (try with_reducible rfl)
                    try simp only [Act.put, List.setIfInBounds_toArray, List.set_cons_zero, List.set_cons_succ]
                    refine wpAnyH_take (i := 38) (oi := { dst := _, op := _, type := _, pos := _, after := _, guard := _ }) (v := ?_) rfl (by kernel_rfl) (by kernel_rfl) (by kernel_rfl) (fun _ _ _ h => h) (Or.inl ⟨by rfl, ?_⟩) (by assumption) ?_
                    rotate_left
                    · intro W hSw
                      (try dsimp only at hSw)
                      go_simp
                      (try with_reducible rfl)
                    try simp only [Act.put, List.setIfInBounds_toArray, List.set_cons_zero, List.set_cons_succ]
                    refine wpAnyH_done (by kernel_rfl) ?_ _
                    refine NoPanic.normal ?_
                    clear hHeld
                    have hwi := HWI.out
                    go_wp2_with fail
                    go_roundg (p - (s + 1))
                    case measure => have := HI.out; have := HSL.out; omega
                    case rel => exact ⟨s + 1, by push_cast; rfl, ⟨HSL.out, rfl⟩, below_trans HB.out HB9.out⟩
                  · have e1 : decide ((s : Int) < (p : Int)) = false := by rw [decide_eq_false_iff_not]; omega
                    have e2 : decide (s < p) = false := by rw [decide_eq_false_iff_not]; exact hs
                    clear hs
                    go_wp2_with fail
                    go_ret
                    exact ⟨rfl, below_trans HBWB.out HB.out⟩
          | succ j =>
            have hjq : j < q := by have := HJ.out; omega
            have HJQ : Hid (j < q) := hjq
            have ej : (((j + 1 : Nat) : Int) - 1) = (j : Int) := by omega
            rw [ej]
            have d2 : decide ((0 : Int) ≤ (j : Int)) = true := by rw [decide_eq_true_eq]; omega
            have d3 : (0 : Int) ≤ (j : Int) := by omega
            have d4 : (j : Int) < (q : Int) := by omega
            have d5 : j < q := hjq
            have hwj : IntKind.i64.wrap ((j : Int) - 1) = (j : Int) - 1 := by have := HQ.out; have := HN.out; rw [IntKind.wrap_i64]; omega
            obtain ⟨g2, o2, eva, hc2⟩ := HPO3.out.two j (by rw [HQ.out.1]; exact hjq)
            subst eva
            obtain ⟨y, hy⟩ : ∃ y, O.getD j paz = y := ⟨_, rfl⟩
            obtain ⟨k0, k1⟩ := hc2 w3 (Below.refl _ _)
            rw [hy] at k0 k1
            have HRY : Hid (R ++ [y] = (O.drop j).reverse) := by show _ = _; rw [rev_drop O j (by rw [HQ.out.1]; exact hjq), hy, HR.out]
            obtain ⟨ys, hys⟩ : ∃ ys, flat paf R = ys := ⟨_, rfl⟩
            have HYS : Hid (flat paf R = ys) := hys
            rw [hys] at HRO
            have HMX : Hid (rl + 1 ≤ maxLen ∧ (rl + 1) * 32 ≤ 140737488355328) := by have h8 := HQ.out; have := HN.out; have := HRL.out; have := HJQ.out; exact ⟨by unfold maxLen; omega, by omega⟩
            clear hjq ej hc2 hy hys
            go_wp2_with (at_builtin; refine wpList_append_own_at _ rfl _ _ 22 rfl N1 27 iP _ 2 32 Tryd.underlying22 hiP hp0 hp1 hp2 rfl (by decide) (.slice ra rl rc) rl ys rfl (row_up HRO.out (bel_up _ _)) ⟨w3.heap.size, 0, none⟩ 1 1 [.string y.nm, .string y.cl] rfl rfl (World.news_of_block (heap_new _ _)) (fun u hu => paf_one y u hu) HMX.out.1 HMX.out.2 (by have := HSZ3.out; simp; omega) ?_; intro v7 w7 ho7 hg7 _ _; have HO7 : Hid (w7.ownsRow N1 27 2 v7 (rl + 1) (ys ++ [.string y.nm, .string y.cl])) := ho7; have HG7 : Hid ((w3.alloc (.cells #[.string y.nm, .string y.cl] 27)).grownBy w7 (.slice ra rl rc : Value).ownBlock) := hg7; clear ho7 hg7)
            go_roundg j
            case measure => have := HJ.out; omega
            case rel =>
              refine ⟨j, R ++ [y], rfl, ⟨Nat.le_of_lt HJQ.out, rfl⟩, HRY.out, ?_, (HRB.out.alloc HSZ3.out _).grown HG7.out (by have := HSZ3.out; simp; omega) (fun rr e => (HRO.out.lt rr e).1)⟩
              show World.ownsRow _ _ _ _ _ _ _
              rw [List.length_append, flat_app, HRL.out.1, HYS.out]
              exact HO7.out
end Go.Proofs.YtbkhhegmmkcbbaaDoor
