import Derived.Test.YtcmhbcfgikmblabGreatDoorQyg
import Derived.Test.YtcmhbcfgikmblabGreatDoorQsb
namespace Go.Proofs.YtcmhbcfgikmblabGreatDoor.Qy
open Go.RowKit Go.Maps

/-- Places that have been found. -/
def Fv (P : List Pn) (T : List Tr.Nd) (F : List Int) : Prop := F.length = P.length ∧ ∀ i, i < P.length → ∃ v : Nat, F.getD i 0 = (v : Int) ∧ v < T.length
theorem all_cs (l : List Cd) (g : Cd → Bool) (i : Nat) (hi : i < l.length) (h1 : (l.take i).all g = true) (h2 : g (l.getD i cz) = true) : (l.take (i + 1)).all g = true := by
  rw [List.take_add_one, List.all_append, h1]
  rw [List.getD_eq_getElem?_getD, List.getElem?_eq_getElem hi] at h2
  rw [List.getElem?_eq_getElem hi]
  simpa using h2
theorem not_cs (l : List Cd) (g : Cd → Bool) (i : Nat) (hi : i < l.length) (h2 : g (l.getD i cz) = false) : l.all g = false := by
  rw [← Bool.not_eq_true, List.all_eq_true]
  intro h3
  have := h3 (l.getD i cz) (by rw [List.getD_eq_getElem?_getD, List.getElem?_eq_getElem hi]; exact List.getElem_mem hi)
  rw [h2] at this
  cases this
set_option maxRecDepth 100000 in
set_option maxHeartbeats 8000000 in
theorem hold_any {w : World} {sb f : Nat} {P : List Pn} {cs : List Cd} {T : List Tr.Nd} {s : ByteArray} {vp vr vk vt ve : Value} {F : List Int} (h : Sr w sb f P cs T s vp vr vk vt ve) (hF : Fd w f F) (hv : Fv P T F) (hc : ∀ c ∈ cs, csh P c = true) (hm : cs.length ≤ 16) : Calls Tryz.prog 22 #[.pointer (some ⟨sb, 0, none⟩)] w fun e w' => e = .returned (.bool (hld P cs T s F)) ∧ Below w.heap.size w w' := by
  have HS : Hid (Sr w sb f P cs T s vp vr vk vt ve) := h
  have HBY : Hid (∀ W, Below w.heap.size w W → ∀ k : Nat, k < P.length → Calls Tryz.prog 40 #[.pointer (some ⟨sb, 0, none⟩), .int .i64 (k : Int)] W fun e w' => e = .returned (.string (byo (T.getD (F.getD k 0).toNat Tr.ndd) s)) ∧ Below W.heap.size W w') := fun W hW k hk => by
    obtain ⟨v, h1, h2⟩ := hv.2 k hk
    have h9 := bytes_any (h.keep (Fs.bel hW)) ((hW.block _ (lt_of_heap hF)).trans hF) hv.1 k v hk h1 h2
    rw [h1]
    exact h9
  have HCC : Hid (∀ c ∈ cs, (∃ ka : Nat, cap P c.a = (ka : Int) ∧ ka < P.length) ∧ (cap P c.b = -1 ∨ ∃ kb : Nat, cap P c.b = (kb : Int) ∧ kb < P.length)) := fun c hcm => by
    obtain ⟨k1, k2⟩ := csh_ok (hc c hcm)
    obtain ⟨_, _, q1, q2⟩ := cap_some k1
    refine ⟨⟨(cap P c.a).toNat, by omega, by omega⟩, ?_⟩
    by_cases hb : cap P c.b = -1
    · exact .inl hb
    · obtain ⟨_, _, q3, q4⟩ := cap_some hb
      exact .inr ⟨(cap P c.b).toNat, by omega, by omega⟩
  have b2 := rcell h.blk 2 _ rfl
  obtain ⟨m, hlm⟩ : ∃ m, cs.length = m := ⟨_, rfl⟩
  have HLM : Hid (cs.length = m ∧ m ≤ 16) := ⟨hlm, by omega⟩
  obtain ⟨va, vg, vo, vcap, hvk, hvk2⟩ := h.hk
  rw [hlm] at hvk
  subst hvk
  obtain ⟨V, hV⟩ : ∃ V, hld P cs T s F = V := ⟨_, rfl⟩
  rw [hV]
  have HV : Hid (cs.all (cho P T s F) = V) := hV
  clear h hF hv hc hm hlm hV hvk2
  go_enter Tryz.func22, Tryz.ntmps22
  go_upto_region 2 with fail
  clear b2
  go_loopg [11] m (fun gm v11 wr => ∃ i : Nat, v11 = .int .i64 (i : Int) ∧ Hid (i ≤ m ∧ gm = m - i) ∧ Hid ((cs.take i).all (cho P T s F) = true) ∧ Hid (Below w.heap.size w wr))
  case atStart => exact ⟨0, rfl, ⟨Nat.zero_le _, rfl⟩, rfl, Below.refl _ _⟩
  case round =>
    obtain ⟨i, rfl, HI, HA, HB⟩ := hrel
    by_cases hi : i < m
    · have e1 : decide ((i : Int) < (m : Int)) = true := by rw [decide_eq_true_eq]; omega
      have e2 : decide (i < m) = true := by rw [decide_eq_true_eq]; omega
      have e3 : (i : Int) < (m : Int) := by omega
      have HIL : Hid (i < m) := hi
      have hil : i < cs.length := by rw [HLM.out.1]; exact hi
      obtain ⟨gg, oo, cap2, ev, _, hcell⟩ := (HS.out.keep (Fs.bel HB.out)).hk.place (by omega)
      obtain ⟨e4, e5, e6⟩ := Value.slice.inj ev
      clear e5 e6 ev
      subst e4
      have hk : ∀ j u, (cl P (cs.getD i cz))[j]? = some u → wr.cell? ⟨gg, oo + i * 4 + j, none⟩ = some u := fun j u hu => by
        rw [Nat.add_assoc]
        refine hcell _ _ ?_
        rw [flat_get (cl_len P) cz cs i j hil (by have := (List.getElem?_eq_some_iff.1 hu).1; rwa [cl_len] at this)]
        exact hu
      have c0 : wr.cell? ⟨gg, oo + i * 4, none⟩ = some (.bool (cs.getD i cz).nt) := hk 0 _ rfl
      have c1 := hk 1 _ rfl
      have c2 := hk 2 _ rfl
      have c3 := hk 3 _ rfl
      have hmem : cs.getD i cz ∈ cs := by rw [List.getD_eq_getElem?_getD, List.getElem?_eq_getElem hil]; exact List.getElem_mem hil
      obtain ⟨⟨ka, hka, hkp⟩, hkb⟩ := HCC.out _ hmem
      obtain ⟨x, hx⟩ : ∃ x, cs.getD i cz = x := ⟨_, rfl⟩
      rw [hx] at c0 c1 c2 c3 hka hkb
      have HX : Hid (cs.getD i cz = x) := hx
      rw [hka] at c1
      obtain ⟨kb, hkbe⟩ : ∃ kb, cap P x.b = kb := ⟨_, rfl⟩
      rw [hkbe] at c2 hkb
      have HKA : Hid (ka < P.length) := hkp
      have HKB : Hid (kb = -1 ∨ ∃ k : Nat, kb = (k : Int) ∧ k < P.length) := hkb
      obtain ⟨OT, hOT⟩ : ∃ OT, (if kb = -1 then x.tx else byo (T.getD (F.getD kb.toNat 0).toNat Tr.ndd) s) = OT := ⟨_, rfl⟩
      have HOT : Hid _ := hOT
      obtain ⟨BA, hBA⟩ : ∃ BA, byo (T.getD (F.getD ka 0).toNat Tr.ndd) s = BA := ⟨_, rfl⟩
      have HCH : Hid (cho P T s F x = (decide (BA = OT) != x.nt)) := by
        show _ = _
        unfold cho
        rw [hka, hkbe, hOT]
        show (decide (byo (T.getD (F.getD ka 0).toNat Tr.ndd) s = OT) != x.nt) = _
        rw [hBA]
      have HBE : Hid (byo (T.getD (F.getD ka 0).toNat Tr.ndd) s = BA) := hBA
      have hwi := w64n i (by have := HLM.out.2; omega)
      obtain ⟨W2, hW2⟩ : ∃ W2, W2 = wr.alloc (.cells #[.bool x.nt, .int .i64 (ka : Int), .int .i64 kb, .string x.tx] 89) := ⟨_, rfl⟩
      clear hi hil hx hmem hka hkp hkb hkbe hOT hBA hk hcell
      go_upto_region 4 with fail
      rw [← hW2]
      have hn2 := heap_new wr (.cells #[.bool x.nt, .int .i64 (ka : Int), .int .i64 kb, .string x.tx] 89)
      have hb2 : Below wr.heap.size wr W2 := by rw [hW2]; exact bel_up _ _
      rw [← hW2] at hn2
      obtain ⟨cb, hcb⟩ : ∃ cb, wr.heap.size = cb := ⟨_, rfl⟩
      rw [hcb] at hn2 ⊢
      have HC2 : Hid (W2.heap[cb]? = some (.cells #[.bool x.nt, .int .i64 (ka : Int), .int .i64 kb, .string x.tx] 89 (0, 0))) := hn2
      have HBW : Hid (Below w.heap.size w W2) := below_trans HB.out hb2
      have t2 := rcell hn2 2 _ rfl
      have t3 := rcell hn2 3 _ rfl
      clear hW2 hn2 hb2 hcb c0 c1 c2 c3
      go_upto_if 19 with fail
      go_cut [5] from 19 to 23 (fun v5 wd => v5 = .string OT ∧ Hid (Below W2.heap.size W2 wd))
      case first =>
        by_cases hb : kb = -1
        · have HE : Hid (OT = x.tx) := by show _ = _; rw [← HOT.out, if_pos hb]
          subst hb
          go_wp2_with fail
          go_meet
          exact ⟨by rw [HE.out], Below.refl _ _⟩
        · have HE : Hid (byo (T.getD (F.getD kb.toNat 0).toNat Tr.ndd) s = OT) := by show _ = _; rw [← HOT.out, if_neg hb]
          obtain ⟨k, hk, hkp⟩ := HKB.out.resolve_left hb
          have d1 : (kb == -1) = false := by simpa using hb
          have HBK : Hid _ := HBY.out W2 HBW.out k hkp
          subst hk
          have e9 : ((k : Int)).toNat = k := by omega
          rw [e9] at HE
          rw [HE.out] at HBK
          clear hb hkp e9
          go_wp2_with (go_at_call 40; refine Calls.mono HBK.out ?_; rintro e wd ⟨rfl, hb⟩; have HBD : Hid (Below W2.heap.size W2 wd) := hb; clear hb)
          go_meet
          exact ⟨rfl, HBD⟩
      case rest =>
        obtain ⟨rfl, HB3⟩ := hcut
        have HB5 : Hid (Below w.heap.size w wc) := below_trans HBW.out HB3.out
        have HC5 : Hid (wc.heap[cb]? = some (.cells #[.bool x.nt, .int .i64 (ka : Int), .int .i64 kb, .string x.tx] 89 (0, 0))) := (HB3.out.block _ (lt_of_heap HC2.out)).trans HC2.out
        have HBYA : Hid (∀ W, Below w.heap.size w W → Calls Tryz.prog 40 #[.pointer (some ⟨sb, 0, none⟩), .int .i64 (ka : Int)] W fun e w' => e = .returned (.string BA) ∧ Below W.heap.size W w') := fun W hW => by rw [← HBE.out]; exact HBY.out W hW ka HKA.out
        clear t2 t3
        go_upto_region 7 with fail
        refine wp_region_noPanic ?_
        refine wp_region_held_drew (S := fun W => W.heap[cb]? = some (.cells #[.bool x.nt, .int .i64 (ka : Int), .int .i64 kb, .string x.tx] 89 (0, 0))) (by kernel_rfl) (show _ = _ from HC5.out) (fun hHeld => ?_)
        refine wpAnyH_take (i := 0) (oi := { dst := _, op := _, type := _, pos := _, after := _, guard := _ }) (v := ?_) rfl (by kernel_rfl) (by kernel_rfl) (by kernel_rfl) (fun _ _ _ h => h) (Or.inl ⟨by rfl, ?_⟩) (by assumption) ?_
        rotate_left
        · intro W hSw
          (try dsimp only at hSw)
          go_simp
          (try with_reducible rfl)
        try simp only [Act.put, List.setIfInBounds_toArray, List.set_cons_zero, List.set_cons_succ]
        refine wpAnyH_take (i := 1) (oi := { dst := _, op := _, type := _, pos := _, after := _, guard := _ }) (v := ?_) rfl (by kernel_rfl) (by kernel_rfl) (by kernel_rfl) (fun _ _ _ h => h) (Or.inl ⟨by rfl, ?_⟩) (by assumption) ?_
        rotate_left
        · intro W hSw
          (try dsimp only at hSw)
          go_simp
          (try with_reducible rfl)
        try simp only [Act.put, List.setIfInBounds_toArray, List.set_cons_zero, List.set_cons_succ]
        refine wpAnyH_take (i := 2) (oi := { dst := _, op := _, type := _, pos := _, after := _, guard := _ }) (v := ?_) rfl (by kernel_rfl) (by kernel_rfl) (by kernel_rfl) (fun _ _ _ h => h) (Or.inl ⟨by rfl, ?_⟩) (by assumption) ?_
        rotate_left
        · intro W hSw
          (try dsimp only at hSw)
          have s0 := rcell hSw 0 _ rfl
          have s1 := rcell hSw 1 _ rfl
          go_simp
          (try with_reducible rfl)
        try simp only [Act.put, List.setIfInBounds_toArray, List.set_cons_zero, List.set_cons_succ]
        refine wpAnyH_take (i := 4) (oi := { dst := _, op := _, type := _, pos := _, after := _, guard := _ }) (v := ?_) rfl (by kernel_rfl) (by kernel_rfl) (by kernel_rfl) (fun _ _ _ h => h) (Or.inl ⟨by rfl, ?_⟩) (by assumption) ?_
        rotate_left
        · intro W hSw
          (try dsimp only at hSw)
          go_simp
          (try with_reducible rfl)
        try simp only [Act.put, List.setIfInBounds_toArray, List.set_cons_zero, List.set_cons_succ]
        refine wpAnyH_take (i := 6) (oi := { dst := _, op := _, type := _, pos := _, after := _, guard := _ }) (v := ?_) rfl (by kernel_rfl) (by kernel_rfl) (by kernel_rfl) (fun _ _ _ h => h) (Or.inl ⟨by rfl, ?_⟩) (by assumption) ?_
        rotate_left
        · intro W hSw
          (try dsimp only at hSw)
          go_simp
          (try with_reducible rfl)
        try simp only [Act.put, List.setIfInBounds_toArray, List.set_cons_zero, List.set_cons_succ]
        refine wpAnyH_take (i := 7) (oi := { dst := _, op := _, type := _, pos := _, after := _, guard := _ }) (v := ?_) rfl (by kernel_rfl) (by kernel_rfl) (by kernel_rfl) (fun _ _ _ h => h) (Or.inl ⟨by rfl, ?_⟩) (by assumption) ?_
        rotate_left
        · intro W hSw
          (try dsimp only at hSw)
          have s0 := rcell hSw 0 _ rfl
          have s1 := rcell hSw 1 _ rfl
          go_simp
          (try with_reducible rfl)
        try simp only [Act.put, List.setIfInBounds_toArray, List.set_cons_zero, List.set_cons_succ]
        refine wpAnyH_ready (rs := [3]) (by kernel_rfl) (by simp) ?_
        refine AllReadyH.cons (o := { dst := _, op := _, type := _, pos := _, after := _, guard := _ }) rfl (fun K hK => ?_) AllReadyH.nil
        go_simp
        refine (HBYA.out _ (below_trans HB5.out (Below.drew (Below.refl _ _)))).mono ?_
        rintro e wf ⟨rfl, hb⟩
        have HBF : Hid (Below wc.heap.size wc wf) := (Below.drew (Below.refl _ _)).trans hb
        clear hb
        go_wp2_with fail
        refine hK.out _ _ ?_ (fun hHeld => ?_)
        · exact (HBF.out.block _ (lt_of_heap HC5.out)).trans HC5.out
        clear hK K
        try simp only [Act.put, List.setIfInBounds_toArray, List.set_cons_zero, List.set_cons_succ]
        refine wpAnyH_take (i := 5) (oi := { dst := _, op := _, type := _, pos := _, after := _, guard := _ }) (v := ?_) rfl (by kernel_rfl) (by kernel_rfl) (by kernel_rfl) (fun _ _ _ h => h) (Or.inl ⟨by rfl, ?_⟩) (by assumption) ?_
        rotate_left
        · intro W hSw
          (try dsimp only at hSw)
          go_simp
          (try with_reducible rfl)
        try simp only [Act.put, List.setIfInBounds_toArray, List.set_cons_zero, List.set_cons_succ]
        refine wpAnyH_take (i := 8) (oi := { dst := _, op := _, type := _, pos := _, after := _, guard := _ }) (v := ?_) rfl (by kernel_rfl) (by kernel_rfl) (by kernel_rfl) (fun _ _ _ h => h) (Or.inl ⟨by rfl, ?_⟩) (by assumption) ?_
        rotate_left
        · intro W hSw
          (try dsimp only at hSw)
          go_simp
          (try with_reducible rfl)
        try simp only [Act.put, List.setIfInBounds_toArray, List.set_cons_zero, List.set_cons_succ]
        refine wpAnyH_done (by kernel_rfl) ?_ _
        clear hHeld
        refine NoPanic.normal ?_
        obtain ⟨Q, hQ⟩ : ∃ Q, ((BA.toList == OT.toList) == x.nt) = Q := ⟨_, rfl⟩
        have HQ : Hid (cho P T s F x = !Q) := by
          show _ = _
          rw [HCH.out, ← hQ, str_eq]
          rfl
        rw [hQ]
        have HB6 : Hid (Below w.heap.size w wf) := below_trans HB5.out HBF.out
        clear hQ
        cases Q with
        | true =>
          have : V = false := by rw [← HV.out]; exact not_cs cs _ i (by rw [HLM.out.1]; exact HIL.out) (by rw [HX.out, HQ.out]; rfl)
          subst this
          go_wp2_with fail
          go_ret
          exact ⟨rfl, HB6.out⟩
        | false =>
          have HA2 : Hid ((cs.take (i + 1)).all (cho P T s F) = true) := all_cs cs _ i (by rw [HLM.out.1]; exact HIL.out) HA.out (by rw [HX.out, HQ.out]; rfl)
          go_wp2_with fail
          go_roundg (m - (i + 1))
          case measure => have := HI.out; have := HIL.out; omega
          case rel => exact ⟨i + 1, by simp, ⟨HIL.out, rfl⟩, HA2, HB6⟩
    · have e1 : decide ((i : Int) < (m : Int)) = false := by rw [decide_eq_false_iff_not]; omega
      have e2 : decide (i < m) = false := by rw [decide_eq_false_iff_not]; omega
      have : V = true := by
        rw [← HV.out]
        have h9 := HA.out
        rw [List.take_of_length_le (by rw [HLM.out.1]; omega)] at h9
        exact h9
      subst this
      clear hi
      go_wp2_with fail
      go_ret
      exact ⟨rfl, HB.out⟩
end Go.Proofs.YtcmhbcfgikmblabGreatDoor.Qy
