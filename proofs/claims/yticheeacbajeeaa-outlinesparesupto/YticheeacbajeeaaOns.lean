import Derived.Test.YticheeacbajeeaaOcl
namespace Go.Proofs.Yticheeacbajeeaa
open Go.RowKit Go.Maps

/-- All bytes of the nodes lie within the text, and they are trees. -/
def lie (T : List Nd) (z : Nat) : Bool := T.all (fun x => decide (0 ≤ x.fr ∧ x.fr ≤ x.tt ∧ x.tt ≤ (z : Int)))
def rgt (T : List Nd) (z : Nat) : Bool := lie T z && decide (0 ≤ rts T)
theorem lie_take (T : List Nd) (z i : Nat) (h : i < T.length) : (T.take (i + 1)).all (fun x => decide (0 ≤ x.fr ∧ x.fr ≤ x.tt ∧ x.tt ≤ (z : Int))) = ((T.take i).all (fun x => decide (0 ≤ x.fr ∧ x.fr ≤ x.tt ∧ x.tt ≤ (z : Int))) && decide (0 ≤ (T.getD i ndd).fr ∧ (T.getD i ndd).fr ≤ (T.getD i ndd).tt ∧ (T.getD i ndd).tt ≤ (z : Int))) := by
  rw [List.take_add_one, List.getD_eq_getElem?_getD, List.getElem?_eq_getElem h, List.all_append]
  simp
theorem lie_no {T : List Nd} {z i : Nat} (h : i < T.length) (hn : ¬ (0 ≤ (T.getD i ndd).fr ∧ (T.getD i ndd).fr ≤ (T.getD i ndd).tt ∧ (T.getD i ndd).tt ≤ (z : Int))) : lie T z = false := by
  unfold lie
  rw [List.all_eq_false]
  refine ⟨T.getD i ndd, ?_, by simpa using hn⟩
  rw [List.getD_eq_getElem?_getD, List.getElem?_eq_getElem h]
  exact List.getElem_mem h
theorem lie_at {T : List Nd} {z : Nat} (h : lie T z = true) (i : Nat) (hi : i < T.length) : 0 ≤ (T.getD i ndd).fr ∧ (T.getD i ndd).fr ≤ (T.getD i ndd).tt ∧ (T.getD i ndd).tt ≤ (z : Int) := by
  unfold lie at h
  rw [List.all_eq_true] at h
  have := h (T.getD i ndd) (by rw [List.getD_eq_getElem?_getD, List.getElem?_eq_getElem hi]; exact List.getElem_mem hi)
  simpa using this
theorem rgt_yes {T : List Nd} {z : Nat} (h : rgt T z = true) : lie T z = true ∧ Fo (kds T) := by
  unfold rgt at h
  rw [Bool.and_eq_true, decide_eq_true_eq] at h
  refine ⟨h.1, ?_⟩
  rcases @rts_fo T with ⟨r, hr, -⟩ | ⟨-, hr⟩
  · exact ⟨r, hr⟩
  · rw [hr] at h; omega
set_option maxRecDepth 100000 in
set_option maxHeartbeats 8000000 in
theorem lieIn_any {v : Value} {T : List Nd} (s : ByteArray) (w : World) (h : Ns w v T) (hs : Sm T) : Calls Try.prog 21 #[v, .string s] w fun e w' => e = .returned (.bool (rgt T s.size)) ∧ Below w.heap.size w w' := by
  have HT : Hid (Ns w v T) := h
  have HSM : Hid (Sm T) := hs
  obtain ⟨a, cap, rfl⟩ := h.form
  obtain ⟨n, hn⟩ : ∃ n, T.length = n := ⟨_, rfl⟩
  rw [hn] at HT ⊢
  have HN : Hid (T.length = n ∧ n * 72 + 4096 ≤ 140737488355328) := ⟨hn, by have h9 := hs; unfold Sm at h9; rw [hn] at h9; exact h9⟩
  obtain ⟨z, hz⟩ : ∃ z, s.size = z := ⟨_, rfl⟩
  have HZ : Hid (s.size = z) := hz
  clear h hs hn
  rw [hz]
  go_enter Try.func21, Try.ntmps21
  go_upto_region 2 with fail
  go_loopg [9] n (fun gm v9 wr => ∃ i : Nat, v9 = .int .i64 (i : Int) ∧ Hid (i ≤ n ∧ gm = n - i) ∧ Hid ((T.take i).all (fun x => decide (0 ≤ x.fr ∧ x.fr ≤ x.tt ∧ x.tt ≤ (z : Int))) = true) ∧ Hid (Below w.heap.size w wr))
  case atStart => exact ⟨0, rfl, ⟨Nat.zero_le _, rfl⟩, rfl, Below.refl _ _⟩
  case round =>
    obtain ⟨i, rfl, HI, HM, HB⟩ := hrel
    by_cases hi : i < n
    · have e1 : decide ((i : Int) < (n : Int)) = true := by rw [decide_eq_true_eq]; omega
      have e2 : decide (i < n) = true := by rw [decide_eq_true_eq]; omega
      have b1 : (i : Int) < (n : Int) := by omega
      have HIL : Hid (i < n ∧ i < T.length) := ⟨hi, by rw [HN.out.1]; exact hi⟩
      obtain ⟨g, o, rfl, hq⟩ := HT.out.seven i HIL.out.2
      obtain ⟨t0, t1, t2, t3, t4, t5, t6⟩ := hq wr HB.out
      have HST : Hid _ := lie_take T z i HIL.out.2
      have HNO : Hid _ := @lie_no T z i HIL.out.2
      obtain ⟨y, hy⟩ : ∃ y, T.getD i ndd = y := ⟨_, rfl⟩
      rw [hy] at t0 t1 t2 t3 t4 t5 t6 HST HNO
      have hwi := w64n i (by have := HN.out; omega)
      obtain ⟨W2, hW2⟩ : ∃ W2, W2 = wr.alloc (.cells #[.string y.nm, .bool y.nd, .string y.fd, .int .i64 y.fr, .int .i64 y.tt, .int .i64 y.kd, .int .i64 y.lf] 50) := ⟨_, rfl⟩
      have HB2 : Hid (Below w.heap.size w W2) := by rw [hW2]; exact below_trans HB.out (bel_up _ _)
      have hn2 : W2.heap[wr.heap.size]? = some (.cells #[.string y.nm, .bool y.nd, .string y.fd, .int .i64 y.fr, .int .i64 y.tt, .int .i64 y.kd, .int .i64 y.lf] 50 (0, 0)) := by rw [hW2]; exact heap_new wr _
      clear hi hq hy
      go_upto_region 4 with fail
      rw [← hW2]
      obtain ⟨nb, hnb⟩ : ∃ nb, wr.heap.size = nb := ⟨_, rfl⟩
      rw [hnb] at hn2 ⊢
      have c3 := rcell hn2 3 _ rfl
      have c4 := rcell hn2 4 _ rfl
      clear hW2 hn2 hnb t0 t1 t2 t3 t4 t5 t6
      by_cases k0 : 0 ≤ y.fr
      · have f0 : decide (y.fr < 0) = false := by rw [decide_eq_false_iff_not]; omega
        by_cases k1 : y.fr ≤ y.tt
        · have f1 : decide (y.tt < y.fr) = false := by rw [decide_eq_false_iff_not]; omega
          by_cases k2 : y.tt ≤ (z : Int)
          · have f2 : decide ((z : Int) < y.tt) = false := by rw [decide_eq_false_iff_not]; omega
            have HM2 : Hid ((T.take (i + 1)).all (fun x => decide (0 ≤ x.fr ∧ x.fr ≤ x.tt ∧ x.tt ≤ (z : Int))) = true) := by
              show _ = _
              rw [HST.out, HM.out, decide_eq_true (And.intro k0 (And.intro k1 k2))]
              rfl
            clear k0 k1 k2
            go_wp2_with fail
            go_roundg (n - (i + 1))
            case measure => have := HI.out; have := HIL.out; omega
            case rel => exact ⟨i + 1, by simp, ⟨HIL.out.1, rfl⟩, HM2, HB2⟩
          · have f2 : decide ((z : Int) < y.tt) = true := by rw [decide_eq_true_eq]; omega
            have HE : Hid (rgt T z = false) := by show _ = _; unfold rgt; rw [HNO.out (fun h => k2 h.2.2)]; rfl
            clear k0 k1 k2
            go_wp2_with fail
            go_ret
            exact ⟨by rw [HE.out]; rfl, HB2.out⟩
        · have f1 : decide (y.tt < y.fr) = true := by rw [decide_eq_true_eq]; omega
          have HE : Hid (rgt T z = false) := by show _ = _; unfold rgt; rw [HNO.out (fun h => k1 h.2.1)]; rfl
          clear k0 k1
          go_wp2_with fail
          go_ret
          exact ⟨by rw [HE.out]; rfl, HB2.out⟩
      · have f0 : decide (y.fr < 0) = true := by rw [decide_eq_true_eq]; omega
        have HE : Hid (rgt T z = false) := by show _ = _; unfold rgt; rw [HNO.out (fun h => k0 h.1)]; rfl
        clear k0
        go_wp2_with fail
        go_ret
        exact ⟨by rw [HE.out]; rfl, HB2.out⟩
    · have e1 : decide ((i : Int) < (n : Int)) = false := by rw [decide_eq_false_iff_not]; omega
      have e2 : decide (i < n) = false := by rw [decide_eq_false_iff_not]; omega
      have HE : Hid (rgt T z = decide (0 ≤ rts T)) := by
        show _ = _
        unfold rgt lie
        have h9 := HM.out
        rw [List.take_of_length_le (by rw [HN.out.1]; omega)] at h9
        rw [h9]; rfl
      have HRT : Hid _ := roots_any wr (HT.out.up HB.out) HSM.out
      obtain ⟨R, hR⟩ : ∃ R, rts T = R := ⟨_, rfl⟩
      rw [hR] at HRT HE
      clear hi hR
      go_wp2_with (go_at_call 33; refine Calls.mono HRT.out ?_; rintro e w3 ⟨rfl, hw3⟩; subst hw3)
      go_ret
      exact ⟨by rw [HE.out]; rfl, HB.out⟩
/-- A search is made. -/
theorem clone_any (s : ByteArray) (w : World) (h : s.size ≤ 140737488355328) : Calls Try.prog 36 #[.string s] w fun e w' => e = .returned (.string s) ∧ Below w.heap.size w w' := by
  go_enter Try.func36, Try.ntmps36
  go_wp2_with (go_at_call 51; refine (Try.stringslite_Clone s w (by omega)).mono ?_; rintro ee w1 ⟨rfl, hb1⟩; have HB1 : Hid (Below w.heap.size w w1) := hb1; clear hb1)
  go_ret
  exact ⟨rfl, HB1.out⟩
set_option maxRecDepth 100000 in
set_option maxHeartbeats 4000000 in
theorem newSearch_any {v u : Value} {M : List Pa} {T : List Nd} (s : ByteArray) (w : World) (hm : Pl w v M) (hl : M.length * 32 ≤ 140737488355328) (hn : ∀ x ∈ M, x.nm.size ≤ maxLen) (ht : Ns w u T) (hs : Sm T) (hf : Fo (kds T)) (hz : s.size ≤ 140737488355328) : Calls Try.prog 22 #[v, u, .string s] w fun e w' => (∃ b ma na ba mc nc bc mb mn, e = .returned (.pointer (some ⟨b, 0, none⟩)) ∧ Sh w' b M T s ma na ba mc nc bc mb mn) ∧ Below w.heap.size w w' := by
  have HM : Hid (Pl w v M) := hm
  have HT : Hid (Ns w u T) := ht
  have HS : Hid (Sm T ∧ Fo (kds T) ∧ s.size ≤ 140737488355328) := ⟨hs, hf, hz⟩
  obtain ⟨ma, mc, rfl⟩ := hm.form
  obtain ⟨na, nc, rfl⟩ := ht.form
  have HBN : Hid _ := byName_any w hm hl hn
  obtain ⟨n, hnn⟩ : ∃ n, T.length = n := ⟨_, rfl⟩
  obtain ⟨m, hmm⟩ : ∃ m, M.length = m := ⟨_, rfl⟩
  have HN : Hid (T.length = n ∧ M.length = m) := ⟨hnn, hmm⟩
  rw [hnn] at HT ⊢
  rw [hmm] at HM HBN ⊢
  clear hm hl hn ht hs hf hz hnn hmm
  go_enter Try.func22, Try.ntmps22
  go_wp2_with first | (go_at_call 34; refine Calls.mono HBN.out ?_; rintro e w1 ⟨mb, mn, rfl, hm1, hb1⟩; have HM1 : Hid (Mq w1 mb mn (fs M)) := hm1; have HB1 : Hid (Below w.heap.size w w1) := hb1; clear hm1 hb1) | (go_at_call 35; refine Calls.mono (ends_any w1 (HT.out.up HB1.out) HS.out.1 HS.out.2.1) ?_; rintro e w2 ⟨v2, rfl, ho2, hb2⟩; obtain ⟨ba, bc, rfl⟩ := row_shape ho2; have HO2 : Hid (Rw w2 (.slice ba (ends T).length bc) (ends T).length (iC (ends T))) := row_rw ho2 (by decide); have HB2 : Hid (Below w1.heap.size w1 w2) := hb2; clear ho2 hb2) | (go_at_call 36; refine Calls.mono (clone_any s w2 HS.out.2.2) ?_; rintro e w3 ⟨rfl, hb3⟩; have HB3 : Hid (Below w2.heap.size w2 w3) := hb3; clear hb3)
  go_ret
  have h13 := below_trans HB2.out HB3.out
  have h03 := below_trans HB1.out h13
  have e9 : (ends T).length = n := by rw [ends_len, HN.out.1]
  have ho3 : Rw w2 (.slice ba n bc) n (iC (ends T)) := by have h := HO2.out; rw [e9] at h; exact h
  rw [e9]
  have h34 := bel_up w3 (.cells #[.slice ma m mc, .map (some mb), .slice na n nc, .slice ba n bc, .string s] 87)
  have h5 := heap_new w3 (.cells #[.slice ma m mc, .map (some mb), .slice na n nc, .slice ba n bc, .string s] 87)
  refine ⟨⟨w3.heap.size, ma, na, ba, mc, nc, bc, mb, mn, rfl, ⟨?_, ?_, ?_, ?_, ?_⟩⟩, below_trans h03 h34⟩
  · rw [HN.out.1, HN.out.2]; exact h5
  · rw [HN.out.2]; exact HM.out.up (below_trans h03 h34)
  · exact HM1.out.up (below_trans h13 h34)
  · rw [HN.out.1]; exact HT.out.up (below_trans h03 h34)
  · rw [HN.out.1]; exact Rw.up ho3 (below_trans HB3.out h34)
end Go.Proofs.Yticheeacbajeeaa
