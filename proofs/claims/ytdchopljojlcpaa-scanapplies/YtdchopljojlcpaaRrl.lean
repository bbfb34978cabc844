import Derived.Test.YtdchopljojlcpaaRrk
namespace Go.Proofs.Ytdchopljojlcpaa
open Go.RowKit Go.Maps

set_option maxRecDepth 100000 in
set_option maxHeartbeats 16000000 in
theorem turned_any {ue ui ut ua : Value} {r : Rul} {ge ke gi ki gt kt ga ka : Nat} (w0 w : World) (hb0 : Below w0.heap.size w0 w) (h : Rmr w0.heap.size w ge ke gi ki gt kt ga ka r) (hy : Rlm w0 ue ui ut ua r) (hz : Rsz r) :
    Calls Try.prog 11 #[rv (.slice (some ⟨ge, 0, none⟩) r.re.length ke) (.slice (some ⟨gi, 0, none⟩) r.inn.length ki) (.slice (some ⟨gt, 0, none⟩) r.tes.length kt) (.slice (some ⟨ga, 0, none⟩) r.act.length ka) r, rv ue ui ut ua r] w fun e w' => (∃ v, e = .returned v) ∧ ∃ re inn tes, Rmr w0.heap.size w' ge ke gi ki gt kt ga ka { r with re := re, inn := inn, tes := tes } ∧ re.length = r.re.length ∧ inn.length = r.inn.length ∧ tes.length = r.tes.length ∧ Below w0.heap.size w0 w' ∧ Trd w w' ge gi gt := by
  obtain ⟨e1, f1, e2, f2, e3, f3, e4, f4, rfl, rfl, rfl, rfl⟩ := hy.form
  obtain ⟨W1, hW1⟩ : ∃ W1, W1 = (w.alloc (.cells #[.int .i64 r.trm, .int .i64 r.pat, .slice (some ⟨ge, 0, none⟩) r.re.length ke, .string r.lit, .slice (some ⟨gi, 0, none⟩) r.inn.length ki, .slice (some ⟨gt, 0, none⟩) r.tes.length kt, .slice (some ⟨ga, 0, none⟩) r.act.length ka] 28)).alloc (.cells #[.int .i64 r.trm, .int .i64 r.pat, .slice e1 r.re.length f1, .string r.lit, .slice e2 r.inn.length f2, .slice e3 r.tes.length f3, .slice e4 r.act.length f4] 28) := ⟨_, rfl⟩
  have B1 : Hid (Below w.heap.size w W1) := by rw [hW1]; exact below_trans (bel_up _ _) (bel_up _ _)
  have HP1 : Hid (W1.heap[w.heap.size]? = some (.cells #[.int .i64 r.trm, .int .i64 r.pat, .slice (some ⟨ge, 0, none⟩) r.re.length ke, .string r.lit, .slice (some ⟨gi, 0, none⟩) r.inn.length ki, .slice (some ⟨gt, 0, none⟩) r.tes.length kt, .slice (some ⟨ga, 0, none⟩) r.act.length ka] 28 (0, 0))) := by rw [hW1, (bel_up _ _).block _ (by simp)]; exact heap_new w _
  have HP2 : Hid (W1.heap[w.heap.size + 1]? = some (.cells #[.int .i64 r.trm, .int .i64 r.pat, .slice e1 r.re.length f1, .string r.lit, .slice e2 r.inn.length f2, .slice e3 r.tes.length f3, .slice e4 r.act.length f4] 28 (0, 0))) := by
    rw [hW1]
    have := heap_new (w.alloc (.cells #[.int .i64 r.trm, .int .i64 r.pat, .slice (some ⟨ge, 0, none⟩) r.re.length ke, .string r.lit, .slice (some ⟨gi, 0, none⟩) r.inn.length ki, .slice (some ⟨gt, 0, none⟩) r.tes.length kt, .slice (some ⟨ga, 0, none⟩) r.act.length ka] 28)) (.cells #[.int .i64 r.trm, .int .i64 r.pat, .slice e1 r.re.length f1, .string r.lit, .slice e2 r.inn.length f2, .slice e3 r.tes.length f3, .slice e4 r.act.length f4] 28)
    rw [World.size_alloc] at this
    exact this
  have HW : Hid (W1 = (w.alloc (.cells #[.int .i64 r.trm, .int .i64 r.pat, .slice (some ⟨ge, 0, none⟩) r.re.length ke, .string r.lit, .slice (some ⟨gi, 0, none⟩) r.inn.length ki, .slice (some ⟨gt, 0, none⟩) r.tes.length kt, .slice (some ⟨ga, 0, none⟩) r.act.length ka] 28)).alloc (.cells #[.int .i64 r.trm, .int .i64 r.pat, .slice e1 r.re.length f1, .string r.lit, .slice e2 r.inn.length f2, .slice e3 r.tes.length f3, .slice e4 r.act.length f4] 28)) := hW1
  have HT : Hid (Tz w0 w W1 w.heap.size #[.int .i64 r.trm, .int .i64 r.pat, .slice (some ⟨ge, 0, none⟩) r.re.length ke, .string r.lit, .slice (some ⟨gi, 0, none⟩) r.inn.length ki, .slice (some ⟨gt, 0, none⟩) r.tes.length kt, .slice (some ⟨ga, 0, none⟩) r.act.length ka] #[.int .i64 r.trm, .int .i64 r.pat, .slice e1 r.re.length f1, .string r.lit, .slice e2 r.inn.length f2, .slice e3 r.tes.length f3, .slice e4 r.act.length f4] ge ke gi ki gt kt ga ka r r.re r.inn r.tes) := ⟨h.up B1.out, rfl, rfl, rfl, HP1.out, HP2.out, below_trans hb0 B1.out, Trd.of B1.out _ _ _⟩
  have HY : Hid _ := hy
  have HZ : Hid _ := hz
  clear h hy hW1 hz HP1 HP2
  go_enter Try.func11, Try.ntmps11
  go_upto_region 1 with fail
  rw [← HW.out]
  go_upto_region 2 with fail
  obtain ⟨n, hn⟩ : ∃ n, r.re.length = n := ⟨_, rfl⟩
  have HN : Hid (r.re.length = n) := hn
  clear hn
  go_loopg [4] n (fun gl vv wr => ∃ i : Nat, vv = .int .i64 (i : Int) ∧ ∃ re, Hid (Tz w0 w wr w.heap.size #[.int .i64 r.trm, .int .i64 r.pat, .slice (some ⟨ge, 0, none⟩) r.re.length ke, .string r.lit, .slice (some ⟨gi, 0, none⟩) r.inn.length ki, .slice (some ⟨gt, 0, none⟩) r.tes.length kt, .slice (some ⟨ga, 0, none⟩) r.act.length ka] #[.int .i64 r.trm, .int .i64 r.pat, .slice e1 r.re.length f1, .string r.lit, .slice e2 r.inn.length f2, .slice e3 r.tes.length f3, .slice e4 r.act.length f4] ge ke gi ki gt kt ga ka r re r.inn r.tes) ∧ Hid (i ≤ n ∧ gl = n - i))
  case atStart => exact ⟨0, rfl, _, HT, ⟨Nat.zero_le _, rfl⟩⟩
  case round =>
    clear HT
    obtain ⟨i, rfl, re, HT, HI⟩ := hrel
    obtain ⟨p0, p1, p2, p3, p4, p5, p6⟩ := box7 HT.out.ba
    rw [HN.out] at p2
    by_cases hi : i < n
    · obtain ⟨jj, hjj⟩ : ∃ jj, jj + 1 + i = n := ⟨n - 1 - i, by omega⟩
      obtain ⟨n1, hn1⟩ : ∃ n1, n1 + 1 = n := ⟨n - 1, by omega⟩
      have hjl : jj < r.re.length := by have := HN.out; omega
      obtain ⟨g, og, cap, x0, hc⟩ := HY.out.e.place (by have := HN.out; omega)
      obtain ⟨rfl, -, rfl⟩ := Value.slice.inj x0
      obtain ⟨⟨op, v0, v1, v2, v3, va, vb⟩, hx⟩ : ∃ x, r.re.getD jj (0, 0, 0, 0, 0, 0, 0) = x := ⟨_, rfl⟩
      have c0 := hc (jj * 7 + 0) _ ((flat_get nf_len (0, 0, 0, 0, 0, 0, 0) r.re jj 0 hjl (by decide)).trans rfl)
      have c1 := hc (jj * 7 + 1) _ ((flat_get nf_len (0, 0, 0, 0, 0, 0, 0) r.re jj 1 hjl (by decide)).trans rfl)
      have c2 := hc (jj * 7 + 2) _ ((flat_get nf_len (0, 0, 0, 0, 0, 0, 0) r.re jj 2 hjl (by decide)).trans rfl)
      have c3 := hc (jj * 7 + 3) _ ((flat_get nf_len (0, 0, 0, 0, 0, 0, 0) r.re jj 3 hjl (by decide)).trans rfl)
      have c4 := hc (jj * 7 + 4) _ ((flat_get nf_len (0, 0, 0, 0, 0, 0, 0) r.re jj 4 hjl (by decide)).trans rfl)
      have c5 := hc (jj * 7 + 5) _ ((flat_get nf_len (0, 0, 0, 0, 0, 0, 0) r.re jj 5 hjl (by decide)).trans rfl)
      have c6 := hc (jj * 7 + 6) _ ((flat_get nf_len (0, 0, 0, 0, 0, 0, 0) r.re jj 6 hjl (by decide)).trans rfl)
      rw [hx] at c0 c1 c2 c3 c4 c5 c6
      simp only [Nat.add_zero, ← Nat.add_assoc] at c0 c1 c2 c3 c4 c5 c6
      have HSS : Hid (∀ W, Below w0.heap.size w0 W → W.heap[w.heap.size]? = some (.cells #[.int .i64 r.trm, .int .i64 r.pat, .slice (some ⟨ge, 0, none⟩) r.re.length ke, .string r.lit, .slice (some ⟨gi, 0, none⟩) r.inn.length ki, .slice (some ⟨gt, 0, none⟩) r.tes.length kt, .slice (some ⟨ga, 0, none⟩) r.act.length ka] 28 (0, 0)) → W.heap[w.heap.size + 1]? = some (.cells #[.int .i64 r.trm, .int .i64 r.pat, .slice (some ⟨g, og, none⟩) r.re.length f1, .string r.lit, .slice e2 r.inn.length f2, .slice e3 r.tes.length f3, .slice e4 r.act.length f4] 28 (0, 0)) → (W.cell? ⟨w.heap.size, 2, none⟩ = some (.slice (some ⟨ge, 0, none⟩) n ke) ∧ W.cell? ⟨w.heap.size + 1, 2, none⟩ = some (.slice (some ⟨g, og, none⟩) n f1) ∧ W.cell? ⟨g, og + jj * 7, none⟩ = some (.int .i64 op) ∧ W.cell? ⟨g, og + jj * 7 + 1, none⟩ = some (.int .u64 v0) ∧ W.cell? ⟨g, og + jj * 7 + 2, none⟩ = some (.int .u64 v1) ∧ W.cell? ⟨g, og + jj * 7 + 3, none⟩ = some (.int .u64 v2) ∧ W.cell? ⟨g, og + jj * 7 + 4, none⟩ = some (.int .u64 v3) ∧ W.cell? ⟨g, og + jj * 7 + 5, none⟩ = some (.int .i64 va) ∧ W.cell? ⟨g, og + jj * 7 + 6, none⟩ = some (.int .i64 vb))) := fun W hW ha hb => by
        have a2 := rcell ha 2 _ rfl
        have b2 := rcell hb 2 _ rfl
        rw [HN.out] at a2 b2
        exact ⟨a2, b2, below_cell hW c0, below_cell hW c1, below_cell hW c2, below_cell hW c3, below_cell hW c4, below_cell hW c5, below_cell hW c6⟩
      have s1 : IntKind.i64.wrap ((n : Int) - 1) = (n1 : Int) := by have := HZ.out.e; have := HN.out; rw [IntKind.wrap_i64]; omega
      have s2 : (n : Int) - 1 = (n1 : Int) := by omega
      have s3 : IntKind.i64.wrap (n1 : Int) = (n1 : Int) := by have := HZ.out.e; have := HN.out; rw [IntKind.wrap_i64]; omega
      have s4 : IntKind.i64.wrap ((n1 : Int) - (i : Int)) = (jj : Int) := by have := HZ.out.e; have := HN.out; rw [IntKind.wrap_i64]; omega
      have s5 : (n1 : Int) - (i : Int) = (jj : Int) := by omega
      have s6 : IntKind.i64.wrap (jj : Int) = (jj : Int) := by have := HZ.out.e; have := HN.out; rw [IntKind.wrap_i64]; omega
      have s7 : jj < n := by omega
      have s8 : (jj : Int) < (n : Int) := by omega
      have e1' : decide ((i : Int) < (n : Int)) = true := by rw [decide_eq_true_eq]; omega
      have e2' : decide (i < n) = true := by rw [decide_eq_true_eq]; omega
      have e5' : (i : Int) < (n : Int) := by omega
      have hwr := w64n i (by have := HZ.out.e; have := HN.out; omega)
      have HIL : Hid (i < n) := hi
      clear x0 hc hx hjl hjj hn1 c0 c1 c2 c3 c4 c5 c6
      go_upto_region 4 with fail
      clear p0 p1 p2 p3 p4 p5 p6
      obtain ⟨WD, hWD⟩ : ∃ WD, wr.drew = WD := ⟨_, rfl⟩
      have TD : Hid _ := HT.out.drew
      rw [hWD] at TD
      obtain ⟨hBg, cur, hcur⟩ := row_tag TD.out.m.e ge rfl
      have hlen : re.length = n := by have := TD.out.l1; have := HN.out; omega
      have hrow := TD.out.m.e
      have k0' : ∃ u, WD.cell? ⟨ge, i * 7, none⟩ = some u := ⟨_, row_at hrow _ _ (by rw [List.getElem?_append_left (by rw [flat_len nf_len]; show _ < re.length * 7; omega)]; exact (flat_get nf_len (0, 0, 0, 0, 0, 0, 0) re i 0 (by omega) (by decide)).trans rfl)⟩
      obtain ⟨u0, k0'⟩ := k0'
      have k1' : ∃ u, WD.cell? ⟨ge, i * 7 + 1, none⟩ = some u := ⟨_, row_at hrow _ _ (by rw [List.getElem?_append_left (by rw [flat_len nf_len]; show _ < re.length * 7; omega)]; exact (flat_get nf_len (0, 0, 0, 0, 0, 0, 0) re i 1 (by omega) (by decide)).trans rfl)⟩
      obtain ⟨u1, k1'⟩ := k1'
      have k2' : ∃ u, WD.cell? ⟨ge, i * 7 + 2, none⟩ = some u := ⟨_, row_at hrow _ _ (by rw [List.getElem?_append_left (by rw [flat_len nf_len]; show _ < re.length * 7; omega)]; exact (flat_get nf_len (0, 0, 0, 0, 0, 0, 0) re i 2 (by omega) (by decide)).trans rfl)⟩
      obtain ⟨u2, k2'⟩ := k2'
      have k3' : ∃ u, WD.cell? ⟨ge, i * 7 + 3, none⟩ = some u := ⟨_, row_at hrow _ _ (by rw [List.getElem?_append_left (by rw [flat_len nf_len]; show _ < re.length * 7; omega)]; exact (flat_get nf_len (0, 0, 0, 0, 0, 0, 0) re i 3 (by omega) (by decide)).trans rfl)⟩
      obtain ⟨u3, k3'⟩ := k3'
      have k4' : ∃ u, WD.cell? ⟨ge, i * 7 + 4, none⟩ = some u := ⟨_, row_at hrow _ _ (by rw [List.getElem?_append_left (by rw [flat_len nf_len]; show _ < re.length * 7; omega)]; exact (flat_get nf_len (0, 0, 0, 0, 0, 0, 0) re i 4 (by omega) (by decide)).trans rfl)⟩
      obtain ⟨u4, k4'⟩ := k4'
      have k5' : ∃ u, WD.cell? ⟨ge, i * 7 + 5, none⟩ = some u := ⟨_, row_at hrow _ _ (by rw [List.getElem?_append_left (by rw [flat_len nf_len]; show _ < re.length * 7; omega)]; exact (flat_get nf_len (0, 0, 0, 0, 0, 0, 0) re i 5 (by omega) (by decide)).trans rfl)⟩
      obtain ⟨u5, k5'⟩ := k5'
      have k6' : ∃ u, WD.cell? ⟨ge, i * 7 + 6, none⟩ = some u := ⟨_, row_at hrow _ _ (by rw [List.getElem?_append_left (by rw [flat_len nf_len]; show _ < re.length * 7; omega)]; exact (flat_get nf_len (0, 0, 0, 0, 0, 0, 0) re i 6 (by omega) (by decide)).trans rfl)⟩
      obtain ⟨u6, k6'⟩ := k6'
      have fz : ∀ q, WD.frozen? ⟨ge, q, none⟩ = false := fun q => Lib.frozen_of_heap hcur q
      have TS : Hid _ := TD.out.nodes (i := i) (op, v0, v1, v2, v3, va, vb) (by omega)
      clear hBg hcur cur hrow hlen
      refine wp_region_noPanic ?_
      refine wp_region_held_drew (S := fun W => W.cell? ⟨w.heap.size, 2, none⟩ = some (.slice (some ⟨ge, 0, none⟩) n ke) ∧ W.cell? ⟨w.heap.size + 1, 2, none⟩ = some (.slice (some ⟨g, og, none⟩) n f1) ∧ W.cell? ⟨g, og + jj * 7, none⟩ = some (.int .i64 op) ∧ W.cell? ⟨g, og + jj * 7 + 1, none⟩ = some (.int .u64 v0) ∧ W.cell? ⟨g, og + jj * 7 + 2, none⟩ = some (.int .u64 v1) ∧ W.cell? ⟨g, og + jj * 7 + 3, none⟩ = some (.int .u64 v2) ∧ W.cell? ⟨g, og + jj * 7 + 4, none⟩ = some (.int .u64 v3) ∧ W.cell? ⟨g, og + jj * 7 + 5, none⟩ = some (.int .i64 va) ∧ W.cell? ⟨g, og + jj * 7 + 6, none⟩ = some (.int .i64 vb)) (by kernel_rfl) (by rw [hWD]; exact HSS.out _ TD.out.bel TD.out.ba TD.out.bb) (fun hHeld => ?_)
      rw [hWD] at hHeld ⊢
      clear hWD
      refine wpAnyH_take (i := 0) (oi := { dst := _, op := _, type := _, pos := _, after := _, guard := _ }) (v := ?_) rfl (by kernel_rfl) (by kernel_rfl) (by kernel_rfl) (fun _ _ _ h => h) (Or.inl ⟨by rfl, ?_⟩) (by assumption) ?_
      rotate_left
      · intro W hSw
        (try dsimp only at hSw)
        go_simp
        (try with_reducible rfl)
      try simp only [Act.put, List.setIfInBounds_toArray, List.set_cons_zero, List.set_cons_succ]
      refine wpAnyH_take (i := 1) (oi := { dst := _, op := _, type := _, pos := _, after := _, guard := _ }) (v := ?_) rfl (by kernel_rfl) (by kernel_rfl) (by kernel_rfl) (fun _ _ _ h => h) (Or.inl ⟨by rfl, ?_⟩) (by assumption) ?_
      rotate_left
      · intro W hSw
        (try dsimp only at hSw)
        go_simp
        (try with_reducible rfl)
      try simp only [Act.put, List.setIfInBounds_toArray, List.set_cons_zero, List.set_cons_succ]
      refine wpAnyH_take (i := 2) (oi := { dst := _, op := _, type := _, pos := _, after := _, guard := _ }) (v := ?_) rfl (by kernel_rfl) (by kernel_rfl) (by kernel_rfl) (fun _ _ _ h => h) (Or.inl ⟨by rfl, ?_⟩) (by assumption) ?_
      rotate_left
      · intro W hSw
        (try dsimp only at hSw)
        go_simp
        (try with_reducible rfl)
      try simp only [Act.put, List.setIfInBounds_toArray, List.set_cons_zero, List.set_cons_succ]
      refine wpAnyH_take (i := 3) (oi := { dst := _, op := _, type := _, pos := _, after := _, guard := _ }) (v := ?_) rfl (by kernel_rfl) (by kernel_rfl) (by kernel_rfl) (fun _ _ _ h => h) (Or.inl ⟨by rfl, ?_⟩) (by assumption) ?_
      rotate_left
      · intro W hSw
        (try dsimp only at hSw)
        go_simp
        (try with_reducible rfl)
      try simp only [Act.put, List.setIfInBounds_toArray, List.set_cons_zero, List.set_cons_succ]
      refine wpAnyH_take (i := 4) (oi := { dst := _, op := _, type := _, pos := _, after := _, guard := _ }) (v := ?_) rfl (by kernel_rfl) (by kernel_rfl) (by kernel_rfl) (fun _ _ _ h => h) (Or.inl ⟨by rfl, ?_⟩) (by assumption) ?_
      rotate_left
      · intro W hSw
        (try dsimp only at hSw)
        go_simp
        (try with_reducible rfl)
      try simp only [Act.put, List.setIfInBounds_toArray, List.set_cons_zero, List.set_cons_succ]
      refine wpAnyH_take (i := 5) (oi := { dst := _, op := _, type := _, pos := _, after := _, guard := _ }) (v := ?_) rfl (by kernel_rfl) (by kernel_rfl) (by kernel_rfl) (fun _ _ _ h => h) (Or.inl ⟨by rfl, ?_⟩) (by assumption) ?_
      rotate_left
      · intro W hSw
        (try dsimp only at hSw)
        go_simp
        (try with_reducible rfl)
      try simp only [Act.put, List.setIfInBounds_toArray, List.set_cons_zero, List.set_cons_succ]
      refine wpAnyH_take (i := 6) (oi := { dst := _, op := _, type := _, pos := _, after := _, guard := _ }) (v := ?_) rfl (by kernel_rfl) (by kernel_rfl) (by kernel_rfl) (fun _ _ _ h => h) (Or.inl ⟨by rfl, ?_⟩) (by assumption) ?_
      rotate_left
      · intro W hSw
        (try dsimp only at hSw)
        go_simp
        (try with_reducible rfl)
      try simp only [Act.put, List.setIfInBounds_toArray, List.set_cons_zero, List.set_cons_succ]
      refine wpAnyH_take (i := 7) (oi := { dst := _, op := _, type := _, pos := _, after := _, guard := _ }) (v := ?_) rfl (by kernel_rfl) (by kernel_rfl) (by kernel_rfl) (fun _ _ _ h => h) (Or.inl ⟨by rfl, ?_⟩) (by assumption) ?_
      rotate_left
      · intro W hSw
        (try dsimp only at hSw)
        go_simp
        (try with_reducible rfl)
      try simp only [Act.put, List.setIfInBounds_toArray, List.set_cons_zero, List.set_cons_succ]
      refine wpAnyH_take (i := 8) (oi := { dst := _, op := _, type := _, pos := _, after := _, guard := _ }) (v := ?_) rfl (by kernel_rfl) (by kernel_rfl) (by kernel_rfl) (fun _ _ _ h => h) (Or.inl ⟨by rfl, ?_⟩) (by assumption) ?_
      rotate_left
      · intro W hSw
        (try dsimp only at hSw)
        go_simp
        (try with_reducible rfl)
      try simp only [Act.put, List.setIfInBounds_toArray, List.set_cons_zero, List.set_cons_succ]
      refine wpAnyH_take (i := 9) (oi := { dst := _, op := _, type := _, pos := _, after := _, guard := _ }) (v := ?_) rfl (by kernel_rfl) (by kernel_rfl) (by kernel_rfl) (fun _ _ _ h => h) (Or.inl ⟨by rfl, ?_⟩) (by assumption) ?_
      rotate_left
      · intro W hSw
        (try dsimp only at hSw)
        go_simp
        (try with_reducible rfl)
      try simp only [Act.put, List.setIfInBounds_toArray, List.set_cons_zero, List.set_cons_succ]
      refine wpAnyH_take (i := 10) (oi := { dst := _, op := _, type := _, pos := _, after := _, guard := _ }) (v := ?_) rfl (by kernel_rfl) (by kernel_rfl) (by kernel_rfl) (fun _ _ _ h => h) (Or.inl ⟨by rfl, ?_⟩) (by assumption) ?_
      rotate_left
      · intro W hSw
        (try dsimp only at hSw)
        go_simp
        (try with_reducible rfl)
      try simp only [Act.put, List.setIfInBounds_toArray, List.set_cons_zero, List.set_cons_succ]
      refine wpAnyH_take (i := 11) (oi := { dst := _, op := _, type := _, pos := _, after := _, guard := _ }) (v := ?_) rfl (by kernel_rfl) (by kernel_rfl) (by kernel_rfl) (fun _ _ _ h => h) (Or.inl ⟨by rfl, ?_⟩) (by assumption) ?_
      rotate_left
      · intro W hSw
        (try dsimp only at hSw)
        go_simp
        (try with_reducible rfl)
      try simp only [Act.put, List.setIfInBounds_toArray, List.set_cons_zero, List.set_cons_succ]
      refine wpAnyH_take (i := 12) (oi := { dst := _, op := _, type := _, pos := _, after := _, guard := _ }) (v := ?_) rfl (by kernel_rfl) (by kernel_rfl) (by kernel_rfl) (fun _ _ _ h => h) (Or.inl ⟨by rfl, ?_⟩) (by assumption) ?_
      rotate_left
      · intro W hSw
        (try dsimp only at hSw)
        go_simp
        (try with_reducible rfl)
      try simp only [Act.put, List.setIfInBounds_toArray, List.set_cons_zero, List.set_cons_succ]
      refine wpAnyH_take (i := 13) (oi := { dst := _, op := _, type := _, pos := _, after := _, guard := _ }) (v := ?_) rfl (by kernel_rfl) (by kernel_rfl) (by kernel_rfl) (fun _ _ _ h => h) (Or.inl ⟨by rfl, ?_⟩) (by assumption) ?_
      rotate_left
      · intro W hSw
        (try dsimp only at hSw)
        go_simp
        (try with_reducible rfl)
      try simp only [Act.put, List.setIfInBounds_toArray, List.set_cons_zero, List.set_cons_succ]
      refine wpAnyH_ready (rs := [14]) (by kernel_rfl) (by simp) ?_
      refine AllReadyH.cons (o := { dst := _, op := _, type := _, pos := _, after := _, guard := _ }) rfl (fun K hK => ?_) AllReadyH.nil
      go_simp
      obtain ⟨WS, hWS⟩ : ∃ WS, WS = (((((((WD).setCell ⟨ge, i * 7, none⟩ (.int .i64 op)).setCell ⟨ge, i * 7 + 1, none⟩ (.int .u64 v0)).setCell ⟨ge, i * 7 + 2, none⟩ (.int .u64 v1)).setCell ⟨ge, i * 7 + 3, none⟩ (.int .u64 v2)).setCell ⟨ge, i * 7 + 4, none⟩ (.int .u64 v3)).setCell ⟨ge, i * 7 + 5, none⟩ (.int .i64 va)).setCell ⟨ge, i * 7 + 6, none⟩ (.int .i64 vb) := ⟨_, rfl⟩
      rw [← hWS]
      have hN : WS = wsets WD ge (i * 7) (nf (op, v0, v1, v2, v3, va, vb)) := hWS
      rw [← hN] at TS
      clear hWS hN
      refine hK.out _ _ ?_ (fun hHeld => ?_)
      · exact HSS.out _ TS.out.bel TS.out.ba TS.out.bb
      clear hK K
      try simp only [Act.put, List.setIfInBounds_toArray, List.set_cons_zero, List.set_cons_succ]
      refine wpAnyH_done (by kernel_rfl) ?_ _
      refine NoPanic.normal ?_
      clear hHeld k0' k1' k2' k3' k4' k5' k6' fz s1 s2 s3 s4 s5 s6 s7 s8 TD
      go_wp2_with fail
      go_roundg (n - (i + 1))
      case measure => have := HI.out; have := HIL.out; omega
      case rel => exact ⟨i + 1, by first | rfl | (rw [show (i : Int) + 1 = ((i + 1 : Nat) : Int) by omega]), _, TS, ⟨HIL.out, rfl⟩⟩
    · have e1' : decide ((i : Int) < (n : Int)) = false := by rw [decide_eq_false_iff_not]; omega
      have e2' : decide (i < n) = false := by rw [decide_eq_false_iff_not]; omega
      clear hi HI
      go_upto_region 6 with fail
      clear p0 p1 p2 p3 p4 p5 p6 e1' e2' HN
      obtain ⟨n, hn⟩ : ∃ n, r.inn.length = n := ⟨_, rfl⟩
      have HN : Hid (r.inn.length = n) := hn
      clear hn
      go_loopg [5] n (fun gl vv wr => ∃ i : Nat, vv = .int .i64 (i : Int) ∧ ∃ inn, Hid (Tz w0 w wr w.heap.size #[.int .i64 r.trm, .int .i64 r.pat, .slice (some ⟨ge, 0, none⟩) r.re.length ke, .string r.lit, .slice (some ⟨gi, 0, none⟩) r.inn.length ki, .slice (some ⟨gt, 0, none⟩) r.tes.length kt, .slice (some ⟨ga, 0, none⟩) r.act.length ka] #[.int .i64 r.trm, .int .i64 r.pat, .slice e1 r.re.length f1, .string r.lit, .slice e2 r.inn.length f2, .slice e3 r.tes.length f3, .slice e4 r.act.length f4] ge ke gi ki gt kt ga ka r re inn r.tes) ∧ Hid (i ≤ n ∧ gl = n - i))
      case atStart => exact ⟨0, rfl, _, HT, ⟨Nat.zero_le _, rfl⟩⟩
      case round =>
        clear HT
        obtain ⟨i, rfl, inn, HT, HI⟩ := hrel
        obtain ⟨p0, p1, p2, p3, p4, p5, p6⟩ := box7 HT.out.ba
        rw [HN.out] at p4
        by_cases hi : i < n
        · have hjl : i < r.inn.length := by have := HN.out; omega
          obtain ⟨g, og, cap, x0, hc⟩ := HY.out.i.place (by have := HN.out; omega)
          obtain ⟨rfl, -, rfl⟩ := Value.slice.inj x0
          obtain ⟨x, hx⟩ : ∃ x, r.inn.getD i 0 = x := ⟨_, rfl⟩
          have c0 := hc i _ (iC_get r.inn i hjl)
          rw [hx] at c0
          have HSS : Hid (∀ W, Below w0.heap.size w0 W → W.heap[w.heap.size]? = some (.cells #[.int .i64 r.trm, .int .i64 r.pat, .slice (some ⟨ge, 0, none⟩) r.re.length ke, .string r.lit, .slice (some ⟨gi, 0, none⟩) r.inn.length ki, .slice (some ⟨gt, 0, none⟩) r.tes.length kt, .slice (some ⟨ga, 0, none⟩) r.act.length ka] 28 (0, 0)) → W.heap[w.heap.size + 1]? = some (.cells #[.int .i64 r.trm, .int .i64 r.pat, .slice e1 r.re.length f1, .string r.lit, .slice (some ⟨g, og, none⟩) r.inn.length f2, .slice e3 r.tes.length f3, .slice e4 r.act.length f4] 28 (0, 0)) → (W.cell? ⟨w.heap.size, 4, none⟩ = some (.slice (some ⟨gi, 0, none⟩) n ki) ∧ W.cell? ⟨w.heap.size + 1, 4, none⟩ = some (.slice (some ⟨g, og, none⟩) n f2) ∧ W.cell? ⟨g, og + i, none⟩ = some (.int .i64 x))) := fun W hW ha hb => by
            have a2 := rcell ha 4 _ rfl
            have b2 := rcell hb 4 _ rfl
            rw [HN.out] at a2 b2
            exact ⟨a2, b2, below_cell hW c0⟩
          have e1' : decide ((i : Int) < (n : Int)) = true := by rw [decide_eq_true_eq]; omega
          have e2' : decide (i < n) = true := by rw [decide_eq_true_eq]; omega
          have e5' : (i : Int) < (n : Int) := by omega
          have hwr := w64n i (by have := HZ.out.i; have := HN.out; omega)
          have HIL : Hid (i < n) := hi
          clear x0 hc hx hjl c0
          go_upto_region 8 with fail
          clear p0 p1 p2 p3 p4 p5 p6
          obtain ⟨y, hy⟩ : ∃ y, IntKind.i64.wrap (x + 1) = y := ⟨_, rfl⟩
          obtain ⟨WD, hWD⟩ : ∃ WD, wr.drew = WD := ⟨_, rfl⟩
          have TD : Hid _ := HT.out.drew
          rw [hWD] at TD
          obtain ⟨hBg, cur, hcur⟩ := row_tag TD.out.m.i gi rfl
          have hlen : inn.length = n := by have := TD.out.l2; have := HN.out; omega
          have k0' : ∃ u, WD.cell? ⟨gi, i, none⟩ = some u := ⟨_, row_at TD.out.m.i _ _ (by rw [List.getElem?_append_left (by rw [iC_len]; show _ < inn.length * 1; omega)]; exact iC_get inn i (by omega))⟩
          obtain ⟨u0, k0'⟩ := k0'
          have fz : ∀ q, WD.frozen? ⟨gi, q, none⟩ = false := fun q => Lib.frozen_of_heap hcur q
          have TS : Hid _ := TD.out.modes (i := i) y (by omega)
          clear hBg hcur cur hlen
          refine wp_region_noPanic ?_
          refine wp_region_held_drew (S := fun W => W.cell? ⟨w.heap.size, 4, none⟩ = some (.slice (some ⟨gi, 0, none⟩) n ki) ∧ W.cell? ⟨w.heap.size + 1, 4, none⟩ = some (.slice (some ⟨g, og, none⟩) n f2) ∧ W.cell? ⟨g, og + i, none⟩ = some (.int .i64 x)) (by kernel_rfl) (by rw [hWD]; exact HSS.out _ TD.out.bel TD.out.ba TD.out.bb) (fun hHeld => ?_)
          rw [hWD] at hHeld ⊢
          clear hWD
          refine wpAnyH_take (i := 0) (oi := { dst := _, op := _, type := _, pos := _, after := _, guard := _ }) (v := ?_) rfl (by kernel_rfl) (by kernel_rfl) (by kernel_rfl) (fun _ _ _ h => h) (Or.inl ⟨by rfl, ?_⟩) (by assumption) ?_
          rotate_left
          · intro W hSw
            (try dsimp only at hSw)
            go_simp
            (try with_reducible rfl)
          try simp only [Act.put, List.setIfInBounds_toArray, List.set_cons_zero, List.set_cons_succ]
          refine wpAnyH_take (i := 1) (oi := { dst := _, op := _, type := _, pos := _, after := _, guard := _ }) (v := ?_) rfl (by kernel_rfl) (by kernel_rfl) (by kernel_rfl) (fun _ _ _ h => h) (Or.inl ⟨by rfl, ?_⟩) (by assumption) ?_
          rotate_left
          · intro W hSw
            (try dsimp only at hSw)
            go_simp
            (try with_reducible rfl)
          try simp only [Act.put, List.setIfInBounds_toArray, List.set_cons_zero, List.set_cons_succ]
          refine wpAnyH_take (i := 2) (oi := { dst := _, op := _, type := _, pos := _, after := _, guard := _ }) (v := ?_) rfl (by kernel_rfl) (by kernel_rfl) (by kernel_rfl) (fun _ _ _ h => h) (Or.inl ⟨by rfl, ?_⟩) (by assumption) ?_
          rotate_left
          · intro W hSw
            (try dsimp only at hSw)
            go_simp
            (try with_reducible rfl)
          try simp only [Act.put, List.setIfInBounds_toArray, List.set_cons_zero, List.set_cons_succ]
          refine wpAnyH_take (i := 3) (oi := { dst := _, op := _, type := _, pos := _, after := _, guard := _ }) (v := ?_) rfl (by kernel_rfl) (by kernel_rfl) (by kernel_rfl) (fun _ _ _ h => h) (Or.inl ⟨by rfl, ?_⟩) (by assumption) ?_
          rotate_left
          · intro W hSw
            (try dsimp only at hSw)
            go_simp
            (try with_reducible rfl)
          try simp only [Act.put, List.setIfInBounds_toArray, List.set_cons_zero, List.set_cons_succ]
          refine wpAnyH_take (i := 4) (oi := { dst := _, op := _, type := _, pos := _, after := _, guard := _ }) (v := ?_) rfl (by kernel_rfl) (by kernel_rfl) (by kernel_rfl) (fun _ _ _ h => h) (Or.inl ⟨by rfl, ?_⟩) (by assumption) ?_
          rotate_left
          · intro W hSw
            (try dsimp only at hSw)
            go_simp
            (try with_reducible rfl)
          try simp only [Act.put, List.setIfInBounds_toArray, List.set_cons_zero, List.set_cons_succ]
          refine wpAnyH_take (i := 5) (oi := { dst := _, op := _, type := _, pos := _, after := _, guard := _ }) (v := ?_) rfl (by kernel_rfl) (by kernel_rfl) (by kernel_rfl) (fun _ _ _ h => h) (Or.inl ⟨by rfl, ?_⟩) (by assumption) ?_
          rotate_left
          · intro W hSw
            (try dsimp only at hSw)
            go_simp
            (try with_reducible rfl)
          try simp only [Act.put, List.setIfInBounds_toArray, List.set_cons_zero, List.set_cons_succ]
          refine wpAnyH_take (i := 6) (oi := { dst := _, op := _, type := _, pos := _, after := _, guard := _ }) (v := ?_) rfl (by kernel_rfl) (by kernel_rfl) (by kernel_rfl) (fun _ _ _ h => h) (Or.inl ⟨by rfl, ?_⟩) (by assumption) ?_
          rotate_left
          · intro W hSw
            (try dsimp only at hSw)
            go_simp
            (try with_reducible rfl)
          try simp only [Act.put, List.setIfInBounds_toArray, List.set_cons_zero, List.set_cons_succ]
          refine wpAnyH_take (i := 7) (oi := { dst := _, op := _, type := _, pos := _, after := _, guard := _ }) (v := ?_) rfl (by kernel_rfl) (by kernel_rfl) (by kernel_rfl) (fun _ _ _ h => h) (Or.inl ⟨by rfl, ?_⟩) (by assumption) ?_
          rotate_left
          · intro W hSw
            (try dsimp only at hSw)
            go_simp
            (try with_reducible rfl)
          try simp only [Act.put, List.setIfInBounds_toArray, List.set_cons_zero, List.set_cons_succ]
          refine wpAnyH_take (i := 8) (oi := { dst := _, op := _, type := _, pos := _, after := _, guard := _ }) (v := ?_) rfl (by kernel_rfl) (by kernel_rfl) (by kernel_rfl) (fun _ _ _ h => h) (Or.inl ⟨by rfl, ?_⟩) (by assumption) ?_
          rotate_left
          · intro W hSw
            (try dsimp only at hSw)
            go_simp
            (try with_reducible rfl)
          try simp only [Act.put, List.setIfInBounds_toArray, List.set_cons_zero, List.set_cons_succ]
          refine wpAnyH_take (i := 9) (oi := { dst := _, op := _, type := _, pos := _, after := _, guard := _ }) (v := ?_) rfl (by kernel_rfl) (by kernel_rfl) (by kernel_rfl) (fun _ _ _ h => h) (Or.inl ⟨by rfl, ?_⟩) (by assumption) ?_
          rotate_left
          · intro W hSw
            (try dsimp only at hSw)
            go_simp
            (try with_reducible rfl)
          try simp only [Act.put, List.setIfInBounds_toArray, List.set_cons_zero, List.set_cons_succ]
          refine wpAnyH_ready (rs := [10]) (by kernel_rfl) (by simp) ?_
          refine AllReadyH.cons (o := { dst := _, op := _, type := _, pos := _, after := _, guard := _ }) rfl (fun K hK => ?_) AllReadyH.nil
          go_simp
          obtain ⟨WS, hWS⟩ : ∃ WS, WS = WD.setCell ⟨gi, i, none⟩ (.int .i64 y) := ⟨_, rfl⟩
          rw [← hWS]
          have hN : WS = wsets WD gi (i * 1) (jf y) := by rw [Nat.mul_one]; exact hWS
          rw [← hN] at TS
          clear hWS hN
          refine hK.out _ _ ?_ (fun hHeld => ?_)
          · exact HSS.out _ TS.out.bel TS.out.ba TS.out.bb
          clear hK K
          try simp only [Act.put, List.setIfInBounds_toArray, List.set_cons_zero, List.set_cons_succ]
          refine wpAnyH_done (by kernel_rfl) ?_ _
          refine NoPanic.normal ?_
          clear hHeld k0' fz hy TD
          go_wp2_with fail
          go_roundg (n - (i + 1))
          case measure => have := HI.out; have := HIL.out; omega
          case rel => exact ⟨i + 1, by first | rfl | (rw [show (i : Int) + 1 = ((i + 1 : Nat) : Int) by omega]), _, TS, ⟨HIL.out, rfl⟩⟩
        · have e1' : decide ((i : Int) < (n : Int)) = false := by rw [decide_eq_false_iff_not]; omega
          have e2' : decide (i < n) = false := by rw [decide_eq_false_iff_not]; omega
          clear hi HI
          go_upto_region 10 with fail
          clear p0 p1 p2 p3 p4 p5 p6 e1' e2' HN
          obtain ⟨n, hn⟩ : ∃ n, r.tes.length = n := ⟨_, rfl⟩
          have HN : Hid (r.tes.length = n) := hn
          clear hn
          go_loopg [6] n (fun gl vv wr => ∃ i : Nat, vv = .int .i64 (i : Int) ∧ ∃ tes, Hid (Tz w0 w wr w.heap.size #[.int .i64 r.trm, .int .i64 r.pat, .slice (some ⟨ge, 0, none⟩) r.re.length ke, .string r.lit, .slice (some ⟨gi, 0, none⟩) r.inn.length ki, .slice (some ⟨gt, 0, none⟩) r.tes.length kt, .slice (some ⟨ga, 0, none⟩) r.act.length ka] #[.int .i64 r.trm, .int .i64 r.pat, .slice e1 r.re.length f1, .string r.lit, .slice e2 r.inn.length f2, .slice e3 r.tes.length f3, .slice e4 r.act.length f4] ge ke gi ki gt kt ga ka r re inn tes) ∧ Hid (i ≤ n ∧ gl = n - i))
          case atStart => exact ⟨0, rfl, _, HT, ⟨Nat.zero_le _, rfl⟩⟩
          case round =>
            clear HT
            obtain ⟨i, rfl, tes, HT, HI⟩ := hrel
            obtain ⟨p0, p1, p2, p3, p4, p5, p6⟩ := box7 HT.out.ba
            rw [HN.out] at p5
            by_cases hi : i < n
            · have hjl : i < r.tes.length := by have := HN.out; omega
              obtain ⟨g, og, cap, x0, hc⟩ := HY.out.t.place (by have := HN.out; omega)
              obtain ⟨rfl, -, rfl⟩ := Value.slice.inj x0
              obtain ⟨⟨x, y⟩, hx⟩ : ∃ x, r.tes.getD i (0, 0) = x := ⟨_, rfl⟩
              have c0 := hc (i * 2 + 0) _ ((flat_get tf_len (0, 0) r.tes i 0 hjl (by decide)).trans rfl)
              have c1 := hc (i * 2 + 1) _ ((flat_get tf_len (0, 0) r.tes i 1 hjl (by decide)).trans rfl)
              rw [hx] at c0 c1
              simp only [Nat.add_zero, ← Nat.add_assoc] at c0 c1
              have HSS : Hid (∀ W, Below w0.heap.size w0 W → W.heap[w.heap.size]? = some (.cells #[.int .i64 r.trm, .int .i64 r.pat, .slice (some ⟨ge, 0, none⟩) r.re.length ke, .string r.lit, .slice (some ⟨gi, 0, none⟩) r.inn.length ki, .slice (some ⟨gt, 0, none⟩) r.tes.length kt, .slice (some ⟨ga, 0, none⟩) r.act.length ka] 28 (0, 0)) → W.heap[w.heap.size + 1]? = some (.cells #[.int .i64 r.trm, .int .i64 r.pat, .slice e1 r.re.length f1, .string r.lit, .slice e2 r.inn.length f2, .slice (some ⟨g, og, none⟩) r.tes.length f3, .slice e4 r.act.length f4] 28 (0, 0)) → (W.cell? ⟨w.heap.size, 5, none⟩ = some (.slice (some ⟨gt, 0, none⟩) n kt) ∧ W.cell? ⟨w.heap.size + 1, 5, none⟩ = some (.slice (some ⟨g, og, none⟩) n f3) ∧ W.cell? ⟨g, og + i * 2, none⟩ = some (.int .i64 x) ∧ W.cell? ⟨g, og + i * 2 + 1, none⟩ = some (.int .i64 y))) := fun W hW ha hb => by
                have a2 := rcell ha 5 _ rfl
                have b2 := rcell hb 5 _ rfl
                rw [HN.out] at a2 b2
                exact ⟨a2, b2, below_cell hW c0, below_cell hW c1⟩
              have e1' : decide ((i : Int) < (n : Int)) = true := by rw [decide_eq_true_eq]; omega
              have e2' : decide (i < n) = true := by rw [decide_eq_true_eq]; omega
              have e5' : (i : Int) < (n : Int) := by omega
              have hwr := w64n i (by have := HZ.out.t; have := HN.out; omega)
              have HIL : Hid (i < n) := hi
              clear x0 hc hx hjl c0 c1
              go_upto_region 12 with fail
              clear p0 p1 p2 p3 p4 p5 p6
              obtain ⟨z, hy⟩ : ∃ z, IntKind.i64.wrap (y + 1) = z := ⟨_, rfl⟩
              obtain ⟨WD, hWD⟩ : ∃ WD, wr.drew = WD := ⟨_, rfl⟩
              have TD : Hid _ := HT.out.drew
              rw [hWD] at TD
              obtain ⟨hBg, cur, hcur⟩ := row_tag TD.out.m.t gt rfl
              have hlen : tes.length = n := by have := TD.out.l3; have := HN.out; omega
              have k0' : ∃ u, WD.cell? ⟨gt, i * 2, none⟩ = some u := ⟨_, row_at TD.out.m.t _ _ (by rw [List.getElem?_append_left (by rw [flat_len tf_len]; show _ < tes.length * 2; omega)]; exact (flat_get tf_len (0, 0) tes i 0 (by omega) (by decide)).trans rfl)⟩
              have k1' : ∃ u, WD.cell? ⟨gt, i * 2 + 1, none⟩ = some u := ⟨_, row_at TD.out.m.t _ _ (by rw [List.getElem?_append_left (by rw [flat_len tf_len]; show _ < tes.length * 2; omega)]; exact (flat_get tf_len (0, 0) tes i 1 (by omega) (by decide)).trans rfl)⟩
              obtain ⟨u0, k0'⟩ := k0'
              obtain ⟨u1, k1'⟩ := k1'
              have fz : ∀ q, WD.frozen? ⟨gt, q, none⟩ = false := fun q => Lib.frozen_of_heap hcur q
              have TS : Hid _ := TD.out.tests (i := i) (x, z) (by omega)
              clear hBg hcur cur hlen
              refine wp_region_noPanic ?_
              refine wp_region_held_drew (S := fun W => W.cell? ⟨w.heap.size, 5, none⟩ = some (.slice (some ⟨gt, 0, none⟩) n kt) ∧ W.cell? ⟨w.heap.size + 1, 5, none⟩ = some (.slice (some ⟨g, og, none⟩) n f3) ∧ W.cell? ⟨g, og + i * 2, none⟩ = some (.int .i64 x) ∧ W.cell? ⟨g, og + i * 2 + 1, none⟩ = some (.int .i64 y)) (by kernel_rfl) (by rw [hWD]; exact HSS.out _ TD.out.bel TD.out.ba TD.out.bb) (fun hHeld => ?_)
              rw [hWD] at hHeld ⊢
              clear hWD
              refine wpAnyH_take (i := 0) (oi := { dst := _, op := _, type := _, pos := _, after := _, guard := _ }) (v := ?_) rfl (by kernel_rfl) (by kernel_rfl) (by kernel_rfl) (fun _ _ _ h => h) (Or.inl ⟨by rfl, ?_⟩) (by assumption) ?_
              rotate_left
              · intro W hSw
                (try dsimp only at hSw)
                go_simp
                (try with_reducible rfl)
              try simp only [Act.put, List.setIfInBounds_toArray, List.set_cons_zero, List.set_cons_succ]
              refine wpAnyH_take (i := 1) (oi := { dst := _, op := _, type := _, pos := _, after := _, guard := _ }) (v := ?_) rfl (by kernel_rfl) (by kernel_rfl) (by kernel_rfl) (fun _ _ _ h => h) (Or.inl ⟨by rfl, ?_⟩) (by assumption) ?_
              rotate_left
              · intro W hSw
                (try dsimp only at hSw)
                go_simp
                (try with_reducible rfl)
              try simp only [Act.put, List.setIfInBounds_toArray, List.set_cons_zero, List.set_cons_succ]
              refine wpAnyH_take (i := 2) (oi := { dst := _, op := _, type := _, pos := _, after := _, guard := _ }) (v := ?_) rfl (by kernel_rfl) (by kernel_rfl) (by kernel_rfl) (fun _ _ _ h => h) (Or.inl ⟨by rfl, ?_⟩) (by assumption) ?_
              rotate_left
              · intro W hSw
                (try dsimp only at hSw)
                go_simp
                (try with_reducible rfl)
              try simp only [Act.put, List.setIfInBounds_toArray, List.set_cons_zero, List.set_cons_succ]
              refine wpAnyH_take (i := 3) (oi := { dst := _, op := _, type := _, pos := _, after := _, guard := _ }) (v := ?_) rfl (by kernel_rfl) (by kernel_rfl) (by kernel_rfl) (fun _ _ _ h => h) (Or.inl ⟨by rfl, ?_⟩) (by assumption) ?_
              rotate_left
              · intro W hSw
                (try dsimp only at hSw)
                go_simp
                (try with_reducible rfl)
              try simp only [Act.put, List.setIfInBounds_toArray, List.set_cons_zero, List.set_cons_succ]
              refine wpAnyH_take (i := 4) (oi := { dst := _, op := _, type := _, pos := _, after := _, guard := _ }) (v := ?_) rfl (by kernel_rfl) (by kernel_rfl) (by kernel_rfl) (fun _ _ _ h => h) (Or.inl ⟨by rfl, ?_⟩) (by assumption) ?_
              rotate_left
              · intro W hSw
                (try dsimp only at hSw)
                go_simp
                (try with_reducible rfl)
              try simp only [Act.put, List.setIfInBounds_toArray, List.set_cons_zero, List.set_cons_succ]
              refine wpAnyH_take (i := 5) (oi := { dst := _, op := _, type := _, pos := _, after := _, guard := _ }) (v := ?_) rfl (by kernel_rfl) (by kernel_rfl) (by kernel_rfl) (fun _ _ _ h => h) (Or.inl ⟨by rfl, ?_⟩) (by assumption) ?_
              rotate_left
              · intro W hSw
                (try dsimp only at hSw)
                go_simp
                (try with_reducible rfl)
              try simp only [Act.put, List.setIfInBounds_toArray, List.set_cons_zero, List.set_cons_succ]
              refine wpAnyH_take (i := 6) (oi := { dst := _, op := _, type := _, pos := _, after := _, guard := _ }) (v := ?_) rfl (by kernel_rfl) (by kernel_rfl) (by kernel_rfl) (fun _ _ _ h => h) (Or.inl ⟨by rfl, ?_⟩) (by assumption) ?_
              rotate_left
              · intro W hSw
                (try dsimp only at hSw)
                go_simp
                (try with_reducible rfl)
              try simp only [Act.put, List.setIfInBounds_toArray, List.set_cons_zero, List.set_cons_succ]
              refine wpAnyH_take (i := 7) (oi := { dst := _, op := _, type := _, pos := _, after := _, guard := _ }) (v := ?_) rfl (by kernel_rfl) (by kernel_rfl) (by kernel_rfl) (fun _ _ _ h => h) (Or.inl ⟨by rfl, ?_⟩) (by assumption) ?_
              rotate_left
              · intro W hSw
                (try dsimp only at hSw)
                go_simp
                (try with_reducible rfl)
              try simp only [Act.put, List.setIfInBounds_toArray, List.set_cons_zero, List.set_cons_succ]
              refine wpAnyH_take (i := 8) (oi := { dst := _, op := _, type := _, pos := _, after := _, guard := _ }) (v := ?_) rfl (by kernel_rfl) (by kernel_rfl) (by kernel_rfl) (fun _ _ _ h => h) (Or.inl ⟨by rfl, ?_⟩) (by assumption) ?_
              rotate_left
              · intro W hSw
                (try dsimp only at hSw)
                go_simp
                (try with_reducible rfl)
              try simp only [Act.put, List.setIfInBounds_toArray, List.set_cons_zero, List.set_cons_succ]
              refine wpAnyH_take (i := 9) (oi := { dst := _, op := _, type := _, pos := _, after := _, guard := _ }) (v := ?_) rfl (by kernel_rfl) (by kernel_rfl) (by kernel_rfl) (fun _ _ _ h => h) (Or.inl ⟨by rfl, ?_⟩) (by assumption) ?_
              rotate_left
              · intro W hSw
                (try dsimp only at hSw)
                go_simp
                (try with_reducible rfl)
              try simp only [Act.put, List.setIfInBounds_toArray, List.set_cons_zero, List.set_cons_succ]
              refine wpAnyH_take (i := 10) (oi := { dst := _, op := _, type := _, pos := _, after := _, guard := _ }) (v := ?_) rfl (by kernel_rfl) (by kernel_rfl) (by kernel_rfl) (fun _ _ _ h => h) (Or.inl ⟨by rfl, ?_⟩) (by assumption) ?_
              rotate_left
              · intro W hSw
                (try dsimp only at hSw)
                go_simp
                (try with_reducible rfl)
              try simp only [Act.put, List.setIfInBounds_toArray, List.set_cons_zero, List.set_cons_succ]
              refine wpAnyH_take (i := 11) (oi := { dst := _, op := _, type := _, pos := _, after := _, guard := _ }) (v := ?_) rfl (by kernel_rfl) (by kernel_rfl) (by kernel_rfl) (fun _ _ _ h => h) (Or.inl ⟨by rfl, ?_⟩) (by assumption) ?_
              rotate_left
              · intro W hSw
                (try dsimp only at hSw)
                go_simp
                (try with_reducible rfl)
              try simp only [Act.put, List.setIfInBounds_toArray, List.set_cons_zero, List.set_cons_succ]
              refine wpAnyH_take (i := 12) (oi := { dst := _, op := _, type := _, pos := _, after := _, guard := _ }) (v := ?_) rfl (by kernel_rfl) (by kernel_rfl) (by kernel_rfl) (fun _ _ _ h => h) (Or.inl ⟨by rfl, ?_⟩) (by assumption) ?_
              rotate_left
              · intro W hSw
                (try dsimp only at hSw)
                go_simp
                (try with_reducible rfl)
              try simp only [Act.put, List.setIfInBounds_toArray, List.set_cons_zero, List.set_cons_succ]
              refine wpAnyH_take (i := 13) (oi := { dst := _, op := _, type := _, pos := _, after := _, guard := _ }) (v := ?_) rfl (by kernel_rfl) (by kernel_rfl) (by kernel_rfl) (fun _ _ _ h => h) (Or.inl ⟨by rfl, ?_⟩) (by assumption) ?_
              rotate_left
              · intro W hSw
                (try dsimp only at hSw)
                go_simp
                (try with_reducible rfl)
              try simp only [Act.put, List.setIfInBounds_toArray, List.set_cons_zero, List.set_cons_succ]
              refine wpAnyH_take (i := 14) (oi := { dst := _, op := _, type := _, pos := _, after := _, guard := _ }) (v := ?_) rfl (by kernel_rfl) (by kernel_rfl) (by kernel_rfl) (fun _ _ _ h => h) (Or.inl ⟨by rfl, ?_⟩) (by assumption) ?_
              rotate_left
              · intro W hSw
                (try dsimp only at hSw)
                go_simp
                (try with_reducible rfl)
              try simp only [Act.put, List.setIfInBounds_toArray, List.set_cons_zero, List.set_cons_succ]
              refine wpAnyH_take (i := 15) (oi := { dst := _, op := _, type := _, pos := _, after := _, guard := _ }) (v := ?_) rfl (by kernel_rfl) (by kernel_rfl) (by kernel_rfl) (fun _ _ _ h => h) (Or.inl ⟨by rfl, ?_⟩) (by assumption) ?_
              rotate_left
              · intro W hSw
                (try dsimp only at hSw)
                go_simp
                (try with_reducible rfl)
              try simp only [Act.put, List.setIfInBounds_toArray, List.set_cons_zero, List.set_cons_succ]
              refine wpAnyH_take (i := 16) (oi := { dst := _, op := _, type := _, pos := _, after := _, guard := _ }) (v := ?_) rfl (by kernel_rfl) (by kernel_rfl) (by kernel_rfl) (fun _ _ _ h => h) (Or.inl ⟨by rfl, ?_⟩) (by assumption) ?_
              rotate_left
              · intro W hSw
                (try dsimp only at hSw)
                go_simp
                (try with_reducible rfl)
              try simp only [Act.put, List.setIfInBounds_toArray, List.set_cons_zero, List.set_cons_succ]
              refine wpAnyH_take (i := 17) (oi := { dst := _, op := _, type := _, pos := _, after := _, guard := _ }) (v := ?_) rfl (by kernel_rfl) (by kernel_rfl) (by kernel_rfl) (fun _ _ _ h => h) (Or.inl ⟨by rfl, ?_⟩) (by assumption) ?_
              rotate_left
              · intro W hSw
                (try dsimp only at hSw)
                go_simp
                (try with_reducible rfl)
              try simp only [Act.put, List.setIfInBounds_toArray, List.set_cons_zero, List.set_cons_succ]
              refine wpAnyH_ready (rs := [18]) (by kernel_rfl) (by simp) ?_
              refine AllReadyH.cons (o := { dst := _, op := _, type := _, pos := _, after := _, guard := _ }) rfl (fun K hK => ?_) AllReadyH.nil
              go_simp
              obtain ⟨WS, hWS⟩ : ∃ WS, WS = (WD.setCell ⟨gt, i * 2, none⟩ (.int .i64 x)).setCell ⟨gt, i * 2 + 1, none⟩ (.int .i64 z) := ⟨_, rfl⟩
              rw [← hWS]
              have hN : WS = wsets WD gt (i * 2) (tf (x, z)) := hWS
              rw [← hN] at TS
              clear hWS hN
              refine hK.out _ _ ?_ (fun hHeld => ?_)
              · exact HSS.out _ TS.out.bel TS.out.ba TS.out.bb
              clear hK K
              try simp only [Act.put, List.setIfInBounds_toArray, List.set_cons_zero, List.set_cons_succ]
              refine wpAnyH_done (by kernel_rfl) ?_ _
              refine NoPanic.normal ?_
              clear hHeld k0' k1' fz hy TD
              go_wp2_with fail
              go_roundg (n - (i + 1))
              case measure => have := HI.out; have := HIL.out; omega
              case rel => exact ⟨i + 1, by first | rfl | (rw [show (i : Int) + 1 = ((i + 1 : Nat) : Int) by omega]), _, TS, ⟨HIL.out, rfl⟩⟩
            · have e1' : decide ((i : Int) < (n : Int)) = false := by rw [decide_eq_false_iff_not]; omega
              have e2' : decide (i < n) = false := by rw [decide_eq_false_iff_not]; omega
              clear hi HI
              go_wp2_with fail
              (try simp only [Exit.inBlock, Exit.then])
              refine bodyPost_end (results_none rfl _ _ _) rfl ?_
              exact ⟨⟨_, rfl⟩, re, inn, tes, HT.out.m, HT.out.l1, HT.out.l2, HT.out.l3, HT.out.bel, HT.out.trd⟩
end Go.Proofs.Ytdchopljojlcpaa
