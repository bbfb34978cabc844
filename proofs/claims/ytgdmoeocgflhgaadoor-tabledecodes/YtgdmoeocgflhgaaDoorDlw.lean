import Derived.Test.YtgdmoeocgflhgaaDoorDrd
import Derived.Test.YtgdmoeocgflhgaaDoorDtl
import Derived.Test.YtgdmoeocgflhgaaDoorTbs
namespace Go.Proofs.YtgdmoeocgflhgaaDoor
open Go.RowKit Go.Maps

theorem rds_mem {α : Type} {f : Nat → Except Nat (α × Nat)} : ∀ (k p : Nat) (l : List α) (q : Nat), rds f k p = .ok (l, q) → ∀ x ∈ l, ∃ a b, f a = .ok (x, b)
  | 0, p, l, q, h, x, hx => by cases h; cases hx
  | k + 1, p, l, q, h, x, hx => by
    rw [rds] at h
    cases h1 : f p with
    | error b => rw [h1] at h; cases h
    | ok y =>
      obtain ⟨y, t⟩ := y
      rw [h1] at h
      dsimp only at h
      cases h2 : rds f k t with
      | error b => rw [h2] at h; cases h
      | ok m =>
        obtain ⟨m, u⟩ := m
        rw [h2] at h
        cases h
        rcases List.mem_cons.1 hx with rfl | hx
        · exact ⟨p, t, h1⟩
        · exact rds_mem k t m _ h2 x hx
theorem dec_small {s : ByteArray} {T : List (List Ak)} {U : List (List Int)} (h : dec s = .ok (T, U)) : T.length ≤ 2048 ∧ U.length ≤ 2048 ∧ (∀ x ∈ T, x.length ≤ 64) ∧ (∀ x ∈ U, x.length ≤ 128) := by
  unfold dec at h
  cases h0 : szs s with
  | error b => rw [h0] at h; cases h
  | ok y =>
    obtain ⟨n, tk, sy, p⟩ := y
    rw [h0] at h
    dsimp only at h
    have hz := szs_le h0
    cases h1 : rds (rds (actR n s) tk) n p with
    | error b => rw [h1] at h; cases h
    | ok y =>
      obtain ⟨T', q⟩ := y
      rw [h1] at h
      dsimp only at h
      cases h2 : rds (rds (entR n s) sy) n q with
      | error b => rw [h2] at h; cases h
      | ok y =>
        obtain ⟨U', u⟩ := y
        rw [h2] at h
        dsimp only at h
        by_cases hu : u < s.size
        · rw [if_pos hu] at h; cases h
        · rw [if_neg hu] at h
          cases h
          refine ⟨by rw [rds_len _ _ _ _ h1]; exact hz.1, by rw [rds_len _ _ _ _ h2]; exact hz.1, fun x hx => ?_, fun x hx => ?_⟩
          · obtain ⟨a, b, h9⟩ := rds_mem _ _ _ _ h1 x hx
            rw [rds_len _ _ _ _ h9]
            exact hz.2.1
          · obtain ⟨a, b, h9⟩ := rds_mem _ _ _ _ h2 x hx
            rw [rds_len _ _ _ _ h9]
            exact hz.2.2
theorem ts_of {s : ByteArray} {A : List (Value × List Ak)} {G : List (Value × List Int)} (h : dec s = .ok (A.map Prod.snd, G.map Prod.snd)) : Ts A G := by
  obtain ⟨h1, h2, h3, h4⟩ := dec_small h
  rw [List.length_map] at h1 h2
  exact ⟨by omega, by omega, fun x hx => by have := h3 x.2 (List.mem_map_of_mem hx); omega, fun x hx => by have := h4 x.2 (List.mem_map_of_mem hx); omega⟩
theorem ts_nil : Ts ([] : List (Value × List Ak)) ([] : List (Value × List Int)) := ⟨by decide, by decide, fun x hx => (by cases hx), fun x hx => (by cases hx)⟩
theorem tb_nil (W : World) : Tb W (.slice none 0 0) (.slice none 0 0) [] [] := ⟨⟨Rw.nil W, fun x hx => by cases hx⟩, ⟨Rw.nil W, fun x hx => by cases hx⟩⟩
set_option maxRecDepth 100000 in
set_option maxHeartbeats 16000000 in
theorem tableDecodes_any {s : ByteArray} {sa : Addr} (hs : s.size ≤ 140737488355328) (w : World) (hn : Sn w sa) (hg : Gt w) :
    Calls Tryd.prog 3 #[.string s] w fun e w' => e = .returned (.bool true) ∧ Below w.heap.size w w' := by
  have HS : Hid (s.size ≤ 140737488355328) := hs
  have HGT : Hid (Gt w) := hg
  have HC4 : Hid (Calls Tryd.prog 4 #[.string s] w fun e w' => Dq (dec s) e w' ∧ Below w.heap.size w w') := decode_any hs w hn hg
  have HC5 : Hid (∀ W, Calls Tryd.prog 5 #[.string s] W fun e w' => Rq (dec s) e w' ∧ Below W.heap.size W w') := fun W => rdecode_any hs W
  clear hs hn hg
  obtain ⟨D, hD⟩ : ∃ D, dec s = D := ⟨_, rfl⟩
  have HD : Hid (dec s = D) := hD
  rw [hD] at HC4 HC5
  clear hD
  go_enter Tryd.func3, Tryd.ntmps3
  cases D with
  | ok y =>
    obtain ⟨T, U⟩ := y
    go_upto_region 2 with (go_at_call 4; refine Calls.mono HC4.out ?_; rintro e W1 ⟨⟨v0, v1, A, G, rfl, ht, ha, hg⟩, hb⟩; have T1 : Hid (Tb W1 v0 v1 A G ∧ A.map Prod.snd = T ∧ G.map Prod.snd = U) := ⟨ht, ha, hg⟩; have B1 : Hid (Below w.heap.size w W1) := hb; obtain ⟨m0, n0, m1, n1, rfl, rfl⟩ := ht.form; clear ht ha hg hb)
    obtain ⟨z0, hz0⟩ : ∃ z, A.length = z := ⟨_, rfl⟩
    obtain ⟨z1, hz1⟩ : ∃ z, G.length = z := ⟨_, rfl⟩
    rw [hz0, hz1] at T1 ⊢
    clear hz0 hz1
    obtain ⟨W2, hW2⟩ : ∃ W2, W2 = W1.alloc (.cells #[(.slice m0 z0 n0), (.slice m1 z1 n1)] 25) := ⟨_, rfl⟩
    rw [← hW2]
    have X2 : Hid (W2.heap[W1.heap.size]? = some (.cells #[(.slice m0 z0 n0), (.slice m1 z1 n1)] 25 (0, 0))) := by rw [hW2]; exact heap_new _ _
    have U2 : Hid (Below W1.heap.size W1 W2) := by rw [hW2]; exact bel_up _ _
    clear hW2
    obtain ⟨tb, htb⟩ : ∃ x, W1.heap.size = x := ⟨_, rfl⟩
    rw [htb] at X2 ⊢
    clear htb
    go_upto_region 3 with (go_at_call 5; refine Calls.mono (HC5.out W2) ?_; rintro e W3 ⟨⟨u0, u1, A', G', rfl, ht, ha, hg⟩, hb⟩; have T3 : Hid (Tb W3 u0 u1 A' G' ∧ A'.map Prod.snd = T ∧ G'.map Prod.snd = U) := ⟨ht, ha, hg⟩; have B3 : Hid (Below W2.heap.size W2 W3) := hb; obtain ⟨k0, l0, k1, l1, rfl, rfl⟩ := ht.form; clear ht ha hg hb)
    obtain ⟨y0, hy0⟩ : ∃ z, A'.length = z := ⟨_, rfl⟩
    obtain ⟨y1, hy1⟩ : ∃ z, G'.length = z := ⟨_, rfl⟩
    rw [hy0, hy1] at T3 ⊢
    clear hy0 hy1
    obtain ⟨W4, hW4⟩ : ∃ W4, W4 = W3.alloc (.cells #[(.slice k0 y0 l0), (.slice k1 y1 l1)] 25) := ⟨_, rfl⟩
    rw [← hW4]
    have X4 : Hid (W4.heap[W3.heap.size]? = some (.cells #[(.slice k0 y0 l0), (.slice k1 y1 l1)] 25 (0, 0))) := by rw [hW4]; exact heap_new _ _
    have U4 : Hid (Below W3.heap.size W3 W4) := by rw [hW4]; exact bel_up _ _
    clear hW4
    obtain ⟨ub, hub⟩ : ∃ x, W3.heap.size = x := ⟨_, rfl⟩
    rw [hub] at X4 ⊢
    clear hub
    go_upto_region 4 with (go_at_call 6; refine Calls.mono (told_nil W4) ?_; rintro e W5 ⟨rfl, hb⟩; have B5 : Hid (Below W4.heap.size W4 W5) := hb; clear hb)
    have Y4 : Hid (Below W2.heap.size W2 W5) := below_trans B3.out (below_trans U4.out B5.out)
    have Y0 : Hid (Below w.heap.size w W5) := below_trans B1.out (below_trans U2.out Y4.out)
    have X2' : Hid (W5.heap[tb]? = some (.cells #[(.slice m0 z0 n0), (.slice m1 z1 n1)] 25 (0, 0))) := (Y4.out.block _ (lt_of_heap X2.out)).trans X2.out
    have X4' : Hid (W5.heap[ub]? = some (.cells #[(.slice k0 y0 l0), (.slice k1 y1 l1)] 25 (0, 0))) := (B5.out.block _ (lt_of_heap X4.out)).trans X4.out
    have TA : Hid (Tb W5 (.slice m0 z0 n0) (.slice m1 z1 n1) A G) := T1.out.1.up (below_trans U2.out Y4.out)
    have TU : Hid (Tb W5 (.slice k0 y0 l0) (.slice k1 y1 l1) A' G') := T3.out.1.up (below_trans U4.out B5.out)
    have HTS : Hid (Ts A G) := ts_of (s := s) (by rw [HD.out, T1.out.2.1, T1.out.2.2])
    have a0 := rcell X2'.out 0 _ rfl
    have a1 := rcell X2'.out 1 _ rfl
    have c0 := rcell X4'.out 0 _ rfl
    have c1 := rcell X4'.out 1 _ rfl
    go_wp2_with (go_at_call 7; refine Calls.mono (same_any W5 TA.out TU.out (T3.out.2.1.trans T1.out.2.1.symm) (T3.out.2.2.trans T1.out.2.2.symm) HTS.out) ?_; rintro e W6 ⟨rfl, hb⟩; have B6 : Hid (Below W5.heap.size W5 W6) := hb; clear hb)
    go_ret
    exact ⟨rfl, below_trans Y0.out B6.out⟩
  | error b =>
    go_upto_region 2 with (go_at_call 4; refine Calls.mono HC4.out ?_; rintro e W1 ⟨⟨pb, rfl, hp⟩, hb⟩; have P1 : Hid (W1.heap[pb]? = some (.cells #[.int .i64 131, .int .i64 (b : Int)] 58 (0, 0))) := hp; have B1 : Hid (Below w.heap.size w W1) := hb; clear hp hb)
    obtain ⟨W2, hW2⟩ : ∃ W2, W2 = W1.alloc (.cells #[.slice none 0 0, .slice none 0 0] 25) := ⟨_, rfl⟩
    rw [← hW2]
    have X2 : Hid (W2.heap[W1.heap.size]? = some (.cells #[.slice none 0 0, .slice none 0 0] 25 (0, 0))) := by rw [hW2]; exact heap_new _ _
    have U2 : Hid (Below W1.heap.size W1 W2) := by rw [hW2]; exact bel_up _ _
    clear hW2
    obtain ⟨tb, htb⟩ : ∃ x, W1.heap.size = x := ⟨_, rfl⟩
    rw [htb] at X2 ⊢
    clear htb
    go_upto_region 3 with (go_at_call 5; refine Calls.mono (HC5.out W2) ?_; rintro e W3 ⟨hr, hb⟩; have hr' : e = .returned (.tuple #[.agg #[.slice none 0 0, .slice none 0 0], .int .i64 (b : Int)]) := hr; subst hr'; have B3 : Hid (Below W2.heap.size W2 W3) := hb; clear hb hr)
    obtain ⟨W4, hW4⟩ : ∃ W4, W4 = W3.alloc (.cells #[.slice none 0 0, .slice none 0 0] 25) := ⟨_, rfl⟩
    rw [← hW4]
    have X4 : Hid (W4.heap[W3.heap.size]? = some (.cells #[.slice none 0 0, .slice none 0 0] 25 (0, 0))) := by rw [hW4]; exact heap_new _ _
    have U4 : Hid (Below W3.heap.size W3 W4) := by rw [hW4]; exact bel_up _ _
    clear hW4
    obtain ⟨ub, hub⟩ : ∃ x, W3.heap.size = x := ⟨_, rfl⟩
    rw [hub] at X4 ⊢
    clear hub
    have Y2 : Hid (Below W1.heap.size W1 W4) := below_trans U2.out (below_trans B3.out U4.out)
    have P4 : Hid (W4.heap[pb]? = some (.cells #[.int .i64 131, .int .i64 (b : Int)] 58 (0, 0))) := (Y2.out.block _ (lt_of_heap P1.out)).trans P1.out
    have G4 : Hid (Gt W4) := HGT.out.up (below_trans B1.out Y2.out)
    go_upto_region 4 with (go_at_call 6; refine Calls.mono (told_err W4 P4.out G4.out) ?_; rintro e W5 ⟨rfl, hb⟩; have B5 : Hid (Below W4.heap.size W4 W5) := hb; clear hb)
    have Y4 : Hid (Below W2.heap.size W2 W5) := below_trans B3.out (below_trans U4.out B5.out)
    have Y0 : Hid (Below w.heap.size w W5) := below_trans B1.out (below_trans U2.out Y4.out)
    have X2' : Hid (W5.heap[tb]? = some (.cells #[.slice none 0 0, .slice none 0 0] 25 (0, 0))) := (Y4.out.block _ (lt_of_heap X2.out)).trans X2.out
    have X4' : Hid (W5.heap[ub]? = some (.cells #[.slice none 0 0, .slice none 0 0] 25 (0, 0))) := (B5.out.block _ (lt_of_heap X4.out)).trans X4.out
    have a0 := rcell X2'.out 0 _ rfl
    have a1 := rcell X2'.out 1 _ rfl
    have c0 := rcell X4'.out 0 _ rfl
    have c1 := rcell X4'.out 1 _ rfl
    have hb0 : decide ((b : Int) < 0) = false := by rw [decide_eq_false_iff_not]; omega
    go_wp2_with (go_at_call 7; refine Calls.mono (same_any W5 (tb_nil W5) (tb_nil W5) rfl rfl ts_nil) ?_; rintro e W6 ⟨rfl, hb⟩; have B6 : Hid (Below W5.heap.size W5 W6) := hb; clear hb)
    go_ret
    exact ⟨rfl, below_trans Y0.out B6.out⟩
end Go.Proofs.YtgdmoeocgflhgaaDoor
