import Derived.Test.YtbkhhegmmkcbbaaTrb
namespace Go.Proofs.Ytbkhhegmmkcbbaa
open Go.RowKit Go.Maps

theorem stx_all : ∀ (l : List Int) (i : Nat), stx l i = some l.length → rt l = some i
  | [], 0, h => rfl
  | [], i + 1, h => by cases h
  | x :: l, 0, h => by rw [stx_zero] at h; simp at h
  | x :: l, i + 1, h => by
    rw [stx_cons] at h
    split at h
    · next hx =>
      cases hq : stx l (i + x.toNat) with
      | none => rw [hq] at h; cases h
      | some q =>
        rw [hq] at h
        have hd : 1 + q = l.length + 1 := by simpa using h
        have ih := stx_all l (i + x.toNat) (by rw [hq]; congr 1; omega)
        unfold rt
        rw [ih]
        dsimp only
        rw [if_pos (by omega)]
        congr 1; omega
    · cases h
theorem stx_stop {l : List Int} {i q : Nat} (h : stx l i = some q) (hq : q < l.length) (hn : stx (l.drop q) 1 = none) : rt l = none := by
  cases hr : rt l with
  | none => rfl
  | some r =>
    have h1 := stx_rt l r hr
    have hi : i < r := by
      rcases Nat.lt_or_ge i r with h2 | h2
      · exact h2
      · have h3 := h1 r (Nat.le_refl _)
        have hw := (show Fo l from ⟨r, hr⟩).whole
        rw [Fo.top hr] at hw
        unfold wA at hw
        rw [List.drop_zero, Nat.zero_add] at hw
        rw [hw] at h3
        have h4 := (stx_sk l i q h).1
        obtain ⟨c, rfl⟩ : ∃ c, i = r + c := ⟨i - r, by omega⟩
        rw [stx_add, h3, Option.bind_some] at h
        cases hc : stx (l.drop l.length) c with
        | none => rw [hc] at h; cases h
        | some d => rw [hc] at h; have : l.length + d = q := by simpa using h
                    omega
    have h5 := h1 (i + 1) hi
    rw [stx_add, h, Option.bind_some, hn] at h5
    cases h5
theorem row_rwp {W : World} {B : Nat} {e : TypeId} {size n : Nat} {v : Value} {xs : List Value} (h : W.ownsRow B e size v n xs) (hs : 0 < size) : RwP (fun g => B ≤ g) W v n xs := by
  obtain ⟨a, g, o, cap, e', h1, h2, h3, h4⟩ := row_rw h hs
  refine ⟨a, g, o, cap, e', h1, h2, fun hn => ⟨h3 hn, ?_⟩, h4⟩
  obtain ⟨g', cap', e2, hB, _⟩ := row_form h hn
  have e3 := h3 hn
  rw [e2, e3] at e'
  cases e'
  obtain ⟨_, cur, hh⟩ := row_tag h g (by rw [e2]; rfl)
  exact ⟨hB, lt_of_heap hh⟩
/-- What Forest answers. -/
def Fkr (B : Nat) (W : World) (t : List Nd) (r : Value) : Prop := match rt (kds t) with
  | some k => ∃ ad cp fs, r = .tuple #[.slice ad k cp, .bool true] ∧ fs.map Prod.fst = pls (kds t) 0 k ∧ RwP (fun g => B ≤ g) W (.slice ad k cp) k (flat (tf t) fs) ∧ ∀ z ∈ fs, TrM (fun g => B ≤ g) W t z.1 z.2
  | none => r = .tuple #[.slice none 0 0, .bool false]
set_option maxRecDepth 100000 in
set_option maxHeartbeats 16000000 in
theorem forest_any {v : Value} {t : List Nd} (hs : t.length * 72 + 4096 ≤ 140737488355328) (w : World) (h : Ns w v t) :
    Calls Try.prog 38 #[v] w fun e w' => ∃ r, e = .returned r ∧ Fkr w.heap.size w' t r ∧ Below w.heap.size w w' := by
  obtain ⟨iT, hiT, hx0, hx1, hx2⟩ := info_parts infoTr
  have HT : Hid (Ns w v t) := h
  have HS : Hid (t.length * 72 + 4096 ≤ 140737488355328) := hs
  obtain ⟨av, cap, rfl⟩ := h.form
  clear h hs
  obtain ⟨n, hn⟩ : ∃ n, t.length = n := ⟨_, rfl⟩
  have HN : Hid (t.length = n) := hn
  rw [hn] at HT ⊢
  have HST : Hid (n * 72 + 4096 ≤ 140737488355328) := by have := HS.out; rw [hn] at this; exact this
  clear hn
  obtain ⟨B, hB⟩ : ∃ B, w.heap.size = B := ⟨_, rfl⟩
  have HB : Hid (w.heap.size = B) := hB
  rw [hB]
  clear hB
  go_enter Try.func38, Try.ntmps38
  go_upto_region 3 with fail
  go_loopg [4, 5] (n + 1) (fun gm v4 v5 wr => ∃ (i q : Nat) (fs : List (Nat × Value)), v5 = .int .i64 (q : Int) ∧ Hid (n + 1 - q ≤ gm) ∧ Hid (stx (kds t) i = some q ∧ q ≤ n) ∧ Hid (wr.ownsRow B 112 9 v4 i (flat (tf t) fs)) ∧ Hid (fs.map Prod.fst = pls (kds t) 0 i ∧ ∀ z ∈ fs, TrM (fun g => B ≤ g ∧ some g ≠ v4.ownBlock) wr t z.1 z.2) ∧ Hid (Below w.heap.size w wr ∧ B ≤ wr.heap.size))
  case atStart => exact ⟨0, 0, [], rfl, by show _ ≤ _; omega, ⟨stx_zero _, Nat.zero_le _⟩, World.ownsRow_nil _ _ _ _, ⟨rfl, fun z hz => by cases hz⟩, ⟨Below.refl _ _, by rw [HB.out]; exact Nat.le_refl _⟩⟩
  case round =>
    obtain ⟨i, q, fs, rfl, HI, HQ, HO, HFS, HBW⟩ := hrel
    obtain ⟨ka, kc, hvk⟩ := row_shape HO.out
    subst hvk
    by_cases hq : q < n
    · have f1 : decide ((q : Int) < (n : Int)) = true := by rw [decide_eq_true_eq]; omega
      have f2 : decide (q < n) = true := by rw [decide_eq_true_eq]; omega
      have HQN : Hid (q < n) := hq
      have HTK2 : Hid (Calls Try.prog 51 #[.slice av n cap, .int .i64 (q : Int)] wr fun e w' => ∃ r, e = .returned r ∧ Tkr wr.heap.size w' t q r ∧ Below wr.heap.size wr w') := take_any HS.out (t.length - q + 1) q wr (by omega) (HT.out.up HBW.out.1) (by rw [HN.out]; omega)
      have HAD : Hid (stx (kds t) (i + 1) = (stx ((kds t).drop q) 1).map (q + ·)) := by
        have h7 := stx_add (kds t) i 1
        rw [HQ.out.1, Option.bind_some] at h7
        exact h7
      have HWA : Hid (wA (kds t) 0 i = q) := by
        have h7 := (stx_sk _ _ _ HQ.out.1).1
        unfold wA; rw [List.drop_zero, h7, Nat.zero_add]; exact rfl
      clear hq
      cases hst : stx ((kds t).drop q) 1 with
      | none =>
        unfold Tkr at HTK2
        rw [hst] at HTK2
        have HTN : Hid (Calls Try.prog 51 #[.slice av n cap, .int .i64 (q : Int)] wr fun e w' => e = .returned (.tuple #[.agg (tA ndd (.slice none 0 0) 0), .int .i64 (q : Int), .bool false]) ∧ Below wr.heap.size wr w') := HTK2.out.mono (by rintro e w' ⟨r, rfl, h7, h8⟩; dsimp only at h7; exact ⟨by rw [h7], h8⟩)
        have HNO : Hid (rt (kds t) = none) := stx_stop HQ.out.1 (by rw [kds_len, HN.out]; exact HQN.out) hst
        clear hst HTK2 HAD
        unfold tA at HTN
        dsimp only [ndd] at HTN
        go_wp2_with (go_at_call 51; refine Calls.mono HTN.out ?_; rintro ee W4 ⟨rfl, hb4⟩; have HB4 : Hid (Below wr.heap.size wr W4) := hb4; clear hb4)
        (try simp only [Exit.inBlock, Exit.then])
        refine bodyPost_ret (v := .tuple #[.slice none 0 0, .bool false]) ?_ rfl ⟨_, rfl, by unfold Fkr; rw [HNO.out], by rw [← HB.out]; exact below_trans (below_trans HBW.out.1 HB4.out) (bel_up _ _)⟩
        simp [results, Try.results38, go_sem]
      | some d =>
        unfold Tkr at HTK2
        rw [hst] at HTK2 HAD
        have HTN : Hid (Calls Try.prog 51 #[.slice av n cap, .int .i64 (q : Int)] wr fun e w' => ∃ ad nn cp, e = .returned (.tuple #[.agg (tA (t.getD q ndd) (.slice ad nn cp) (q : Int)), .int .i64 ((q + d : Nat) : Int), .bool true]) ∧ TrM (fun g => wr.heap.size ≤ g) w' t q (.slice ad nn cp) ∧ Below wr.heap.size wr w') := HTK2.out.mono (by
          rintro e w' ⟨r, rfl, h7, h8⟩
          dsimp only at h7
          obtain ⟨vq, rfl, h9⟩ := h7
          obtain ⟨ad, nn, cp, rfl⟩ := h9.form
          exact ⟨ad, nn, cp, rfl, h9, h8⟩)
        have HDL : Hid (q + d ≤ n ∧ q < q + d) := by
          have h7 := (stx_sk _ _ _ hst).2
          rw [List.length_drop, kds_len, HN.out] at h7
          have := HQ.out; show _ ∧ _; omega
        have HAD2 : Hid (stx (kds t) (i + 1) = some (q + d)) := HAD.out
        clear hst HTK2 HAD
        obtain ⟨X, hX⟩ : ∃ X, t.getD q ndd = X := ⟨_, rfl⟩
        rw [hX] at HTN
        have HXQ : Hid (t.getD q ndd = X) := hX
        clear hX
        unfold tA at HTN
        obtain ⟨q', hq'⟩ : ∃ q', q + d = q' := ⟨_, rfl⟩
        rw [hq'] at HTN HDL HAD2
        clear hq'
        go_upto_region 7 with (go_at_call 51; refine Calls.mono HTN.out ?_; rintro ee W4 ⟨ad, nn, cp, rfl, htm, hb4⟩; have HB4 : Hid (Below wr.heap.size wr W4) := hb4; have HTM : Hid (TrM (fun g => wr.heap.size ≤ g) W4 t q (.slice ad nn cp)) := htm; clear hb4 htm)
        obtain ⟨W5, hW5⟩ : ∃ W5, W4.alloc (.cells #[.string X.nm, .bool X.nd, .string X.fd, .int .i64 X.fr, .int .i64 X.tt, .int .i64 X.kd, .int .i64 X.lf, .slice ad nn cp, .int .i64 (q : Int)] 112) = W5 := ⟨_, rfl⟩
        have HK5 : Hid (W5.heap[W4.heap.size]? = some (.cells #[.string X.nm, .bool X.nd, .string X.fd, .int .i64 X.fr, .int .i64 X.tt, .int .i64 X.kd, .int .i64 X.lf, .slice ad nn cp, .int .i64 (q : Int)] 112 (0, 0))) := by rw [← hW5]; exact heap_new _ _
        have HB5 : Hid (Below wr.heap.size wr W5) := by rw [← hW5]; exact below_trans HB4.out (bel_up _ _)
        have HT5 : Hid (TrM (fun g => wr.heap.size ≤ g) W5 t q (.slice ad nn cp)) := by rw [← hW5]; exact HTM.out.up (bel_up _ _)
        rw [hW5]
        clear hW5 HTM
        obtain ⟨kb, hkb⟩ : ∃ kb, W4.heap.size = kb := ⟨_, rfl⟩
        rw [hkb] at HK5 ⊢
        clear hkb
        have HO5 : Hid (W5.ownsRow B 112 9 (.slice ka i kc) i (flat (tf t) fs)) := row_up HO.out HB5.out
        have k0 := rcell HK5.out 0 _ rfl
        have k1 := rcell HK5.out 1 _ rfl
        have k2 := rcell HK5.out 2 _ rfl
        have k3 := rcell HK5.out 3 _ rfl
        have k4 := rcell HK5.out 4 _ rfl
        have k5 := rcell HK5.out 5 _ rfl
        have k6 := rcell HK5.out 6 _ rfl
        have k7 := rcell HK5.out 7 _ rfl
        have k8 := rcell HK5.out 8 _ rfl
        have HROW : Hid ((W5.alloc (.cells #[.string X.nm, .bool X.nd, .string X.fd, .int .i64 X.fr, .int .i64 X.tt, .int .i64 X.kd, .int .i64 X.lf, .slice ad nn cp, .int .i64 (q : Int)] 112)).ownsRow B 112 9 (.slice ka i kc) i (flat (tf t) fs)) := HO5.out.alloc _
        have HSA : Hid (B ≤ (W5.alloc (.cells #[.string X.nm, .bool X.nd, .string X.fd, .int .i64 X.fr, .int .i64 X.tt, .int .i64 X.kd, .int .i64 X.lf, .slice ad nn cp, .int .i64 (q : Int)] 112)).heap.size) := Nat.le_trans HBW.out.2 (Nat.le_trans HB5.out.size (bel_up _ _).size)
        have HMX : Hid (i + 1 ≤ maxLen ∧ Builtin.nextslicecap (i + 1) i * 104 ≤ 281474976710656) := by
          have h7 := (stx_sk _ _ _ HAD2.out).2
          rw [kds_len, HN.out] at h7
          have h9 := HST.out
          show _ ∧ _; unfold maxLen
          exact ⟨by omega, cap_fit i (by omega)⟩
        have HCW : Hid (∀ j u, (tf t (q, Value.slice ad nn cp))[j]? = some u → (W5.alloc (.cells #[.string X.nm, .bool X.nd, .string X.fd, .int .i64 X.fr, .int .i64 X.tt, .int .i64 X.kd, .int .i64 X.lf, .slice ad nn cp, .int .i64 (q : Int)] 112)).cell? ((⟨W5.heap.size, 0, none⟩ : Addr).add j) = some u) := by
          have h7 := World.news_of_block (heap_new W5 (.cells #[.string X.nm, .bool X.nd, .string X.fd, .int .i64 X.fr, .int .i64 X.tt, .int .i64 X.kd, .int .i64 X.lf, .slice ad nn cp, .int .i64 (q : Int)] 112))
          intro j u hu
          refine h7 j u ?_
          unfold tf at hu
          rw [HXQ.out] at hu
          exact hu
        have HTF : Hid (∀ u ∈ tf t (q, Value.slice ad nn cp), u.oneCell' = true) := by
          intro u hu
          unfold tf at hu
          rcases List.mem_append.1 hu with hu | hu
          · exact nf_one _ u hu
          · simp only [List.mem_cons, List.not_mem_nil, or_false] at hu
            rcases hu with rfl | rfl <;> rfl
        have HOBK : Hid (∀ r, Value.ownBlock (.slice ka i kc) = some r → B ≤ r ∧ r < wr.heap.size) := fun r hr => by
          obtain ⟨h7, cur, h8⟩ := row_tag HO.out r hr
          exact ⟨h7, lt_of_heap h8⟩
        go_wp2_with (at_builtin; refine wpList_append_one _ rfl _ _ 95 rfl B 112 iT _ 9 104 Try.underlying95 hiT hx0 hx1 hx2 rfl _ _ _ rfl HROW.out ⟨W5.heap.size, 0, none⟩ 1 (tf t (q, Value.slice ad nn cp)) rfl rfl HCW.out HTF.out HMX.out.1 HMX.out.2 HSA.out ?_; intro v6 W6 ho6 hg6 ha6; have HO6 : Hid (W6.ownsRow B 112 9 v6 (i + 1) (flat (tf t) (fs ++ [(q, Value.slice ad nn cp)]))) := (by rw [flat_app, show flat (tf t) [(q, Value.slice ad nn cp)] = tf t (q, Value.slice ad nn cp) from List.append_nil _]; exact ho6); have HG6 : Hid ((W5.alloc (.cells #[.string X.nm, .bool X.nd, .string X.fd, .int .i64 X.fr, .int .i64 X.tt, .int .i64 X.kd, .int .i64 X.lf, .slice ad nn cp, .int .i64 (q : Int)] 112)).grownBy W6 (Value.ownBlock (.slice ka i kc))) := hg6; have HA6 : Hid (v6.ownBlock = Value.ownBlock (.slice ka i kc) ∨ v6.ownBlock = some (W5.alloc (.cells #[.string X.nm, .bool X.nd, .string X.fd, .int .i64 X.fr, .int .i64 X.tt, .int .i64 X.kd, .int .i64 X.lf, .slice ad nn cp, .int .i64 (q : Int)] 112)).heap.size) := ha6; obtain ⟨b6, d6, rfl⟩ := row_shape ho6; clear ho6 hg6 ha6)
        have hSZ7 : W5.heap.size ≤ W6.heap.size := Nat.le_trans (bel_up W5 (.cells #[.string X.nm, .bool X.nd, .string X.fd, .int .i64 X.fr, .int .i64 X.tt, .int .i64 X.kd, .int .i64 X.lf, .slice ad nn cp, .int .i64 (q : Int)] 112)).size HG6.out.size
        have hNB : ∀ g, g < W5.heap.size → some g ≠ Value.ownBlock (.slice ka i kc) → some g ≠ Value.ownBlock (.slice b6 (i + 1) d6) := fun g h1 h2 e => by
          rcases HA6.out with h3 | h3
          · rw [h3] at e; exact h2 e
          · rw [h3] at e
            have h5 := Option.some.inj e
            simp at h5
            omega
        go_roundg (n + 1 - q')
        case measure => have := HI.out; have := HQN.out; have := HDL.out; omega
        case rel =>
          refine ⟨i + 1, q', fs ++ [(q, Value.slice ad nn cp)], rfl, Nat.le_refl _, ⟨HAD2.out, HDL.out.1⟩, HO6, ⟨?_, fun z hz => ?_⟩, ?_, Nat.le_trans HBW.out.2 (Nat.le_trans HB5.out.size hSZ7)⟩
          · rw [List.map_append, HFS.out.1, pls_succ, HWA.out]; rfl
          · rcases List.mem_append.1 hz with hz | hz
            · refine (HFS.out.2 z hz).keep (Nat.le_trans HB5.out.size hSZ7) fun g h1 h2 => ⟨?_, h1.1, hNB g (Nat.lt_of_lt_of_le h2 HB5.out.size) h1.2⟩
              rw [HG6.out.block g (Nat.lt_of_lt_of_le h2 (Nat.le_trans HB5.out.size (bel_up W5 _).size)) h1.2, (bel_up W5 _).block g (Nat.lt_of_lt_of_le h2 HB5.out.size), HB5.out.block g h2]
            · simp only [List.mem_cons, List.not_mem_nil, or_false] at hz
              subst hz
              have hno : ∀ g, wr.heap.size ≤ g → some g ≠ Value.ownBlock (.slice ka i kc) := fun g h1 e => by have := (HOBK.out g e.symm).2; omega
              refine HT5.out.keep hSZ7 fun g h1 h2 => ⟨?_, Nat.le_trans HBW.out.2 h1, hNB g h2 (hno g h1)⟩
              rw [HG6.out.block g (Nat.lt_of_lt_of_le h2 (bel_up W5 _).size) (hno g h1), (bel_up W5 _).block g h2]
          · have h1 : Below w.heap.size w W5 := below_trans HBW.out.1 HB5.out
            exact bel_app h1 h1.size (row_base HO5.out (by rw [HB.out]; exact Nat.le_refl _)) HG6.out
    · have f1 : decide ((q : Int) < (n : Int)) = false := by rw [decide_eq_false_iff_not]; omega
      have f2 : decide (q < n) = false := by rw [decide_eq_false_iff_not]; omega
      have HRT : Hid (rt (kds t) = some i) := stx_all _ _ (by rw [kds_len, HN.out, show n = q by have := HQ.out; omega]; exact HQ.out.1)
      clear hq
      go_wp2_with fail
      (try simp only [Exit.inBlock, Exit.then])
      refine bodyPost_ret (v := .tuple #[.slice ka i kc, .bool true]) ?_ rfl ⟨_, rfl, ?_, by rw [← HB.out]; exact HBW.out.1⟩
      · simp [results, Try.results38, go_sem]
      · unfold Fkr
        rw [HRT.out]
        exact ⟨ka, kc, fs, rfl, HFS.out.1, row_rwp HO.out (by decide), fun z hz => (HFS.out.2 z hz).keep (Nat.le_refl _) fun g h1 h2 => ⟨rfl, h1.1⟩⟩
end Go.Proofs.Ytbkhhegmmkcbbaa
