import Derived.Test.YticheeacbajeeaaOns
namespace Go.Proofs.Yticheeacbajeeaa
open Go.RowKit Go.Maps

def syf (x : Sy) : List Value := [.string x.nm, .string x.cl, .int .i64 x.fr, .int .i64 x.tt, .int .i64 x.dp]
theorem syf_len (x : Sy) : (syf x).length = 5 := rfl
theorem syf_one (x : Sy) : ∀ u ∈ syf x, u.oneCell' = true := fun u hu => by
  simp only [syf, List.mem_cons, List.not_mem_nil, or_false] at hu
  rcases hu with rfl | rfl | rfl | rfl | rfl <;> rfl
theorem infoSy : (Try.prog.info? 59).map (fun i => (i.zero, i.size, i.bytes)) = some (some (.agg #[.string ⟨#[]⟩, .string ⟨#[]⟩, .int .i64 0, .int .i64 0, .int .i64 0]), 5, 56) := by kernel_rfl
/-- What is open ahead of a place. -/
def hdd (l : List Int) (S : Nat → Bool) : Nat → List Nat
  | 0 => []
  | i + 1 => opn l S i ++ (if S i then [i] else [])
theorem hdd_filter (l : List Int) (S : Nat → Bool) : ∀ a, (hdd l S a).filter (fun b => decide (a < eA l b)) = opn l S a
  | 0 => rfl
  | i + 1 => (opn_succ l S i).symm
theorem hdd_fall {l : List Int} (h : Fo l) (S : Nat → Bool) : ∀ a, a ≤ l.length → (hdd l S a).Pairwise (fun b c => eA l c ≤ eA l b)
  | 0, _ => .nil
  | i + 1, ha => opn_app_fall h S i (by omega)
theorem opn_len (l : List Int) (S : Nat → Bool) (a : Nat) : (opn l S a).length ≤ a := by
  unfold opn
  have := List.length_filter_le (fun b => S b && decide (a < eA l b)) (List.range a)
  rwa [List.length_range] at this
theorem hdd_len (l : List Int) (S : Nat → Bool) : ∀ a, (hdd l S a).length ≤ a
  | 0 => Nat.le_refl _
  | i + 1 => by
    have := opn_len l S i
    unfold hdd
    rw [List.length_append]
    cases S i <;> simp <;> omega
/-- The ends as numbers. -/
def enI (l : List Int) (H : List Nat) : List Int := H.map fun b => ((eA l b : Nat) : Int)
theorem enI_len (l : List Int) (H : List Nat) : (enI l H).length = H.length := by unfold enI; simp
theorem enI_get (l : List Int) (H : List Nat) (j : Nat) (h : j < H.length) : (enI l H).getD j 0 = ((eA l (H.getD j 0) : Nat) : Int) := by
  unfold enI
  simp [List.getD_eq_getElem?_getD, List.getElem?_map, List.getElem?_eq_getElem h]
theorem own_trunc {W : World} {B : Nat} {e : TypeId} {size n cap : Nat} {a : Option Addr} {xs : List Value} (h : W.ownsRow B e size (.slice a n cap) n xs) (k : Nat) (hk : k ≤ n) : W.ownsRow B e size (.slice a k cap) k (xs.take (k * size)) := by
  have hm : k * size ≤ n * size := Nat.mul_le_mul_right _ hk
  refine ⟨by rw [List.length_take, h.1]; omega, ?_⟩
  rcases h.2 with ⟨h1, h2⟩ | ⟨g, c, cur, h0, h1, h2, h3, h4, h5, h6⟩
  · obtain ⟨rfl, rfl, rfl⟩ := Value.slice.inj h1
    exact .inl ⟨by have : k = 0 := by omega
                   rw [this], by omega⟩
  · obtain ⟨rfl, -, rfl⟩ := Value.slice.inj h0
    refine .inr ⟨g, cap, cur, rfl, h1, h2, by omega, h4, h5, ?_⟩
    rw [← h6, List.take_take]
    congr 1
    omega
set_option maxRecDepth 100000 in
set_option maxHeartbeats 16000000 in
theorem symbols_any {b : Nat} {M : List Pa} {T : List Nd} {s : ByteArray} {ma na ba : Option Addr} {mc nc bc mb mn : Nat} (w : World) (h : Sh w b M T s ma na ba mc nc bc mb mn) (hf : Fo (kds T)) (hz : T.length * 72 + 4096 ≤ 140737488355328) (hl : M.length * 32 ≤ 140737488355328) (ht : ∀ x ∈ T, x.nm.size ≤ 140737488355328) (hL : lie T s.size = true) : Calls Try.prog 23 #[.pointer (some ⟨b, 0, none⟩)] w fun e w' => ∃ v, e = .returned v ∧ w'.ownsRow w.heap.size 59 5 v (sys M T s T.length).length (flat syf (sys M T s T.length)) ∧ Below w.heap.size w w' := by
  obtain ⟨iY, hiY, hy0, hy1, hy2⟩ := info_parts infoSy
  obtain ⟨iI, hiI, hw0, hw1, hw2⟩ := info_parts infoI
  have HS : Hid (Sh w b M T s ma na ba mc nc bc mb mn) := h
  have HF : Hid (Fo (kds T)) := hf
  have HLI : Hid (lie T s.size = true) := hL
  have HTN : Hid (∀ x ∈ T, x.nm.size ≤ 140737488355328) := ht
  obtain ⟨n, hn⟩ : ∃ n, T.length = n := ⟨_, rfl⟩
  have HN : Hid (T.length = n ∧ n * 72 + 4096 ≤ 140737488355328 ∧ (kds T).length = n) := ⟨hn, by rw [← hn]; exact hz, by rw [kds_len]; exact hn⟩
  have HCA : Hid (∀ W, Below w.heap.size w W → ∀ a, a < n → Calls Try.prog 37 #[.pointer (some ⟨b, 0, none⟩), .int .i64 (a : Int)] W fun e w' => e = .returned (.int .i64 (opi (cal M T a))) ∧ Below W.heap.size W w') := fun W hW a ha => caller_any W (h.up hW) hf hz hl (fun x hx => by have := ht x hx; unfold maxLen; omega) a (by rw [hn]; exact ha)
  have HCL : Hid (∀ W, Below w.heap.size w W → W.cell? ⟨b, 2, none⟩ = some (.slice na n nc) ∧ W.cell? ⟨b, 3, none⟩ = some (.slice ba n bc) ∧ W.cell? ⟨b, 4, none⟩ = some (.string s)) := fun W hW => by
    have hcl := (h.up hW).cl
    rw [hn] at hcl
    exact ⟨rcell hcl 2 _ rfl, rcell hcl 3 _ rfl, rcell hcl 4 _ rfl⟩
  have HEN : Hid (∀ W, Below w.heap.size w W → ∀ a, a < n → ∃ bg bo, ba = some ⟨bg, bo, none⟩ ∧ W.cell? ⟨bg, bo + a, none⟩ = some (.int .i64 ((eA (kds T) a : Nat) : Int))) := fun W hW a ha => (h.up hW).endat a (by rw [hn]; exact ha)
  rw [hn]
  obtain ⟨q2, -, -⟩ := HCL.out w (Below.refl _ _)
  clear h hf hz hl ht hL hn
  go_enter Try.func23, Try.ntmps23
  go_upto_region 4 with fail
  clear q2
  go_loopg [3, 4, 14] n (fun gm v3 v4 v14 wr => ∃ i : Nat, v14 = .int .i64 (i : Int) ∧ Hid (i ≤ n ∧ gm = n - i) ∧ Hid (wr.ownsRow w.heap.size 59 5 v3 (sys M T s i).length (flat syf (sys M T s i))) ∧ Hid (wr.ownsRow w.heap.size 3 1 v4 (hdd (kds T) (isS M T) i).length (iC (enI (kds T) (hdd (kds T) (isS M T) i)))) ∧ Hid (Below w.heap.size w wr))
  case atStart => exact ⟨0, rfl, ⟨Nat.zero_le _, rfl⟩, World.ownsRow_nil _ _ _ _, World.ownsRow_nil _ _ _ _, Below.refl _ _⟩
  case round =>
    obtain ⟨i, rfl, HI, HOS, HOP, HB⟩ := hrel
    obtain ⟨oa, oc, hov⟩ := row_shape HOS.out
    subst hov
    obtain ⟨pa, pc, hpv⟩ := row_shape HOP.out
    subst hpv
    by_cases hi : i < n
    · have e1 : decide ((i : Int) < (n : Int)) = true := by rw [decide_eq_true_eq]; omega
      have e2 : decide (i < n) = true := by rw [decide_eq_true_eq]; omega
      have b1 : (i : Int) < (n : Int) := by omega
      have b0 : (0 : Int) ≤ (i : Int) := by omega
      have HIL : Hid (i < n ∧ i < T.length) := ⟨hi, by rw [HN.out.1]; exact hi⟩
      have hwi := w64n i (by have := HN.out; omega)
      have HWI : Hid (IntKind.i64.wrap ((i : Int) + 1) = (i : Int) + 1) := by rw [hwi]; rfl
      obtain ⟨ng, no, hna, hq⟩ := (by have h9 := HS.out.nd; rw [HN.out.1] at h9; exact Ns.seven h9 i HIL.out.2 : ∃ g o, na = some ⟨g, o, none⟩ ∧ ∀ W', Below w.heap.size w W' → W'.cell? ⟨g, o + i * 7, none⟩ = some (.string (T.getD i ndd).nm) ∧ W'.cell? ⟨g, o + i * 7 + 1, none⟩ = some (.bool (T.getD i ndd).nd) ∧ W'.cell? ⟨g, o + i * 7 + 2, none⟩ = some (.string (T.getD i ndd).fd) ∧ W'.cell? ⟨g, o + i * 7 + 3, none⟩ = some (.int .i64 (T.getD i ndd).fr) ∧ W'.cell? ⟨g, o + i * 7 + 4, none⟩ = some (.int .i64 (T.getD i ndd).tt) ∧ W'.cell? ⟨g, o + i * 7 + 5, none⟩ = some (.int .i64 (T.getD i ndd).kd) ∧ W'.cell? ⟨g, o + i * 7 + 6, none⟩ = some (.int .i64 (T.getD i ndd).lf))
      subst hna
      obtain ⟨t0, t1, t2, t3, t4, t5, t6⟩ := hq wr HB.out
      have HNS : Hid ((T.getD i ndd).nm.size ≤ 140737488355328) := HTN.out _ (by rw [List.getD_eq_getElem?_getD, List.getElem?_eq_getElem HIL.out.2]; exact List.getElem_mem HIL.out.2)
      obtain ⟨y, hy⟩ : ∃ y, T.getD i ndd = y := ⟨_, rfl⟩
      have HY : Hid (T.getD i ndd = y) := hy
      rw [hy] at t0 t1 t2 t3 t4 t5 t6 HNS
      obtain ⟨w2, hw2'⟩ : ∃ w2, w2 = wr.alloc (.cells #[.string y.nm, .bool y.nd, .string y.fd, .int .i64 y.fr, .int .i64 y.tt, .int .i64 y.kd, .int .i64 y.lf] 50) := ⟨_, rfl⟩
      have HB2 : Hid (Below wr.heap.size wr w2) := by rw [hw2']; exact bel_up _ _
      have hn2 : w2.heap[wr.heap.size]? = some (.cells #[.string y.nm, .bool y.nd, .string y.fd, .int .i64 y.fr, .int .i64 y.tt, .int .i64 y.kd, .int .i64 y.lf] 50 (0, 0)) := by rw [hw2']; exact heap_new wr _
      clear hi hq hy
      go_upto_region 6 with fail
      rw [← hw2']
      obtain ⟨nb, hnb⟩ : ∃ nb, wr.heap.size = nb := ⟨_, rfl⟩
      rw [hnb] at hn2 ⊢
      have HND : Hid (w2.heap[nb]? = some (.cells #[.string y.nm, .bool y.nd, .string y.fd, .int .i64 y.fr, .int .i64 y.tt, .int .i64 y.kd, .int .i64 y.lf] 50 (0, 0))) := hn2
      have HBW2 : Hid (Below w.heap.size w w2) := below_trans HB.out HB2.out
      have HOP2 : Hid (w2.ownsRow w.heap.size 3 1 (.slice pa (hdd (kds T) (isS M T) i).length pc) (hdd (kds T) (isS M T) i).length (iC (enI (kds T) (hdd (kds T) (isS M T) i)))) := row_up HOP.out HB2.out
      have HOS2 : Hid (w2.ownsRow w.heap.size 59 5 (.slice oa (sys M T s i).length oc) (sys M T s i).length (flat syf (sys M T s i))) := row_up HOS.out HB2.out
      have HFALL : Hid _ := hdd_fall HF.out (isS M T) i (by rw [HN.out.2.2]; exact HI.out.1)
      have HFIL : Hid _ := hdd_filter (kds T) (isS M T) i
      have HHN : Hid ((hdd (kds T) (isS M T) i).length ≤ i) := hdd_len _ _ _
      have HS1 : Hid (hdd (kds T) (isS M T) (i + 1) = opn (kds T) (isS M T) i ++ (if isS M T i then [i] else [])) := rfl
      obtain ⟨H, hH⟩ : ∃ H, hdd (kds T) (isS M T) i = H := ⟨_, rfl⟩
      rw [hH] at HOP2 HFALL HFIL HHN ⊢
      obtain ⟨hn, hhn⟩ : ∃ hn, H.length = hn := ⟨_, rfl⟩
      have HHL : Hid (H.length = hn) := hhn
      rw [hhn] at HOP2 HHN ⊢
      clear hw2' hn2 hnb t0 t1 t2 t3 t4 t5 t6 hH hhn HOP HOS
      go_loopg [4] hn (fun gm v4 wr => ∃ k : Nat, v4 = .slice pa k pc ∧ Hid (k ≤ hn ∧ gm = k) ∧ Hid (∀ j, k ≤ j → j < H.length → eA (kds T) (H.getD j 0) ≤ i) ∧ w2 = wr)
      case atStart => exact ⟨hn, rfl, ⟨Nat.le_refl _, rfl⟩, (fun j h1 h2 => by have := HHL.out; omega), rfl⟩
      case round =>
        obtain ⟨k, rfl, HK, HJ, hwe⟩ := hrel
        subst hwe
        go_upto_region 6 with fail
        go_cut [31] from 19 to 31 (fun v31 wd => v31 = .bool (decide (0 < k) && decide (eA (kds T) (H.getD (k - 1) 0) ≤ i)) ∧ w2 = wd)
        case first =>
          by_cases hk0 : k = 0
          · subst hk0
            have g1 : decide ((0 : Int) < ((0 : Nat) : Int)) = false := by decide
            go_wp2_with fail
            go_meet
            exact ⟨rfl, rfl⟩
          · obtain ⟨k0, hk1⟩ : ∃ k0, k0 + 1 = k := ⟨k - 1, by omega⟩
            have HK1 : Hid (k0 + 1 = k ∧ k0 < hn) := ⟨hk1, by have := HK.out; omega⟩
            have ek : k - 1 = k0 := by omega
            have g1 : decide ((0 : Int) < (k : Int)) = true := by rw [decide_eq_true_eq]; omega
            have g2 : decide (0 < k) = true := by rw [decide_eq_true_eq]; omega
            have g3 : (k0 : Int) < (k : Int) := by omega
            have g4 : k0 < k := by omega
            have g5 : (0 : Int) ≤ (k0 : Int) := by omega
            have hwk : IntKind.i64.wrap ((k : Int) - 1) = (k0 : Int) := by have := HN.out; have := HHN.out; have := HI.out; have := HK1.out; rw [IntKind.wrap_i64]; omega
            obtain ⟨pg, pcap, ep, -⟩ := row_form HOP2.out (by have := HK1.out; omega)
            obtain ⟨ep4, -, -⟩ := Value.slice.inj ep
            subst ep4
            have hcell := row_at HOP2.out k0 _ (iC_get (enI (kds T) H) k0 (by rw [enI_len, HHL.out]; exact HK1.out.2))
            rw [enI_get _ _ _ (by rw [HHL.out]; exact HK1.out.2)] at hcell
            obtain ⟨E, hE⟩ : ∃ E, eA (kds T) (H.getD k0 0) = E := ⟨_, rfl⟩
            rw [hE] at hcell
            have HEK : Hid ((decide (0 < k) && decide (eA (kds T) (H.getD (k - 1) 0) ≤ i)) = decide (E ≤ i)) := by show _ = _; rw [ek, hE, g2]; rfl
            clear ek hk1 hk0 ep hE
            by_cases hEi : E ≤ i
            · have f1 : decide ((E : Int) ≤ (i : Int)) = true := by rw [decide_eq_true_eq]; omega
              have f2 : decide (E ≤ i) = true := by rw [decide_eq_true_eq]; omega
              clear hEi
              go_wp2_with fail
              go_meet
              exact ⟨by rw [HEK.out, f2], rfl⟩
            · have f1 : decide ((E : Int) ≤ (i : Int)) = false := by rw [decide_eq_false_iff_not]; omega
              have f2 : decide (E ≤ i) = false := by rw [decide_eq_false_iff_not]; omega
              clear hEi
              go_wp2_with fail
              go_meet
              exact ⟨by rw [HEK.out, f2], rfl⟩
        case rest =>
          obtain ⟨rfl, hwd⟩ := hcut
          subst hwd
          obtain ⟨BB, hBB⟩ : ∃ BB, (decide (0 < k) && decide (eA (kds T) (H.getD (k - 1) 0) ≤ i)) = BB := ⟨_, rfl⟩
          have HBB : Hid ((decide (0 < k) && decide (eA (kds T) (H.getD (k - 1) 0) ≤ i)) = BB) := hBB
          rw [hBB]
          clear hBB
          cases BB with
          | true =>
            have hkk : 0 < k ∧ eA (kds T) (H.getD (k - 1) 0) ≤ i := by
              have h9 := HBB.out
              rw [Bool.and_eq_true, decide_eq_true_eq, decide_eq_true_eq] at h9
              exact h9
            obtain ⟨k0, rfl⟩ : ∃ k0, k = k0 + 1 := ⟨k - 1, by omega⟩
            have HKE : Hid (eA (kds T) (H.getD k0 0) ≤ i) := hkk.2
            obtain ⟨k1, hk1⟩ : ∃ k1, k0 + 1 = k1 := ⟨_, rfl⟩
            have HK1 : Hid (k0 + 1 = k1 ∧ k0 < hn) := ⟨hk1, by have := HK.out; omega⟩
            rw [hk1] at HK HJ ⊢
            have hcap : k1 ≤ pc := by
              obtain ⟨pg, pcap, ep, -, h3, h3b⟩ := row_form HOP2.out (by have := HK1.out; omega)
              obtain ⟨-, -, h4⟩ := Value.slice.inj ep
              have := HK.out.1
              omega
            have g3 : k0 ≤ pc := by omega
            have g4 : (k0 : Int) ≤ (pc : Int) := by omega
            have g5 : (0 : Int) ≤ (k0 : Int) := by omega
            have hwk : IntKind.i64.wrap ((k1 : Int) - 1) = (k0 : Int) := by have := HN.out; have := HHN.out; have := HI.out; have := HK1.out; rw [IntKind.wrap_i64]; omega
            clear hkk hk1 hcap
            go_wp2_with fail
            go_roundg k0
            case measure => have := HK.out; have := HK1.out; omega
            case rel => exact ⟨k0, rfl, ⟨Nat.le_of_lt HK1.out.2, rfl⟩, (fun j h1 h2 => by
              rcases Nat.lt_or_ge k0 j with h3 | h3
              · exact HJ.out j (by have := HK1.out; omega) h2
              · have : j = k0 := by omega
                rw [this]; exact HKE.out), rfl⟩
          | false =>
            have hTK : H.take k = opn (kds T) (isS M T) i := by
              rw [← HFIL.out]
              refine (pop_done HFALL.out k (by rw [HHL.out]; exact HK.out.1) HJ.out ?_).symm
              rcases Nat.eq_zero_or_pos k with h0 | h0
              · exact .inl h0
              · right
                have h9 := HBB.out
                rw [decide_eq_true h0, Bool.true_and, decide_eq_false_iff_not] at h9
                omega
            have HP2 : Hid (w2.ownsRow w.heap.size 3 1 (.slice pa k pc) k (iC (enI (kds T) (opn (kds T) (isS M T) i)))) := by
              have h9 := own_trunc HOP2.out k HK.out.1
              have e9 : (iC (enI (kds T) H)).take (k * 1) = iC (enI (kds T) (opn (kds T) (isS M T) i)) := by
                rw [Nat.mul_one, ← hTK]
                unfold iC enI
                rw [← List.map_take, ← List.map_take]
              rw [e9] at h9
              exact h9
            have HKO : Hid ((opn (kds T) (isS M T) i).length = k ∧ k ≤ i) := by
              rw [← hTK, List.length_take, HHL.out]
              have := HK.out
              have := HHN.out
              exact ⟨by omega, by omega⟩
            clear hTK HFALL HFIL HJ HBB HOP2
            have HCI : Hid _ := HCA.out w2 HBW2.out i HIL.out.1
            have HSS1 : Hid (sys M T s (i + 1) = sys M T s i ++ sy1 M T s i) := sys_succ M T s i
            cases hcal : cal M T i with
            | none =>
              rw [hcal] at HCI
              have HX : Hid (sys M T s (i + 1) = sys M T s i ∧ hdd (kds T) (isS M T) (i + 1) = opn (kds T) (isS M T) i) := by
                refine ⟨?_, ?_⟩
                · rw [HSS1.out]; unfold sy1; rw [hcal]; simp
                · rw [HS1.out]; unfold isS; rw [hcal]; simp
              clear hcal HSS1 HS1
              have hwi := HWI.out
              have f1 : ((-1 : Int) == -1) = true := by decide
              go_wp2_with (go_at_call 37; refine Calls.mono HCI.out ?_; rintro e w3 ⟨rfl, hb3⟩; unfold opi; have HB3 : Hid (Below w2.heap.size w2 w3) := hb3; clear hb3)
              go_roundg (n - (i + 1))
              case measure => have := HI.out; have := HIL.out; omega
              case rel => exact ⟨i + 1, by simp, ⟨HIL.out.1, rfl⟩, (by show World.ownsRow _ _ _ _ _ _ _; rw [HX.out.1]; exact row_up HOS2.out HB3.out), (by show World.ownsRow _ _ _ _ _ _ _; rw [HX.out.2, HKO.out.1]; exact row_up HP2.out HB3.out), below_trans HBW2.out HB3.out⟩
            | some c =>
              rw [hcal] at HCI
              have hcT := (cal_lt HF.out HIL.out.2 hcal).2
              have hkey : isS M T i = true := by unfold isS; rw [hcal]; rfl
              have HX : Hid (sys M T s (i + 1) = sys M T s i ++ [⟨y.nm, s.extract (T.getD c ndd).fr.toNat (T.getD c ndd).tt.toNat, y.fr, y.tt, (k : Int)⟩] ∧ hdd (kds T) (isS M T) (i + 1) = opn (kds T) (isS M T) i ++ [i]) := by
                refine ⟨?_, ?_⟩
                · rw [HSS1.out]; unfold sy1; rw [hcal]; simp only [HY.out, HKO.out.1]
                · rw [HS1.out, hkey]; rfl
              have HCT : Hid (c < T.length ∧ c < n) := ⟨hcT, by have := HN.out.1; omega⟩
              obtain ⟨l1, l2, l3⟩ := lie_at HLI.out c hcT
              obtain ⟨f, hf⟩ : ∃ f : Nat, (T.getD c ndd).fr = (f : Int) := ⟨(T.getD c ndd).fr.toNat, by omega⟩
              obtain ⟨g, hg⟩ : ∃ g : Nat, (T.getD c ndd).tt = (g : Int) := ⟨(T.getD c ndd).tt.toNat, by omega⟩
              rw [hf, hg] at l2 HX
              rw [hg] at l3
              rw [Int.toNat_natCast, Int.toNat_natCast] at HX
              have HFG : Hid (f ≤ g ∧ g ≤ s.size) := ⟨by omega, by omega⟩
              have h7 := HS.out.nd
              rw [HN.out.1] at h7
              obtain ⟨ng2, no2, hna2, hq2⟩ := Ns.seven h7 c hcT
              obtain ⟨e6, e7, -⟩ := Addr.mk.inj (Option.some.inj hna2)
              subst e6 e7
              have HFC : Hid (∀ W, Below w.heap.size w W → W.cell? ⟨ng, no + c * 7 + 3, none⟩ = some (.int .i64 (f : Int)) ∧ W.cell? ⟨ng, no + c * 7 + 4, none⟩ = some (.int .i64 (g : Int))) := fun W hW => by
                obtain ⟨_, _, _, u3, u4, _⟩ := hq2 W hW
                rw [hf] at u3
                rw [hg] at u4
                exact ⟨u3, u4⟩
              obtain ⟨cl, hcl⟩ : ∃ cl, s.extract f g = cl := ⟨_, rfl⟩
              have HCLE : Hid (s.extract f g = cl) := hcl
              rw [hcl] at HX
              clear hcal HSS1 HS1 hkey hcT l1 l2 l3 hf hg h7 hna2 hq2 hcl
              have f1 : ((c : Int) == -1) = false := by rw [beq_eq_false_iff_ne]; omega
              go_upto_region 10 with (go_at_call 37; refine Calls.mono HCI.out ?_; rintro e w4 ⟨rfl, hb4⟩; unfold opi; have HB4 : Hid (Below w2.heap.size w2 w4) := hb4; clear hb4)
              clear f1
              have HBW4 : Hid (Below w.heap.size w w4) := below_trans HBW2.out HB4.out
              have HS10 : Hid (w4.cell? ⟨b, 4, none⟩ = some (.string s) ∧ w4.cell? ⟨b, 2, none⟩ = some (.slice (some ⟨ng, no, none⟩) n nc) ∧ w4.cell? ⟨ng, no + c * 7 + 3, none⟩ = some (.int .i64 (f : Int)) ∧ w4.cell? ⟨ng, no + c * 7 + 4, none⟩ = some (.int .i64 (g : Int))) := ⟨(HCL.out w4 HBW4.out).2.2, (HCL.out w4 HBW4.out).1, (HFC.out w4 HBW4.out).1, (HFC.out w4 HBW4.out).2⟩
              have x1 : (c : Int) < (n : Int) := by have := HCT.out; omega
              have x2 : c < n := HCT.out.2
              have x3 : (0 : Int) ≤ (c : Int) := by omega
              have x4 : (f : Int) ≤ (g : Int) := by have := HFG.out; omega
              have x5 : f ≤ g := HFG.out.1
              have x6 : (g : Int) ≤ (s.size : Int) := by have := HFG.out; omega
              have x7 : g ≤ s.size := HFG.out.2
              have x8 : (0 : Int) ≤ (f : Int) := by omega
              refine wp_region_noPanic ?_
              refine wp_region_held_drew (S := fun W => W.cell? ⟨b, 4, none⟩ = some (.string s) ∧ W.cell? ⟨b, 2, none⟩ = some (.slice (some ⟨ng, no, none⟩) n nc) ∧ W.cell? ⟨ng, no + c * 7 + 3, none⟩ = some (.int .i64 (f : Int)) ∧ W.cell? ⟨ng, no + c * 7 + 4, none⟩ = some (.int .i64 (g : Int))) (by kernel_rfl) HS10.out (fun hHeld => ?_)
              obtain ⟨w5, hw5⟩ : ∃ w5, w4.drew = w5 := ⟨_, rfl⟩
              have HB45 : Hid (Below w4.heap.size w4 w5) := by rw [← hw5]; exact Below.drew (Below.refl _ _)
              rw [hw5] at hHeld ⊢
              clear hw5
              refine wpAnyH_take (i := 0) (oi := { dst := _, op := _, type := _, pos := _, after := _, guard := _ }) (v := ?_) rfl (by kernel_rfl) (by kernel_rfl) (by kernel_rfl) (fun _ _ _ h => h) (Or.inl ⟨by rfl, ?_⟩) (by assumption) ?_
              rotate_left
              · intro W hSw
                (try dsimp only at hSw)
                go_simp
                (try with_reducible rfl)
              try simp only [Act.put, List.setIfInBounds_toArray, List.set_cons_zero, List.set_cons_succ]
              refine wpAnyH_take (i := 1) (oi := { dst := _, op := _, type := _, pos := _, after := _, guard := _ }) (v := ?_) rfl (by kernel_rfl) (by kernel_rfl) (by kernel_rfl) (fun _ _ _ h => h) (Or.inl ⟨by rfl, ?_⟩) (by assumption) ?_
              rotate_left
              · intro W hSw
                (try dsimp only at hSw)
                go_simp
                (try with_reducible rfl)
              try simp only [Act.put, List.setIfInBounds_toArray, List.set_cons_zero, List.set_cons_succ]
              refine wpAnyH_take (i := 2) (oi := { dst := _, op := _, type := _, pos := _, after := _, guard := _ }) (v := ?_) rfl (by kernel_rfl) (by kernel_rfl) (by kernel_rfl) (fun _ _ _ h => h) (Or.inl ⟨by rfl, ?_⟩) (by assumption) ?_
              rotate_left
              · intro W hSw
                (try dsimp only at hSw)
                go_simp
                (try with_reducible rfl)
              try simp only [Act.put, List.setIfInBounds_toArray, List.set_cons_zero, List.set_cons_succ]
              refine wpAnyH_take (i := 3) (oi := { dst := _, op := _, type := _, pos := _, after := _, guard := _ }) (v := ?_) rfl (by kernel_rfl) (by kernel_rfl) (by kernel_rfl) (fun _ _ _ h => h) (Or.inl ⟨by rfl, ?_⟩) (by assumption) ?_
              rotate_left
              · intro W hSw
                (try dsimp only at hSw)
                obtain ⟨s0, s1, s2, s3⟩ := hSw
                go_simp
                (try with_reducible rfl)
              try simp only [Act.put, List.setIfInBounds_toArray, List.set_cons_zero, List.set_cons_succ]
              refine wpAnyH_take (i := 4) (oi := { dst := _, op := _, type := _, pos := _, after := _, guard := _ }) (v := ?_) rfl (by kernel_rfl) (by kernel_rfl) (by kernel_rfl) (fun _ _ _ h => h) (Or.inl ⟨by rfl, ?_⟩) (by assumption) ?_
              rotate_left
              · intro W hSw
                (try dsimp only at hSw)
                go_simp
                (try with_reducible rfl)
              try simp only [Act.put, List.setIfInBounds_toArray, List.set_cons_zero, List.set_cons_succ]
              refine wpAnyH_take (i := 5) (oi := { dst := _, op := _, type := _, pos := _, after := _, guard := _ }) (v := ?_) rfl (by kernel_rfl) (by kernel_rfl) (by kernel_rfl) (fun _ _ _ h => h) (Or.inl ⟨by rfl, ?_⟩) (by assumption) ?_
              rotate_left
              · intro W hSw
                (try dsimp only at hSw)
                go_simp
                (try with_reducible rfl)
              try simp only [Act.put, List.setIfInBounds_toArray, List.set_cons_zero, List.set_cons_succ]
              refine wpAnyH_take (i := 6) (oi := { dst := _, op := _, type := _, pos := _, after := _, guard := _ }) (v := ?_) rfl (by kernel_rfl) (by kernel_rfl) (by kernel_rfl) (fun _ _ _ h => h) (Or.inl ⟨by rfl, ?_⟩) (by assumption) ?_
              rotate_left
              · intro W hSw
                (try dsimp only at hSw)
                go_simp
                (try with_reducible rfl)
              try simp only [Act.put, List.setIfInBounds_toArray, List.set_cons_zero, List.set_cons_succ]
              refine wpAnyH_take (i := 7) (oi := { dst := _, op := _, type := _, pos := _, after := _, guard := _ }) (v := ?_) rfl (by kernel_rfl) (by kernel_rfl) (by kernel_rfl) (fun _ _ _ h => h) (Or.inl ⟨by rfl, ?_⟩) (by assumption) ?_
              rotate_left
              · intro W hSw
                (try dsimp only at hSw)
                obtain ⟨s0, s1, s2, s3⟩ := hSw
                go_simp
                (try with_reducible rfl)
              try simp only [Act.put, List.setIfInBounds_toArray, List.set_cons_zero, List.set_cons_succ]
              refine wpAnyH_take (i := 8) (oi := { dst := _, op := _, type := _, pos := _, after := _, guard := _ }) (v := ?_) rfl (by kernel_rfl) (by kernel_rfl) (by kernel_rfl) (fun _ _ _ h => h) (Or.inl ⟨by rfl, ?_⟩) (by assumption) ?_
              rotate_left
              · intro W hSw
                (try dsimp only at hSw)
                go_simp
                (try with_reducible rfl)
              try simp only [Act.put, List.setIfInBounds_toArray, List.set_cons_zero, List.set_cons_succ]
              refine wpAnyH_take (i := 9) (oi := { dst := _, op := _, type := _, pos := _, after := _, guard := _ }) (v := ?_) rfl (by kernel_rfl) (by kernel_rfl) (by kernel_rfl) (fun _ _ _ h => h) (Or.inl ⟨by rfl, ?_⟩) (by assumption) ?_
              rotate_left
              · intro W hSw
                (try dsimp only at hSw)
                go_simp
                (try with_reducible rfl)
              try simp only [Act.put, List.setIfInBounds_toArray, List.set_cons_zero, List.set_cons_succ]
              refine wpAnyH_take (i := 10) (oi := { dst := _, op := _, type := _, pos := _, after := _, guard := _ }) (v := ?_) rfl (by kernel_rfl) (by kernel_rfl) (by kernel_rfl) (fun _ _ _ h => h) (Or.inl ⟨by rfl, ?_⟩) (by assumption) ?_
              rotate_left
              · intro W hSw
                (try dsimp only at hSw)
                go_simp
                (try with_reducible rfl)
              try simp only [Act.put, List.setIfInBounds_toArray, List.set_cons_zero, List.set_cons_succ]
              refine wpAnyH_take (i := 11) (oi := { dst := _, op := _, type := _, pos := _, after := _, guard := _ }) (v := ?_) rfl (by kernel_rfl) (by kernel_rfl) (by kernel_rfl) (fun _ _ _ h => h) (Or.inl ⟨by rfl, ?_⟩) (by assumption) ?_
              rotate_left
              · intro W hSw
                (try dsimp only at hSw)
                obtain ⟨s0, s1, s2, s3⟩ := hSw
                go_simp
                (try with_reducible rfl)
              try simp only [Act.put, List.setIfInBounds_toArray, List.set_cons_zero, List.set_cons_succ]
              refine wpAnyH_take (i := 12) (oi := { dst := _, op := _, type := _, pos := _, after := _, guard := _ }) (v := ?_) rfl (by kernel_rfl) (by kernel_rfl) (by kernel_rfl) (fun _ _ _ h => h) (Or.inl ⟨by rfl, ?_⟩) (by assumption) ?_
              rotate_left
              · intro W hSw
                (try dsimp only at hSw)
                go_simp
                (try with_reducible rfl)
              try simp only [Act.put, List.setIfInBounds_toArray, List.set_cons_zero, List.set_cons_succ]
              refine wpAnyH_take (i := 13) (oi := { dst := _, op := _, type := _, pos := _, after := _, guard := _ }) (v := ?_) rfl (by kernel_rfl) (by kernel_rfl) (by kernel_rfl) (fun _ _ _ h => h) (Or.inl ⟨by rfl, ?_⟩) (by assumption) ?_
              rotate_left
              · intro W hSw
                (try dsimp only at hSw)
                go_simp
                (try with_reducible rfl)
              try simp only [Act.put, List.setIfInBounds_toArray, List.set_cons_zero, List.set_cons_succ]
              refine wpAnyH_take (i := 14) (oi := { dst := _, op := _, type := _, pos := _, after := _, guard := _ }) (v := ?_) rfl (by kernel_rfl) (by kernel_rfl) (by kernel_rfl) (fun _ _ _ h => h) (Or.inl ⟨by rfl, ?_⟩) (by assumption) ?_
              rotate_left
              · intro W hSw
                (try dsimp only at hSw)
                go_simp
                (try with_reducible rfl)
              try simp only [Act.put, List.setIfInBounds_toArray, List.set_cons_zero, List.set_cons_succ]
              refine wpAnyH_take (i := 15) (oi := { dst := _, op := _, type := _, pos := _, after := _, guard := _ }) (v := ?_) rfl (by kernel_rfl) (by kernel_rfl) (by kernel_rfl) (fun _ _ _ h => h) (Or.inl ⟨by rfl, ?_⟩) (by assumption) ?_
              rotate_left
              · intro W hSw
                (try dsimp only at hSw)
                obtain ⟨s0, s1, s2, s3⟩ := hSw
                go_simp
                (try with_reducible rfl)
              try simp only [Act.put, List.setIfInBounds_toArray, List.set_cons_zero, List.set_cons_succ]
              refine wpAnyH_take (i := 16) (oi := { dst := _, op := _, type := _, pos := _, after := _, guard := _ }) (v := ?_) rfl (by kernel_rfl) (by kernel_rfl) (by kernel_rfl) (fun _ _ _ h => h) (Or.inl ⟨by rfl, ?_⟩) (by assumption) ?_
              rotate_left
              · intro W hSw
                (try dsimp only at hSw)
                go_simp
                (try with_reducible rfl)
              try simp only [Act.put, List.setIfInBounds_toArray, List.set_cons_zero, List.set_cons_succ]
              refine wpAnyH_take (i := 17) (oi := { dst := _, op := _, type := _, pos := _, after := _, guard := _ }) (v := ?_) rfl (by kernel_rfl) (by kernel_rfl) (by kernel_rfl) (fun _ _ _ h => h) (Or.inl ⟨by rfl, ?_⟩) (by assumption) ?_
              rotate_left
              · intro W hSw
                (try dsimp only at hSw)
                go_simp
                (try with_reducible rfl)
              try simp only [Act.put, List.setIfInBounds_toArray, List.set_cons_zero, List.set_cons_succ]
              refine wpAnyH_take (i := 18) (oi := { dst := _, op := _, type := _, pos := _, after := _, guard := _ }) (v := ?_) rfl (by kernel_rfl) (by kernel_rfl) (by kernel_rfl) (fun _ _ _ h => h) (Or.inl ⟨by rfl, ?_⟩) (by assumption) ?_
              rotate_left
              · intro W hSw
                (try dsimp only at hSw)
                go_simp
                (try with_reducible rfl)
              try simp only [Act.put, List.setIfInBounds_toArray, List.set_cons_zero, List.set_cons_succ]
              refine wpAnyH_take (i := 19) (oi := { dst := _, op := _, type := _, pos := _, after := _, guard := _ }) (v := ?_) rfl (by kernel_rfl) (by kernel_rfl) (by kernel_rfl) (fun _ _ _ h => h) (Or.inl ⟨by rfl, ?_⟩) (by assumption) ?_
              rotate_left
              · intro W hSw
                (try dsimp only at hSw)
                obtain ⟨s0, s1, s2, s3⟩ := hSw
                go_simp
                (try with_reducible rfl)
              try simp only [Act.put, List.setIfInBounds_toArray, List.set_cons_zero, List.set_cons_succ]
              refine wpAnyH_take (i := 20) (oi := { dst := _, op := _, type := _, pos := _, after := _, guard := _ }) (v := ?_) rfl (by kernel_rfl) (by kernel_rfl) (by kernel_rfl) (fun _ _ _ h => h) (Or.inl ⟨by rfl, ?_⟩) (by assumption) ?_
              rotate_left
              · intro W hSw
                (try dsimp only at hSw)
                go_simp
                (try with_reducible rfl)
              try simp only [Act.put, List.setIfInBounds_toArray, List.set_cons_zero, List.set_cons_succ]
              refine wpAnyH_take (i := 21) (oi := { dst := _, op := _, type := _, pos := _, after := _, guard := _ }) (v := ?_) rfl (by kernel_rfl) (by kernel_rfl) (by kernel_rfl) (fun _ _ _ h => h) (Or.inl ⟨by rfl, ?_⟩) (by assumption) ?_
              rotate_left
              · intro W hSw
                (try dsimp only at hSw)
                go_simp
                (try with_reducible rfl)
              try simp only [Act.put, List.setIfInBounds_toArray, List.set_cons_zero, List.set_cons_succ]
              refine wpAnyH_done (by kernel_rfl) ?_ _
              clear hHeld
              refine NoPanic.normal ?_
              clear x1 x2 x3 x4 x5 x6 x7 x8
              have HBW5 : Hid (Below w.heap.size w w5) := below_trans HBW4.out HB45.out
              have HB25 : Hid (Below w2.heap.size w2 w5) := below_trans HB4.out HB45.out
              obtain ⟨SS, hSS⟩ : ∃ SS, sys M T s i = SS := ⟨_, rfl⟩
              have HSL : Hid (sys M T s i = SS ∧ SS.length ≤ i) := ⟨hSS, by rw [← hSS]; exact sys_len _ _ _ _⟩
              rw [hSS] at HOS2 HX ⊢
              obtain ⟨on, hon⟩ : ∃ on, SS.length = on := ⟨_, rfl⟩
              have HON : Hid (SS.length = on ∧ on + 1 ≤ n ∧ n * 72 + 4096 ≤ 140737488355328) := ⟨hon, by have := HSL.out.2; have := HIL.out.1; omega, HN.out.2.1⟩
              rw [hon] at HOS2 ⊢
              clear hSS hon
              have HO5 : Hid (w5.ownsRow w.heap.size 59 5 (.slice oa on oc) on (flat syf SS)) := row_up HOS2.out HB25.out
              have HP5 : Hid (w5.ownsRow w.heap.size 3 1 (.slice pa k pc) k (iC (enI (kds T) (opn (kds T) (isS M T) i)))) := row_up HP2.out HB25.out
              have HND5 : Hid (w5.heap[nb]? = some (.cells #[.string y.nm, .bool y.nd, .string y.fd, .int .i64 y.fr, .int .i64 y.tt, .int .i64 y.kd, .int .i64 y.lf] 50 (0, 0))) := (HB25.out.block _ (lt_of_heap HND.out)).trans HND.out
              have HS11 : Hid (w5.cell? ⟨nb, 0, none⟩ = some (.string y.nm) ∧ w5.cell? ⟨nb, 3, none⟩ = some (.int .i64 y.fr) ∧ w5.cell? ⟨nb, 4, none⟩ = some (.int .i64 y.tt)) := ⟨rcell HND5.out 0 _ rfl, rcell HND5.out 3 _ rfl, rcell HND5.out 4 _ rfl⟩
              go_upto_region 11 with fail
              first | rw [HCLE.out] | skip
              refine wp_region_noPanic ?_
              refine wp_region_held_drew (S := fun W => W.cell? ⟨nb, 0, none⟩ = some (.string y.nm) ∧ W.cell? ⟨nb, 3, none⟩ = some (.int .i64 y.fr) ∧ W.cell? ⟨nb, 4, none⟩ = some (.int .i64 y.tt)) (by kernel_rfl) HS11.out (fun hHeld => ?_)
              refine wpAnyH_take (i := 0) (oi := { dst := _, op := _, type := _, pos := _, after := _, guard := _ }) (v := ?_) rfl (by kernel_rfl) (by kernel_rfl) (by kernel_rfl) (fun _ _ _ h => h) (Or.inl ⟨by rfl, ?_⟩) (by assumption) ?_
              rotate_left
              · intro W hSw
                (try dsimp only at hSw)
                go_simp
                (try with_reducible rfl)
              try simp only [Act.put, List.setIfInBounds_toArray, List.set_cons_zero, List.set_cons_succ]
              refine wpAnyH_take (i := 1) (oi := { dst := _, op := _, type := _, pos := _, after := _, guard := _ }) (v := ?_) rfl (by kernel_rfl) (by kernel_rfl) (by kernel_rfl) (fun _ _ _ h => h) (Or.inl ⟨by rfl, ?_⟩) (by assumption) ?_
              rotate_left
              · intro W hSw
                (try dsimp only at hSw)
                go_simp
                (try with_reducible rfl)
              try simp only [Act.put, List.setIfInBounds_toArray, List.set_cons_zero, List.set_cons_succ]
              refine wpAnyH_take (i := 2) (oi := { dst := _, op := _, type := _, pos := _, after := _, guard := _ }) (v := ?_) rfl (by kernel_rfl) (by kernel_rfl) (by kernel_rfl) (fun _ _ _ h => h) (Or.inl ⟨by rfl, ?_⟩) (by assumption) ?_
              rotate_left
              · intro W hSw
                (try dsimp only at hSw)
                obtain ⟨s0, s1, s2⟩ := hSw
                go_simp
                (try with_reducible rfl)
              try simp only [Act.put, List.setIfInBounds_toArray, List.set_cons_zero, List.set_cons_succ]
              refine wpAnyH_take (i := 4) (oi := { dst := _, op := _, type := _, pos := _, after := _, guard := _ }) (v := ?_) rfl (by kernel_rfl) (by kernel_rfl) (by kernel_rfl) (fun _ _ _ h => h) (Or.inl ⟨by rfl, ?_⟩) (by assumption) ?_
              rotate_left
              · intro W hSw
                (try dsimp only at hSw)
                go_simp
                (try with_reducible rfl)
              try simp only [Act.put, List.setIfInBounds_toArray, List.set_cons_zero, List.set_cons_succ]
              refine wpAnyH_take (i := 5) (oi := { dst := _, op := _, type := _, pos := _, after := _, guard := _ }) (v := ?_) rfl (by kernel_rfl) (by kernel_rfl) (by kernel_rfl) (fun _ _ _ h => h) (Or.inl ⟨by rfl, ?_⟩) (by assumption) ?_
              rotate_left
              · intro W hSw
                (try dsimp only at hSw)
                go_simp
                (try with_reducible rfl)
              try simp only [Act.put, List.setIfInBounds_toArray, List.set_cons_zero, List.set_cons_succ]
              refine wpAnyH_take (i := 6) (oi := { dst := _, op := _, type := _, pos := _, after := _, guard := _ }) (v := ?_) rfl (by kernel_rfl) (by kernel_rfl) (by kernel_rfl) (fun _ _ _ h => h) (Or.inl ⟨by rfl, ?_⟩) (by assumption) ?_
              rotate_left
              · intro W hSw
                (try dsimp only at hSw)
                obtain ⟨s0, s1, s2⟩ := hSw
                go_simp
                (try with_reducible rfl)
              try simp only [Act.put, List.setIfInBounds_toArray, List.set_cons_zero, List.set_cons_succ]
              refine wpAnyH_take (i := 7) (oi := { dst := _, op := _, type := _, pos := _, after := _, guard := _ }) (v := ?_) rfl (by kernel_rfl) (by kernel_rfl) (by kernel_rfl) (fun _ _ _ h => h) (Or.inl ⟨by rfl, ?_⟩) (by assumption) ?_
              rotate_left
              · intro W hSw
                (try dsimp only at hSw)
                go_simp
                (try with_reducible rfl)
              try simp only [Act.put, List.setIfInBounds_toArray, List.set_cons_zero, List.set_cons_succ]
              refine wpAnyH_take (i := 8) (oi := { dst := _, op := _, type := _, pos := _, after := _, guard := _ }) (v := ?_) rfl (by kernel_rfl) (by kernel_rfl) (by kernel_rfl) (fun _ _ _ h => h) (Or.inl ⟨by rfl, ?_⟩) (by assumption) ?_
              rotate_left
              · intro W hSw
                (try dsimp only at hSw)
                obtain ⟨s0, s1, s2⟩ := hSw
                go_simp
                (try with_reducible rfl)
              try simp only [Act.put, List.setIfInBounds_toArray, List.set_cons_zero, List.set_cons_succ]
              refine wpAnyH_take (i := 9) (oi := { dst := _, op := _, type := _, pos := _, after := _, guard := _ }) (v := ?_) rfl (by kernel_rfl) (by kernel_rfl) (by kernel_rfl) (fun _ _ _ h => h) (Or.inl ⟨by rfl, ?_⟩) (by assumption) ?_
              rotate_left
              · intro W hSw
                (try dsimp only at hSw)
                go_simp
                (try with_reducible rfl)
              try simp only [Act.put, List.setIfInBounds_toArray, List.set_cons_zero, List.set_cons_succ]
              refine wpAnyH_take (i := 10) (oi := { dst := _, op := _, type := _, pos := _, after := _, guard := _ }) (v := ?_) rfl (by kernel_rfl) (by kernel_rfl) (by kernel_rfl) (fun _ _ _ h => h) (Or.inl ⟨by rfl, ?_⟩) (by assumption) ?_
              rotate_left
              · intro W hSw
                (try dsimp only at hSw)
                go_simp
                (try with_reducible rfl)
              try simp only [Act.put, List.setIfInBounds_toArray, List.set_cons_zero, List.set_cons_succ]
              refine wpAnyH_ready (rs := [3]) (by kernel_rfl) (by simp) ?_
              refine AllReadyH.cons (o := { dst := _, op := _, type := _, pos := _, after := _, guard := _ }) rfl (fun K hK => ?_) AllReadyH.nil
              go_simp
              refine (clone_any y.nm _ HNS.out).mono ?_
              rintro e w6 ⟨rfl, hb⟩
              have HB56 : Hid (Below w5.heap.size w5 w6) := (Below.drew (Below.refl _ _)).trans hb
              clear hb
              go_wp2_with fail
              refine hK.out _ _ ?_ (fun hHeld => ?_)
              · exact ⟨below_cell HB56.out HS11.out.1, below_cell HB56.out HS11.out.2.1, below_cell HB56.out HS11.out.2.2⟩
              clear hK K
              try simp only [Act.put, List.setIfInBounds_toArray, List.set_cons_zero, List.set_cons_succ]
              refine wpAnyH_take (i := 11) (oi := { dst := _, op := _, type := _, pos := _, after := _, guard := _ }) (v := ?_) rfl (by kernel_rfl) (by kernel_rfl) (by kernel_rfl) (fun _ _ _ h => h) (Or.inl ⟨by rfl, ?_⟩) (by assumption) ?_
              rotate_left
              · intro W hSw
                (try dsimp only at hSw)
                go_simp
                (try with_reducible rfl)
              try simp only [Act.put, List.setIfInBounds_toArray, List.set_cons_zero, List.set_cons_succ]
              refine wpAnyH_ready (rs := [12]) (by kernel_rfl) (by simp) ?_
              refine AllReadyH.cons (o := { dst := _, op := _, type := _, pos := _, after := _, guard := _ }) rfl (fun K hK => ?_) AllReadyH.nil
              go_simp
              refine hK.out _ _ ?_ (fun hHeld => ?_)
              · exact ⟨below_cell (bel_up _ _) hHeld.1, below_cell (bel_up _ _) hHeld.2.1, below_cell (bel_up _ _) hHeld.2.2⟩
              clear hK K
              try simp only [Act.put, List.setIfInBounds_toArray, List.set_cons_zero, List.set_cons_succ]
              have HROW : Hid ((w6.alloc (.cells #[.string y.nm, .string cl, .int .i64 y.fr, .int .i64 y.tt, .int .i64 (k : Int)] 59)).ownsRow w.heap.size 59 5 (.slice oa on oc) on (flat syf SS)) := (row_up HO5.out HB56.out).alloc _
              have HSA : Hid (w.heap.size ≤ w6.heap.size) := Nat.le_trans HBW5.out.size HB56.out.size
              refine wpAnyH_ready (rs := [13]) (by kernel_rfl) (by simp) ?_
              refine AllReadyH.cons (o := { dst := _, op := _, type := _, pos := _, after := _, guard := _ }) rfl (fun K hK => ?_) AllReadyH.nil
              refine step_append_lies _ rfl (.tmp 63) (.tmp 75) 29 rfl w.heap.size 59 iY _ 5 56 Try.underlying29 hiY hy0 hy1 hy2 rfl (by decide) (.slice oa on oc) _ _ rfl HROW.out ⟨w6.heap.size, 0, none⟩ 1 1 [.string y.nm, .string cl, .int .i64 y.fr, .int .i64 y.tt, .int .i64 (k : Int)] rfl rfl (World.news_of_block (heap_new w6 _)) (by simp [Value.oneCell']) (by decide) (by have := HON.out; unfold maxLen; omega) (by have := HON.out; omega) (by have := HSA.out; simp; omega) (w6.heap.size + 1) (by simp) ?_
              intro g' cap' w7 h2 h3 h4 _
              have HO7 : Hid (w7.ownsRow w.heap.size 59 5 (.slice (some ⟨g', 0, none⟩) (on + 1) cap') (on + 1) (flat syf SS ++ [.string y.nm, .string cl, .int .i64 y.fr, .int .i64 y.tt, .int .i64 (k : Int)])) := h2
              have HG7 : Hid ((w6.alloc (.cells #[.string y.nm, .string cl, .int .i64 y.fr, .int .i64 y.tt, .int .i64 (k : Int)] 59)).grownBy w7 (Value.ownBlock (.slice oa on oc))) := h3
              have HC7 : Hid (w7.cell? ⟨nb, 0, none⟩ = some (.string y.nm) ∧ w7.cell? ⟨nb, 3, none⟩ = some (.int .i64 y.fr) ∧ w7.cell? ⟨nb, 4, none⟩ = some (.int .i64 y.tt)) := by
                have hne : Value.ownBlock (.slice oa on oc) ≠ some nb := tag_ne_blk HO5.out HND5.out (by decide)
                exact ⟨HG7.out.cell hHeld.1 (fun e => hne e.symm), HG7.out.cell hHeld.2.1 (fun e => hne e.symm), HG7.out.cell hHeld.2.2 (fun e => hne e.symm)⟩
              clear h2 h3 h4
              refine hK.out _ _ ?_ (fun hHeld => ?_)
              · exact HC7.out
              clear hK K
              try simp only [Act.put, List.setIfInBounds_toArray, List.set_cons_zero, List.set_cons_succ]
              refine wpAnyH_take (i := 14) (oi := { dst := _, op := _, type := _, pos := _, after := _, guard := _ }) (v := ?_) rfl (by kernel_rfl) (by kernel_rfl) (by kernel_rfl) (fun _ _ _ h => h) (Or.inl ⟨by rfl, ?_⟩) (by assumption) ?_
              rotate_left
              · intro W hSw
                (try dsimp only at hSw)
                go_simp
                (try with_reducible rfl)
              try simp only [Act.put, List.setIfInBounds_toArray, List.set_cons_zero, List.set_cons_succ]
              refine wpAnyH_done (by kernel_rfl) ?_ _
              clear hHeld
              refine NoPanic.normal ?_
              have HBW7 : Hid (Below w.heap.size w w7) := bel_app (below_trans HBW5.out HB56.out) (Nat.le_trans HBW5.out.size HB56.out.size) (row_up HO5.out HB56.out) HG7.out
              have HP7 : Hid (w7.ownsRow w.heap.size 3 1 (.slice pa k pc) k (iC (enI (kds T) (opn (kds T) (isS M T) i)))) := ((row_up HP5.out HB56.out).alloc _).kept HG7.out (tag_ne (row_up HP5.out HB56.out) (row_up HO5.out HB56.out) (by decide))
              obtain ⟨-, q3, -⟩ := HCL.out w7 HBW7.out
              obtain ⟨bg, bo, hba, hbe⟩ := HEN.out w7 HBW7.out i HIL.out.1
              subst hba
              obtain ⟨E, hE⟩ : ∃ E, eA (kds T) i = E := ⟨_, rfl⟩
              have HE : Hid (eA (kds T) i = E) := hE
              rw [hE] at hbe
              clear hE
              have x1 : (i : Int) < (n : Int) := by have := HIL.out; omega
              have x2 : i < n := HIL.out.1
              have x3 : (0 : Int) ≤ (i : Int) := by omega
              have hwi := HWI.out
              have HROWP : Hid ((w7.alloc (.cells #[.int .i64 (E : Int)] 3)).ownsRow w.heap.size 3 1 (.slice pa k pc) k (iC (enI (kds T) (opn (kds T) (isS M T) i)))) := HP7.out.alloc _
              have HSAP : Hid (w.heap.size ≤ (w7.alloc (.cells #[.int .i64 (E : Int)] 3)).heap.size) := Nat.le_trans HBW7.out.size (bel_up _ _).size
              have HMP : Hid (k + 1 ≤ maxLen ∧ (k + 1) * 8 ≤ 140737488355328) := by have := HKO.out; have := HIL.out; have := HN.out; show _ ∧ _; unfold maxLen; omega
              go_wp2_with (at_builtin; refine wpList_append_own_at _ rfl _ _ 66 rfl w.heap.size 3 iI (.int .i64 0) 1 8 Try.underlying66 hiI hw0 hw1 hw2 rfl (by decide) _ _ _ rfl HROWP.out ⟨w7.heap.size, 0, none⟩ 1 1 [.int .i64 (E : Int)] rfl rfl (World.news_of_block (heap_new w7 _)) (by simp [Value.oneCell']) HMP.out.1 HMP.out.2 HSAP.out ?_; intro v8 w8 ho8 hg8 _ ha8; have HP8 : Hid (w8.ownsRow w.heap.size 3 1 v8 (k + 1) (iC (enI (kds T) (opn (kds T) (isS M T) i)) ++ [.int .i64 (E : Int)])) := ho8; have HO8 : Hid (w8.ownsRow w.heap.size 59 5 (.slice (some ⟨g', 0, none⟩) (on + 1) cap') (on + 1) (flat syf SS ++ [.string y.nm, .string cl, .int .i64 y.fr, .int .i64 y.tt, .int .i64 (k : Int)])) := (HO7.out.alloc _).kept hg8 (tag_ne HO7.out HP7.out (by decide)); have HB8 : Hid (Below w.heap.size w w8) := bel_app HBW7.out HBW7.out.size HP7.out hg8; obtain ⟨ya, yc, rfl⟩ := row_shape ho8; clear ho8 hg8 ha8)
              go_roundg (n - (i + 1))
              case measure => have := HI.out; have := HIL.out; omega
              case rel =>
                refine ⟨i + 1, by simp, ⟨HIL.out.1, rfl⟩, ?_, ?_, HB8⟩
                · show World.ownsRow _ _ _ _ _ _ _
                  rw [HX.out.1, List.length_append, HON.out.1, flat_app]
                  exact HO8.out
                · show World.ownsRow _ _ _ _ _ _ _
                  rw [HX.out.2, List.length_append, HKO.out.1]
                  have e9 : iC (enI (kds T) (opn (kds T) (isS M T) i ++ [i])) = iC (enI (kds T) (opn (kds T) (isS M T) i)) ++ [.int .i64 (E : Int)] := by
                    unfold iC enI
                    rw [List.map_append, List.map_append, ← HE.out]
                    rfl
                  rw [e9]
                  exact HP8.out
    · have e1 : decide ((i : Int) < (n : Int)) = false := by rw [decide_eq_false_iff_not]; omega
      have e2 : decide (i < n) = false := by rw [decide_eq_false_iff_not]; omega
      have hin : n = i := by have := HI.out; omega
      subst hin
      clear hi
      go_wp2_with fail
      go_ret
      exact ⟨_, rfl, HOS.out, HB.out⟩
end Go.Proofs.Yticheeacbajeeaa
