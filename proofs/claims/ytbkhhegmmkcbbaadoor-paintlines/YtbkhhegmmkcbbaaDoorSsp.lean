import Derived.Test.YtbkhhegmmkcbbaaDoorSjo
import Derived.Test.YtbkhhegmmkcbbaaDoorPlg
import Derived.Test.YtbkhhegmmkcbbaaDoorSao
namespace Go.Proofs.YtbkhhegmmkcbbaaDoor
open Go.RowKit Go.Maps

theorem ne_emp {c : ByteArray} (h : (c.toList == (⟨#[]⟩ : ByteArray).toList) = false) : c.toList.isEmpty = false := by
  have h0 : (⟨#[]⟩ : ByteArray).toList = [] := by first | rfl | simp | decide
  rw [h0] at h
  cases hc : c.toList with
  | nil => rw [hc] at h; cases h
  | cons _ _ => rfl
def Gd (N : Nat) (a : Ar) : Prop := inI a.fr ∧ inI a.tt ∧ a.cl.size ≤ N
theorem popr_all {N : Nat} : ∀ (R : List Oq) (out : List Ar), (∀ a ∈ out, Gd N a) → (∀ q ∈ R, Gd N q.ar) → (∀ a ∈ (popr out R).1, Gd N a) ∧ ∀ q ∈ (popr out R).2, Gd N q.ar
  | [], _, h, k => ⟨h, k⟩
  | [_], _, h, k => ⟨h, k⟩
  | x :: y :: R, out, h, k => by
    unfold popr
    split
    · refine popr_all (y :: R) _ (fun a ha => ?_) (fun q hq => k q (List.mem_cons_of_mem _ hq))
      rcases List.mem_append.1 ha with h1 | h1
      · exact h a h1
      · rw [List.mem_singleton.1 h1]; exact k x (List.mem_cons_self ..)
    · exact ⟨h, k⟩
theorem own1_gd {N : Nat} {C : ByteArray → Option ByteArray} (hC : ∀ t c, C t = some c → c.size ≤ N) {a : Ar} {n : Nd} (h : Gd N a) (hn : inI n.fr ∧ inI n.tt) : Gd N (own1 C a n) := by
  obtain ⟨⟨h1, h2⟩, ⟨h3, h4⟩, h5⟩ := h
  obtain ⟨⟨k1, k2⟩, ⟨k3, k4⟩⟩ := hn
  refine ⟨⟨?_, ?_⟩, ⟨?_, ?_⟩, ?_⟩
  · show _ ≤ max _ _; omega
  · show max _ _ ≤ _; omega
  · show _ ≤ min _ _; omega
  · show min _ _ ≤ _; omega
  · show ((C n.nm).getD a.cl).size ≤ N
    cases hc : C n.nm with
    | none => exact h5
    | some c => exact hC _ _ hc
theorem fold_all {N : Nat} {C : ByteArray → Option ByteArray} (hC : ∀ t c, C t = some c → c.size ≤ N) : ∀ (T : List Nd) (s : List Ar × List Oq), (∀ n ∈ T, inI n.fr ∧ inI n.tt) → (∀ a ∈ s.1, Gd N a) → (∀ q ∈ s.2, Gd N q.ar) → (∀ a ∈ (T.foldl (pstep C) s).1, Gd N a)
  | [], _, _, h, _ => h
  | n :: T, s, hT, h, k => by
    have h9 : (∀ a ∈ (pstep C s n).1, Gd N a) ∧ ∀ q ∈ (pstep C s n).2, Gd N q.ar := by
      unfold pstep
      split
      · exact ⟨h, k⟩
      · next t R he =>
        have ht : Gd N t.ar := k t (by rw [he]; exact List.mem_cons_self ..)
        refine popr_all _ _ h (fun q hq => ?_)
        rcases List.mem_cons.1 hq with rfl | hq
        · exact own1_gd hC ht (hT n (List.mem_cons_self ..))
        rcases List.mem_cons.1 hq with rfl | hq
        · exact ht
        · exact k q (by rw [he]; exact List.mem_cons_of_mem _ hq)
    exact fold_all hC T _ (fun n hn => hT n (List.mem_cons_of_mem _ hn)) h9.1 h9.2
theorem ars_all {N : Nat} {C : ByteArray → Option ByteArray} (hC : ∀ t c, C t = some c → c.size ≤ N) (T : List Nd) (hT : ∀ n ∈ T, inI n.fr ∧ inI n.tt) : ∀ a ∈ (ars C T).1, Gd N a :=
  fold_all hC T ar0 hT (fun a ha => by cases ha) (fun q hq => by
    rw [List.mem_singleton.1 hq]
    exact ⟨by unfold inI; decide, by unfold inI; decide, Nat.zero_le _⟩)
theorem fa_some {A : List Ar} {P : List Int} {c : Nat} (h : fa A P c ≠ ⟨#[]⟩) : ∃ a ∈ A, num P a.fr ≤ c ∧ c < num P a.tt ∧ fa A P c = a.cl := by
  unfold fa at h ⊢
  split at h
  · next a ha =>
    have h1 := List.mem_of_find?_eq_some ha
    have h2 := List.find?_some ha
    simp only [decide_eq_true_eq] at h2
    exact ⟨a, h1, h2.1, h2.2, rfl⟩
  · exact absurd rfl h
theorem jn_len (O : List Sn) (s : Sn) : (jn O s).length ≤ O.length + 1 := by
  rcases List.eq_nil_or_concat O with rfl | ⟨O', x, rfl⟩
  · exact Nat.le_refl _
  · rw [List.concat_eq_append, jn_app]
    split <;> simp
theorem spr_len (A : List Ar) (P : List Int) : ∀ i, (spr A P i).length ≤ i
  | 0 => Nat.le_refl _
  | i + 1 => by
    unfold spr
    have := spr_len A P i
    split
    · omega
    · have := jn_len (spr A P i) ⟨P.getD i 0, P.getD (i + 1) 0, fa A P i⟩; omega
theorem ddp_len : ∀ l, (ddp l).length ≤ l.length
  | [] => Nat.le_refl _
  | x :: l => by
    unfold ddp
    have := ddp_len l
    split <;> simp <;> omega
theorem eds_len (A : List Ar) : (eds A).length = 2 * A.length := by
  unfold eds
  induction A with
  | nil => rfl
  | cons a A ih => rw [List.flatMap_cons, List.length_append, ih]; simp; omega
theorem cts_len (A : List Ar) : (cts A).length ≤ 2 * A.length := by
  unfold cts
  rw [List.length_mergeSort, ← eds_len]
  exact ddp_len _
theorem lcl_size {L : List Pa} {N : Nat} (h : ∀ x ∈ L, x.cl.size ≤ N) (t c : ByteArray) (hc : lcl L t = some c) : c.size ≤ N := by
  unfold lcl at hc
  cases hf : fs L t with
  | none => rw [hf] at hc; cases hc
  | some k =>
    rw [hf] at hc
    have := fs_lt hf
    rw [← Option.some.inj hc]
    exact h _ (mem_getD L paz k this)
set_option maxRecDepth 100000 in
set_option maxHeartbeats 16000000 in
/-- Spans. -/
theorem spans_any {v u : Value} {L : List Pa} {T : List Nd} (w : World) (h : Pl w v L) (hT : Ns w u T) (hz : Zp L T) (hI : ∀ n ∈ T, inI n.fr ∧ inI n.tt) : Calls Tryd.prog 7 #[.agg (lgA v), u] w fun e w' => ∃ vo, e = .returned vo ∧ w'.ownsRow w.heap.size 50 3 vo (spn (lcl L) T).length (flat snf (spn (lcl L) T)) ∧ Below w.heap.size w w' := by
  have HP : Hid (Pl w v L) := h
  have HT : Hid (Ns w u T) := hT
  have HZ : Hid (Zp L T) := hz
  have HTL : Hid (T.length ≤ 1954687338212) := by have h9 := hz.tl; unfold Sm at h9; show _ ≤ _; omega
  have HAL : Hid (∀ a ∈ (ars (lcl L) T).1, Gd 140737488355328 a) := ars_all (lcl_size (fun x hx => (hz.ln x hx).2)) T hI
  have HAR : Hid ((ars (lcl L) T).1.length ≤ 1954687338212) := by
    have h1 := ars_len (lcl L) T
    have h2 := List.length_pos_iff.2 (ars_ne (lcl L) T)
    have := HTL.out
    show _ ≤ _
    omega
  obtain ⟨n, hn⟩ : ∃ n, L.length = n := ⟨_, rfl⟩
  obtain ⟨a, g0, o0, cap, e, -⟩ := id h
  subst e
  obtain ⟨m, hm⟩ : ∃ m, T.length = m := ⟨_, rfl⟩
  obtain ⟨ua, ug, uo, ucap, e, -⟩ := id hT
  subst e
  rw [hn, hm]
  rw [hn] at HP
  rw [hm] at HT
  clear h hT hz hI hn hm
  go_enter Tryd.func7, Tryd.ntmps7
  go_upto_region 1 with fail
  obtain ⟨w1, hw1⟩ : ∃ w1, w1 = w.alloc (.cells (lgA (.slice a n cap)) 46) := ⟨_, rfl⟩
  obtain ⟨g, hg⟩ : ∃ g, w.heap.size = g := ⟨_, rfl⟩
  have HG : Hid (w.heap.size = g) := hg
  have HB1 : Hid (Below g w w1) := by rw [hw1, ← hg]; exact bel_up _ _
  have HG1 : Hid (g < w1.heap.size) := by rw [hw1, ← hg, World.size_alloc]; exact Nat.lt_succ_self _
  have c8 : w1.cell? ⟨g, 8, none⟩ = some (.slice a n cap) := rcell (show w1.heap[g]? = some (.cells (lgA (.slice a n cap)) 46 (0, 0)) by rw [hw1, ← hg]; exact heap_new w _) 8 _ rfl
  have HTW : Hid (∀ W, Below g w W → Below w.heap.size w W) := fun W hW => by rw [hg]; exact hW
  rw [← hw1]
  rw [hg]
  clear hw1 hg
  obtain ⟨A, hA⟩ : ∃ A, (ars (lcl L) T).1 = A := ⟨_, rfl⟩
  obtain ⟨S, hS⟩ : ∃ S, (ars (lcl L) T).2 = S := ⟨_, rfl⟩
  have HSP : Hid (spn (lcl L) T = if S.length = 1 then spr A (cts A) (cts A).length else []) := by show _ = _; rw [← hA, ← hS]; rfl
  rw [hA] at HAL HAR
  have HAO : Hid (Calls Tryd.prog 12 #[.slice a n cap, .slice ua m ucap] w1 fun e w' => ∃ va, e = .returned (.tuple #[va, .bool (decide (S.length = 1))]) ∧ w'.ownsRow w1.heap.size 71 3 va A.length (flat arf A) ∧ Below w1.heap.size w1 w') := by
    have h9 := areasOf_any w1 (HP.out.up (HTW.out _ HB1.out)) (HT.out.up (HTW.out _ HB1.out)) HZ.out
    rw [hA, hS] at h9
    exact h9
  clear hA hS
  go_upto_region 2 with (go_at_call 12; refine Calls.mono HAO.out ?_; rintro e w2 ⟨va, rfl, hr2, hb2⟩; have HR2 : Hid (w2.ownsRow w1.heap.size 71 3 va A.length (flat arf A)) := hr2; have HB2 : Hid (Below w1.heap.size w1 w2) := hb2; clear hr2 hb2)
  clear c8 HAO
  have HBW2 : Hid (Below g w w2) := HB1.out.trans (HB2.out.mono (Nat.le_of_lt HG1.out))
  have HG2 : Hid (g < w2.heap.size) := Nat.lt_of_lt_of_le HG1.out HB2.out.size
  have HAW : Hid (Aw w2 va A) := row_rw HR2.out (by decide)
  clear HR2 HB2 HB1 HG1
  by_cases hl : S.length = 1
  · have e1 : decide (S.length = 1) = true := decide_eq_true hl
    rw [if_pos hl] at HSP
    clear hl
    have HCU : Hid _ := cuts_any w2 HAW.out (fun x hx => ⟨(HAL.out x hx).1, (HAL.out x hx).2.1⟩) HAR.out
    obtain ⟨P, hP⟩ : ∃ P, cts A = P := ⟨_, rfl⟩
    have HPP : Hid (cts A = P) := hP
    obtain ⟨q, hq⟩ : ∃ q, P.length = q := ⟨_, rfl⟩
    have HQ : Hid (P.length = q ∧ q ≤ 3909374676424) := ⟨hq, by have h8 := cts_len A; have := HAR.out; rw [hP, hq] at h8; omega⟩
    rw [hP, hq] at HCU HSP
    clear hP hq
    go_upto_region 5 with (go_at_call 13; refine Calls.mono HCU.out ?_; rintro e w3 ⟨vp, b, k, D, f, rfl, hr3, hm3, hf3, hs3, hb3⟩; obtain ⟨pa, pc, rfl⟩ := row_shape hr3; have HR3 : Hid (w3.ownsRow w2.heap.size 3 1 (.slice pa q pc) q (iC P)) := hr3; have HM3 : Hid (Mi w3 b k D f) := hm3; have HF3 : Hid (∀ i, i < q → f (P.getD i 0) = some i) := hf3; have HS3 : Hid (Maps.size D = q) := hs3; have HB3 : Hid (Below w2.heap.size w2 w3) := hb3; clear hr3 hm3 hf3 hs3 hb3)
    clear HCU
    have HBW3 : Hid (Below g w w3) := HBW2.out.trans (HB3.out.mono (Nat.le_of_lt HG2.out))
    have HG3 : Hid (g < w3.heap.size) := Nat.lt_of_lt_of_le HG2.out HB3.out.size
    have HCL : Hid (Calls Tryd.prog 14 #[va, .map (some b)] w3 fun e w' => ∃ vo, e = .returned vo ∧ w'.ownsRow w3.heap.size 9 1 vo q (fnC q (fa A P)) ∧ Below w3.heap.size w3 w') := by
      have h9 := classes_any w3 (HAW.out.up HB3.out) HM3.out (fun x hx => ⟨(HAL.out x hx).1, (HAL.out x hx).2.1⟩) (by rw [HPP.out, HQ.out.1]; exact HF3.out) (by rw [HPP.out, HQ.out.1]; exact HS3.out) HAR.out (by rw [HPP.out, HQ.out.1]; have := HQ.out.2; omega)
      rw [HPP.out, HQ.out.1] at h9
      exact h9
    go_upto_region 7 with (go_at_call 14; refine Calls.mono HCL.out ?_; rintro e w4 ⟨vo, rfl, hr4, hb4⟩; obtain ⟨ca, cc, rfl⟩ := row_shape hr4; have HR4 : Hid (w4.ownsRow w3.heap.size 9 1 (.slice ca q cc) q (fnC q (fa A P))) := hr4; have HB4 : Hid (Below w3.heap.size w3 w4) := hb4; clear hr4 hb4)
    clear HCL
    obtain ⟨N, hN⟩ : ∃ N, w4.heap.size = N := ⟨_, rfl⟩
    have HNN : Hid (w4.heap.size = N) := hN
    have HBW4 : Hid (Below g w w4) := HBW3.out.trans (HB4.out.mono (Nat.le_of_lt HG3.out))
    have HGN : Hid (g ≤ N) := by have := HG3.out; have := HB4.out.size; show _ ≤ _; omega
    have HRP : Hid (w4.ownsRow w2.heap.size 3 1 (.slice pa q pc) q (iC P)) := row_up HR3.out HB4.out
    clear hN HR3 HB4 HBW3 HG3 HM3 HF3 HS3 HB3 HBW2
    go_loopg [9, 30] q (fun gm v9 v30 wr => ∃ i : Nat, v30 = .int .i64 (i : Int) ∧ Hid (i ≤ q ∧ gm = q - i) ∧ Hid (wr.ownsRow N 50 3 v9 (spr A P i).length (flat snf (spr A P i))) ∧ Hid (Below N w4 wr))
    case atStart => exact ⟨0, rfl, ⟨Nat.zero_le _, rfl⟩, ⟨rfl, .inl ⟨rfl, rfl⟩⟩, by rw [← HNN.out]; exact Below.refl _ _⟩
    case round =>
      obtain ⟨i, rfl, HI, HO, HB⟩ := hrel
      obtain ⟨wa, hwa⟩ : ∃ wa, wa = wr := ⟨_, rfl⟩
      rw [← hwa] at HO HB ⊢
      clear hwa
      obtain ⟨oa, oc, e9⟩ := row_shape HO.out
      subst e9
      by_cases hi : i < q
      · have e2 : decide ((i : Int) < (q : Int)) = true := by rw [decide_eq_true_eq]; omega
        have e3 : decide (i < q) = true := by rw [decide_eq_true_eq]; omega
        have b1 : (i : Int) < (q : Int) := by omega
        have b2 : i < q := hi
        have b3 : (0 : Int) ≤ (i : Int) := by omega
        have HIL : Hid (i < q) := hi
        have hwi := w64n i (by have := HQ.out; omega)
        have HBB : Hid (Below w4.heap.size w4 wa) := by rw [HNN.out]; exact HB.out
        obtain ⟨cg, c9, ec, -, -⟩ := row_form HR4.out (by omega)
        obtain ⟨rfl, -, rfl⟩ := Value.slice.inj ec
        obtain ⟨pg, p9, ep, -, -⟩ := row_form HRP.out (by omega)
        obtain ⟨rfl, -, rfl⟩ := Value.slice.inj ep
        have c0 := below_cell HBB.out (row_at HR4.out i _ (fnC_get q (fa A P) i hi))
        obtain ⟨cl, hcl⟩ : ∃ cl, fa A P i = cl := ⟨_, rfl⟩
        have HCL : Hid (fa A P i = cl) := hcl
        rw [hcl] at c0
        have HSE : Hid (cl = ⟨#[]⟩ → spr A P (i + 1) = spr A P i) := fun h => by
          show (if fa A P i = ⟨#[]⟩ then spr A P i else _) = _
          rw [hcl, if_pos h]
        have HSF : Hid (cl ≠ ⟨#[]⟩ → spr A P (i + 1) = jn (spr A P i) ⟨P.getD i 0, P.getD (i + 1) 0, cl⟩) := fun h => by
          show (if fa A P i = ⟨#[]⟩ then spr A P i else _) = _
          rw [hcl, if_neg h]
        clear hi ec ep hcl
        by_cases hz : cl = ⟨#[]⟩
        · have f1 : (cl.toList == (⟨#[]⟩ : ByteArray).toList) = true := by rw [str_eq]; exact decide_eq_true hz
          have f2 : (cl.toList != (⟨#[]⟩ : ByteArray).toList) = false := by unfold bne; rw [f1]; rfl
          have HSS : Hid (spr A P (i + 1) = spr A P i) := HSE.out hz
          subst hz
          clear f1 f2
          go_wp2_with fail
          go_roundg (q - (i + 1))
          case measure => have := HI.out; have := HIL.out; omega
          case rel => exact ⟨i + 1, by simp, ⟨HIL.out, rfl⟩, by rw [HSS.out]; exact HO, HB⟩
        have f1 : (cl.toList == (⟨#[]⟩ : ByteArray).toList) = false := by rw [str_eq]; exact decide_eq_false hz
        have f2 : (cl.toList != (⟨#[]⟩ : ByteArray).toList) = true := by unfold bne; rw [f1]; rfl
        have HSS : Hid (spr A P (i + 1) = jn (spr A P i) ⟨P.getD i 0, P.getD (i + 1) 0, cl⟩) := HSF.out hz
        obtain ⟨x, hxA, hx1, hx2, hx3⟩ := fa_some (A := A) (P := P) (c := i) (by rw [HCL.out]; exact hz)
        have hxt : x.tt ∈ P := by
          rw [← HPP.out, cts_mem]; unfold eds; exact List.mem_flatMap.2 ⟨x, hxA, by simp⟩
        have hi1 : i + 1 < q := by have h8 := num_lt hxt; rw [HQ.out.1] at h8; omega
        have HCS : Hid (cl.size ≤ 140737488355328) := by show _ ≤ _; rw [← HCL.out, hx3]; exact (HAL.out x hxA).2.2
        have b4 : (i : Int) + 1 < (q : Int) := by omega
        have b5 : i + 1 < q := hi1
        have b6 : (0 : Int) ≤ (i : Int) + 1 := by omega
        have HP0 : Hid (∀ W, Below N w4 W → W.cell? ⟨pg, i, none⟩ = some (.int .i64 (P.getD i 0)) ∧ W.cell? ⟨pg, i + 1, none⟩ = some (.int .i64 (P.getD (i + 1) 0))) := fun W hW => by
          rw [← HNN.out] at hW
          exact ⟨below_cell hW (row_at HRP.out i _ (iC_get P i (by rw [HQ.out.1]; exact HIL.out))), below_cell hW (row_at HRP.out (i + 1) _ (iC_get P (i + 1) (by rw [HQ.out.1]; exact hi1)))⟩
        obtain ⟨p0, hp0⟩ : ∃ p0, P.getD i 0 = p0 := ⟨_, rfl⟩
        obtain ⟨p1, hp1⟩ : ∃ p1, P.getD (i + 1) 0 = p1 := ⟨_, rfl⟩
        rw [hp0, hp1] at HSS HP0
        obtain ⟨O, hO⟩ : ∃ O, spr A P i = O := ⟨_, rfl⟩
        have HOL : Hid (O.length < 4398046511104) := by have h8 := spr_len A P i; rw [hO] at h8; have := HQ.out; have := HIL.out; show _ < _; omega
        rw [hO] at HSS HO
        rw [hO]
        clear hz hxA hx1 hx2 hx3 hxt hi1 hp0 hp1 hO HSE HSF x
        have f3 : (!cl.toList.isEmpty) = true := by rw [ne_emp f1]; rfl
        go_upto_region 10 with fail
        clear c0 f1 f2 f3
        refine wp_region_noPanic ?_
        refine wp_region_held_drew (S := fun W => W.cell? ⟨pg, i, none⟩ = some (.int .i64 p0) ∧ W.cell? ⟨pg, i + 1, none⟩ = some (.int .i64 p1)) (by kernel_rfl) (HP0.out _ (Below.drew HB.out)) (fun hHeld => ?_)
        have HOD : Hid (wa.drew.ownsRow N 50 3 (.slice oa O.length oc) O.length (flat snf O)) := row_up HO.out (Below.drew (Below.refl _ _))
        have HBD : Hid (Below N w4 wa.drew) := Below.drew HB.out
        obtain ⟨wd, hwd⟩ : ∃ wd, wa.drew = wd := ⟨_, rfl⟩
        rw [hwd] at hHeld HOD HBD ⊢
        clear hwd HO HB HBB
        refine wpAnyH_take (i := 0) (oi := { dst := _, op := _, type := _, pos := _, after := _, guard := _ }) (v := ?_) rfl (by kernel_rfl) (by kernel_rfl) (by kernel_rfl) (fun _ _ _ h => h) (Or.inl ⟨by rfl, ?_⟩) (by assumption) ?_
        rotate_left
        · intro W hSw
          (try dsimp only at hSw)
          go_simp
          (try with_reducible rfl)
        try simp only [Act.put, List.setIfInBounds_toArray, List.set_cons_zero, List.set_cons_succ]
        refine wpAnyH_take (i := 1) (oi := { dst := _, op := _, type := _, pos := _, after := _, guard := _ }) (v := ?_) rfl (by kernel_rfl) (by kernel_rfl) (by kernel_rfl) (fun _ _ _ h => h) (Or.inl ⟨by rfl, ?_⟩) (by assumption) ?_
        rotate_left
        · intro W hSw
          (try dsimp only at hSw)
          go_simp
          (try with_reducible rfl)
        try simp only [Act.put, List.setIfInBounds_toArray, List.set_cons_zero, List.set_cons_succ]
        refine wpAnyH_take (i := 2) (oi := { dst := _, op := _, type := _, pos := _, after := _, guard := _ }) (v := ?_) rfl (by kernel_rfl) (by kernel_rfl) (by kernel_rfl) (fun _ _ _ h => h) (Or.inl ⟨by rfl, ?_⟩) (by assumption) ?_
        rotate_left
        · intro W hSw
          (try dsimp only at hSw)
          go_simp
          (try with_reducible rfl)
        try simp only [Act.put, List.setIfInBounds_toArray, List.set_cons_zero, List.set_cons_succ]
        refine wpAnyH_take (i := 3) (oi := { dst := _, op := _, type := _, pos := _, after := _, guard := _ }) (v := ?_) rfl (by kernel_rfl) (by kernel_rfl) (by kernel_rfl) (fun _ _ _ h => h) (Or.inl ⟨by rfl, ?_⟩) (by assumption) ?_
        rotate_left
        · intro W hSw
          (try dsimp only at hSw)
          go_simp
          (try with_reducible rfl)
        try simp only [Act.put, List.setIfInBounds_toArray, List.set_cons_zero, List.set_cons_succ]
        refine wpAnyH_take (i := 4) (oi := { dst := _, op := _, type := _, pos := _, after := _, guard := _ }) (v := ?_) rfl (by kernel_rfl) (by kernel_rfl) (by kernel_rfl) (fun _ _ _ h => h) (Or.inl ⟨by rfl, ?_⟩) (by assumption) ?_
        rotate_left
        · intro W hSw
          (try dsimp only at hSw)
          obtain ⟨s0, s1⟩ := hSw
          go_simp
          (try with_reducible rfl)
        try simp only [Act.put, List.setIfInBounds_toArray, List.set_cons_zero, List.set_cons_succ]
        refine wpAnyH_take (i := 5) (oi := { dst := _, op := _, type := _, pos := _, after := _, guard := _ }) (v := ?_) rfl (by kernel_rfl) (by kernel_rfl) (by kernel_rfl) (fun _ _ _ h => h) (Or.inl ⟨by rfl, ?_⟩) (by assumption) ?_
        rotate_left
        · intro W hSw
          (try dsimp only at hSw)
          go_simp
          (try with_reducible rfl)
        try simp only [Act.put, List.setIfInBounds_toArray, List.set_cons_zero, List.set_cons_succ]
        refine wpAnyH_take (i := 6) (oi := { dst := _, op := _, type := _, pos := _, after := _, guard := _ }) (v := ?_) rfl (by kernel_rfl) (by kernel_rfl) (by kernel_rfl) (fun _ _ _ h => h) (Or.inl ⟨by rfl, ?_⟩) (by assumption) ?_
        rotate_left
        · intro W hSw
          (try dsimp only at hSw)
          go_simp
          (try with_reducible rfl)
        try simp only [Act.put, List.setIfInBounds_toArray, List.set_cons_zero, List.set_cons_succ]
        refine wpAnyH_take (i := 7) (oi := { dst := _, op := _, type := _, pos := _, after := _, guard := _ }) (v := ?_) rfl (by kernel_rfl) (by kernel_rfl) (by kernel_rfl) (fun _ _ _ h => h) (Or.inl ⟨by rfl, ?_⟩) (by assumption) ?_
        rotate_left
        · intro W hSw
          (try dsimp only at hSw)
          go_simp
          (try with_reducible rfl)
        try simp only [Act.put, List.setIfInBounds_toArray, List.set_cons_zero, List.set_cons_succ]
        refine wpAnyH_take (i := 8) (oi := { dst := _, op := _, type := _, pos := _, after := _, guard := _ }) (v := ?_) rfl (by kernel_rfl) (by kernel_rfl) (by kernel_rfl) (fun _ _ _ h => h) (Or.inl ⟨by rfl, ?_⟩) (by assumption) ?_
        rotate_left
        · intro W hSw
          (try dsimp only at hSw)
          go_simp
          (try with_reducible rfl)
        try simp only [Act.put, List.setIfInBounds_toArray, List.set_cons_zero, List.set_cons_succ]
        refine wpAnyH_take (i := 9) (oi := { dst := _, op := _, type := _, pos := _, after := _, guard := _ }) (v := ?_) rfl (by kernel_rfl) (by kernel_rfl) (by kernel_rfl) (fun _ _ _ h => h) (Or.inl ⟨by rfl, ?_⟩) (by assumption) ?_
        rotate_left
        · intro W hSw
          (try dsimp only at hSw)
          obtain ⟨s0, s1⟩ := hSw
          go_simp
          (try with_reducible rfl)
        try simp only [Act.put, List.setIfInBounds_toArray, List.set_cons_zero, List.set_cons_succ]
        refine wpAnyH_take (i := 10) (oi := { dst := _, op := _, type := _, pos := _, after := _, guard := _ }) (v := ?_) rfl (by kernel_rfl) (by kernel_rfl) (by kernel_rfl) (fun _ _ _ h => h) (Or.inl ⟨by rfl, ?_⟩) (by assumption) ?_
        rotate_left
        · intro W hSw
          (try dsimp only at hSw)
          go_simp
          (try with_reducible rfl)
        try simp only [Act.put, List.setIfInBounds_toArray, List.set_cons_zero, List.set_cons_succ]
        refine wpAnyH_take (i := 11) (oi := { dst := _, op := _, type := _, pos := _, after := _, guard := _ }) (v := ?_) rfl (by kernel_rfl) (by kernel_rfl) (by kernel_rfl) (fun _ _ _ h => h) (Or.inl ⟨by rfl, ?_⟩) (by assumption) ?_
        rotate_left
        · intro W hSw
          (try dsimp only at hSw)
          go_simp
          (try with_reducible rfl)
        try simp only [Act.put, List.setIfInBounds_toArray, List.set_cons_zero, List.set_cons_succ]
        refine wpAnyH_ready (rs := [12]) (by kernel_rfl) (by simp) ?_
        refine AllReadyH.cons (o := { dst := _, op := _, type := _, pos := _, after := _, guard := _ }) rfl (fun K hK => ?_) AllReadyH.nil
        go_simp
        refine (joined_any (B := N) ⟨p0, p1, cl⟩ wd (by have := HBD.out.size; have := HNN.out; omega) HOD.out HOL.out HCS.out).mono ?_
        rintro e we ⟨v9, rfl, ho9, hb9⟩
        have HO9 : Hid (we.ownsRow N 50 3 v9 (jn O ⟨p0, p1, cl⟩).length (flat snf (jn O ⟨p0, p1, cl⟩))) := ho9
        have HB9 : Hid (Below N w4 we) := HBD.out.trans hb9
        clear ho9 hb9
        go_wp2_with fail
        refine hK.out _ _ ?_ (fun hHeld => ?_)
        · exact HP0.out _ HB9.out
        clear hK K
        try simp only [Act.put, List.setIfInBounds_toArray, List.set_cons_zero, List.set_cons_succ]
        refine wpAnyH_take (i := 13) (oi := { dst := _, op := _, type := _, pos := _, after := _, guard := _ }) (v := ?_) rfl (by kernel_rfl) (by kernel_rfl) (by kernel_rfl) (fun _ _ _ h => h) (Or.inl ⟨by rfl, ?_⟩) (by assumption) ?_
        rotate_left
        · intro W hSw
          (try dsimp only at hSw)
          go_simp
          (try with_reducible rfl)
        try simp only [Act.put, List.setIfInBounds_toArray, List.set_cons_zero, List.set_cons_succ]
        refine wpAnyH_done (by kernel_rfl) ?_ _
        clear hHeld
        refine NoPanic.normal ?_
        go_wp2_with fail
        go_roundg (q - (i + 1))
        case measure => have := HI.out; have := HIL.out; omega
        case rel => exact ⟨i + 1, by simp, ⟨HIL.out, rfl⟩, by rw [HSS.out]; exact HO9, HB9⟩
      · have e2 : decide ((i : Int) < (q : Int)) = false := by rw [decide_eq_false_iff_not]; omega
        have e3 : decide (i < q) = false := by rw [decide_eq_false_iff_not]; omega
        have hin : i = q := by have := HI.out; omega
        have HOQ : Hid (wa.ownsRow N 50 3 (.slice oa (spr A P i).length oc) (spr A P q).length (flat snf (spr A P q))) := by rw [← hin]; exact HO.out
        clear hi hin
        go_wp2_with fail
        go_ret
        refine ⟨_, rfl, ?_, by rw [HG.out]; exact HBW4.out.trans (HB.out.mono HGN.out)⟩
        rw [HSP.out, HG.out]
        exact row_base HOQ.out HGN.out
  · have e1 : decide (S.length = 1) = false := decide_eq_false hl
    rw [if_neg hl] at HSP
    clear hl
    go_wp2_with fail
    go_ret
    refine ⟨_, rfl, ?_, by rw [HG.out]; exact HBW2.out⟩
    rw [HSP.out]
    exact ⟨rfl, .inl ⟨rfl, rfl⟩⟩
end Go.Proofs.YtbkhhegmmkcbbaaDoor
