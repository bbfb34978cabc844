import Derived.Test.YtbkhhegmmkcbbaaDoorSpu
namespace Go.Proofs.YtbkhhegmmkcbbaaDoor
open Go.RowKit Go.Maps

/-! The first area that has a byte is that of the last node on its path. -/
def hsa (z : Int) (x : Ar) : Bool := decide (x.fr ≤ z ∧ z < x.tt)
/-- The class along a path. -/
def pcl (C : ByteArray → Option ByteArray) (T : List Nd) (c : ByteArray) (l : List Int) : ByteArray := l.foldl (fun c x => (C (T.getD x.toNat ndd).nm).getD c) c
theorem clr_foldr (L : List Pa) (T : List Nd) : ∀ m : List Int, clr L T m = m.foldr (fun x c => (lcl L (T.getD x.toNat ndd).nm).getD c) ⟨#[]⟩
  | [] => rfl
  | x :: m => by
    rw [List.foldr_cons, ← clr_foldr L T m]
    rw [clr]
    unfold lcl
    cases fs L (T.getD x.toNat ndd).nm <;> rfl
theorem clr_pcl (L : List Pa) (T : List Nd) (l : List Int) : clr L T l.reverse = pcl (lcl L) T ⟨#[]⟩ l := by
  rw [clr_foldr, List.foldr_reverse]; rfl
theorem popr_stay (out : List Ar) (x : Oq) (R : List Oq) (h : x.lf ≠ 0) : popr out (x :: R) = (out, x :: R) := by
  cases R with
  | nil => rfl
  | cons y R => unfold popr; rw [if_neg h]
theorem popr_done (out : List Ar) (x y : Oq) (R : List Oq) (h : x.lf = 0) : popr out (x :: y :: R) = popr (out ++ [x.ar]) (y :: R) := by
  rw [popr, if_pos h]
theorem dec_wrap (x : Int) (j : Nat) : IntKind.i64.wrap (dec1 x - (j : Int)) = IntKind.i64.wrap (x - ((j : Int) + 1)) := by
  unfold dec1; rw [IntKind.wrap_i64, IntKind.wrap_i64, IntKind.wrap_i64]; omega
theorem find_none_of {A : List Ar} {z : Int} (h : ∀ x ∈ A, hsa z x = false) : A.find? (hsa z) = none :=
  List.find?_eq_none.2 fun x hx => by rw [h x hx]; decide
theorem seg {C : ByteArray → Option ByteArray} {T : List Nd} (hF : Fo (kds T)) (hb : T.length ≤ 1152921504606846976) : ∀ (N a k : Nat) (lf : Int) (up : Ar) (R : List Oq) (out : List Ar), T.length - a < N → a ≤ T.length → k + 1 ≤ rA (kds T) a → (∀ j : Nat, 0 < j → j ≤ k → IntKind.i64.wrap (lf - (j : Int)) ≠ 0) →
    ∃ A : List Ar, (T.drop a).foldl (pstep C) (out, ⟨up, lf⟩ :: R) = (T.drop (wA (kds T) a (k + 1))).foldl (pstep C) (popr (out ++ A) (⟨up, IntKind.i64.wrap (lf - ((k : Int) + 1))⟩ :: R)) ∧ (∀ x ∈ A, up.fr ≤ x.fr ∧ x.tt ≤ up.tt) ∧ ∀ z, hsa z up = true → ((A.find? (hsa z)).map Ar.cl).getD up.cl = pcl C T up.cl (pth T z (T.length + 1) a (k + 1) [])
  | 0, a, k, lf, up, R, out, hN, _, _, _ => by omega
  | N + 1, a, k, lf, up, R, out, hN, ha, hk, hc => by
    have hl := hF.le a
    rw [kds_len] at hl
    have hlt : a < T.length := by omega
    obtain ⟨s1, s2, s3, s4⟩ := hF.step a (by rw [kds_len]; exact hlt)
    have he := hF.elt a (by rw [kds_len]; exact hlt)
    rw [kds_len] at he
    have hw := hF.eq a (by rw [kds_len]; exact hlt)
    have hl1 := hF.le (a + 1)
    rw [kds_len] at hl1
    obtain ⟨n, hn⟩ : ∃ n, T.getD a ndd = n := ⟨_, rfl⟩
    have ek : n.kd = (kA (kds T) a : Int) := by rw [← s2, kds_get, hn]
    obtain ⟨o, ho⟩ : ∃ o, own1 C up n = o := ⟨_, rfl⟩
    have ofr : up.fr ≤ o.fr ∧ o.tt ≤ up.tt := by rw [← ho]; unfold own1; dsimp only; omega
    have ed : T.drop a = n :: T.drop (a + 1) := by
      rw [List.drop_eq_getElem_cons hlt, ← hn, List.getD_eq_getElem?_getD, List.getElem?_eq_getElem hlt]; rfl
    have e1 : (T.drop a).foldl (pstep C) (out, ⟨up, lf⟩ :: R) = (T.drop (a + 1)).foldl (pstep C) (popr out (⟨o, n.kd⟩ :: ⟨up, dec1 lf⟩ :: R)) := by
      have e2 : pstep C (out, ⟨up, lf⟩ :: R) n = popr out (⟨o, n.kd⟩ :: ⟨up, dec1 lf⟩ :: R) := by
        show popr out (⟨own1 C up n, n.kd⟩ :: ⟨up, dec1 lf⟩ :: R) = _
        rw [ho]
      rw [ed, List.foldl_cons, e2]
    -- the kids
    have hK : ∃ A1 : List Ar, (T.drop (a + 1)).foldl (pstep C) (popr out (⟨o, n.kd⟩ :: ⟨up, dec1 lf⟩ :: R)) = (T.drop (eA (kds T) a)).foldl (pstep C) (popr (out ++ A1 ++ [o]) (⟨up, dec1 lf⟩ :: R)) ∧ (∀ x ∈ A1, o.fr ≤ x.fr ∧ x.tt ≤ o.tt) ∧ ∀ z, hsa z o = true → ((A1.find? (hsa z)).map Ar.cl).getD o.cl = pcl C T o.cl (pth T z (T.length + 1) (a + 1) (kA (kds T) a) []) := by
      cases hm : kA (kds T) a with
      | zero =>
        rw [hm] at ek hw
        rw [wA_zero] at hw
        refine ⟨[], ?_, fun x hx => (by cases hx), fun z _ => ?_⟩
        · rw [popr_done _ _ _ _ (by rw [ek]; rfl), hw, List.append_nil]
        · rw [pth_zero]; rfl
      | succ m =>
        rw [hm] at ek hw s3
        obtain ⟨A1, h1, h2, h3⟩ := seg hF hb N (a + 1) m n.kd o (⟨up, dec1 lf⟩ :: R) out (by omega) (by omega) s3 (fun j hj hj2 => by rw [ek, IntKind.wrap_i64]; omega)
        refine ⟨A1, ?_, h2, h3⟩
        rw [popr_stay _ _ _ (by show n.kd ≠ 0; rw [ek]; omega), h1, hw, popr_done _ _ _ _ (by show IntKind.i64.wrap (n.kd - ((m : Int) + 1)) = 0; rw [ek, IntKind.wrap_i64]; omega)]
    obtain ⟨A1, h1, h2, h3⟩ := hK
    rw [e1, h1]
    have hcls : ∀ z, hsa z up = true → cvr n z = hsa z o := fun z hz => by
      unfold hsa at hz ⊢
      rw [decide_eq_true_eq] at hz
      unfold cvr
      rw [← ho]; unfold own1; dsimp only
      by_cases g1 : n.fr ≤ z <;> by_cases g2 : z < n.tt
      · rw [decide_eq_true g1, decide_eq_true g2, decide_eq_true (by omega)]; rfl
      · rw [decide_eq_true g1, decide_eq_false g2, decide_eq_false (by omega)]; rfl
      · rw [decide_eq_false g1, decide_eq_true g2, decide_eq_false (by omega)]; rfl
      · rw [decide_eq_false g1, decide_eq_false g2, decide_eq_false (by omega)]; rfl
    have hcl : (C n.nm).getD up.cl = o.cl := by rw [← ho]; rfl
    -- what the first tree says of a byte
    have hA : ∀ (z : Int) (A2 : List Ar), hsa z up = true → (((A1 ++ o :: A2).find? (hsa z)).map Ar.cl).getD up.cl = if hsa z o = true then pcl C T o.cl (pth T z (T.length + 1) (a + 1) (kA (kds T) a) []) else ((A2.find? (hsa z)).map Ar.cl).getD up.cl := fun z A2 hz => by
      rw [List.find?_append]
      by_cases hx : hsa z o = true
      · rw [if_pos hx, ← h3 z hx]
        cases A1.find? (hsa z) with
        | some y => rfl
        | none =>
          rw [List.find?_cons_of_pos hx]; rfl
      · rw [if_neg hx, find_none_of (A := A1) (fun x hxm => by
          have := h2 x hxm
          rw [Bool.not_eq_true] at hx
          unfold hsa at hx ⊢
          rw [decide_eq_false_iff_not] at hx ⊢
          omega), List.find?_cons_of_neg hx]
        rfl
    have hpth : ∀ z, hsa z up = true → ∀ kk, kk + 1 ≤ rA (kds T) a → pcl C T up.cl (pth T z (T.length + 1) a (kk + 1) []) = if hsa z o = true then pcl C T o.cl (pth T z (T.length + 1) (a + 1) (kA (kds T) a) []) else pcl C T up.cl (pth T z (T.length + 1) (eA (kds T) a) kk []) := fun z hz kk hkk => by
      rw [pth_step z hF a kk hlt hkk, hn, hcls z hz]
      split
      · show pcl C T ((C (T.getD ((a : Int)).toNat ndd).nm).getD up.cl) _ = _
        rw [Int.toNat_natCast, hn, hcl]
      · rfl
    cases k with
    | zero =>
      refine ⟨A1 ++ [o], ?_, ?_, ?_⟩
      · rw [List.append_assoc]; rfl
      · intro x hx
        rcases List.mem_append.1 hx with hx | hx
        · have := h2 x hx; omega
        · rw [List.mem_singleton] at hx; rw [hx]; exact ofr
      · intro z hz
        rw [hpth z hz 0 hk, hA z [] hz, pth_zero]; rfl
    | succ k =>
      have hd : dec1 lf ≠ 0 := hc 1 (by omega) (by omega)
      rw [popr_stay _ _ _ hd]
      obtain ⟨A2, g1, g2, g3⟩ := seg (C := C) hF hb N (eA (kds T) a) k (dec1 lf) up R (out ++ A1 ++ [o]) (by omega) he.2.1 (by omega) (fun j hj hj2 => by rw [dec_wrap]; exact hc (j + 1) (by omega) (by omega))
      refine ⟨A1 ++ o :: A2, ?_, ?_, ?_⟩
      · rw [g1, hF.add a 1 (k + 1) (by omega) |> fun e => (show wA (kds T) a (k + 1 + 1) = wA (kds T) (eA (kds T) a) (k + 1) by rw [Nat.add_comm (k + 1) 1]; exact e)]
        rw [show out ++ (A1 ++ o :: A2) = out ++ A1 ++ [o] ++ A2 by simp]
        rw [show ((k : Int) + 1) = ((k + 1 : Nat) : Int) by omega, dec_wrap]
      · intro x hx
        rcases List.mem_append.1 hx with hx | hx
        · have := h2 x hx; omega
        · rcases List.mem_cons.1 hx with hx | hx
          · rw [hx]; exact ofr
          · exact g2 x hx
      · intro z hz
        rw [hpth z hz (k + 1) hk, hA z A2 hz]
        split
        · rfl
        · exact g3 z hz
/-- A list that is no forest: where it fails. -/
theorem rt_fail : ∀ l : List Int, rt l = none → ∃ pre x l' q, l = pre ++ x :: l' ∧ rt l' = some q ∧ ¬(0 ≤ x ∧ x ≤ (q : Int))
  | [], h => by cases h
  | x :: l, h => by
    cases hq : rt l with
    | none =>
      obtain ⟨pre, y, l', q, e, h1, h2⟩ := rt_fail l hq
      exact ⟨x :: pre, y, l', q, by rw [e]; rfl, h1, h2⟩
    | some q =>
      refine ⟨[], x, l, q, rfl, hq, fun hx => ?_⟩
      unfold rt at h
      rw [hq] at h
      dsimp only at h
      rw [if_pos hx] at h
      cases h
end Go.Proofs.YtbkhhegmmkcbbaaDoor
