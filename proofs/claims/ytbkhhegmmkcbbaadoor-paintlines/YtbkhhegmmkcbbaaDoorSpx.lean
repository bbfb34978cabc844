import Derived.Test.YtbkhhegmmkcbbaaDoorSpw
namespace Go.Proofs.YtbkhhegmmkcbbaaDoor
open Go.RowKit Go.Maps

/-! The spans of a function from bytes to classes: there is one list alone. -/
structure Can (f : Int → ByteArray) (S : List Sn) : Prop where
  one : ∀ x ∈ S, x.fr < x.tt ∧ x.cl ≠ ⟨#[]⟩
  two : S.Pairwise fun x y => x.tt ≤ y.fr ∧ (x.tt = y.fr → x.cl ≠ y.cl)
  hit : ∀ x ∈ S, ∀ z, x.fr ≤ z → z < x.tt → f z = x.cl
  all : ∀ z, f z ≠ ⟨#[]⟩ → ∃ x ∈ S, x.fr ≤ z ∧ z < x.tt
theorem Can.nil {f : Int → ByteArray} (h : ∀ z, f z = ⟨#[]⟩) : Can f [] := ⟨fun x hx => (by cases hx), List.Pairwise.nil, fun x hx => (by cases hx), fun z hz => absurd (h z) hz⟩
theorem Can.congr {f g : Int → ByteArray} {S : List Sn} (h : Can f S) (e : ∀ z, f z = g z) : Can g S := by
  rw [← show f = g from funext e]; exact h
theorem Can.jn {f : Int → ByteArray} {O : List Sn} {s : Sn} (h : Can f O) (hO : ∀ x ∈ O, x.tt ≤ s.fr) (hs : s.fr < s.tt) (hc : s.cl ≠ ⟨#[]⟩) : Can (fun z => if s.fr ≤ z ∧ z < s.tt then s.cl else f z) (jn O s) ∧ ∀ x ∈ jn O s, x.tt ≤ s.tt := by
  rcases List.eq_nil_or_concat O with rfl | ⟨O', x, rfl⟩
  · refine ⟨⟨fun y hy => ?_, ?_, fun y hy z h1 h2 => ?_, fun z hz => ?_⟩, fun y hy => ?_⟩
    · rw [show Go.Proofs.YtbkhhegmmkcbbaaDoor.jn [] s = [s] from rfl, List.mem_singleton] at hy; rw [hy]; exact ⟨hs, hc⟩
    · exact List.pairwise_singleton _ _
    · rw [show Go.Proofs.YtbkhhegmmkcbbaaDoor.jn [] s = [s] from rfl, List.mem_singleton] at hy
      subst hy
      exact if_pos ⟨h1, h2⟩
    · refine ⟨s, List.mem_singleton.2 rfl, ?_⟩
      (try dsimp only at hz)
      split at hz
      · next h1 => exact h1
      · obtain ⟨u, hu, -⟩ := h.all z hz; cases hu
    · rw [show Go.Proofs.YtbkhhegmmkcbbaaDoor.jn [] s = [s] from rfl, List.mem_singleton] at hy; rw [hy]; exact Int.le_refl _
  · rw [List.concat_eq_append] at h hO ⊢
    rw [jn_app]
    have hx : x ∈ O' ++ [x] := by simp
    have hm : ∀ y ∈ O', y ∈ O' ++ [x] := fun y hy => List.mem_append_left _ hy
    have h1 := h.one x hx
    have hxs := hO x hx
    obtain ⟨p1, -, p3⟩ := List.pairwise_append.1 h.two
    have p4 : ∀ y ∈ O', y.tt ≤ x.fr ∧ (y.tt = x.fr → y.cl ≠ x.cl) := fun y hy => p3 y hy x (List.mem_singleton.2 rfl)
    split
    · next hj =>
      obtain ⟨j1, j2⟩ := hj
      refine ⟨⟨fun y hy => ?_, ?_, fun y hy z g1 g2 => ?_, fun z hz => ?_⟩, fun y hy => ?_⟩
      · rcases List.mem_append.1 hy with hy | hy
        · exact h.one y (hm y hy)
        · rw [List.mem_singleton.1 hy]; exact ⟨by show x.fr < s.tt; omega, h1.2⟩
      · refine List.pairwise_append.2 ⟨p1, List.pairwise_singleton _ _, fun y hy u hu => ?_⟩
        rw [List.mem_singleton.1 hu]; exact p4 y hy
      · rcases List.mem_append.1 hy with hy | hy
        · (try dsimp only)
          rw [if_neg (by have := p4 y hy; omega)]
          exact h.hit y (hm y hy) z g1 g2
        · rw [List.mem_singleton.1 hy] at g1 g2 ⊢
          (try dsimp only at g1 g2 ⊢)
          split
          · exact j2.symm
          · exact h.hit x hx z g1 (by omega)
      · (try dsimp only at hz)
        split at hz
        · exact ⟨⟨x.fr, s.tt, x.cl⟩, by simp, by show x.fr ≤ z; omega, by show z < s.tt; omega⟩
        · obtain ⟨u, hu, u1, u2⟩ := h.all z hz
          rcases List.mem_append.1 hu with hu | hu
          · exact ⟨u, List.mem_append_left _ hu, u1, u2⟩
          · rw [List.mem_singleton.1 hu] at u1 u2
            exact ⟨⟨x.fr, s.tt, x.cl⟩, by simp, u1, by show z < s.tt; omega⟩
      · rcases List.mem_append.1 hy with hy | hy
        · have := hO y (hm y hy); omega
        · rw [List.mem_singleton.1 hy]; exact Int.le_refl _
    · next hj =>
      refine ⟨⟨fun y hy => ?_, ?_, fun y hy z g1 g2 => ?_, fun z hz => ?_⟩, fun y hy => ?_⟩
      · rcases List.mem_append.1 hy with hy | hy
        · exact h.one y hy
        · rw [List.mem_singleton.1 hy]; exact ⟨hs, hc⟩
      · refine List.pairwise_append.2 ⟨h.two, List.pairwise_singleton _ _, fun y hy u hu => ?_⟩
        rw [List.mem_singleton.1 hu]
        refine ⟨hO y hy, fun e => ?_⟩
        rcases List.mem_append.1 hy with hy | hy
        · have := p4 y hy; omega
        · rw [List.mem_singleton.1 hy] at e ⊢
          exact fun e2 => hj ⟨e, e2⟩
      · rcases List.mem_append.1 hy with hy | hy
        · (try dsimp only)
          rw [if_neg (by have := hO y hy; omega)]
          exact h.hit y hy z g1 g2
        · rw [List.mem_singleton.1 hy] at g1 g2 ⊢
          exact if_pos ⟨g1, g2⟩
      · (try dsimp only at hz)
        split at hz
        · next g => exact ⟨s, by simp, g⟩
        · obtain ⟨u, hu, u1, u2⟩ := h.all z hz
          exact ⟨u, List.mem_append_left _ hu, u1, u2⟩
      · rcases List.mem_append.1 hy with hy | hy
        · have := hO y hy; omega
        · rw [List.mem_singleton.1 hy]; exact Int.le_refl _
theorem Can.fst {f : Int → ByteArray} {x : Sn} {S : List Sn} (h : Can f (x :: S)) {z : Int} (hz : f z ≠ ⟨#[]⟩) : x.fr ≤ z := by
  obtain ⟨u, hu, u1, u2⟩ := h.all z hz
  rcases List.mem_cons.1 hu with rfl | hu
  · exact u1
  · have := (List.pairwise_cons.1 h.two).1 u hu
    have := h.one x (List.mem_cons_self ..)
    omega
theorem Can.end {f : Int → ByteArray} {x y : Sn} {S R : List Sn} (h : Can f (x :: S)) (k : Can f (y :: R)) (e : x.fr = y.fr) (ec : x.cl = y.cl) : ¬(x.tt < y.tt) := fun hl => by
  have h1 := h.one x (List.mem_cons_self ..)
  have h2 := k.hit y (List.mem_cons_self ..) x.tt (by omega) hl
  obtain ⟨u, hu, u1, u2⟩ := h.all x.tt (by rw [h2, ← ec]; exact h1.2)
  have h3 := h.hit u hu x.tt u1 u2
  rcases List.mem_cons.1 hu with rfl | hu
  · omega
  · have h4 := (List.pairwise_cons.1 h.two).1 u hu
    refine h4.2 (by omega) ?_
    rw [← h3, h2, ec]
theorem Can.tail {f : Int → ByteArray} {x : Sn} {S : List Sn} (h : Can f (x :: S)) : Can (fun z => if z < x.tt then ⟨#[]⟩ else f z) S := by
  obtain ⟨p1, p2⟩ := List.pairwise_cons.1 h.two
  refine ⟨fun y hy => h.one y (List.mem_cons_of_mem _ hy), p2, fun y hy z g1 g2 => ?_, fun z hz => ?_⟩
  · (try dsimp only)
    rw [if_neg (by have := p1 y hy; omega)]
    exact h.hit y (List.mem_cons_of_mem _ hy) z g1 g2
  · (try dsimp only at hz)
    split at hz
    · exact absurd rfl hz
    · obtain ⟨u, hu, u1, u2⟩ := h.all z hz
      rcases List.mem_cons.1 hu with rfl | hu
      · omega
      · exact ⟨u, hu, u1, u2⟩
theorem Can.uniq : ∀ {S R : List Sn} {f : Int → ByteArray}, Can f S → Can f R → S = R
  | [], [], _, _, _ => rfl
  | [], y :: R, f, h, k => by
    have h1 := k.one y (List.mem_cons_self ..)
    have h2 := k.hit y (List.mem_cons_self ..) y.fr (Int.le_refl _) h1.1
    obtain ⟨u, hu, -⟩ := h.all y.fr (by rw [h2]; exact h1.2)
    cases hu
  | x :: S, [], f, h, k => by
    have h1 := h.one x (List.mem_cons_self ..)
    have h2 := h.hit x (List.mem_cons_self ..) x.fr (Int.le_refl _) h1.1
    obtain ⟨u, hu, -⟩ := k.all x.fr (by rw [h2]; exact h1.2)
    cases hu
  | x :: S, y :: R, f, h, k => by
    have h1 := h.one x (List.mem_cons_self ..)
    have h2 := h.hit x (List.mem_cons_self ..) x.fr (Int.le_refl _) h1.1
    have k1 := k.one y (List.mem_cons_self ..)
    have k2 := k.hit y (List.mem_cons_self ..) y.fr (Int.le_refl _) k1.1
    have a1 := k.fst (z := x.fr) (by rw [h2]; exact h1.2)
    have a2 := h.fst (z := y.fr) (by rw [k2]; exact k1.2)
    have e1 : x.fr = y.fr := by omega
    have e2 : x.cl = y.cl := by rw [← h2, e1, k2]
    have b1 := h.end k e1 e2
    have b2 := k.end h e1.symm e2.symm
    have e3 : x.tt = y.tt := by omega
    have e4 : x = y := by cases x; cases y; simp only at e1 e2 e3; subst e1 e2 e3; rfl
    subst e4
    rw [Can.uniq h.tail k.tail]
theorem spr_can (A : List Ar) : ∀ i, i < (cts A).length → Can (fun z => if z < (cts A).getD i 0 then fz A z else ⟨#[]⟩) (spr A (cts A) i) ∧ ∀ x ∈ spr A (cts A) i, x.tt ≤ (cts A).getD i 0
  | 0, h => by
    refine ⟨Can.nil fun z => ?_, fun x hx => by cases hx⟩
    split
    · next hz =>
      rcases Classical.em (fz A z = ⟨#[]⟩) with e | e
      · exact e
      · obtain ⟨a, ha, h1, h2⟩ := fz_some e
        have h3 := (eds_in ha).1
        have h4 := num_get h3
        have h5 := num_lt h3
        rcases Nat.eq_zero_or_pos (num (cts A) a.fr) with h6 | h6
        · rw [h6] at h4; omega
        · have := get_lt (cts_lt A) h6 h5; omega
    · rfl
  | i + 1, h => by
    obtain ⟨h1, h2⟩ := spr_can A i (by omega)
    have hl := get_lt (cts_lt A) (by omega : i < i + 1) h
    have hz : ∀ z, (cts A).getD i 0 ≤ z → z < (cts A).getD (i + 1) 0 → fa A (cts A) i = fz A z := fun z g1 g2 => fa_fz (by omega) g1 fun _ => g2
    unfold spr
    split
    · next e =>
      refine ⟨h1.congr fun z => ?_, fun x hx => by have := h2 x hx; omega⟩
      by_cases g1 : z < (cts A).getD i 0
      · rw [if_pos g1, if_pos (by omega)]
      · rw [if_neg g1]
        by_cases g2 : z < (cts A).getD (i + 1) 0
        · rw [if_pos g2, ← hz z (by omega) g2, e]
        · rw [if_neg g2]
    · next e =>
      obtain ⟨k1, k2⟩ := Can.jn (s := ⟨(cts A).getD i 0, (cts A).getD (i + 1) 0, fa A (cts A) i⟩) h1 h2 hl e
      refine ⟨k1.congr fun z => ?_, k2⟩
      (try dsimp only)
      by_cases g1 : z < (cts A).getD i 0
      · rw [if_neg (show ¬((cts A).getD i 0 ≤ z ∧ z < (cts A).getD (i + 1) 0) by omega), if_pos g1, if_pos (show z < (cts A).getD (i + 1) 0 by omega)]
      · rw [if_neg g1]
        by_cases g2 : z < (cts A).getD (i + 1) 0
        · rw [if_pos g2, if_pos (by omega), ← hz z (by omega) g2]
        · rw [if_neg g2, if_neg (by omega)]
theorem spr_all (A : List Ar) : Can (fz A) (spr A (cts A) (cts A).length) := by
  rcases Nat.eq_zero_or_pos (cts A).length with h0 | h0
  · rw [h0]
    refine Can.nil fun z => ?_
    rcases Classical.em (fz A z = ⟨#[]⟩) with e | e
    · exact e
    · obtain ⟨a, ha, -⟩ := fz_some e
      have := num_lt (eds_in ha).1
      omega
  · obtain ⟨n, hn⟩ : ∃ n, (cts A).length = n + 1 := ⟨(cts A).length - 1, by omega⟩
    obtain ⟨h1, -⟩ := spr_can A n (by omega)
    have e : fa A (cts A) n = ⟨#[]⟩ := by
      rcases Classical.em (fa A (cts A) n = ⟨#[]⟩) with e | e
      · exact e
      · obtain ⟨a, ha, -, h2, -⟩ := fa_some e
        have := num_lt (eds_in ha).2
        omega
    rw [hn]
    unfold spr
    rw [if_pos e]
    refine h1.congr fun z => ?_
    split
    · rfl
    · next hz =>
      rcases Classical.em (fz A z = ⟨#[]⟩) with e | e
      · exact e.symm
      · obtain ⟨a, ha, -, h2⟩ := fz_some e
        have h3 := (eds_in ha).2
        have := (num_le_iff (cts_lt A) h3 (c := n) (by omega)).1 (by have := num_lt h3; omega)
        omega
/-- Spans answers the spans of the classes of the bytes. -/
theorem spn_can {C : ByteArray → Option ByteArray} {T : List Nd} (hb : T.length ≤ 1152921504606846976) (hI : ∀ n ∈ T, inI n.fr ∧ inI n.tt ∧ inI n.kd) : Can (cz C T) (spn C T) := by
  unfold spn
  cases hr : rt (kds T) with
  | none =>
    rw [if_neg (ars_no hr hb fun n hn => (hI n hn).2.2)]
    refine Can.nil fun z => ?_
    unfold cz pat
    rw [hr]
    split <;> rfl
  | some r =>
    obtain ⟨h1, h2, h3⟩ := ars_yes (C := C) hr hb
    rw [if_pos h1]
    refine (spr_all (ars C T).1).congr fun z => ?_
    have hno : ¬(0 ≤ z ∧ z < 9223372036854775807) → fz (ars C T).1 z = ⟨#[]⟩ := fun h => by
      rcases Classical.em (fz (ars C T).1 z = ⟨#[]⟩) with e | e
      · exact e
      · obtain ⟨a, ha, k1, k2⟩ := fz_some e
        have := h2 a ha
        omega
    unfold cz
    by_cases h0 : z < 0
    · rw [if_pos h0]; exact hno (by omega)
    · rw [if_neg h0]
      by_cases h9 : z < 9223372036854775807
      · exact h3 z (by omega) h9
      · rw [hno (by omega), pat_no fun n hn => by
          obtain ⟨-, ⟨-, k⟩, -⟩ := hI n hn
          unfold cvr
          rw [decide_eq_false (p := z < n.tt) (by omega), Bool.and_false]]
        rfl
end Go.Proofs.YtbkhhegmmkcbbaaDoor
