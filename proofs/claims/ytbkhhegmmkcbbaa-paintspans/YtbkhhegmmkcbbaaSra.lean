import Derived.Test.YtbkhhegmmkcbbaaSpy
namespace Go.Proofs.Ytbkhhegmmkcbbaa
open Go.RowKit Go.Maps

def up1 (z : Int) (s : Int × Bool) (p : Int) : Int × Bool := if z < p ∧ (s.2 = false ∨ p < s.1) then (p, true) else s
def nx1 (z : Int) (s : Int × Bool) (n : Nd) : Int × Bool := up1 z (up1 z s n.fr) n.tt
def nxt (T : List Nd) (z : Int) : Int × Bool := T.foldl (nx1 z) (0, false)
theorem nxt_take (T : List Nd) (z : Int) (i : Nat) (h : i < T.length) : nxt (T.take (i + 1)) z = nx1 z (nxt (T.take i) z) (T.getD i ndd) := by
  have e : T.take (i + 1) = T.take i ++ [T.getD i ndd] := by
    rw [List.take_add_one, List.getD_eq_getElem?_getD, List.getElem?_eq_getElem h]; rfl
  unfold nxt
  rw [e, List.foldl_append]; rfl
theorem up1_no {z b p : Int} {f : Bool} (h : ¬(z < p)) : up1 z (b, f) p = (b, f) := if_neg fun k => h k.1
theorem up1_new {z b p : Int} (h : z < p) : up1 z (b, false) p = (p, true) := if_pos ⟨h, Or.inl rfl⟩
theorem up1_less {z b p : Int} (h : z < p) (k : p < b) : up1 z (b, true) p = (p, true) := if_pos ⟨h, Or.inr k⟩
theorem up1_more {z b p : Int} (k : ¬(p < b)) : up1 z (b, true) p = (b, true) := if_neg fun h => h.2.elim (fun e => by cases e) k
theorem up1_is (z : Int) (s : Int × Bool) (p : Int) : (s.2 = true → (up1 z s p).2 = true ∧ (up1 z s p).1 ≤ s.1) ∧ (z < p → (up1 z s p).2 = true ∧ (up1 z s p).1 ≤ p) ∧ ((up1 z s p).2 = true → (s.2 = true ∧ (up1 z s p).1 = s.1) ∨ (z < p ∧ (up1 z s p).1 = p)) := by
  obtain ⟨b, f⟩ := s
  by_cases h : z < p
  · cases f with
    | false => rw [up1_new h]; exact ⟨fun e => (by cases e), fun _ => ⟨rfl, Int.le_refl _⟩, fun _ => .inr ⟨h, rfl⟩⟩
    | true =>
      by_cases k : p < b
      · rw [up1_less h k]; exact ⟨fun _ => ⟨rfl, by show p ≤ b; omega⟩, fun _ => ⟨rfl, Int.le_refl _⟩, fun _ => .inr ⟨h, rfl⟩⟩
      · rw [up1_more k]; exact ⟨fun _ => ⟨rfl, Int.le_refl _⟩, fun _ => ⟨rfl, by show b ≤ p; omega⟩, fun _ => .inl ⟨rfl, rfl⟩⟩
  · rw [up1_no h]; exact ⟨fun e => ⟨e, Int.le_refl _⟩, fun k => absurd k h, fun e => .inl ⟨e, rfl⟩⟩
theorem nx_fold (z : Int) : ∀ (T : List Nd) (s : Int × Bool), (s.2 = true → (T.foldl (nx1 z) s).2 = true ∧ (T.foldl (nx1 z) s).1 ≤ s.1) ∧ (∀ n ∈ T, (z < n.fr → (T.foldl (nx1 z) s).2 = true ∧ (T.foldl (nx1 z) s).1 ≤ n.fr) ∧ (z < n.tt → (T.foldl (nx1 z) s).2 = true ∧ (T.foldl (nx1 z) s).1 ≤ n.tt)) ∧ ((T.foldl (nx1 z) s).2 = true → (s.2 = true ∧ (T.foldl (nx1 z) s).1 = s.1) ∨ (z < (T.foldl (nx1 z) s).1 ∧ ∃ n ∈ T, (T.foldl (nx1 z) s).1 = n.fr ∨ (T.foldl (nx1 z) s).1 = n.tt))
  | [], s => ⟨fun e => ⟨e, Int.le_refl _⟩, fun n hn => (by cases hn), fun e => .inl ⟨e, rfl⟩⟩
  | n :: T, s => by
    rw [List.foldl_cons]
    obtain ⟨a1, a2, a3⟩ := up1_is z s n.fr
    obtain ⟨b1, b2, b3⟩ := up1_is z (up1 z s n.fr) n.tt
    obtain ⟨i1, i2, i3⟩ := nx_fold z T (nx1 z s n)
    obtain ⟨r, hr⟩ : ∃ r, T.foldl (nx1 z) (nx1 z s n) = r := ⟨_, rfl⟩
    rw [hr] at i1 i2 i3 ⊢
    unfold nx1 at i1 i3
    refine ⟨fun e => ?_, fun m hm => ?_, fun e => ?_⟩
    · have h1 := a1 e
      have h2 := b1 h1.1
      have h3 := i1 h2.1
      exact ⟨h3.1, by omega⟩
    · rcases List.mem_cons.1 hm with rfl | hm
      · refine ⟨fun h => ?_, fun h => ?_⟩
        · have h1 := a2 h
          have h2 := b1 h1.1
          have h3 := i1 h2.1
          exact ⟨h3.1, by omega⟩
        · have h2 := b2 h
          have h3 := i1 h2.1
          exact ⟨h3.1, by omega⟩
      · exact i2 m hm
    · rcases i3 e with ⟨h1, h2⟩ | ⟨h1, m, hm, h2⟩
      · rcases b3 h1 with ⟨h3, h4⟩ | ⟨h3, h4⟩
        · rcases a3 h3 with ⟨h5, h6⟩ | ⟨h5, h6⟩
          · exact .inl ⟨h5, by rw [h2, h4, h6]⟩
          · exact .inr ⟨by rw [h2, h4, h6]; exact h5, n, List.mem_cons_self .., .inl (by rw [h2, h4, h6])⟩
        · exact .inr ⟨by rw [h2, h4]; exact h3, n, List.mem_cons_self .., .inr (by rw [h2, h4])⟩
      · exact .inr ⟨h1, m, List.mem_cons_of_mem _ hm, h2⟩
/-- What after answers. -/
theorem nxt_is (T : List Nd) (z : Int) : (∀ n ∈ T, (z < n.fr → (nxt T z).2 = true ∧ (nxt T z).1 ≤ n.fr) ∧ (z < n.tt → (nxt T z).2 = true ∧ (nxt T z).1 ≤ n.tt)) ∧ ((nxt T z).2 = true → z < (nxt T z).1 ∧ ∃ n ∈ T, (nxt T z).1 = n.fr ∨ (nxt T z).1 = n.tt) := by
  obtain ⟨-, h2, h3⟩ := nx_fold z T (0, false)
  refine ⟨h2, fun e => ?_⟩
  rcases h3 e with ⟨h, -⟩ | h
  · cases h
  · exact h
set_option maxRecDepth 100000 in
set_option maxHeartbeats 16000000 in
/-- after. -/
theorem after_any {u : Value} {T : List Nd} (w : World) (hT : Ns w u T) (hs : Sm T) (z : Int) : Calls Try.prog 23 #[u, .int .i64 z] w fun e w' => e = .returned (.tuple #[.int .i64 (nxt T z).1, .bool (nxt T z).2]) ∧ Below w.heap.size w w' := by
  have HT : Hid (Ns w u T) := hT
  obtain ⟨ta, tc, rfl⟩ := hT.form
  obtain ⟨n, hnn⟩ : ∃ n, T.length = n := ⟨_, rfl⟩
  have HN : Hid (T.length = n ∧ n * 72 + 4096 ≤ 140737488355328) := ⟨hnn, by have h9 := hs; unfold Sm at h9; rw [hnn] at h9; exact h9⟩
  rw [hnn] at HT ⊢
  obtain ⟨B, hB⟩ : ∃ B, (nxt T z).1 = B := ⟨_, rfl⟩
  obtain ⟨F, hF⟩ : ∃ F, (nxt T z).2 = F := ⟨_, rfl⟩
  have HR : Hid (nxt T z = (B, F)) := by show _ = _; rw [← hB, ← hF]
  rw [hB, hF]
  clear hT hs hnn hB hF
  go_enter Try.func23, Try.ntmps23
  go_upto_region 4 with fail
  go_loopg [6, 7, 8] n (fun gm v6 v7 v8 wr => ∃ (i : Nat) (b : Int) (f : Bool), v6 = .int .i64 b ∧ v7 = .bool f ∧ v8 = .int .i64 (i : Int) ∧ Hid (i ≤ n ∧ gm = n - i) ∧ Hid (nxt (T.take i) z = (b, f)) ∧ Hid (Below w.heap.size w wr))
  case atStart => exact ⟨0, 0, false, rfl, rfl, rfl, ⟨Nat.zero_le _, rfl⟩, rfl, Below.refl _ _⟩
  case round =>
    obtain ⟨i, b, f, rfl, rfl, rfl, HI, HX, HB⟩ := hrel
    obtain ⟨w0, hw0⟩ : ∃ w0, w0 = wr := ⟨_, rfl⟩
    rw [← hw0] at HB ⊢
    clear hw0
    by_cases hi : i < n
    · have e1 : decide ((i : Int) < (n : Int)) = true := by rw [decide_eq_true_eq]; omega
      have e2 : decide (i < n) = true := by rw [decide_eq_true_eq]; omega
      have b0 : (0 : Int) ≤ (i : Int) := by omega
      have b1 : (i : Int) < (n : Int) := by omega
      have b2 : i < n := hi
      have HIL : Hid (i < n) := hi
      have HWI : Hid (IntKind.i64.wrap ((i : Int) + 1) = (i : Int) + 1) := by have := HN.out; show _ = _; rw [IntKind.wrap_i64]; omega
      obtain ⟨g1, o1, rfl, hc1⟩ := HT.out.seven i (by rw [HN.out.1]; exact hi)
      obtain ⟨y, hy⟩ : ∃ y, T.getD i ndd = y := ⟨_, rfl⟩
      rw [hy] at hc1
      obtain ⟨-, -, -, k3, k4, -, -⟩ := hc1 w0 HB.out
      have HSP : Hid (∀ s1 s2, up1 z (b, f) y.fr = s1 → up1 z s1 y.tt = s2 → nxt (T.take (i + 1)) z = s2) := fun s1 s2 h1 h2 => by
        rw [nxt_take T z i (by rw [HN.out.1]; exact hi), hy, HX.out]
        unfold nx1
        rw [h1, h2]
      clear hi hy hc1 HX
      obtain ⟨p, hp⟩ : ∃ p, y.fr = p := ⟨_, rfl⟩
      obtain ⟨q, hq⟩ : ∃ q, y.tt = q := ⟨_, rfl⟩
      rw [hp, hq] at HSP
      rw [hp] at k3
      rw [hq] at k4
      clear hp hq
      cases f with
      | false =>
        by_cases r1 : z < p
        · have f3 : decide (z < p) = true := decide_eq_true r1
          have HS1 : Hid (up1 z (b, false) p = (p, true)) := up1_new r1
          clear r1
          go_upto_region 9 with fail
          clear f3
          by_cases t1 : z < q
          · have f1 : decide (z < q) = true := decide_eq_true t1
            by_cases t2 : q < p
            · have f2 : decide (q < p) = true := decide_eq_true t2
              have HS2 : Hid (up1 z (p, true) q = (q, true)) := up1_less t1 t2
              clear t1 t2
              have hwi := HWI.out
              go_wp2_with fail
              go_roundg (n - (i + 1))
              case measure => have := HI.out; have := HIL.out; omega
              case rel => exact ⟨i + 1, q, true, rfl, rfl, by push_cast; rfl, ⟨HIL.out, rfl⟩, HSP.out _ _ HS1.out HS2.out, HB.out⟩
            · have f2 : decide (q < p) = false := decide_eq_false t2
              have HS2 : Hid (up1 z (p, true) q = (p, true)) := up1_more t2
              clear t1 t2
              have hwi := HWI.out
              go_wp2_with fail
              go_roundg (n - (i + 1))
              case measure => have := HI.out; have := HIL.out; omega
              case rel => exact ⟨i + 1, p, true, rfl, rfl, by push_cast; rfl, ⟨HIL.out, rfl⟩, HSP.out _ _ HS1.out HS2.out, HB.out⟩
          · have f1 : decide (z < q) = false := decide_eq_false t1
            have HS2 : Hid (up1 z (p, true) q = (p, true)) := up1_no t1
            clear t1
            have hwi := HWI.out
            go_wp2_with fail
            go_roundg (n - (i + 1))
            case measure => have := HI.out; have := HIL.out; omega
            case rel => exact ⟨i + 1, p, true, rfl, rfl, by push_cast; rfl, ⟨HIL.out, rfl⟩, HSP.out _ _ HS1.out HS2.out, HB.out⟩
        · have f3 : decide (z < p) = false := decide_eq_false r1
          have HS1 : Hid (up1 z (b, false) p = (b, false)) := up1_no r1
          clear r1
          go_upto_region 9 with fail
          clear f3
          by_cases t1 : z < q
          · have f1 : decide (z < q) = true := decide_eq_true t1
            have HS2 : Hid (up1 z (b, false) q = (q, true)) := up1_new t1
            clear t1
            have hwi := HWI.out
            go_wp2_with fail
            go_roundg (n - (i + 1))
            case measure => have := HI.out; have := HIL.out; omega
            case rel => exact ⟨i + 1, q, true, rfl, rfl, by push_cast; rfl, ⟨HIL.out, rfl⟩, HSP.out _ _ HS1.out HS2.out, HB.out⟩
          · have f1 : decide (z < q) = false := decide_eq_false t1
            have HS2 : Hid (up1 z (b, false) q = (b, false)) := up1_no t1
            clear t1
            have hwi := HWI.out
            go_wp2_with fail
            go_roundg (n - (i + 1))
            case measure => have := HI.out; have := HIL.out; omega
            case rel => exact ⟨i + 1, b, false, rfl, rfl, by push_cast; rfl, ⟨HIL.out, rfl⟩, HSP.out _ _ HS1.out HS2.out, HB.out⟩
      | true =>
        by_cases r1 : z < p
        · have f3 : decide (z < p) = true := decide_eq_true r1
          by_cases r2 : p < b
          · have f4 : decide (p < b) = true := decide_eq_true r2
            have HS1 : Hid (up1 z (b, true) p = (p, true)) := up1_less r1 r2
            clear r1 r2
            go_upto_region 9 with fail
            clear f3 f4
            by_cases t1 : z < q
            · have f1 : decide (z < q) = true := decide_eq_true t1
              by_cases t2 : q < p
              · have f2 : decide (q < p) = true := decide_eq_true t2
                have HS2 : Hid (up1 z (p, true) q = (q, true)) := up1_less t1 t2
                clear t1 t2
                have hwi := HWI.out
                go_wp2_with fail
                go_roundg (n - (i + 1))
                case measure => have := HI.out; have := HIL.out; omega
                case rel => exact ⟨i + 1, q, true, rfl, rfl, by push_cast; rfl, ⟨HIL.out, rfl⟩, HSP.out _ _ HS1.out HS2.out, HB.out⟩
              · have f2 : decide (q < p) = false := decide_eq_false t2
                have HS2 : Hid (up1 z (p, true) q = (p, true)) := up1_more t2
                clear t1 t2
                have hwi := HWI.out
                go_wp2_with fail
                go_roundg (n - (i + 1))
                case measure => have := HI.out; have := HIL.out; omega
                case rel => exact ⟨i + 1, p, true, rfl, rfl, by push_cast; rfl, ⟨HIL.out, rfl⟩, HSP.out _ _ HS1.out HS2.out, HB.out⟩
            · have f1 : decide (z < q) = false := decide_eq_false t1
              have HS2 : Hid (up1 z (p, true) q = (p, true)) := up1_no t1
              clear t1
              have hwi := HWI.out
              go_wp2_with fail
              go_roundg (n - (i + 1))
              case measure => have := HI.out; have := HIL.out; omega
              case rel => exact ⟨i + 1, p, true, rfl, rfl, by push_cast; rfl, ⟨HIL.out, rfl⟩, HSP.out _ _ HS1.out HS2.out, HB.out⟩
          · have f4 : decide (p < b) = false := decide_eq_false r2
            have HS1 : Hid (up1 z (b, true) p = (b, true)) := up1_more r2
            clear r1 r2
            go_upto_region 9 with fail
            clear f3 f4
            by_cases t1 : z < q
            · have f1 : decide (z < q) = true := decide_eq_true t1
              by_cases t2 : q < b
              · have f2 : decide (q < b) = true := decide_eq_true t2
                have HS2 : Hid (up1 z (b, true) q = (q, true)) := up1_less t1 t2
                clear t1 t2
                have hwi := HWI.out
                go_wp2_with fail
                go_roundg (n - (i + 1))
                case measure => have := HI.out; have := HIL.out; omega
                case rel => exact ⟨i + 1, q, true, rfl, rfl, by push_cast; rfl, ⟨HIL.out, rfl⟩, HSP.out _ _ HS1.out HS2.out, HB.out⟩
              · have f2 : decide (q < b) = false := decide_eq_false t2
                have HS2 : Hid (up1 z (b, true) q = (b, true)) := up1_more t2
                clear t1 t2
                have hwi := HWI.out
                go_wp2_with fail
                go_roundg (n - (i + 1))
                case measure => have := HI.out; have := HIL.out; omega
                case rel => exact ⟨i + 1, b, true, rfl, rfl, by push_cast; rfl, ⟨HIL.out, rfl⟩, HSP.out _ _ HS1.out HS2.out, HB.out⟩
            · have f1 : decide (z < q) = false := decide_eq_false t1
              have HS2 : Hid (up1 z (b, true) q = (b, true)) := up1_no t1
              clear t1
              have hwi := HWI.out
              go_wp2_with fail
              go_roundg (n - (i + 1))
              case measure => have := HI.out; have := HIL.out; omega
              case rel => exact ⟨i + 1, b, true, rfl, rfl, by push_cast; rfl, ⟨HIL.out, rfl⟩, HSP.out _ _ HS1.out HS2.out, HB.out⟩
        · have f3 : decide (z < p) = false := decide_eq_false r1
          have HS1 : Hid (up1 z (b, true) p = (b, true)) := up1_no r1
          clear r1
          go_upto_region 9 with fail
          clear f3
          by_cases t1 : z < q
          · have f1 : decide (z < q) = true := decide_eq_true t1
            by_cases t2 : q < b
            · have f2 : decide (q < b) = true := decide_eq_true t2
              have HS2 : Hid (up1 z (b, true) q = (q, true)) := up1_less t1 t2
              clear t1 t2
              have hwi := HWI.out
              go_wp2_with fail
              go_roundg (n - (i + 1))
              case measure => have := HI.out; have := HIL.out; omega
              case rel => exact ⟨i + 1, q, true, rfl, rfl, by push_cast; rfl, ⟨HIL.out, rfl⟩, HSP.out _ _ HS1.out HS2.out, HB.out⟩
            · have f2 : decide (q < b) = false := decide_eq_false t2
              have HS2 : Hid (up1 z (b, true) q = (b, true)) := up1_more t2
              clear t1 t2
              have hwi := HWI.out
              go_wp2_with fail
              go_roundg (n - (i + 1))
              case measure => have := HI.out; have := HIL.out; omega
              case rel => exact ⟨i + 1, b, true, rfl, rfl, by push_cast; rfl, ⟨HIL.out, rfl⟩, HSP.out _ _ HS1.out HS2.out, HB.out⟩
          · have f1 : decide (z < q) = false := decide_eq_false t1
            have HS2 : Hid (up1 z (b, true) q = (b, true)) := up1_no t1
            clear t1
            have hwi := HWI.out
            go_wp2_with fail
            go_roundg (n - (i + 1))
            case measure => have := HI.out; have := HIL.out; omega
            case rel => exact ⟨i + 1, b, true, rfl, rfl, by push_cast; rfl, ⟨HIL.out, rfl⟩, HSP.out _ _ HS1.out HS2.out, HB.out⟩
    · have e1 : decide ((i : Int) < (n : Int)) = false := by rw [decide_eq_false_iff_not]; omega
      have e2 : decide (i < n) = false := by rw [decide_eq_false_iff_not]; exact hi
      have HE : Hid (b = B ∧ f = F) := by
        have h1 := HX.out
        rw [List.take_of_length_le (by rw [HN.out.1]; omega), HR.out] at h1
        exact ⟨(congrArg Prod.fst h1).symm, (congrArg Prod.snd h1).symm⟩
      clear hi
      go_wp2_with fail
      go_ret2
      obtain ⟨rfl, rfl⟩ := HE.out
      exact ⟨rfl, HB.out⟩
end Go.Proofs.Ytbkhhegmmkcbbaa
