import Derived.Test.YtjpmmihcnfedgabTwin
namespace Go.Proofs.Ytjpmmihcnfedgab
open Go.RowKit

abbrev Ret (f : Nat) (args : Array Value) (v : Value) : Prop := ∀ W : World, Calls Try.prog f args W fun e W' => e = .returned v ∧ Below W.heap.size W W'

theorem Kat.congr {W : World} {g n : Nat} {F F' : Nat → Int × Int × ByteArray} (h : Kat W g n F) (he : ∀ j, j < n → F j = F' j) : Kat W g n F' := ⟨fun j hj => by rw [← he j hj]; exact h.c j hj, h.fr⟩
theorem Kat.edits {W : World} {g n : Nat} {F : Nat → Int × Int × ByteArray} (h : Kat W g n F) {E : List (Int × Int × ByteArray)} (he : ∀ i e, E[i]? = some e → i < n ∧ F i = e) : EditsAt W g 0 E := fun i e hi => by
  obtain ⟨h1, h2⟩ := he i e hi
  have := h.c i h1
  rw [h2] at this
  rw [Nat.zero_add]
  exact this
theorem own_lst {w : World} {base n : Nat} {v : Value} {V : List (Int × Int × ByteArray)} (h : w.ownsRow base 23 3 v n (ecells V)) (hn : n = V.length) : ∃ (a : Option Addr) (c g : Nat), v = .slice a n c ∧ (0 < n → a = some ⟨g, 0, none⟩) ∧ EditsAt w g 0 V := by
  by_cases h0 : 0 < n
  · obtain ⟨g, cap, rfl, _, _, _⟩ := own_form h h0
    exact ⟨_, cap, g, rfl, fun _ => rfl, own_edits h hn⟩
  · obtain ⟨a, c, rfl⟩ := own_slice h
    exact ⟨a, c, 0, rfl, fun h => absurd h h0, fun i e he => by have := (List.getElem?_eq_some_iff.1 he).1; omega⟩

/-- the row when i of its edits are written over -/
def Fi (E : List (Int × Int × ByteArray)) (i j : Nat) : Int × Int × ByteArray := if j < i then (E.reverse ++ [m7, m8]).getD j m7 else (E ++ [m7, m8]).getD j m7
theorem fi_zero (E : List (Int × Int × ByteArray)) (i : Nat) (e : Int × Int × ByteArray) (he : E[i]? = some e) : i < E.length + 2 ∧ Fi E 0 i = e := by
  have hi : i < E.length := (List.getElem?_eq_some_iff.1 he).1
  refine ⟨by omega, ?_⟩
  unfold Fi
  rw [if_neg (by omega), List.getD, List.getElem?_append_left hi, he]
  rfl
theorem fi_end (E : List (Int × Int × ByteArray)) (i : Nat) (e : Int × Int × ByteArray) (he : E.reverse[i]? = some e) : i < E.length + 2 ∧ Fi E E.length i = e := by
  have hi : i < E.reverse.length := (List.getElem?_eq_some_iff.1 he).1
  rw [List.length_reverse] at hi
  refine ⟨by omega, ?_⟩
  unfold Fi
  rw [if_pos hi, List.getD, List.getElem?_append_left (by rw [List.length_reverse]; exact hi), he]
  rfl
theorem fi_marks (E : List (Int × Int × ByteArray)) : Fi E E.length E.length = m7 ∧ Fi E E.length (E.length + 1) = m8 := by
  unfold Fi
  rw [if_neg (by omega), if_neg (by omega), List.getD, List.getD, List.getElem?_append_right (by omega), List.getElem?_append_right (by omega), show E.length - E.length = 0 by omega, show E.length + 1 - E.length = 1 by omega]
  exact ⟨rfl, rfl⟩
theorem fi_step (E : List (Int × Int × ByteArray)) (i u : Nat) (e : Int × Int × ByteArray) (hi : i < E.length) (hu : u = E.length - 1 - i) (he : E[u]? = some e) (j : Nat) : (if j = i then e else Fi E i j) = Fi E (i + 1) j := by
  by_cases h : j = i
  · subst h
    rw [if_pos rfl]
    unfold Fi
    rw [if_pos (by omega), List.getD, List.getElem?_append_left (by rw [List.length_reverse]; exact hi), List.getElem?_reverse hi, ← hu, he]
    rfl
  · rw [if_neg h]
    unfold Fi
    by_cases h2 : j < i
    · rw [if_pos h2, if_pos (by omega)]
    · rw [if_neg h2, if_neg (by omega)]

set_option maxRecDepth 1000000 in
set_option maxHeartbeats 8000000 in
theorem editDoes_any (s : ByteArray) (E : List (Int × Int × ByteArray)) (lp : Option Addr) (blk off cap n : Nat) (w : World) (hn : E.length = n) (hs : s.size ≤ 1048576) (hL : Lst w lp blk off cap E) (hI : ∀ e ∈ E, e.2.2.size ≤ 1048576) (hlen : n ≤ 1048576) :
    Calls Try.prog 4 #[.string s, .slice lp n cap] w fun x w' => x = .returned (.bool true) ∧ Below w.heap.size w w' := by
  have HL : Hid (∀ W, Below w.heap.size w W → Lst W lp blk off cap E) := fun W hW => hL.up hW
  have CT : Hid (∀ W, Below w.heap.size w W → Calls Try.prog 9 #[.slice lp n cap] W fun x w' => ∃ v, x = .returned v ∧ w'.ownsRow W.heap.size 23 3 v n (ecells E) ∧ Below W.heap.size W w') := fun W hW => by
    have := twin_lst E lp blk off cap W (hL.up hW) (by omega)
    rw [hn] at this
    exact this
  have CT2 : Hid (∀ (W : World) (g cp : Nat), EditsAt W g 0 E.reverse → Calls Try.prog 9 #[.slice (some ⟨g, 0, none⟩) n cp] W fun x w' => ∃ v, x = .returned v ∧ w'.ownsRow W.heap.size 23 3 v n (ecells E.reverse) ∧ Below W.heap.size W w') := fun W g cp hE => by
    have := twin_lst E.reverse (some ⟨g, 0, none⟩) g 0 cp W ⟨fun _ => rfl, fun h => (by cases h), hE⟩ (by rw [List.length_reverse]; omega)
    rw [List.length_reverse, hn] at this
    exact this
  have hIr : ∀ e ∈ E.reverse, e.2.2.size ≤ 1048576 := fun e he => hI e (List.mem_reverse.1 he)
  obtain ⟨T, c, k, hT⟩ : ∃ (T : ByteArray) (c : Int) (k : Nat), allE s E 0 = (T, c, k) := ⟨_, _, _, rfl⟩
  obtain ⟨T2, c2, k2, hT2⟩ : ∃ (T : ByteArray) (c : Int) (k : Nat), allE s E.reverse 0 = (T, c, k) := ⟨_, _, _, rfl⟩
  have CA : Hid (∀ (W : World) (g cp : Nat), EditsAt W g 0 E → Calls Try.prog 10 #[.string s, .slice (some ⟨g, 0, none⟩) n cp] W fun x w' => x = .returned (.tuple #[.string T, .int .i64 c, .int .i64 (k : Int)]) ∧ Below W.heap.size W w') := fun W g cp hE => by
    have := all_any s E (some ⟨g, 0, none⟩) g 0 cp W hs (fun _ => rfl) hE hI (by omega)
    rw [hT, hn] at this
    exact this
  have CR : Hid (∀ W, Below w.heap.size w W → Calls Try.prog 11 #[.string s, .slice lp n cap] W fun x w' => x = .returned (.tuple #[.string T, .int .i64 c, .int .i64 (k : Int)]) ∧ Below W.heap.size W w') := fun W hW => by
    have := rall_any s E lp blk off cap W hs hL.ptr (hL.up hW).at_ hI (by omega)
    rw [hT, hn] at this
    exact this
  have CS : Hid (∀ (W : World) (g cp : Nat), Below w.heap.size w W → EditsAt W g 0 E → Calls Try.prog 12 #[.slice (some ⟨g, 0, none⟩) n cp, .slice lp n cap] W fun x w' => x = .returned (.bool true) ∧ Below W.heap.size W w') := fun W g cp hW hE => by
    have := same_any E (some ⟨g, 0, none⟩) lp g 0 cp blk off cap W (fun _ => rfl) hL.ptr hE (hL.up hW).at_ (by omega)
    rw [hn] at this
    exact this
  have CA2 : Hid (∀ (W : World) (g cp : Nat), EditsAt W g 0 E.reverse → Calls Try.prog 10 #[.string s, .slice (some ⟨g, 0, none⟩) n cp] W fun x w' => x = .returned (.tuple #[.string T2, .int .i64 c2, .int .i64 (k2 : Int)]) ∧ Below W.heap.size W w') := fun W g cp hE => by
    have := all_any s E.reverse (some ⟨g, 0, none⟩) g 0 cp W hs (fun _ => rfl) hE hIr (by rw [List.length_reverse]; omega)
    rw [hT2, List.length_reverse, hn] at this
    exact this
  have CR2 : Hid (∀ (W : World) (a : Option Addr) (g cp : Nat), (0 < n → a = some ⟨g, 0, none⟩) → EditsAt W g 0 E.reverse → Calls Try.prog 11 #[.string s, .slice a n cp] W fun x w' => x = .returned (.tuple #[.string T2, .int .i64 c2, .int .i64 (k2 : Int)]) ∧ Below W.heap.size W w') := fun W a g cp ha hE => by
    have := rall_any s E.reverse a g 0 cp W hs (by rw [List.length_reverse, hn]; exact ha) hE hIr (by rw [List.length_reverse]; omega)
    rw [hT2, List.length_reverse, hn] at this
    exact this
  have CS2 : Hid (∀ (W : World) (g cp g2 cp2 : Nat) (a : Option Addr), (0 < n → a = some ⟨g2, 0, none⟩) → EditsAt W g 0 E.reverse → EditsAt W g2 0 E.reverse → Calls Try.prog 12 #[.slice (some ⟨g, 0, none⟩) n cp, .slice a n cp2] W fun x w' => x = .returned (.bool true) ∧ Below W.heap.size W w') := fun W g cp g2 cp2 a ha hE hE2 => by
    have := same_any E.reverse (some ⟨g, 0, none⟩) a g 0 cp g2 0 cp2 W (fun _ => rfl) (by rw [List.length_reverse, hn]; exact ha) hE hE2 (by rw [List.length_reverse]; omega)
    rw [List.length_reverse, hn] at this
    exact this
  have HI : Hid _ := hI
  have HN : Hid _ := hn
  have HS : Hid _ := hs
  clear hT hT2 hIr hI hL hn hs
  go_enter Try.func4, Try.ntmps4
  go_wp2_with fail
  refine (CT.out _ (Below.refl _ _)).mono ?_
  rintro e' w1 ⟨v1, rfl, hown1, hb1⟩
  have HB1 : Hid _ := hb1
  have HO1 : Hid (w1.ownsRow w.heap.size 23 3 v1 n (ecells E)) := hown1
  clear hb1 hown1 CT
  obtain ⟨i23, hi23, hz23, hs23, hy23⟩ := info_parts info23
  have hO : Hid ((w1.alloc (.cells #[.int .i64 (-7), .int .i64 0, .string ⟨#[]⟩, .int .i64 (-8), .int .i64 0, .string ⟨#[]⟩] 23)).ownsRow w.heap.size 23 3 v1 n (ecells E)) := HO1.out.alloc _
  have hbase : w.heap.size ≤ (w1.alloc (.cells #[.int .i64 (-7), .int .i64 0, .string ⟨#[]⟩, .int .i64 (-8), .int .i64 0, .string ⟨#[]⟩] 23)).heap.size := by
    have := HB1.out.size
    simp
    omega
  go_wp2_with (at_builtin; refine wpList_append_own _ rfl (.tmp 21) (.tmp 24) 27 rfl w.heap.size 23 i23 (.agg #[.int .i64 0, .int .i64 0, .string ⟨#[]⟩]) 3 32 Try.underlying27 hi23 hz23 hs23 hy23 rfl (by decide) _ _ _ rfl hO.out ⟨w1.heap.size, 0, none⟩ 2 2 [.int .i64 (-7), .int .i64 0, .string ⟨#[]⟩, .int .i64 (-8), .int .i64 0, .string ⟨#[]⟩] rfl rfl ?c1 ?c2 ?c3 ?c4 ?c5 ?_)
  case c1 => exact cell_six_new _ _ _ _ _ _ _ _
  case c2 => intro y hy; simp at hy; rcases hy with rfl | rfl | rfl | rfl | rfl | rfl <;> rfl
  case c3 => unfold maxLen; omega
  case c4 => omega
  case c5 => exact hbase
  intro v2 w2 hown2 hgrow2 _
  have HB2 : Hid (Below w.heap.size w w2) := (below_trans HB1.out (bel_up _ _)).grown hgrow2 (by have := HB1.out.size; simp; omega) (fun q hq => by have := (HO1.out.lt q hq).1; omega)
  obtain ⟨g, cp, hv2, hcp, hgb, hgl⟩ := own_form hown2 (by omega)
  subst hv2
  have HK2 : Hid (Kat w2 g (n + 2) (Fi E 0)) := by
    have hV : ecells E ++ [.int .i64 (-7), .int .i64 0, .string ⟨#[]⟩, .int .i64 (-8), .int .i64 0, .string ⟨#[]⟩] = ecells (E ++ [m7, m8]) := by rw [ecells_app]; rfl
    rw [hV] at hown2
    have hEA := own_edits hown2 (by rw [List.length_append, HN.out]; rfl)
    refine ⟨fun j hj => ?_, fun o => hown2.frozenAt o⟩
    obtain ⟨e, he⟩ : ∃ e, (E ++ [m7, m8])[j]? = some e := ⟨(E ++ [m7, m8])[j]'(by rw [List.length_append, HN.out]; exact hj), List.getElem?_eq_getElem _⟩
    have hf : Fi E 0 j = e := by
      unfold Fi
      rw [if_neg (by omega), List.getD, he]
      rfl
    have := hEA j e he
    rw [Nat.zero_add] at this
    rw [hf]
    exact this
  have hcp2 : n + 2 ≤ cp := hcp
  have HGB : Hid (w.heap.size ≤ g) := hgb
  clear hown2 hgrow2 hO hbase hi23 hz23 hs23 hy23 HO1 HB1 hgb hgl hcp
  go_wp2_with fail
  refine (CA.out _ g cp (HK2.out.edits (by rw [← HN.out]; exact fi_zero E))).mono ?_
  rintro e' w3 ⟨rfl, hb⟩
  have HK3 : Hid (Kat w3 g (n + 2) (Fi E 0)) := HK2.out.up hb (by omega)
  have HB3 : Hid (Below w.heap.size w w3) := below_trans HB2.out hb
  clear hb CA HK2 HB2
  go_wp2_with fail
  refine (CR.out _ HB3.out).mono ?_
  rintro e' w4 ⟨rfl, hb⟩
  have HK4 : Hid (Kat w4 g (n + 2) (Fi E 0)) := HK3.out.up hb (by omega)
  have HB4 : Hid (Below w.heap.size w w4) := below_trans HB3.out hb
  clear hb CR HK3 HB3
  go_wp2_with fail
  refine (CS.out _ g cp HB4.out (HK4.out.edits (by rw [← HN.out]; exact fi_zero E))).mono ?_
  rintro e' w5 ⟨rfl, hb⟩
  have HK5 : Hid (Kat w5 g (n + 2) (Fi E 0)) := HK4.out.up hb (by omega)
  have HB5 : Hid (Below w.heap.size w w5) := below_trans HB4.out hb
  clear hb CS HK4 HB4
  go_wp2_with fail
  go_loopg [12] n (fun gk vi wr => ∃ i : Nat, vi = .int .i64 (i : Int) ∧ i ≤ n ∧ gk = n - i ∧ Kat wr g (n + 2) (Fi E i) ∧ Below w.heap.size w wr)
  case atStart => exact ⟨0, rfl, by omega, rfl, HK5.out, HB5.out⟩
  case round =>
    obtain ⟨i, rfl, hin, hg, hkat, hbel⟩ := hrel
    have HG : Hid _ := hg
    have HK : Hid (Kat wr g (n + 2) (Fi E i)) := hkat
    have HB : Hid _ := hbel
    clear hg hkat hbel HK5 HB5
    by_cases hi : i < n
    · have hiI : (i : Int) < (n : Int) := by omega
      have hil : i ≤ 1048576 := by omega
      obtain ⟨u, hu⟩ : ∃ u, u = n - 1 - i := ⟨_, rfl⟩
      have huI : (n : Int) - 1 - (i : Int) = (u : Int) := by omega
      have hun : (u : Int) < (n : Int) := by omega
      obtain ⟨e, he⟩ : ∃ e, E[u]? = some e := ⟨E[u]'(by rw [HN.out]; omega), List.getElem?_eq_getElem _⟩
      have hl := HL.out _ HB.out
      have hptr := hl.ptr (by rw [HN.out]; omega)
      subst hptr
      obtain ⟨m0, m1, m2⟩ := hl.at_ u e he
      obtain ⟨x0, x1, x2⟩ := HK.out.c i (by omega)
      have xf := HK.out.fr
      have NX : Hid (Kat (((wr.setCell ⟨g, i * 3, none⟩ (.int .i64 e.1)).setCell ⟨g, i * 3 + 1, none⟩ (.int .i64 e.2.1)).setCell ⟨g, i * 3 + 2, none⟩ (.string e.2.2)) g (n + 2) (Fi E (i + 1))) := (HK.out.set (i := i) (by omega) e).congr (fun j _ => fi_step E i u e (by rw [HN.out]; exact hi) (by rw [HN.out]; exact hu) he j)
      have HI1 : Hid _ := hi
      obtain ⟨p, q, ins⟩ := e
      simp only at m0 m1 m2 NX
      generalize hFi : Fi E i i = fe at x0 x1 x2
      obtain ⟨f0, f1, f2⟩ := fe
      simp only at x0 x1 x2
      clear hl he hu hin hi HK hFi
      go_wp2_with fail
      go_roundg (n - (i + 1))
      case measure =>
        have := HG.out
        have := HI1.out
        omega
      case rel =>
        have := HI1.out
        have hgb := HGB.out
        exact ⟨i + 1, by simp, by omega, rfl, NX.out, Below.setCell (Below.setCell (Below.setCell HB.out hgb _) hgb _) hgb _⟩
    · have hie : i = n := by omega
      subst hie
      have hEA : Hid (∀ W, Kat W g (i + 2) (Fi E i) → EditsAt W g 0 E.reverse) := fun W hW => hW.edits (by
        have := fi_end E
        rw [HN.out] at this
        exact this)
      have hMK : Hid (Fi E i i = m7 ∧ Fi E i (i + 1) = m8) := by
        have := fi_marks E
        rw [HN.out] at this
        exact this
      clear hi hin
      go_wp2_with fail
      refine (CT2.out _ g cp (hEA.out _ HK.out)).mono ?_
      rintro e' w6 ⟨v3, rfl, hown3, hb⟩
      obtain ⟨a3, c3, g3, hv3, ha3, hE3⟩ := own_lst hown3 (by rw [List.length_reverse, HN.out])
      subst hv3
      have HA3 : Hid (0 < i → a3 = some ⟨g3, 0, none⟩) := ha3
      have HE3 : Hid (∀ W, Below w6.heap.size w6 W → EditsAt W g3 0 E.reverse) := fun W hW => hE3.up hW
      have HK6 : Hid (Kat w6 g (i + 2) (Fi E i)) := HK.out.up hb (by omega)
      have HB6 : Hid (Below w.heap.size w w6) := below_trans HB.out hb
      clear hb CT2 HK HB hown3 ha3 hE3
      go_wp2_with fail
      refine (CA2.out _ g cp (hEA.out _ HK6.out)).mono ?_
      rintro e' w7 ⟨rfl, hb⟩
      have HK7 : Hid (Kat w7 g (i + 2) (Fi E i)) := HK6.out.up hb (by omega)
      have HB7 : Hid (Below w6.heap.size w6 w7) := hb
      clear hb CA2 HK6
      go_wp2_with fail
      refine (CR2.out _ a3 g3 c3 HA3.out (HE3.out _ HB7.out)).mono ?_
      rintro e' w8 ⟨rfl, hb⟩
      have HK8 : Hid (Kat w8 g (i + 2) (Fi E i)) := HK7.out.up hb (by omega)
      have HB8 : Hid (Below w6.heap.size w6 w8) := below_trans HB7.out hb
      clear hb CR2 HK7 HB7
      have hcp1 : (i : Int) + 2 ≤ (cp : Int) := by omega
      go_wp2_with fail
      refine (CS2.out _ g cp g3 c3 a3 HA3.out (hEA.out _ HK8.out) (HE3.out _ HB8.out)).mono ?_
      rintro e' w9 ⟨rfl, hb⟩
      have HK9 : Hid (Kat w9 g (i + 2) (Fi E i)) := HK8.out.up hb (by omega)
      have HB9 : Hid (Below w.heap.size w w9) := below_trans HB6.out (below_trans HB8.out hb)
      clear hb CS2 HK8 HB8 HB6 HE3 HA3 hEA
      obtain ⟨x0, _, _⟩ := HK9.out.c i (by omega)
      obtain ⟨y0, _, _⟩ := HK9.out.c (i + 1) (by omega)
      rw [hMK.out.1] at x0
      rw [hMK.out.2] at y0
      simp only at x0 y0
      have HB9r : Hid _ := HB9.out
      by_cases h0 : i = 0
      · subst h0
        go_wp2_with fail
        go_ret
        exact ⟨by simp, HB9.out⟩
      · obtain ⟨e, he⟩ : ∃ e, E[0]? = some e := ⟨E[0]'(by rw [HN.out]; omega), List.getElem?_eq_getElem _⟩
        have hme : e ∈ E := by rw [List.getElem?_eq_some_iff] at he; obtain ⟨_, rfl⟩ := he; exact List.getElem_mem _
        have hinz := HI.out e hme
        have hl := HL.out _ HB9.out
        have hptr := hl.ptr (by rw [HN.out]; omega)
        subst hptr
        obtain ⟨p, q, ins⟩ := e
        simp only at hinz
        have M : Hid (∀ W, Below w9.heap.size w9 W → W.cell? ⟨blk, off, none⟩ = some (.int .i64 p) ∧ W.cell? ⟨blk, off + 1, none⟩ = some (.int .i64 q) ∧ W.cell? ⟨blk, off + 2, none⟩ = some (.string ins)) := fun W hW => by
          have := (hl.at_.up hW) 0 _ he
          simpa using this
        have hs := HS.out
        obtain ⟨r, code, v0, v1, vI, C13, C14, C15, C16⟩ : ∃ (r : ByteArray) (code v0 v1 : Int) (vI : ByteArray), Hid (Ret 13 #[.string s, ed p q ins] (.tuple #[.string r, .int .i64 code])) ∧ Hid (Ret 14 #[.string s, ed p q ins] (.tuple #[.string r, .int .i64 code])) ∧ Hid (Ret 15 #[.string s, ed p q ins] (ed v0 v1 vI)) ∧ Hid (Ret 16 #[.string s, ed p q ins] (ed v0 v1 vI)) := by
          by_cases hok : okE s p q ins
          · exact ⟨_, _, _, _, _, fun W => apply_any s p q ins W hok, fun W => rapply_any s p q ins _ W hinz hok rfl, fun W => invert_any s p q ins W hok, fun W => rinvert_any s p q ins W hinz hok⟩
          · exact ⟨_, _, _, _, _, fun W => apply_big s p q ins W (by omega) (by omega) hok, fun W => rapply_big s p q ins W hs hinz hok, fun W => invert_bad s p q ins W (by omega) (by omega) hok, fun W => rinvert_bad s p q ins W hs hinz hok⟩
        have hi0 : (0 : Int) < (i : Int) := by omega
        have hi1 : 0 < i := by omega
        obtain ⟨m0, m1, m2⟩ := M.out _ (Below.refl _ _)
        clear hl he hme hs hinz
        go_wp2_with fail
        refine (C13.out _).mono ?_
        rintro e' w10 ⟨rfl, hb⟩
        have B10 : Hid (Below w9.heap.size w9 w10) := hb
        clear hb C13 m0 m1 m2 x0 y0 HK9
        obtain ⟨m0, m1, m2⟩ := M.out _ B10.out
        go_wp2_with fail
        refine (C14.out _).mono ?_
        rintro e' w11 ⟨rfl, hb⟩
        have B11 : Hid (Below w9.heap.size w9 w11) := below_trans B10.out hb
        clear hb C14 m0 m1 m2 B10
        obtain ⟨m0, m1, m2⟩ := M.out _ B11.out
        go_wp2_with fail
        refine (C15.out _).mono ?_
        rintro e' w12 ⟨rfl, hb⟩
        have B12 : Hid (Below w9.heap.size w9 w12) := below_trans B11.out hb
        clear hb C15 m0 m1 m2 B11
        go_upto_region 21 with fail
        have hX := box1 (Below.refl (w12.alloc (.cells #[.int .i64 v0, .int .i64 v1, .string vI] 23)).heap.size (w12.alloc (.cells #[.int .i64 v0, .int .i64 v1, .string vI] 23)))
        have hBW := below_trans B12.out (bel_up w12 (.cells #[.int .i64 v0, .int .i64 v1, .string vI] 23))
        obtain ⟨W0, hW0⟩ : ∃ W0, W0 = w12.alloc (.cells #[.int .i64 v0, .int .i64 v1, .string vI] 23) := ⟨_, rfl⟩
        obtain ⟨xb, hxb⟩ : ∃ xb, xb = w12.heap.size := ⟨_, rfl⟩
        rw [← hW0] at hX hBW
        rw [← hxb] at hX
        rw [← hW0, ← hxb]
        have HX : Hid (Box w12 W0 xb (.int .i64 v0) (.int .i64 v1) (.string vI)) := hX
        have BW : Hid (Below w9.heap.size w9 W0) := hBW
        clear hX hBW hW0 hxb B12
        have HP : Hid (∀ W, Below W0.heap.size W0 W → W.cell? ⟨xb, 0, none⟩ = some (.int .i64 v0) ∧ W.cell? ⟨xb, 1, none⟩ = some (.int .i64 v1) ∧ W.cell? ⟨xb, 2, none⟩ = some (.string vI) ∧ W.cell? ⟨blk, off, none⟩ = some (.int .i64 p) ∧ W.cell? ⟨blk, off + 1, none⟩ = some (.int .i64 q) ∧ W.cell? ⟨blk, off + 2, none⟩ = some (.string ins)) := fun W hW => by
          obtain ⟨m0, m1, m2⟩ := M.out W (below_trans BW.out hW)
          exact ⟨below_cell hW HX.out.c0, below_cell hW HX.out.c1, below_cell hW HX.out.c2, m0, m1, m2⟩
        refine wp_region_noPanic ?_
        refine wp_region_held_drew (S := fun W => W.cell? ⟨xb, 0, none⟩ = some (.int .i64 v0) ∧ W.cell? ⟨xb, 1, none⟩ = some (.int .i64 v1) ∧ W.cell? ⟨xb, 2, none⟩ = some (.string vI) ∧ W.cell? ⟨blk, off, none⟩ = some (.int .i64 p) ∧ W.cell? ⟨blk, off + 1, none⟩ = some (.int .i64 q) ∧ W.cell? ⟨blk, off + 2, none⟩ = some (.string ins)) (by kernel_rfl) (HP.out _ (Below.drew (Below.refl _ _))) (fun hHeld => ?_)
        refine wpAnyH_take (i := 0) (oi := { dst := _, op := _, type := _, pos := _, after := _, guard := _ }) (v := ?_) rfl (by kernel_rfl) (by kernel_rfl) (by kernel_rfl) (fun _ _ _ h => h) (Or.inl ⟨by rfl, ?_⟩) (by assumption) ?_
        rotate_left
        · intro W hSw
          (try dsimp only at hSw)
          go_simp
          (try with_reducible rfl)
        try simp only [Act.put, List.setIfInBounds_toArray, List.set_cons_zero, List.set_cons_succ]
        refine wpAnyH_take (i := 1) (oi := { dst := _, op := _, type := _, pos := _, after := _, guard := _ }) (v := ?_) rfl (by kernel_rfl) (by kernel_rfl) (by kernel_rfl) (fun _ _ _ h => h) (Or.inl ⟨by rfl, ?_⟩) (by assumption) ?_
        rotate_left
        · intro W hSw
          (try dsimp only at hSw)
          go_simp
          (try with_reducible rfl)
        try simp only [Act.put, List.setIfInBounds_toArray, List.set_cons_zero, List.set_cons_succ]
        refine wpAnyH_take (i := 2) (oi := { dst := _, op := _, type := _, pos := _, after := _, guard := _ }) (v := ?_) rfl (by kernel_rfl) (by kernel_rfl) (by kernel_rfl) (fun _ _ _ h => h) (Or.inl ⟨by rfl, ?_⟩) (by assumption) ?_
        rotate_left
        · intro W hSw
          (try dsimp only at hSw)
          go_simp
          (try with_reducible rfl)
        try simp only [Act.put, List.setIfInBounds_toArray, List.set_cons_zero, List.set_cons_succ]
        refine wpAnyH_take (i := 3) (oi := { dst := _, op := _, type := _, pos := _, after := _, guard := _ }) (v := ?_) rfl (by kernel_rfl) (by kernel_rfl) (by kernel_rfl) (fun _ _ _ h => h) (Or.inl ⟨by rfl, ?_⟩) (by assumption) ?_
        rotate_left
        · intro W hSw
          (try dsimp only at hSw)
          go_simp
          (try with_reducible rfl)
        try simp only [Act.put, List.setIfInBounds_toArray, List.set_cons_zero, List.set_cons_succ]
        refine wpAnyH_take (i := 4) (oi := { dst := _, op := _, type := _, pos := _, after := _, guard := _ }) (v := ?_) rfl (by kernel_rfl) (by kernel_rfl) (by kernel_rfl) (fun _ _ _ h => h) (Or.inl ⟨by rfl, ?_⟩) (by assumption) ?_
        rotate_left
        · intro W hSw
          (try dsimp only at hSw)
          go_simp
          (try with_reducible rfl)
        try simp only [Act.put, List.setIfInBounds_toArray, List.set_cons_zero, List.set_cons_succ]
        refine wpAnyH_take (i := 5) (oi := { dst := _, op := _, type := _, pos := _, after := _, guard := _ }) (v := ?_) rfl (by kernel_rfl) (by kernel_rfl) (by kernel_rfl) (fun _ _ _ h => h) (Or.inl ⟨by rfl, ?_⟩) (by assumption) ?_
        rotate_left
        · intro W hSw
          (try dsimp only at hSw)
          go_simp
          (try with_reducible rfl)
        try simp only [Act.put, List.setIfInBounds_toArray, List.set_cons_zero, List.set_cons_succ]
        refine wpAnyH_take (i := 6) (oi := { dst := _, op := _, type := _, pos := _, after := _, guard := _ }) (v := ?_) rfl (by kernel_rfl) (by kernel_rfl) (by kernel_rfl) (fun _ _ _ h => h) (Or.inl ⟨by rfl, ?_⟩) (by assumption) ?_
        rotate_left
        · intro W hSw
          (try dsimp only at hSw)
          go_simp
          (try with_reducible rfl)
        try simp only [Act.put, List.setIfInBounds_toArray, List.set_cons_zero, List.set_cons_succ]
        refine wpAnyH_take (i := 7) (oi := { dst := _, op := _, type := _, pos := _, after := _, guard := _ }) (v := ?_) rfl (by kernel_rfl) (by kernel_rfl) (by kernel_rfl) (fun _ _ _ h => h) (Or.inl ⟨by rfl, ?_⟩) (by assumption) ?_
        rotate_left
        · intro W hSw
          (try dsimp only at hSw)
          go_simp
          (try with_reducible rfl)
        try simp only [Act.put, List.setIfInBounds_toArray, List.set_cons_zero, List.set_cons_succ]
        refine wpAnyH_take (i := 8) (oi := { dst := _, op := _, type := _, pos := _, after := _, guard := _ }) (v := ?_) rfl (by kernel_rfl) (by kernel_rfl) (by kernel_rfl) (fun _ _ _ h => h) (Or.inl ⟨by rfl, ?_⟩) (by assumption) ?_
        rotate_left
        · intro W hSw
          (try dsimp only at hSw)
          go_simp
          (try with_reducible rfl)
        try simp only [Act.put, List.setIfInBounds_toArray, List.set_cons_zero, List.set_cons_succ]
        refine wpAnyH_take (i := 9) (oi := { dst := _, op := _, type := _, pos := _, after := _, guard := _ }) (v := ?_) rfl (by kernel_rfl) (by kernel_rfl) (by kernel_rfl) (fun _ _ _ h => h) (Or.inl ⟨by rfl, ?_⟩) (by assumption) ?_
        rotate_left
        · intro W hSw
          (try dsimp only at hSw)
          go_simp
          (try with_reducible rfl)
        try simp only [Act.put, List.setIfInBounds_toArray, List.set_cons_zero, List.set_cons_succ]
        refine wpAnyH_take (i := 10) (oi := { dst := _, op := _, type := _, pos := _, after := _, guard := _ }) (v := ?_) rfl (by kernel_rfl) (by kernel_rfl) (by kernel_rfl) (fun _ _ _ h => h) (Or.inl ⟨by rfl, ?_⟩) (by assumption) ?_
        rotate_left
        · intro W hSw
          (try dsimp only at hSw)
          go_simp
          (try with_reducible rfl)
        try simp only [Act.put, List.setIfInBounds_toArray, List.set_cons_zero, List.set_cons_succ]
        refine wpAnyH_take (i := 11) (oi := { dst := _, op := _, type := _, pos := _, after := _, guard := _ }) (v := ?_) rfl (by kernel_rfl) (by kernel_rfl) (by kernel_rfl) (fun _ _ _ h => h) (Or.inl ⟨by rfl, ?_⟩) (by assumption) ?_
        rotate_left
        · intro W hSw
          (try dsimp only at hSw)
          go_simp
          (try with_reducible rfl)
        try simp only [Act.put, List.setIfInBounds_toArray, List.set_cons_zero, List.set_cons_succ]
        refine wpAnyH_take (i := 12) (oi := { dst := _, op := _, type := _, pos := _, after := _, guard := _ }) (v := ?_) rfl (by kernel_rfl) (by kernel_rfl) (by kernel_rfl) (fun _ _ _ h => h) (Or.inl ⟨by rfl, ?_⟩) (by assumption) ?_
        rotate_left
        · intro W hSw
          (try dsimp only at hSw)
          go_simp
          (try with_reducible rfl)
        try simp only [Act.put, List.setIfInBounds_toArray, List.set_cons_zero, List.set_cons_succ]
        refine wpAnyH_take (i := 13) (oi := { dst := _, op := _, type := _, pos := _, after := _, guard := _ }) (v := ?_) rfl (by kernel_rfl) (by kernel_rfl) (by kernel_rfl) (fun _ _ _ h => h) (Or.inl ⟨by rfl, ?_⟩) (by assumption) ?_
        rotate_left
        · intro W hSw
          (try dsimp only at hSw)
          go_simp
          (try with_reducible rfl)
        try simp only [Act.put, List.setIfInBounds_toArray, List.set_cons_zero, List.set_cons_succ]
        refine wpAnyH_ready (rs := [14]) (by kernel_rfl) (by simp) ?_
        refine AllReadyH.cons (o := { dst := _, op := _, type := _, pos := _, after := _, guard := _ }) rfl (fun K hK => ?_) AllReadyH.nil
        go_simp
        refine (C16.out _).mono ?_
        rintro e' w20 ⟨rfl, hb⟩
        have B20 : Hid (Below W0.heap.size W0 w20) := below_trans (Below.drew (Below.refl _ _)) hb
        clear hb
        go_wp2_with fail
        refine hK.out _ _ ?_ (fun hHeld => ?_)
        · (try dsimp only)
          exact HP.out _ B20.out
        clear hK K
        try simp only [Act.put, List.setIfInBounds_toArray, List.set_cons_zero, List.set_cons_succ]
        refine wpAnyH_take (i := 15) (oi := { dst := _, op := _, type := _, pos := _, after := _, guard := _ }) (v := ?_) rfl (by kernel_rfl) (by kernel_rfl) (by kernel_rfl) (fun _ _ _ h => h) (Or.inl ⟨by rfl, ?_⟩) (by assumption) ?_
        rotate_left
        · intro W hSw
          (try dsimp only at hSw)
          go_simp
          (try with_reducible rfl)
        try simp only [Act.put, List.setIfInBounds_toArray, List.set_cons_zero, List.set_cons_succ]
        refine wpAnyH_take (i := 16) (oi := { dst := _, op := _, type := _, pos := _, after := _, guard := _ }) (v := ?_) rfl (by kernel_rfl) (by kernel_rfl) (by kernel_rfl) (fun _ _ _ h => h) (Or.inl ⟨by rfl, ?_⟩) (by assumption) ?_
        rotate_left
        · intro W hSw
          (try dsimp only at hSw)
          go_simp
          (try with_reducible rfl)
        try simp only [Act.put, List.setIfInBounds_toArray, List.set_cons_zero, List.set_cons_succ]
        refine wpAnyH_take (i := 17) (oi := { dst := _, op := _, type := _, pos := _, after := _, guard := _ }) (v := ?_) rfl (by kernel_rfl) (by kernel_rfl) (by kernel_rfl) (fun _ _ _ h => h) (Or.inl ⟨by rfl, ?_⟩) (by assumption) ?_
        rotate_left
        · intro W hSw
          (try dsimp only at hSw)
          go_simp
          (try with_reducible rfl)
        try simp only [Act.put, List.setIfInBounds_toArray, List.set_cons_zero, List.set_cons_succ]
        refine wpAnyH_done (by kernel_rfl) ?_ _
        refine NoPanic.normal ?_
        clear hHeld HP C16
        go_wp2_with fail
        go_ret
        exact ⟨by simp, below_trans HB9.out (below_trans BW.out B20.out)⟩

end Go.Proofs.Ytjpmmihcnfedgab
