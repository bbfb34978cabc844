import Derived.Test.YtbhlaheidlnppaaBq
import Derived.Test.YtbhlaheidlnppaaEdit
import Derived.Test.YtbhlaheidlnppaaSpl
import Derived.Test.YtbhlaheidlnppaaAlike
import Derived.Test.YtbhlaheidlnppaaStart
namespace Go.Proofs.Ytbhlaheidlnppaa
open Go.RowKit

/-- the edits in memory -/
def EditsAt (w : World) (blk off : Nat) (E : List (Int × Int × ByteArray)) : Prop :=
  ∀ (i : Nat) (e : Int × Int × ByteArray), E[i]? = some e → w.cell? ⟨blk, off + i * 3, none⟩ = some (.int .i64 e.1) ∧ w.cell? ⟨blk, off + i * 3 + 1, none⟩ = some (.int .i64 e.2.1) ∧ w.cell? ⟨blk, off + i * 3 + 2, none⟩ = some (.string e.2.2)

def Way (W0 : World) (E : List (Int × Int × ByteArray)) (gk : Nat) (vtext vx va vt vsize vi : Value) (wr : World) : Prop :=
  ∃ (i b z : Nat) (s : ByteArray) (bs : List Nat) (ss : List ByteArray) (X : List (Nat × ByteArray)), vtext = .string s ∧ vx = .pointer (some ⟨b, 0, none⟩) ∧ vsize = .int .i64 (z : Int) ∧ vi = .int .i64 (i : Int) ∧ Bq W0 wr va vt bs ss ((b, s) :: X) ∧ bs.length = i ∧ ss.length = i ∧
    (∀ (k b' : Nat) (s' : ByteArray), bs[k]? = some b' → ss[k]? = some s' → (b', s') ∈ X) ∧ s.size ≤ z ∧ z + sumIns (E.drop i) ≤ 1048576 ∧ i ≤ E.length ∧ gk = E.length - i

set_option maxRecDepth 1000000 in
set_option maxHeartbeats 8000000 in
theorem placeEdits_any (s : ByteArray) (blk off cap : Nat) (E : List (Int × Int × ByteArray)) (lp : Option Addr) (n row col : Int) (w : World) (hlp : 0 < E.length → lp = some ⟨blk, off, none⟩) (hE : EditsAt w blk off E) (hsum : s.size + sumIns E ≤ 1048576) (hlen : E.length ≤ 1048576) :
    Calls Try.prog 7 #[.string s, .slice lp E.length cap, .int .i64 n, .agg #[.int .i64 row, .int .i64 col]] w fun x w' => x = .returned (.bool true) ∧ Below w.heap.size w w' := by
  have b0 := bel_up w (.cells #[.int .i64 row, .int .i64 col] 33)
  obtain ⟨k0, k1⟩ := cells2 w (.int .i64 row) (.int .i64 col) 33
  obtain ⟨W0, hW0⟩ : ∃ W0, W0 = w.alloc (.cells #[.int .i64 row, .int .i64 col] 33) := ⟨_, rfl⟩
  rw [← hW0] at b0 k0 k1
  have H : Hid _ := newt_any s W0 (by omega)
  have HST : Hid _ := started_any
  have HEE : Hid (∀ W, Below W0.heap.size W0 W → EditsAt W blk off E) := fun W hW i e he => by
    obtain ⟨q1, q2, q3⟩ := hE i e he
    exact ⟨below_cell (below_trans b0 hW) q1, below_cell (below_trans b0 hW) q2, below_cell (below_trans b0 hW) q3⟩
  have HLP : Hid _ := hlp
  have HSU : Hid _ := hsum
  have HE0 : Hid _ := hW0
  have B0 : Hid _ := b0
  have KP : Hid (∀ W, Below W0.heap.size W0 W → W.cell? ⟨w.heap.size, 0, none⟩ = some (.int .i64 row) ∧ W.cell? ⟨w.heap.size, 1, none⟩ = some (.int .i64 col)) := fun W hW => ⟨below_cell hW k0, below_cell hW k1⟩
  clear hE hlp hsum hW0 b0 k0 k1
  go_enter Try.func7, Try.ntmps7
  go_wp2_with fail
  rw [← HE0.out]
  refine Calls.mono H.out ?_
  rintro x w1 ⟨b, T, rfl, hI, hb⟩
  have HI : Hid (∃ T, IxT w1 b s T) := ⟨T, hI⟩
  have B1 : Hid _ := hb
  clear hI hb H
  go_wp2_with fail
  refine (HST.out _).mono ?_
  rintro x w2 ⟨rfl, hb⟩
  have BQ : Hid (Bq W0 w2 (.slice none 0 0) (.slice none 0 0) [] [] [(b, s)]) := ⟨World.ownsRow_nil _ _ _ _, World.ownsRow_nil _ _ _ _, fun x hx => by
    simp at hx
    subst hx
    obtain ⟨T, hT⟩ := HI.out
    exact ⟨T, hT.mono hb⟩, below_trans B1.out hb⟩
  clear hb HI B1 HST
  go_wp2_with fail
  go_loopg [0, 9, 10, 11, 12, 13] E.length (fun gk vtext vx va vt vsize vi wr => Way W0 E gk vtext vx va vt vsize vi wr)
  case atStart => exact ⟨0, b, s.size, s, [], [], [], rfl, rfl, rfl, rfl, BQ.out, rfl, rfl, by simp, Nat.le_refl _, by have := HSU.out; simpa using this, Nat.zero_le _, by omega⟩
  case round =>
    clear BQ
    obtain ⟨i, b, z, s, bs, ss, X, rfl, rfl, rfl, rfl, hq, hb1, hs1, hX, hsz, hz, hiE, hgk⟩ := hrel
    have HK : Hid _ := hgk
    have HQ : Hid _ := hq
    have HX : Hid _ := hX
    have hz2 : z ≤ 1048576 := by omega
    have hzt : decide ((z : Int) < 16777216) = true := by rw [decide_eq_true_eq]; omega
    obtain ⟨i22, hi22, hz22, hs22, hy22⟩ := info_parts info22
    obtain ⟨i9, hi9, hz9, hs9, hy9⟩ := info_parts info9
    have HZ : Hid (s.size ≤ z ∧ z + sumIns (E.drop i) ≤ 1048576 ∧ bs.length = i ∧ ss.length = i) := ⟨hsz, hz, hb1, hs1⟩
    have hA : Hid ((wr.alloc (.cells #[.pointer (some ⟨b, 0, none⟩)] 22)).ownsRow W0.heap.size 22 1 u10 bs.length (bs.map fun b => Value.pointer (some ⟨b, 0, none⟩))) := hq.all.alloc _
    have hbaseA : W0.heap.size ≤ (wr.alloc (.cells #[.pointer (some ⟨b, 0, none⟩)] 22)).heap.size := by
      have := hq.below.size
      simp
      omega
    have HQA : Hid (Bq W0 (wr.alloc (.cells #[.pointer (some ⟨b, 0, none⟩)] 22)) u10 u11 bs ss ((b, s) :: X)) := hq.mono (bel_up _ _)
    by_cases hi : i < E.length
    · obtain ⟨ed, hed⟩ : ∃ ed, E[i]? = some ed := ⟨E[i], List.getElem?_eq_getElem hi⟩
      have HED : Hid _ := hed
      have hbl : bs.length ≤ 1048576 := by omega
      have hsl : ss.length ≤ 1048576 := by omega
      have hlpE := HLP.out (by omega)
      subst hlpE
      clear hq hX hgk hsz hz hb1 hs1
      go_wp2_with (at_builtin; refine wpList_append_own _ rfl (.tmp 36) (.tmp 38) 43 rfl W0.heap.size 22 i22 (.pointer none) 1 8 Try.underlying43 hi22 hz22 hs22 hy22 rfl (by decide) _ _ _ rfl hA.out ⟨wr.heap.size, 0, none⟩ 1 1 [.pointer (some ⟨b, 0, none⟩)] rfl rfl ?c1 ?c2 ?c3 ?c4 ?c5 ?_)
      case c2 => first | rfl | (intro u hu; simp at hu; subst hu; rfl)
      case c3 => unfold maxLen; omega
      case c4 => omega
      case c5 => first | exact hbaseA | simpa using hbaseA
      intro va w6 own1 grow1 _
      have Q6 := HQA.out.push own1 grow1
      have hT : Hid ((w6.alloc (.cells #[.string s] 9)).ownsRow W0.heap.size 9 1 u11 ss.length (ss.map Value.string)) := Q6.texts.alloc _
      have hbaseT : W0.heap.size ≤ (w6.alloc (.cells #[.string s] 9)).heap.size := by
        have := Q6.below.size
        simp
        omega
      have HQ6 : Hid (Bq W0 (w6.alloc (.cells #[.string s] 9)) va u11 (bs ++ [b]) ss ((b, s) :: X)) := Q6.mono (bel_up _ _)
      clear own1 grow1 Q6 hA hbaseA HQA hi22 hz22 hs22 hy22
      go_wp2_with (at_builtin; refine wpList_append_own _ rfl (.tmp 40) (.tmp 42) 44 rfl W0.heap.size 9 i9 (.string ⟨#[]⟩) 1 16 Try.underlying44 hi9 hz9 hs9 hy9 rfl (by decide) _ _ _ rfl hT.out ⟨w6.heap.size, 0, none⟩ 1 1 [.string s] rfl rfl ?d1 ?d2 ?d3 ?d4 ?d5 ?_)
      case d1 => exact cell_one_new _ _ _
      case d2 => intro u hu; simp at hu; subst hu; rfl
      case d3 => unfold maxLen; omega
      case d4 => omega
      case d5 => exact hbaseT
      intro vt w8 own2 grow2 _
      have HQ8 : Hid (Bq W0 w8 va vt (bs ++ [b]) (ss ++ [s]) ((b, s) :: X)) := HQ6.out.pushT own2 grow2
      clear own2 grow2 hT hbaseT HQ6 hi9 hz9 hs9 hy9
      obtain ⟨at_, del, ins⟩ := ed
      have hsd := sum_drop E i _ HED.out
      simp only at hsd
      have hZ := HZ.out
      have hins : s.size + ins.size ≤ 1048576 := by omega
      obtain ⟨a, e, p1, p2, p3, p4⟩ := places s at_ del
      have CE : Hid _ := fun (W : World) (hW : Below w8.heap.size w8 W) => by
        obtain ⟨T, hT⟩ := HQ8.out.each (b, s) (by simp)
        exact edit_any b s T at_ del ins a e W (hT.mono hW).ix p1 p2 p3 p4 (by omega)
      have CS : Hid _ := fun (W : World) => spliced_any s at_ del ins a e W p1 p2 p3 p4 (by omega)
      have hss := spl_size s a e ins p3 p4
      obtain ⟨s', hs'⟩ : ∃ s', s' = spl s a e ins := ⟨_, rfl⟩
      simp only [← hs'] at CE CS hss
      have HSS : Hid _ := hss
      have HSD : Hid _ := hsd
      obtain ⟨m0, m1, m2⟩ := HEE.out w8 HQ8.out.below i _ HED.out
      simp only at m0 m1 m2
      clear hsd hZ p1 p2 p3 p4 hss hs' hins
      go_wp2_with fail
      refine (CE.out _ (Below.refl _ _)).mono ?_
      rintro x w9 ⟨b', T', rfl, hI', hb9⟩
      have HQ9 : Hid (Bq W0 w9 va vt (bs ++ [b]) (ss ++ [s]) ((b', s') :: (b, s) :: X)) := (HQ8.out.mono hb9).more ⟨T', hI'⟩
      have m0' := below_cell hb9 m0
      have m1' := below_cell hb9 m1
      have m2' := below_cell hb9 m2
      clear hI' hb9 m0 m1 m2 CE HQ8 HQ
      go_wp2_with fail
      refine (CS.out _).mono ?_
      rintro x w10 ⟨rfl, hb10⟩
      have HQ10 : Hid (Bq W0 w10 va vt (bs ++ [b]) (ss ++ [s]) ((b', s') :: (b, s) :: X)) := HQ9.out.mono hb10
      have m2 := below_cell hb10 m2'
      clear hb10 m0' m1' m2' CS HQ9
      have hil : i ≤ 1048576 := by omega
      have hinl : ins.size ≤ 1048576 := by have := HZ.out; have := HSD.out; omega
      go_wp2_with fail
      go_roundg (E.length - (i + 1))
      case measure => have := HK.out; omega
      case rel =>
        obtain ⟨g1, g2, g3, g4⟩ := HZ.out
        have hsd := HSD.out
        have hss := HSS.out
        refine ⟨i + 1, b', z + ins.size, s', bs ++ [b], ss ++ [s], (b, s) :: X, rfl, rfl, by simp, by simp, HQ10.out, by simp; omega, by simp; omega, ?_, by omega, by omega, by omega, rfl⟩
        intro k bk sk h1 h2
        by_cases hk : k < i
        · rw [List.getElem?_append_left (by omega)] at h1 h2
          exact List.mem_cons_of_mem _ (HX.out k bk sk h1 h2)
        · have hk1 : k < (bs ++ [b]).length := (List.getElem?_eq_some_iff.1 h1).1
          have hk2 : k = i := by simp at hk1; omega
          subst hk2
          rw [List.getElem?_append_right (by omega), show k - bs.length = 0 by omega] at h1
          rw [List.getElem?_append_right (by omega), show k - ss.length = 0 by omega] at h2
          simp at h1 h2
          rw [← h1, ← h2]
          simp
    · have hbl : bs.length ≤ 1048576 := by omega
      have hsl : ss.length ≤ 1048576 := by omega
      clear hq hX hgk hsz hz hb1 hs1
      go_wp2_with (at_builtin; refine wpList_append_own _ rfl (.tmp 66) (.tmp 68) 43 rfl W0.heap.size 22 i22 (.pointer none) 1 8 Try.underlying43 hi22 hz22 hs22 hy22 rfl (by decide) _ _ _ rfl hA.out ⟨wr.heap.size, 0, none⟩ 1 1 [.pointer (some ⟨b, 0, none⟩)] rfl rfl ?f1 ?f2 ?f3 ?f4 ?f5 ?_)
      case f1 => exact cell_one_new _ _ _
      case f2 => first | rfl | (intro u hu; simp at hu; subst hu; rfl)
      case f3 => unfold maxLen; omega
      case f4 => omega
      case f5 => first | exact hbaseA | simpa using hbaseA
      intro va w6 own1 grow1 _
      have Q6 := HQA.out.push own1 grow1
      have hT : Hid ((w6.alloc (.cells #[.string s] 9)).ownsRow W0.heap.size 9 1 u11 ss.length (ss.map Value.string)) := Q6.texts.alloc _
      have hbaseT : W0.heap.size ≤ (w6.alloc (.cells #[.string s] 9)).heap.size := by
        have := Q6.below.size
        simp
        omega
      have HQ6 : Hid (Bq W0 (w6.alloc (.cells #[.string s] 9)) va u11 (bs ++ [b]) ss ((b, s) :: X)) := Q6.mono (bel_up _ _)
      clear own1 grow1 Q6 hA hbaseA HQA hi22 hz22 hs22 hy22
      go_wp2_with (at_builtin; refine wpList_append_own _ rfl (.tmp 70) (.tmp 72) 44 rfl W0.heap.size 9 i9 (.string ⟨#[]⟩) 1 16 Try.underlying44 hi9 hz9 hs9 hy9 rfl (by decide) _ _ _ rfl hT.out ⟨w6.heap.size, 0, none⟩ 1 1 [.string s] rfl rfl ?g1 ?g2 ?g3 ?g4 ?g5 ?_)
      case g1 => exact cell_one_new _ _ _
      case g2 => first | rfl | (intro u hu; simp at hu; subst hu; rfl)
      case g3 => unfold maxLen; omega
      case g4 => omega
      case g5 => first | exact hbaseT | simpa using hbaseT
      intro vt w8 own2 grow2 _
      have Q8 : Bq W0 w8 va vt (bs ++ [b]) (ss ++ [s]) ((b, s) :: X) := HQ6.out.pushT own2 grow2
      clear own2 grow2 hT hbaseT HQ6 hi9 hz9 hs9 hy9
      obtain ⟨g1, g2, g3, g4⟩ := HZ.out
      have hl1 : (bs ++ [b]).length = i + 1 := by simp; omega
      have hl2 : (ss ++ [s]).length = i + 1 := by simp; omega
      have HX2 : Hid (∀ (k b' : Nat) (s' : ByteArray), (bs ++ [b])[k]? = some b' → (ss ++ [s])[k]? = some s' → (b', s') ∈ (b, s) :: X) := fun k bk sk h1 h2 => by
        by_cases hk : k < i
        · rw [List.getElem?_append_left (by omega)] at h1 h2
          exact List.mem_cons_of_mem _ (HX.out k bk sk h1 h2)
        · have hk1 : k < (bs ++ [b]).length := (List.getElem?_eq_some_iff.1 h1).1
          have hk2 : k = i := by omega
          subst hk2
          rw [List.getElem?_append_right (by omega), show k - bs.length = 0 by omega] at h1
          rw [List.getElem?_append_right (by omega), show k - ss.length = 0 by omega] at h2
          simp at h1 h2
          rw [← h1, ← h2]
          simp
      have HBD : Hid (∀ (k : Nat) (s' : ByteArray), (ss ++ [s])[k]? = some s' → s'.size ≤ 1099511627776) := fun k s' h => by
        have hk : k < (bs ++ [b]).length := by
          have := (List.getElem?_eq_some_iff.1 h).1
          omega
        obtain ⟨T, hT⟩ := Q8.each _ (HX2.out k _ s' (List.getElem?_eq_getElem hk) h)
        exact hT.ix.size
      generalize bs ++ [b] = bs2 at *
      generalize ss ++ [s] = ss2 at *
      generalize (b, s) :: X = X2 at *
      obtain ⟨ga, capa, rfl, hca, _, _⟩ := own_form Q8.all (by omega)
      obtain ⟨gt, capt, rfl, hct, _, _⟩ := own_form Q8.texts (by omega)
      have HQ8 : Hid _ := Q8
      clear Q8 g1 g2 g3 g4 HZ HX HSU HEE HLP
      have hn1 : bs2.length ≤ 1099511627776 := by omega
      have hn2 : bs2.length = ss2.length := by omega
      have HN2 : Hid _ := hn2
      have hl3 : ss2.length ≤ 1099511627776 := by omega
      clear hz2 hzt hbl hsl hlen hl1 hl2 hn2 HK hiE hi
      go_wp2_with fail
      go_loopg [14] bs2.length (fun gk vi wr => ∃ k : Nat, vi = .int .i64 (k : Int) ∧ k ≤ bs2.length ∧ Bq W0 wr (.slice (some ⟨ga, 0, none⟩) bs2.length capa) (.slice (some ⟨gt, 0, none⟩) ss2.length capt) bs2 ss2 X2 ∧ gk = bs2.length - k)
      case atStart => exact ⟨0, rfl, Nat.zero_le _, HQ8.out, rfl⟩
      case round =>
        obtain ⟨k, rfl, hkl, hq, hgk⟩ := hrel
        have HK2 : Hid _ := hgk
        by_cases hk : k < bs2.length
        · obtain ⟨bk, hbk⟩ : ∃ bk, bs2[k]? = some bk := ⟨bs2[k], List.getElem?_eq_getElem hk⟩
          have hks : k < ss2.length := by have := HN2.out; omega
          obtain ⟨sk, hsk⟩ : ∃ sk, ss2[k]? = some sk := ⟨ss2[k], List.getElem?_eq_getElem hks⟩
          obtain ⟨Tk, hTk⟩ := hq.each _ (HX2.out k bk sk hbk hsk)
          have t0 : wr.cell? ⟨gt, k, none⟩ = some (.string sk) := by
            rw [hq.texts.cellAt k (by omega), List.getElem?_map, hsk]
            rfl
          have t1 : wr.cell? ⟨ga, k, none⟩ = some (.pointer (some ⟨bk, 0, none⟩)) := by
            rw [hq.all.cellAt k (by omega), List.getElem?_map, hbk]
            rfl
          have CN : Hid _ := new_any sk wr (HBD.out k sk hsk)
          have HQK : Hid _ := hq
          have HTK : Hid (Ix wr bk sk Tk) := hTk.ix
          have T1 : Hid _ := t1
          clear hq hgk hTk t1
          go_wp2_with fail
          refine Calls.mono CN.out ?_
          rintro x w9 ⟨by_, Ty, rfl, hIy, hb9⟩
          have AL : Hid (∀ W, Below w9.heap.size w9 W → Calls Try.prog 24 #[.pointer (some ⟨bk, 0, none⟩), .pointer (some ⟨by_, 0, none⟩), .int .i64 n, .agg #[.int .i64 row, .int .i64 col]] W fun x w' => x = .returned (.bool true) ∧ Below W.heap.size W w') := fun W hW => alike_any bk by_ sk Tk Ty n row col W (HTK.out.mono (below_trans hb9 hW)) (hIy.mono hW)
          have t1 := below_cell hb9 T1.out
          have HQ9 : Hid (Bq W0 w9 (.slice (some ⟨ga, 0, none⟩) bs2.length capa) (.slice (some ⟨gt, 0, none⟩) ss2.length capt) bs2 ss2 X2) := HQK.out.mono hb9
          obtain ⟨k0, k1⟩ := KP.out w9 HQ9.out.below
          have HP : Hid (∀ W, Below w9.heap.size w9 W → W.cell? ⟨ga, k, none⟩ = some (.pointer (some ⟨bk, 0, none⟩)) ∧ W.cell? ⟨w.heap.size, 0, none⟩ = some (.int .i64 row) ∧ W.cell? ⟨w.heap.size, 1, none⟩ = some (.int .i64 col) ∧ Below w9.heap.size w9 W) := fun W hW => ⟨below_cell hW t1, below_cell hW k0, below_cell hW k1, hW⟩
          have HB : Hid (∀ W, (W.cell? ⟨ga, k, none⟩ = some (.pointer (some ⟨bk, 0, none⟩)) ∧ W.cell? ⟨w.heap.size, 0, none⟩ = some (.int .i64 row) ∧ W.cell? ⟨w.heap.size, 1, none⟩ = some (.int .i64 col) ∧ Below w9.heap.size w9 W) → Below w9.heap.size w9 W) := fun W h => h.2.2.2
          clear hIy hb9 t0 T1 HTK HQK CN hbk hsk
          go_wp2_with fail
          go_region_held3 (fun W => W.cell? ⟨ga, k, none⟩ = some (.pointer (some ⟨bk, 0, none⟩)) ∧ W.cell? ⟨w.heap.size, 0, none⟩ = some (.int .i64 row) ∧ W.cell? ⟨w.heap.size, 1, none⟩ = some (.int .i64 col) ∧ Below w9.heap.size w9 W) (first | exact HP.out _ (Below.drew (Below.refl _ _)) | exact HP.out _ (below_trans (HB.out _ (by assumption)) hb) | assumption)
            (first
            | (go_at_call 24; refine (AL.out _ ?_).mono ?_; exact HB.out _ (by assumption); rintro x w10 ⟨rfl, hb⟩))
          all_goals
            go_wp2_with fail
            go_roundg (bs2.length - (k + 1))
          all_goals first
            | (have q := HK2.out
               omega)
            | exact ⟨k + 1, by simp, by omega, HQ9.out.mono (HB.out _ (by assumption)), rfl⟩
        · have HQK : Hid (Below W0.heap.size W0 wr) := hq.below
          clear hq hgk
          go_wp2_with fail
          go_ret
          exact ⟨rfl, below_trans B0.out HQK.out⟩

end Go.Proofs.Ytbhlaheidlnppaa
