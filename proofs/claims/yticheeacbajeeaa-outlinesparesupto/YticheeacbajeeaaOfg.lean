import Derived.Test.YticheeacbajeeaaZos
import Derived.Test.YticheeacbajeeaaOfb
namespace Go.Proofs.Yticheeacbajeeaa
open Go.RowKit Go.Maps

set_option maxRecDepth 100000 in
set_option maxHeartbeats 4000000 in
theorem outermost_any {B n : Nat} {v : Value} {L : List Fd} (w : World) (hn : L.length = n) (hs : n ≤ 4398046511104) (hB : B ≤ w.heap.size) (h : w.ownsRow B 57 2 v n (flat fdf L)) :
    Calls Try.prog 28 #[v] w fun e w' => ∃ v' O, e = .returned v' ∧ Cn L O ∧ w'.ownsRow B 57 2 v' O.length (flat fdf O) ∧ Below B w w' := by
  have HSO : Hid _ := sort_any B w v n L hn (by omega) h
  have HN : Hid (L.length = n ∧ n ≤ 4398046511104 ∧ B ≤ w.heap.size) := ⟨hn, hs, hB⟩
  obtain ⟨a, c, rfl⟩ := row_shape h
  have eg := enters2
  clear hn hs hB h
  go_enter Try.func28, Try.ntmps28
  go_wp2_with fail
  refine Calls.mono HSO.out ?_
  rintro e w2 ⟨rfl, D, hp, hd, ho, hb⟩
  have HD : Hid (Cn L (cpk D D.length) ∧ D.length = n) := ⟨(cn_cpk hd).perm hp, by rw [hp.length_eq]; exact HN.out.1⟩
  have HO : Hid (w2.ownsRow B 57 2 (.slice a n c) n (flat fdf D)) := ho
  have HB : Hid (Below B w w2) := hb
  have HC : Hid (Calls Try.prog 46 #[.slice a n c, .func (.func 47) #[] #[]] w2 fun e w' => ∃ v' O, e = .returned v' ∧ Cn L O ∧ w'.ownsRow B 57 2 v' O.length (flat fdf O) ∧ Below B w w') := by
    show Calls _ _ _ _ _
    by_cases h2 : n < 2
    · refine (compact_few w2 HD.out.2 h2 ho).mono ?_
      rintro e w3 ⟨rfl, h3, rfl⟩
      refine ⟨_, cpk D D.length, rfl, HD.out.1, ?_, hb⟩
      rw [HD.out.2, h3, HD.out.2]
      exact ho
    · have hlt := HN.out
      obtain ⟨g, rfl⟩ : ∃ g, a = some ⟨g, 0, none⟩ := by
        rcases ho.2 with ⟨h1, h9⟩ | ⟨g, cap, cur, h1, -⟩
        · omega
        · exact ⟨g, (Value.slice.inj h1).1⟩
      have hc : n ≤ c := by
        rcases ho.2 with ⟨h1, h9⟩ | ⟨g', cap, cur, h1, h3, h4, h5, -⟩
        · cases h1
        · obtain ⟨-, -, e9⟩ := Value.slice.inj h1
          rw [e9]; exact h5
      refine (compact_any w2 (row_tag ho g rfl).1 HD.out.2 (by omega) hlt.2.1 hc ho).mono ?_
      rintro e w3 ⟨q, rfl, h3, h4, h5⟩
      refine ⟨_, cpk D D.length, rfl, HD.out.1, ?_, hb.trans h5⟩
      rw [HD.out.2, h3]
      exact h4
  clear hp hd ho hb HSO
  go_wp2_with fail
  refine Calls.mono HC.out ?_
  rintro e w3 ⟨v', O, rfl, hc, ho, hb⟩
  have HR : Hid (Cn L O ∧ w3.ownsRow B 57 2 v' O.length (flat fdf O) ∧ Below B w w3) := ⟨hc, ho, hb⟩
  clear hc ho hb
  go_wp2_with fail
  go_ret
  exact ⟨_, O, rfl, HR.out⟩
end Go.Proofs.Yticheeacbajeeaa
