import Derived.Test.YticheeacbajeeaaZpa
import Derived.Laws.OwnMore
namespace Go.Proofs.Yticheeacbajeeaa.Pc
open Go.RowKit

set_option maxRecDepth 100000 in
set_option maxHeartbeats 400000 in
theorem rclamp_any (s : ByteArray) (n : Int) (w : World) :
    Calls Try.prog 60 #[.string s, .int .i64 n] w fun e w' => e = .returned (.int .i64 (cl n s.size)) ∧ w = w' := by
  go_enter Try.func60, Try.ntmps60
  go_wp2
  all_goals
    go_ret
    exact ⟨ret_int (by unfold cl; split <;> (try split) <;> omega), rfl⟩

set_option maxRecDepth 100000 in
set_option maxHeartbeats 1000000 in
theorem rrows_any (s : ByteArray) (R : List (Nat × Nat)) (w : World) (hR : Rw s 0 s.size R) (hs : s.size ≤ 1099511627776) :
    Calls Try.prog 30 #[.string s] w fun e w' => e = .returned (.int .i64 (R.length : Int)) ∧ w = w' := by
  have HR : Hid _ := hR
  have HS : Hid _ := hs
  clear hR hs
  go_enter Try.func30, Try.ntmps30
  go_wp2_with fail
  go_loopg [3, 4] s.size (fun k n i wr => ∃ (j p : Nat) (r : Nat × Nat), n = .int .i64 ((j : Int) + 1) ∧ i = .int .i64 (p : Int) ∧ R[j]? = some r ∧ r.1 ≤ p ∧ p ≤ r.2 ∧ k = s.size - p ∧ wr = w)
  case atStart =>
    obtain ⟨r, hr⟩ := get_of_lt HR.out.pos
    have := HR.out.first r hr
    exact ⟨0, 0, r, rfl, rfl, hr, by omega, by omega, by omega, rfl⟩
  case round =>
    obtain ⟨j, p, r, rfl, rfl, hr, h1, h2, hk, rfl⟩ := hrel
    have hle := HR.out.le _ _ hr
    have hjl := HR.out.ge _ _ hr
    have hs := HS.out
    have hle3 := hle.2.2
    clear hle
    have HK : Hid _ := hk
    have Q : Hid (r.1 ≤ p ∧ p ≤ r.2 ∧ R[j]? = some r ∧ r.2 ≤ s.size) := ⟨h1, h2, hr, hle3⟩
    have hj : j ≤ 1099511627776 := by omega
    have hp : p ≤ 1099511627776 := by omega
    clear h1 h2 hk hr hle3 hjl hs
    by_cases hlt : p < s.size
    · have hix := idx_fact s p hlt
      by_cases h10 : s.get! p = 10
      · have hc := is_nl s p h10
        have H10 : Hid _ := h10
        clear h10
        go_wp2_with fail
        go_roundg (s.size - (p + 1))
        case measure =>
          have hk := HK.out
          omega
        case rel =>
          obtain ⟨h1, h2, hr, hle3⟩ := Q.out
          have hpe : p = r.2 := by
            rcases Nat.lt_or_ge p r.2 with hh | hh
            · exact absurd H10.out (HR.out.free _ _ hr p h1 hh)
            · omega
          have hn : j + 1 < R.length := by
            rcases Nat.lt_or_ge (j + 1) R.length with hh | hh
            · exact hh
            · have := lt_of_get hr
              have := HR.out.last r (by rw [show R.length - 1 = j by omega]; exact hr)
              omega
          obtain ⟨q, hq⟩ := get_of_lt hn
          have hs := (HR.out.step _ _ _ hr hq).1
          have hl := HR.out.le _ _ hq
          exact ⟨j + 1, p + 1, q, by simp, by simp, hq, by omega, by omega, rfl, rfl⟩
      · have hc := no_nl s p h10
        have H10 : Hid _ := h10
        clear h10
        go_wp2_with fail
        go_roundg (s.size - (p + 1))
        case measure =>
          have hk := HK.out
          omega
        case rel =>
          obtain ⟨h1, h2, hr, hle3⟩ := Q.out
          have hpe : p < r.2 := by
            rcases Nat.lt_or_ge p r.2 with hh | hh
            · exact hh
            · have hpe : p = r.2 := by omega
              have hn : j + 1 < R.length := by
                rcases Nat.lt_or_ge (j + 1) R.length with hh | hh
                · exact hh
                · have := lt_of_get hr
                  have := HR.out.last r (by rw [show R.length - 1 = j by omega]; exact hr)
                  omega
              obtain ⟨q, hq⟩ := get_of_lt hn
              exact absurd (by rw [hpe]; exact (HR.out.step _ _ _ hr hq).2) H10.out
          exact ⟨j, p + 1, r, rfl, by simp, hr, by omega, by omega, rfl, rfl⟩
    · go_wp2_with fail
      go_ret
      obtain ⟨h1, h2, hr, hle3⟩ := Q.out
      refine ⟨ret_int ?_, rfl⟩
      have hl := lt_of_get hr
      rcases Nat.lt_or_ge (j + 1) R.length with hh | hh
      · obtain ⟨q, hq⟩ := get_of_lt hh
        have a1 := (HR.out.step _ _ _ hr hq).1
        have a2 := HR.out.le _ _ hq
        omega
      · omega

theorem Rw.nl {s : ByteArray} {R : List (Nat × Nat)} (h : Rw s 0 s.size R) {m p : Nat} {q : Nat × Nat} (hq : R[m]? = some q) (h1 : q.1 ≤ p) (h2 : p ≤ q.2) (hlt : p < s.size) (h10 : s.get! p = 10) :
    ∃ q2 : Nat × Nat, R[m + 1]? = some q2 ∧ q2.1 = p + 1 ∧ q2.1 ≤ q2.2 := by
  have hpe : p = q.2 := by
    rcases Nat.lt_or_ge p q.2 with hh | hh
    · exact absurd h10 (h.free _ _ hq p h1 hh)
    · omega
  have hn1 : m + 1 < R.length := by
    rcases Nat.lt_or_ge (m + 1) R.length with hh | hh
    · exact hh
    · have := lt_of_get hq
      have := h.last q (by rw [show R.length - 1 = m by omega]; exact hq)
      omega
  obtain ⟨q2, hq2⟩ := get_of_lt hn1
  have a1 := (h.step _ _ _ hq hq2).1
  have a2 := h.le _ _ hq2
  exact ⟨q2, hq2, by omega, by omega⟩
theorem Rw.nonl {s : ByteArray} {R : List (Nat × Nat)} (h : Rw s 0 s.size R) {m p : Nat} {q : Nat × Nat} (hq : R[m]? = some q) (h2 : p ≤ q.2) (hlt : p < s.size) (h10 : s.get! p ≠ 10) : p < q.2 := by
  rcases Nat.lt_or_ge p q.2 with hh | hh
  · exact hh
  · have hpe : p = q.2 := by omega
    have hn1 : m + 1 < R.length := by
      rcases Nat.lt_or_ge (m + 1) R.length with hh | hh
      · exact hh
      · have := lt_of_get hq
        have := h.last q (by rw [show R.length - 1 = m by omega]; exact hq)
        omega
    obtain ⟨q2, hq2⟩ := get_of_lt hn1
    exact absurd (by rw [hpe]; exact (h.step _ _ _ hq hq2).2) h10

set_option maxRecDepth 100000 in
set_option maxHeartbeats 1000000 in
theorem rpos_any (s : ByteArray) (R : List (Nat × Nat)) (n : Int) (t j : Nat) (r : Nat × Nat) (w : World) (hR : Rw s 0 s.size R) (hs : s.size ≤ 1099511627776) (ht : cl n s.size = t) (hj : R[j]? = some r) (h1 : r.1 ≤ t) (h2 : t ≤ r.2) :
    Calls Try.prog 50 #[.string s, .int .i64 n] w fun e w' => e = .returned (.agg #[.int .i64 (j : Int), .int .i64 ((t - r.1 : Nat) : Int)]) ∧ Below w.heap.size w w' := by
  have H : Hid _ := fun W : World => rclamp_any s n W
  rw [ht] at H
  have HR : Hid _ := hR
  have HJ : Hid (R[j]? = some r ∧ r.1 ≤ t ∧ t ≤ r.2 ∧ t ≤ s.size) := ⟨hj, h1, h2, by have := hR.le _ _ hj; omega⟩
  have hts : t ≤ 1099511627776 := by have := hR.le _ _ hj; omega
  clear hR hs hj h1 h2 ht
  go_enter Try.func50, Try.ntmps50
  go_wp2_with fail
  refine (H.out _).mono ?_
  rintro e w' ⟨rfl, rfl⟩
  go_wp2_with fail
  go_loopg [6] t (fun k i wr => ∃ (p m : Nat) (q : Nat × Nat), i = .int .i64 (p : Int) ∧ p ≤ t ∧ R[m]? = some q ∧ q.1 ≤ p ∧ p ≤ q.2 ∧ k = t - p ∧ wr = (w.alloc (.cells #[.int .i64 0, .int .i64 0] 108)).alloc (.cells #[.int .i64 (m : Int), .int .i64 ((p - q.1 : Nat) : Int)] 108))
  case atStart =>
    obtain ⟨q, hq⟩ := get_of_lt HR.out.pos
    have hf := HR.out.first q hq
    exact ⟨0, 0, q, rfl, by omega, hq, by omega, by omega, by omega, by rw [hf]; rfl⟩
  case round =>
    obtain ⟨p, m, q, rfl, hpt, hq, h1, h2, hk, rfl⟩ := hrel
    have HK : Hid _ := hk
    have hle := HR.out.le _ _ hq
    have Q : Hid (p ≤ t ∧ R[m]? = some q ∧ q.1 ≤ p ∧ p ≤ q.2) := ⟨hpt, hq, h1, h2⟩
    have hml : m ≤ 1099511627777 := by have := HR.out.ge _ _ hq; omega
    have hts2 := HJ.out.2.2.2
    by_cases hlt : p < t
    · have hps : p < s.size := by omega
      have hix := idx_fact s p hps
      have hd : p - q.1 ≤ 1099511627776 := by omega
      obtain ⟨d, hdd⟩ : ∃ d, d = p - q.1 := ⟨_, rfl⟩
      rw [← hdd] at hd ⊢
      have HD : Hid _ := hdd
      clear hdd hle hk hq h1 h2 hts2
      by_cases h10 : s.get! p = 10
      · have hc := is_nl s p h10
        have H10 : Hid _ := h10
        clear h10
        go_wp2_with fail
        go_roundg (t - (p + 1))
        case measure =>
          have hk := HK.out
          omega
        case rel =>
          obtain ⟨hpt, hq, h1, h2⟩ := Q.out
          obtain ⟨q2, a1, a2, a3⟩ := HR.out.nl hq h1 h2 hps H10.out
          exact ⟨p + 1, m + 1, q2, by simp, by omega, a1, by omega, by omega, rfl, by rw [a2]; simp⟩
      · have hc := no_nl s p h10
        have H10 : Hid _ := h10
        clear h10
        go_wp2_with fail
        go_roundg (t - (p + 1))
        case measure =>
          have hk := HK.out
          omega
        case rel =>
          obtain ⟨hpt, hq, h1, h2⟩ := Q.out
          have a1 := HR.out.nonl hq h2 hps H10.out
          have a2 := HD.out
          exact ⟨p + 1, m, q, by simp, by omega, hq, by omega, by omega, rfl, by rw [show p + 1 - q.1 = d + 1 by omega]; simp⟩
    · have hpe : p = t := by omega
      subst hpe
      have hmj : m = j := by
        have hJ := HJ.out
        exact HR.out.uniq hq hJ.1 h1 h2 hJ.2.1 hJ.2.2.1
      subst hmj
      have hqr : q = r := by
        have hJ := HJ.out
        rw [hJ.1] at hq
        simpa using hq.symm
      subst hqr
      clear hq h1 h2 hle hk
      go_wp2_with fail
      (try simp only [Exit.inBlock, Exit.then])
      refine bodyPost_ret (v := .agg #[.int .i64 (m : Int), .int .i64 ((p - q.1 : Nat) : Int)]) ?_ rfl ⟨rfl, ?_⟩
      · rw [results_cell1 rfl]; go_simp
      · (repeat' (first | exact Below.refl _ _ | refine Below.drew ?_ | refine Below.alloc ?_ (by simp <;> omega) _ | refine Below.setCell ?_ (by simp <;> omega) _))

end Go.Proofs.Yticheeacbajeeaa.Pc
namespace Go.Proofs.Yticheeacbajeeaa.Pc
open Go.RowKit

theorem grown_none {w w' : World} (h : Below w.heap.size w w') : w.grownBy w' none := ⟨h.os, h.tape, h.output, h.size, fun k hk _ => h.block k hk⟩
theorem own_mono {w w' : World} {base : Nat} {e : TypeId} {z : Nat} {v : Value} {n : Nat} {xs : List Value} (h : w.ownsRow base e z v n xs) (hb : Below w.heap.size w w') : w'.ownsRow base e z v n xs :=
  h.kept (grown_none hb) (by cases hv : v.ownBlock <;> simp)

/-- the cells of marks, of rows -/
def mcells (M : List (Nat × Nat)) : List Value := M.flatMap fun m => [.int .i64 (m.1 : Int), .int .i64 (m.2 : Int)]
def rcells (T : List ((Nat × Nat) × Value)) : List Value := T.flatMap fun x => [.int .i64 (x.1.1 : Int), .int .i64 (x.1.2 : Int), x.2]
theorem mcells_len (M : List (Nat × Nat)) : (mcells M).length = M.length * 2 := by
  induction M with
  | nil => rfl
  | cons m M ih => simp only [mcells, List.flatMap_cons, List.length_append, List.length_cons] at *; simp at *; omega
theorem rcells_len (T : List ((Nat × Nat) × Value)) : (rcells T).length = T.length * 3 := by
  induction T with
  | nil => rfl
  | cons m M ih => simp only [rcells, List.flatMap_cons, List.length_append, List.length_cons] at *; simp at *; omega
theorem mcells_at (M : List (Nat × Nat)) (i : Nat) (m : Nat × Nat) (h : M[i]? = some m) : (mcells M)[i * 2]? = some (.int .i64 (m.1 : Int)) ∧ (mcells M)[i * 2 + 1]? = some (.int .i64 (m.2 : Int)) := by
  induction M generalizing i with
  | nil => simp at h
  | cons a M ih =>
    cases i with
    | zero =>
      simp at h
      subst h
      simp [mcells]
    | succ i =>
      have := ih i (by simpa using h)
      rw [show (i + 1) * 2 = i * 2 + 1 + 1 by omega]
      simpa [mcells] using this
theorem rcells_at (T : List ((Nat × Nat) × Value)) (i : Nat) (x : (Nat × Nat) × Value) (h : T[i]? = some x) :
    (rcells T)[i * 3]? = some (.int .i64 (x.1.1 : Int)) ∧ (rcells T)[i * 3 + 1]? = some (.int .i64 (x.1.2 : Int)) ∧ (rcells T)[i * 3 + 2]? = some x.2 := by
  induction T generalizing i with
  | nil => simp at h
  | cons a T ih =>
    cases i with
    | zero =>
      simp at h
      subst h
      simp [rcells]
    | succ i =>
      have := ih i (by simpa using h)
      rw [show (i + 1) * 3 = i * 3 + 1 + 1 + 1 by omega]
      simpa [rcells] using this
theorem mcells_app (M N : List (Nat × Nat)) : mcells (M ++ N) = mcells M ++ mcells N := by simp [mcells]
theorem rcells_app (M N : List ((Nat × Nat) × Value)) : rcells (M ++ N) = rcells M ++ rcells N := by simp [rcells]

/-- marks of a line -/
def Mk (w : World) (v : Value) (line : ByteArray) : Prop := ∃ M : List (Nat × Nat), (∀ m ∈ M, Bd line m.1 m.2) ∧ M.length ≤ line.size ∧ w.ownsRow 0 149 2 v M.length (mcells M)
theorem Mk.mono {w w' : World} {v : Value} {l : ByteArray} (h : Mk w v l) (hb : Below w.heap.size w w') : Mk w' v l := by
  obtain ⟨M, h1, hl, h2⟩ := h
  exact ⟨M, h1, hl, own_mono h2 hb⟩

/-- an index of a text lies at block b -/
structure Ix (w : World) (b : Nat) (s : ByteArray) (T : List ((Nat × Nat) × Value)) : Prop where
  text : w.cell? ⟨b, 0, none⟩ = some (.string s)
  rows : ∃ rv, w.cell? ⟨b, 1, none⟩ = some rv ∧ w.ownsRow 0 141 3 rv T.length (rcells T)
  marks : ∀ x ∈ T, Mk w x.2 (s.extract x.1.1 x.1.2)
  rw : Rw s 0 s.size (T.map (·.1))
  size : s.size ≤ 1099511627776
theorem Ix.mono {w w' : World} {b : Nat} {s : ByteArray} {T : List ((Nat × Nat) × Value)} (h : Ix w b s T) (hb : Below w.heap.size w w') : Ix w' b s T := by
  obtain ⟨h1, ⟨rv, h2, h3⟩, h4, h5, h6⟩ := h
  exact ⟨below_cell hb h1, ⟨rv, below_cell hb h2, own_mono h3 hb⟩, fun x hx => (h4 x hx).mono hb, h5, h6⟩

/-- its cells -/
structure IxC (w : World) (b g cap : Nat) (s : ByteArray) (T : List ((Nat × Nat) × Value)) : Prop where
  c0 : w.cell? ⟨b, 0, none⟩ = some (.string s)
  c1 : w.cell? ⟨b, 1, none⟩ = some (.slice (some ⟨g, 0, none⟩) T.length cap)
  row : ∀ (i : Nat) (x : (Nat × Nat) × Value), T[i]? = some x → w.cell? ⟨g, i * 3, none⟩ = some (.int .i64 (x.1.1 : Int)) ∧ w.cell? ⟨g, i * 3 + 1, none⟩ = some (.int .i64 (x.1.2 : Int)) ∧ w.cell? ⟨g, i * 3 + 2, none⟩ = some x.2
  pos : 0 < T.length
  len : T.length ≤ 1099511627777
  cap : T.length ≤ cap
theorem own_form {w : World} {base e z : Nat} {v : Value} {n : Nat} {xs : List Value} (h : w.ownsRow base e z v n xs) (hn : 0 < n) :
    ∃ g cap, v = .slice (some ⟨g, 0, none⟩) n cap ∧ n ≤ cap ∧ base ≤ g ∧ g < w.heap.size := by
  obtain ⟨h1, h2⟩ := h
  rcases h2 with ⟨_, h2⟩ | ⟨g, cap, cur, rfl, hg, hh, hcap, _⟩
  · omega
  · exact ⟨g, cap, rfl, hcap, hg, lt_of_heap hh⟩
theorem Ix.cells {w : World} {b : Nat} {s : ByteArray} {T : List ((Nat × Nat) × Value)} (h : Ix w b s T) : ∃ g cap, IxC w b g cap s T := by
  obtain ⟨h1, ⟨rv, h2, h3⟩, h4, h5, h6⟩ := h
  have hp : 0 < T.length := by have := h5.pos; simpa using this
  obtain ⟨g, cap, rfl, hc, _, _⟩ := own_form h3 hp
  refine ⟨g, cap, h1, h2, fun i x hx => ?_, hp, by have := h5.len; simp at this; omega, hc⟩
  have hi : i < T.length := (List.getElem?_eq_some_iff.1 hx).1
  obtain ⟨a1, a2, a3⟩ := rcells_at T i x hx
  exact ⟨by rw [h3.cellAt _ (by omega)]; exact a1, by rw [h3.cellAt _ (by omega)]; exact a2, by rw [h3.cellAt _ (by omega)]; exact a3⟩

theorem Mk.form {w : World} {v : Value} {l : ByteArray} (h : Mk w v l) : ∃ p n c, v = .slice p n c := by
  obtain ⟨M, _, _, _, h2⟩ := h
  rcases h2 with ⟨rfl, _⟩ | ⟨g, cap, cur, rfl, _⟩
  · exact ⟨_, _, _, rfl⟩
  · exact ⟨_, _, _, rfl⟩
theorem Ix.mem {w : World} {b : Nat} {s : ByteArray} {T : List ((Nat × Nat) × Value)} (h : Ix w b s T) {n : Nat} {x : (Nat × Nat) × Value} (hx : T[n]? = some x) : Mk w x.2 (s.extract x.1.1 x.1.2) := h.marks x (List.mem_of_getElem? hx)

set_option maxRecDepth 100000 in
set_option maxHeartbeats 400000 in
theorem clamp_any (n m : Int) (w : World) (hm : 0 ≤ m) :
    Calls Try.prog 74 #[.int .i64 n, .int .i64 m] w fun e w' => e = .returned (.int .i64 (cl n m)) ∧ w = w' := by
  go_enter Try.func74, Try.ntmps74
  go_wp2
  all_goals
    go_ret
    exact ⟨ret_int (by unfold cl; split <;> (try split) <;> omega), rfl⟩

end Go.Proofs.Yticheeacbajeeaa.Pc
namespace Go.Proofs.Yticheeacbajeeaa.Pc
open Go.RowKit

set_option maxRecDepth 1000000 in
set_option maxHeartbeats 4000000 in
/-- sort.Search, of a function value that turns nothing old -/
theorem search_any (g : Nat) (cb : Array Value) (n : Nat) (p : Nat → Bool) (w : World) (eg : ∀ args W, (callFunc g args).run Try.prog W = .ok (.enter g args) W) (hn : n ≤ 2199023255552)
    (hf : ∀ (W : World) (i : Nat), Below w.heap.size w W → i < n → Calls Try.prog g (#[.int .i64 (i : Int)] ++ cb) W fun e w' => e = .returned (.bool (p i)) ∧ Below W.heap.size W w') :
    Calls Try.prog 86 #[.int .i64 (n : Int), .func (.func g) #[] cb] w fun e w' => ∃ r : Nat, e = .returned (.int .i64 (r : Int)) ∧ r ≤ n ∧ (0 < r → p (r - 1) = false) ∧ (r < n → p r = true) ∧ Below w.heap.size w w' := by
  have HF : Hid _ := hf
  clear hf
  go_enter Try.func86, Try.ntmps86
  go_wp2_with fail
  go_loopg [5, 6] n (fun kx s5 s6 wr => ∃ (lo hi : Nat), s5 = .int .i64 (lo : Int) ∧ s6 = .int .i64 (hi : Int) ∧ lo ≤ hi ∧ hi ≤ n ∧ hi - lo ≤ kx ∧ Hid ((0 < lo → p (lo - 1) = false) ∧ (hi < n → p hi = true) ∧ Below w.heap.size w wr))
  case atStart => exact ⟨0, n, rfl, rfl, Nat.zero_le _, Nat.le_refl _, by omega, fun h => absurd h (Nat.lt_irrefl _), fun h => absurd h (Nat.lt_irrefl _), Below.refl _ _⟩
  case round =>
    obtain ⟨lo, hi, rfl, rfl, hlh, hin, hg, I⟩ := hrel
    by_cases hlt : lo < hi
    · have hc := HF.out wr ((lo + hi) / 2) I.out.2.2 (by omega)
      rw [show (((lo + hi) / 2 : Nat) : Int) = ((lo : Int) + (hi : Int)) / 2 by omega] at hc
      have HC : Hid _ := hc
      clear hc
      have hml : (lo + hi) / 2 < hi := by omega
      have hmg : lo ≤ (lo + hi) / 2 := by omega
      cases hp : p ((lo + hi) / 2)
      · have HP : Hid (p ((lo + hi) / 2) = false) := hp
        rw [hp] at HC
        clear hp
        go_wp2_with fail
        refine Calls.mono HC.out ?_
        rintro e w' ⟨rfl, hb⟩
        have HB : Hid _ := hb
        clear hb
        go_wp2_with fail
        go_roundg (hi - ((lo + hi) / 2 + 1))
        case measure => omega
        case rel =>
          obtain ⟨i1, i2, i3⟩ := I.out
          exact ⟨(lo + hi) / 2 + 1, hi, by rw [show ((lo : Int) + (hi : Int)) / 2 + 1 = (((lo + hi) / 2 + 1 : Nat) : Int) by omega], rfl, by omega, hin, Nat.le_refl _, fun _ => HP.out, i2, below_trans i3 HB.out⟩
      · have HP : Hid (p ((lo + hi) / 2) = true) := hp
        rw [hp] at HC
        clear hp
        go_wp2_with fail
        refine Calls.mono HC.out ?_
        rintro e w' ⟨rfl, hb⟩
        have HB : Hid _ := hb
        clear hb
        go_wp2_with fail
        go_roundg ((lo + hi) / 2 - lo)
        case measure => omega
        case rel =>
          obtain ⟨i1, i2, i3⟩ := I.out
          exact ⟨lo, (lo + hi) / 2, rfl, by rw [show ((lo : Int) + (hi : Int)) / 2 = (((lo + hi) / 2 : Nat) : Int) by omega], by omega, by omega, Nat.le_refl _, i1, fun _ => HP.out, below_trans i3 HB.out⟩
    · obtain rfl : hi = lo := by omega
      go_wp2_with fail
      go_ret
      obtain ⟨i1, i2, i3⟩ := I.out
      exact ⟨hi, rfl, hin, i1, i2, i3⟩

set_option maxRecDepth 1000000 in
set_option maxHeartbeats 1000000 in
/-- does a row begin behind a place? -/
theorem rowOf1_any (b bx ba g cap : Nat) (s : ByteArray) (T : List ((Nat × Nat) × Value)) (t i : Nat) (x : (Nat × Nat) × Value) (W : World) (C : IxC W b g cap s T) (hx : T[i]? = some x) (k0 : W.cell? ⟨bx, 0, none⟩ = some (.pointer (some ⟨b, 0, none⟩))) (k1 : W.cell? ⟨ba, 0, none⟩ = some (.int .i64 (t : Int))) :
    Calls Try.prog 87 (#[.int .i64 (i : Int)] ++ #[.pointer (some ⟨bx, 0, none⟩), .pointer (some ⟨ba, 0, none⟩)]) W fun e w' => e = .returned (.bool (decide (t < x.1.1))) ∧ Below W.heap.size W w' := by
  have c1 := C.c1
  obtain ⟨r0, r1, r2⟩ := C.row i x hx
  have hn : i < T.length := (List.getElem?_eq_some_iff.1 hx).1
  have hl := C.len
  clear C hx r1 r2
  go_enter Try.func87, Try.ntmps87
  go_wp2_with fail
  go_quiet (fail)
  go_wp2_with fail
  go_ret
  exact ⟨rfl, below_drewN (Below.refl _ _) _⟩

theorem map_get {T : List ((Nat × Nat) × Value)} {i : Nat} {x : (Nat × Nat) × Value} (h : T[i]? = some x) : (T.map (·.1))[i]? = some x.1 := by
  rw [List.getElem?_map, h]; rfl
theorem get_of_map {T : List ((Nat × Nat) × Value)} {i : Nat} {r : Nat × Nat} (h : (T.map (·.1))[i]? = some r) : ∃ x, T[i]? = some x ∧ x.1 = r := by
  rw [List.getElem?_map] at h
  cases hx : T[i]? with
  | none => rw [hx] at h; simp at h
  | some x => rw [hx] at h; exact ⟨x, rfl, by simpa using h⟩
theorem getT {T : List ((Nat × Nat) × Value)} {i : Nat} (h : i < T.length) : ∃ x, T[i]? = some x := ⟨T[i], List.getElem?_eq_getElem h⟩

def begins (T : List ((Nat × Nat) × Value)) (t i : Nat) : Bool := match T[i]? with | some x => decide (t < x.1.1) | none => false

theorem begins_at {T : List ((Nat × Nat) × Value)} {t i : Nat} {x : (Nat × Nat) × Value} (h : T[i]? = some x) : begins T t i = decide (t < x.1.1) := by
  unfold begins; rw [h]
theorem found {s : ByteArray} {T : List ((Nat × Nat) × Value)} (hR : Rw s 0 s.size (T.map (·.1))) {t j r : Nat} {x : (Nat × Nat) × Value} (ht : t ≤ s.size) (hx : T[j]? = some x) (h1 : x.1.1 ≤ t) (h2 : t ≤ x.1.2)
    (hr : r ≤ T.length) (p1 : 0 < r → begins T t (r - 1) = false) (p2 : r < T.length → begins T t r = true) : r = j + 1 := by
  have hp : 0 < T.length := by have := hR.pos; simpa using this
  obtain ⟨y0, hy0⟩ := getT hp
  have hf := hR.first y0.1 (map_get hy0)
  have hr0 : 0 < r := by
    rcases Nat.eq_zero_or_pos r with h | h
    · subst h
      have := p2 hp
      rw [begins_at hy0, decide_eq_true_eq] at this
      omega
    · exact h
  obtain ⟨y, hy⟩ := getT (T := T) (i := r - 1) (by omega)
  have q1 := p1 hr0
  rw [begins_at hy, decide_eq_false_iff_not] at q1
  have hle : t ≤ y.1.2 := by
    refine hR.isLast (map_get hy) ht ?_
    intro q hq
    obtain ⟨z, hz, rfl⟩ := get_of_map hq
    rw [show r - 1 + 1 = r by omega] at hz
    have := p2 (List.getElem?_eq_some_iff.1 hz).1
    rwa [begins_at hz, decide_eq_true_eq] at this
  have := hR.uniq (map_get hx) (map_get hy) h1 h2 (by omega) hle
  omega

theorem frz {w w1 : World} {cs : Array Value} {t : TypeId} (hb : Below (w.alloc (.cells cs t)).heap.size (w.alloc (.cells cs t)) w1) : ∀ o, w1.frozen? ⟨w.heap.size, o, none⟩ = false := by
  intro o
  rw [hb.frozen (p := ⟨w.heap.size, o, none⟩) (by simp)]
  exact Lib.frozen_of_heap (heap_alloc_new w _) o

theorem make_func : ∀ (fn : Fn) (first cap : Array Value) (w : World), (Instr.makeFunc fn first cap).run Try.prog w = .ok (.func fn first cap) w := fun _ _ _ _ => rfl
theorem enters45 : ∀ args W, (callFunc 87 args).run Try.prog W = .ok (.enter 87 args) W := enters_of Try.func87 (by kernel_rfl) rfl

set_option maxRecDepth 1000000 in
set_option maxHeartbeats 1000000 in
theorem rowOf_any (b : Nat) (s : ByteArray) (T : List ((Nat × Nat) × Value)) (t j : Nat) (x : (Nat × Nat) × Value) (w : World) (h : Ix w b s T) (ht : t ≤ s.size) (hx : T[j]? = some x) (h1 : x.1.1 ≤ t) (h2 : t ≤ x.1.2) :
    Calls Try.prog 75 #[.pointer (some ⟨b, 0, none⟩), .int .i64 (t : Int)] w fun e w' => e = .returned (.int .i64 (j : Int)) ∧ Below w.heap.size w w' := by
  have b1 := below_trans (bel_up w (.cells #[.pointer (some ⟨b, 0, none⟩)] 103)) (bel_up _ (.cells #[.int .i64 (t : Int)] 3))
  have hI := h.mono b1
  have k0 := cell_up (.cells #[.int .i64 (t : Int)] 3) (cell1 w (.pointer (some ⟨b, 0, none⟩)) 103)
  have k1 := cell1 (w.alloc (.cells #[.pointer (some ⟨b, 0, none⟩)] 103)) (.int .i64 (t : Int)) 3
  rw [World.size_alloc] at k1
  obtain ⟨g, cap, C⟩ := hI.cells
  have c1 := C.c1
  have hl := C.len
  have S := search_any 87 #[.pointer (some ⟨w.heap.size, 0, none⟩), .pointer (some ⟨w.heap.size + 1, 0, none⟩)] T.length (begins T t) _ enters45 (by omega)
    (fun W i hW hi => by
      obtain ⟨y, hy⟩ := getT hi
      obtain ⟨g', cap', C'⟩ := (hI.mono hW).cells
      rw [begins_at hy]
      exact rowOf1_any b _ _ g' cap' s T t i y W C' hy (below_cell hW k0) (below_cell hW k1))
  have F : Hid (∀ r, r ≤ T.length → (0 < r → begins T t (r - 1) = false) → (r < T.length → begins T t r = true) → r = j + 1) := fun r a1 a2 a3 => found h.rw ht hx h1 h2 a1 a2 a3
  have HS : Hid _ := S
  have B1 : Hid _ := b1
  have hj : j < T.length := (List.getElem?_eq_some_iff.1 hx).1
  clear S h hI C ht hx h1 h2 k0 k1 b1
  have hmf := make_func
  go_enter Try.func75, Try.ntmps75
  go_wp2_with fail
  refine Calls.mono HS.out ?_
  rintro e w1 ⟨r, rfl, q1, q2, q3, q4⟩
  obtain rfl := F.out r q1 q2 q3
  have B2 : Hid _ := q4
  clear q1 q2 q3 q4
  go_wp2_with fail
  go_ret
  exact ⟨ret_int (by simp <;> omega), below_trans B1.out B2.out⟩

set_option maxRecDepth 1000000 in
set_option maxHeartbeats 1000000 in
theorem pos_any (b : Nat) (s : ByteArray) (T : List ((Nat × Nat) × Value)) (n : Int) (t j : Nat) (x : (Nat × Nat) × Value) (w : World) (h : Ix w b s T) (ht : cl n s.size = t) (hx : T[j]? = some x) (h1 : x.1.1 ≤ t) (h2 : t ≤ x.1.2) :
    Calls Try.prog 59 #[.pointer (some ⟨b, 0, none⟩), .int .i64 n] w fun e w' => e = .returned (.agg #[.int .i64 (j : Int), .int .i64 ((t - x.1.1 : Nat) : Int)]) ∧ Below w.heap.size w w' := by
  have b1 := bel_up w (.cells #[.int .i64 0, .int .i64 0] 108)
  have hI := h.mono b1
  obtain ⟨g, cap, C⟩ := hI.cells
  have c0 := C.c0
  have hts : t ≤ s.size := by have := cl_bd n s.size (by omega); omega
  have HK : Hid _ := fun W : World => clamp_any n s.size W (by omega)
  rw [ht] at HK
  have HO := rowOf_any b s T t j x _ hI hts hx h1 h2
  have HO : Hid _ := HO
  have HI : Hid _ := hI
  have hz := h.size
  have hj : j < T.length := (List.getElem?_eq_some_iff.1 hx).1
  have HX : Hid _ := hx
  have hl := C.len
  have B1 : Hid _ := b1
  have hle := h.rw.le _ _ (map_get hx)
  have hxl : x.1.1 ≤ 1099511627776 := by omega
  clear h hI C ht hx h2 b1 hle
  go_enter Try.func59, Try.ntmps59
  go_wp2_with fail
  refine (HK.out _).mono ?_
  rintro e w' ⟨rfl, rfl⟩
  go_wp2_with fail
  refine Calls.mono HO.out ?_
  rintro e w1 ⟨rfl, q4⟩
  have hI1 := HI.out.mono q4
  obtain ⟨g1, cap1, C1⟩ := hI1.cells
  have c1 := C1.c1
  obtain ⟨r0, _, _⟩ := C1.row j x HX.out
  have z1 := below_cell q4 (cells2 w (.int .i64 0) (.int .i64 0) 108).1
  have z2 := below_cell q4 (cells2 w (.int .i64 0) (.int .i64 0) 108).2
  have zf := frz q4
  have B2 : Hid _ := q4
  clear q4 hI1 C1 HO HI HK c0
  obtain ⟨⟨a, e⟩, v⟩ := x
  simp only at r0 h1 hxl ⊢
  go_wp2_with fail
  (try simp only [Exit.inBlock, Exit.then])
  refine bodyPost_ret (v := .agg #[.int .i64 (j : Int), .int .i64 ((t : Int) - (a : Int))]) ?_ rfl ⟨by rw [show (((t - a : Nat)) : Int) = (t : Int) - (a : Int) by omega], ?_⟩
  · rw [results_cell1 rfl]; go_simp
  · refine Below.setCell (Below.setCell (below_trans B1.out B2.out) (by simp) _) (by simp) _

end Go.Proofs.Yticheeacbajeeaa.Pc
