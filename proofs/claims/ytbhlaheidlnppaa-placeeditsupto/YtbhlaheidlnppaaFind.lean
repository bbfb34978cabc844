import Derived.Test.YtbhlaheidlnppaaIx
namespace Go.Proofs.Ytbhlaheidlnppaa
open Go.RowKit

set_option maxRecDepth 1000000 in
set_option maxHeartbeats 4000000 in
/-- sort.Search, of a function value that turns nothing old -/
theorem search_any (g : Nat) (cb : Array Value) (n : Nat) (p : Nat → Bool) (w : World) (eg : ∀ args W, (callFunc g args).run Try.prog W = .ok (.enter g args) W) (hn : n ≤ 2199023255552)
    (hf : ∀ (W : World) (i : Nat), Below w.heap.size w W → i < n → Calls Try.prog g (#[.int .i64 (i : Int)] ++ cb) W fun e w' => e = .returned (.bool (p i)) ∧ Below W.heap.size W w') :
    Calls Try.prog 44 #[.int .i64 (n : Int), .func (.func g) #[] cb] w fun e w' => ∃ r : Nat, e = .returned (.int .i64 (r : Int)) ∧ r ≤ n ∧ (0 < r → p (r - 1) = false) ∧ (r < n → p r = true) ∧ Below w.heap.size w w' := by
  have HF : Hid _ := hf
  clear hf
  go_enter Try.func44, Try.ntmps44
  go_wp2_with fail
  go_loopg [5, 6] n (fun kx s5 s6 wr => ∃ (lo hi : Nat), s5 = .int .i64 (lo : Int) ∧ s6 = .int .i64 (hi : Int) ∧ lo ≤ hi ∧ hi ≤ n ∧ hi - lo ≤ kx ∧ Hid ((0 < lo → p (lo - 1) = false) ∧ (hi < n → p hi = true) ∧ Below w.heap.size w wr))
  case atStart => exact ⟨0, n, rfl, rfl, Nat.zero_le _, Nat.le_refl _, by omega, fun h => absurd h (Nat.lt_irrefl _), fun h => absurd h (Nat.lt_irrefl _), Below.refl _ _⟩
  case round =>
    obtain ⟨lo, hi, rfl, rfl, hlh, hin, hg, I⟩ := hrel
    by_cases hlt : lo < hi
    · have hc := HF.out wr ((lo + hi) / 2) I.out.2.2 (by omega)
      rw [show (((lo + hi) / 2 : Nat) : Int) = ((lo : Int) + (hi : Int)) / 2 by omega] at hc
      have HC : Hid _ := hc
      clear hc
      have hml : (lo + hi) / 2 < hi := by omega
      have hmg : lo ≤ (lo + hi) / 2 := by omega
      cases hp : p ((lo + hi) / 2)
      · have HP : Hid (p ((lo + hi) / 2) = false) := hp
        rw [hp] at HC
        clear hp
        go_wp2_with fail
        refine Calls.mono HC.out ?_
        rintro e w' ⟨rfl, hb⟩
        have HB : Hid _ := hb
        clear hb
        go_wp2_with fail
        go_roundg (hi - ((lo + hi) / 2 + 1))
        case measure => omega
        case rel =>
          obtain ⟨i1, i2, i3⟩ := I.out
          exact ⟨(lo + hi) / 2 + 1, hi, by rw [show ((lo : Int) + (hi : Int)) / 2 + 1 = (((lo + hi) / 2 + 1 : Nat) : Int) by omega], rfl, by omega, hin, Nat.le_refl _, fun _ => HP.out, i2, below_trans i3 HB.out⟩
      · have HP : Hid (p ((lo + hi) / 2) = true) := hp
        rw [hp] at HC
        clear hp
        go_wp2_with fail
        refine Calls.mono HC.out ?_
        rintro e w' ⟨rfl, hb⟩
        have HB : Hid _ := hb
        clear hb
        go_wp2_with fail
        go_roundg ((lo + hi) / 2 - lo)
        case measure => omega
        case rel =>
          obtain ⟨i1, i2, i3⟩ := I.out
          exact ⟨lo, (lo + hi) / 2, rfl, by rw [show ((lo : Int) + (hi : Int)) / 2 = (((lo + hi) / 2 : Nat) : Int) by omega], by omega, by omega, Nat.le_refl _, i1, fun _ => HP.out, below_trans i3 HB.out⟩
    · obtain rfl : hi = lo := by omega
      go_wp2_with fail
      go_ret
      obtain ⟨i1, i2, i3⟩ := I.out
      exact ⟨hi, rfl, hin, i1, i2, i3⟩

set_option maxRecDepth 1000000 in
set_option maxHeartbeats 1000000 in
/-- does a row begin behind a place? -/
theorem rowOf1_any (b bx ba g cap : Nat) (s : ByteArray) (T : List ((Nat × Nat) × Value)) (t i : Nat) (x : (Nat × Nat) × Value) (W : World) (C : IxC W b g cap s T) (hx : T[i]? = some x) (k0 : W.cell? ⟨bx, 0, none⟩ = some (.pointer (some ⟨b, 0, none⟩))) (k1 : W.cell? ⟨ba, 0, none⟩ = some (.int .i64 (t : Int))) :
    Calls Try.prog 45 (#[.int .i64 (i : Int)] ++ #[.pointer (some ⟨bx, 0, none⟩), .pointer (some ⟨ba, 0, none⟩)]) W fun e w' => e = .returned (.bool (decide (t < x.1.1))) ∧ Below W.heap.size W w' := by
  have c1 := C.c1
  obtain ⟨r0, r1, r2⟩ := C.row i x hx
  have hn : i < T.length := (List.getElem?_eq_some_iff.1 hx).1
  have hl := C.len
  clear C hx r1 r2
  go_enter Try.func45, Try.ntmps45
  go_wp2_with fail
  go_quiet (fail)
  go_wp2_with fail
  go_ret
  exact ⟨rfl, below_drewN (Below.refl _ _) _⟩

theorem map_get {T : List ((Nat × Nat) × Value)} {i : Nat} {x : (Nat × Nat) × Value} (h : T[i]? = some x) : (T.map (·.1))[i]? = some x.1 := by
  rw [List.getElem?_map, h]; rfl
theorem get_of_map {T : List ((Nat × Nat) × Value)} {i : Nat} {r : Nat × Nat} (h : (T.map (·.1))[i]? = some r) : ∃ x, T[i]? = some x ∧ x.1 = r := by
  rw [List.getElem?_map] at h
  cases hx : T[i]? with
  | none => rw [hx] at h; simp at h
  | some x => rw [hx] at h; exact ⟨x, rfl, by simpa using h⟩
theorem getT {T : List ((Nat × Nat) × Value)} {i : Nat} (h : i < T.length) : ∃ x, T[i]? = some x := ⟨T[i], List.getElem?_eq_getElem h⟩

def begins (T : List ((Nat × Nat) × Value)) (t i : Nat) : Bool := match T[i]? with | some x => decide (t < x.1.1) | none => false

theorem begins_at {T : List ((Nat × Nat) × Value)} {t i : Nat} {x : (Nat × Nat) × Value} (h : T[i]? = some x) : begins T t i = decide (t < x.1.1) := by
  unfold begins; rw [h]
theorem found {s : ByteArray} {T : List ((Nat × Nat) × Value)} (hR : Rw s 0 s.size (T.map (·.1))) {t j r : Nat} {x : (Nat × Nat) × Value} (ht : t ≤ s.size) (hx : T[j]? = some x) (h1 : x.1.1 ≤ t) (h2 : t ≤ x.1.2)
    (hr : r ≤ T.length) (p1 : 0 < r → begins T t (r - 1) = false) (p2 : r < T.length → begins T t r = true) : r = j + 1 := by
  have hp : 0 < T.length := by have := hR.pos; simpa using this
  obtain ⟨y0, hy0⟩ := getT hp
  have hf := hR.first y0.1 (map_get hy0)
  have hr0 : 0 < r := by
    rcases Nat.eq_zero_or_pos r with h | h
    · subst h
      have := p2 hp
      rw [begins_at hy0, decide_eq_true_eq] at this
      omega
    · exact h
  obtain ⟨y, hy⟩ := getT (T := T) (i := r - 1) (by omega)
  have q1 := p1 hr0
  rw [begins_at hy, decide_eq_false_iff_not] at q1
  have hle : t ≤ y.1.2 := by
    refine hR.isLast (map_get hy) ht ?_
    intro q hq
    obtain ⟨z, hz, rfl⟩ := get_of_map hq
    rw [show r - 1 + 1 = r by omega] at hz
    have := p2 (List.getElem?_eq_some_iff.1 hz).1
    rwa [begins_at hz, decide_eq_true_eq] at this
  have := hR.uniq (map_get hx) (map_get hy) h1 h2 (by omega) hle
  omega

theorem frz {w w1 : World} {cs : Array Value} {t : TypeId} (hb : Below (w.alloc (.cells cs t)).heap.size (w.alloc (.cells cs t)) w1) : ∀ o, w1.frozen? ⟨w.heap.size, o, none⟩ = false := by
  intro o
  rw [hb.frozen (p := ⟨w.heap.size, o, none⟩) (by simp)]
  exact Lib.frozen_of_heap (heap_alloc_new w _) o

theorem make_func : ∀ (fn : Fn) (first cap : Array Value) (w : World), (Instr.makeFunc fn first cap).run Try.prog w = .ok (.func fn first cap) w := fun _ _ _ _ => rfl
theorem enters45 : ∀ args W, (callFunc 45 args).run Try.prog W = .ok (.enter 45 args) W := enters_of Try.func45 (by kernel_rfl) rfl

set_option maxRecDepth 1000000 in
set_option maxHeartbeats 1000000 in
theorem rowOf_any (b : Nat) (s : ByteArray) (T : List ((Nat × Nat) × Value)) (t j : Nat) (x : (Nat × Nat) × Value) (w : World) (h : Ix w b s T) (ht : t ≤ s.size) (hx : T[j]? = some x) (h1 : x.1.1 ≤ t) (h2 : t ≤ x.1.2) :
    Calls Try.prog 30 #[.pointer (some ⟨b, 0, none⟩), .int .i64 (t : Int)] w fun e w' => e = .returned (.int .i64 (j : Int)) ∧ Below w.heap.size w w' := by
  have b1 := below_trans (bel_up w (.cells #[.pointer (some ⟨b, 0, none⟩)] 22)) (bel_up _ (.cells #[.int .i64 (t : Int)] 3))
  have hI := h.mono b1
  have k0 := cell_up (.cells #[.int .i64 (t : Int)] 3) (cell1 w (.pointer (some ⟨b, 0, none⟩)) 22)
  have k1 := cell1 (w.alloc (.cells #[.pointer (some ⟨b, 0, none⟩)] 22)) (.int .i64 (t : Int)) 3
  rw [World.size_alloc] at k1
  obtain ⟨g, cap, C⟩ := hI.cells
  have c1 := C.c1
  have hl := C.len
  have S := search_any 45 #[.pointer (some ⟨w.heap.size, 0, none⟩), .pointer (some ⟨w.heap.size + 1, 0, none⟩)] T.length (begins T t) _ enters45 (by omega)
    (fun W i hW hi => by
      obtain ⟨y, hy⟩ := getT hi
      obtain ⟨g', cap', C'⟩ := (hI.mono hW).cells
      rw [begins_at hy]
      exact rowOf1_any b _ _ g' cap' s T t i y W C' hy (below_cell hW k0) (below_cell hW k1))
  have F : Hid (∀ r, r ≤ T.length → (0 < r → begins T t (r - 1) = false) → (r < T.length → begins T t r = true) → r = j + 1) := fun r a1 a2 a3 => found h.rw ht hx h1 h2 a1 a2 a3
  have HS : Hid _ := S
  have B1 : Hid _ := b1
  have hj : j < T.length := (List.getElem?_eq_some_iff.1 hx).1
  clear S h hI C ht hx h1 h2 k0 k1 b1
  have hmf := make_func
  go_enter Try.func30, Try.ntmps30
  go_wp2_with fail
  refine Calls.mono HS.out ?_
  rintro e w1 ⟨r, rfl, q1, q2, q3, q4⟩
  obtain rfl := F.out r q1 q2 q3
  have B2 : Hid _ := q4
  clear q1 q2 q3 q4
  go_wp2_with fail
  go_ret
  exact ⟨ret_int (by simp <;> omega), below_trans B1.out B2.out⟩

set_option maxRecDepth 1000000 in
set_option maxHeartbeats 1000000 in
theorem pos_any (b : Nat) (s : ByteArray) (T : List ((Nat × Nat) × Value)) (n : Int) (t j : Nat) (x : (Nat × Nat) × Value) (w : World) (h : Ix w b s T) (ht : cl n s.size = t) (hx : T[j]? = some x) (h1 : x.1.1 ≤ t) (h2 : t ≤ x.1.2) :
    Calls Try.prog 14 #[.pointer (some ⟨b, 0, none⟩), .int .i64 n] w fun e w' => e = .returned (.agg #[.int .i64 (j : Int), .int .i64 ((t - x.1.1 : Nat) : Int)]) ∧ Below w.heap.size w w' := by
  have b1 := bel_up w (.cells #[.int .i64 0, .int .i64 0] 33)
  have hI := h.mono b1
  obtain ⟨g, cap, C⟩ := hI.cells
  have c0 := C.c0
  have hts : t ≤ s.size := by have := cl_bd n s.size (by omega); omega
  have HK : Hid _ := fun W : World => clamp_any n s.size W (by omega)
  rw [ht] at HK
  have HO := rowOf_any b s T t j x _ hI hts hx h1 h2
  have HO : Hid _ := HO
  have HI : Hid _ := hI
  have hz := h.size
  have hj : j < T.length := (List.getElem?_eq_some_iff.1 hx).1
  have HX : Hid _ := hx
  have hl := C.len
  have B1 : Hid _ := b1
  have hle := h.rw.le _ _ (map_get hx)
  have hxl : x.1.1 ≤ 1099511627776 := by omega
  clear h hI C ht hx h2 b1 hle
  go_enter Try.func14, Try.ntmps14
  go_wp2_with fail
  refine (HK.out _).mono ?_
  rintro e w' ⟨rfl, rfl⟩
  go_wp2_with fail
  refine Calls.mono HO.out ?_
  rintro e w1 ⟨rfl, q4⟩
  have hI1 := HI.out.mono q4
  obtain ⟨g1, cap1, C1⟩ := hI1.cells
  have c1 := C1.c1
  obtain ⟨r0, _, _⟩ := C1.row j x HX.out
  have z1 := below_cell q4 (cells2 w (.int .i64 0) (.int .i64 0) 33).1
  have z2 := below_cell q4 (cells2 w (.int .i64 0) (.int .i64 0) 33).2
  have zf := frz q4
  have B2 : Hid _ := q4
  clear q4 hI1 C1 HO HI HK c0
  obtain ⟨⟨a, e⟩, v⟩ := x
  simp only at r0 h1 hxl ⊢
  go_wp2_with fail
  (try simp only [Exit.inBlock, Exit.then])
  refine bodyPost_ret (v := .agg #[.int .i64 (j : Int), .int .i64 ((t : Int) - (a : Int))]) ?_ rfl ⟨by rw [show (((t - a : Nat)) : Int) = (t : Int) - (a : Int) by omega], ?_⟩
  · rw [results_cell1 rfl]; go_simp
  · refine Below.setCell (Below.setCell (below_trans B1.out B2.out) (by simp) _) (by simp) _

end Go.Proofs.Ytbhlaheidlnppaa
