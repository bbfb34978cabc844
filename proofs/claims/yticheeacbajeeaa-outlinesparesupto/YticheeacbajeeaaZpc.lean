import Derived.Test.YticheeacbajeeaaZpb
import Derived.Deep.RegionHeld3
import Derived.Lib.OthersKept
import Derived.OwnWalk
import Derived.Maps.AppendAt
namespace Go.Proofs.Yticheeacbajeeaa.Pc
open Go.RowKit

theorem info65 : (Try.prog.info? 149).map (fun i => (i.zero, i.size, i.bytes)) = some (some (.agg #[.int .i64 0, .int .i64 0]), 2, 16) := by kernel_rfl
theorem info58 : (Try.prog.info? 141).map (fun i => (i.zero, i.size, i.bytes)) = some (some (.agg #[.int .i64 0, .int .i64 0, .slice none 0 0]), 3, 40) := by kernel_rfl

set_option maxRecDepth 100000 in
set_option maxHeartbeats 400000 in
theorem width_any (s : ByteArray) (k : Nat) (w : World) :
    Calls Try.prog 85 #[.int .i32 ((Utf8.decode s k).1 : Int)] w fun e w' => e = .returned (.int .i64 (cu s k : Int)) ∧ w = w' := by
  unfold cu
  generalize (Utf8.decode s k).1 = r
  by_cases h : 65536 ≤ r
  · have h1 : decide ((65536 : Int) ≤ (r : Int)) = true := by rw [decide_eq_true_eq]; omega
    rw [if_pos h]
    clear h
    go_enter Try.func85, Try.ntmps85
    go_wp2_with fail
    go_ret
    exact ⟨rfl, rfl⟩
  · have h1 : decide ((65536 : Int) ≤ (r : Int)) = false := by rw [decide_eq_false_iff_not]; omega
    rw [if_neg h]
    clear h
    go_enter Try.func85, Try.ntmps85
    go_wp2_with fail
    go_ret
    exact ⟨rfl, rfl⟩

/-- where marks stand -/
def Marked (w : World) (line : ByteArray) (gk : Nat) (out units next : Value) (wr : World) : Prop :=
  ∃ (M : List (Nat × Nat)) (k u nx : Nat), units = .int .i64 (u : Int) ∧ next = .int .i64 (nx : Int) ∧ wr.heap[w.heap.size]? = some (.stringIter line k) ∧ Bd line k u ∧ (∀ m ∈ M, Bd line m.1 m.2) ∧ wr.ownsRow (w.heap.size + 1) 149 2 out M.length (mcells M) ∧ M.length ≤ k ∧ nx ≤ 2 * k + 1024 ∧ Below w.heap.size w wr ∧ gk = line.size - k

set_option maxRecDepth 100000 in
set_option maxHeartbeats 2000000 in
theorem marks_any (line : ByteArray) (w : World) (hl : line.size ≤ 1099511627776) :
    Calls Try.prog 73 #[.string line] w fun e w' => ∃ v, e = .returned v ∧ Mk w' v line ∧ Below w.heap.size w w' := by
  by_cases hs : line.size ≤ 512
  · clear hl
    go_enter Try.func73, Try.ntmps73
    go_wp2_with fail
    go_ret
    exact ⟨_, rfl, ⟨[], by simp, Nat.zero_le _, World.ownsRow_nil _ _ _ _⟩, Below.refl _ _⟩
  · have HL : Hid _ := hl
    clear hl
    go_enter Try.func73, Try.ntmps73
    go_wp2_with fail
    clear hs
    go_loopg [3, 4, 5] line.size (fun gk o u n wr => Marked w line gk o u n wr)
    case atStart => exact ⟨[], 0, 0, 512, rfl, rfl, heap_alloc_new w _, Bd.zero _, by simp, World.ownsRow_nil _ _ _ _, by simp, by omega, bel_up _ _, rfl⟩
    case round =>
      obtain ⟨M, k, u, nx, rfl, rfl, hit, hbd, hM, hown, hMk, hnx0, hbel, hgk⟩ := hrel
      have hL := HL.out
      have hbl := hbd.le
      have hk : k ≤ 1099511627776 := by omega
      have hu : u ≤ 1099511627776 := by omega
      have hnx : nx ≤ 2199023256576 := by omega
      by_cases hlt : k < line.size
      · have hnx := fun ty => Lib.run_next_any_at (P := Try.prog) wr w.heap.size line k ty hit hlt
        have hw := fun W => width_any line k W
        have hcu := cu_pos line k
        have HCU : Hid _ := hcu
        have hcw := cw_pos line k hlt
        have hcu2 : cu line k ≤ 2 := hcu.2
        have hcw4 := (cw_le line k hlt).2.1
        have HW : Hid _ := hw
        have own1 := ownsRow_iterAt hown (k := w.heap.size) (by omega) line (k + (Utf8.decode line k).2)
        have bel1 : Below w.heap.size w (wr.iterAt w.heap.size line (k + (Utf8.decode line k).2)) := Lib.below_iterAt hbel (Nat.le_refl _) _ _
        have hit1 := Lib.iterAt_heap wr w.heap.size line k (k + (Utf8.decode line k).2) hit
        have bd1 := hbd.step hlt
        have e1 : k + (Utf8.decode line k).2 = k + cw line k := rfl
        rw [e1] at own1 bel1 hit1 hnx
        generalize hW1 : wr.iterAt w.heap.size line (k + cw line k) = W1 at own1 bel1 hit1 hnx
        generalize hc : cw line k = c at *
        generalize hd : cu line k = d at *
        generalize (Utf8.decode line k).1 = rune at *
        have F : Hid (W1.heap[w.heap.size]? = some (.stringIter line (k + c)) ∧ Bd line k u ∧ Bd line (k + c) (u + d) ∧ (∀ m ∈ M, Bd line m.1 m.2) ∧ W1.ownsRow (w.heap.size + 1) 149 2 u3 M.length (mcells M) ∧ Below w.heap.size w W1 ∧ M.length ≤ k ∧ 1 ≤ c ∧ nx ≤ 2 * k + 1024) := ⟨hit1, hbd, bd1, hM, own1, bel1, hMk, hcw, hnx0⟩
        have HK : Hid _ := hgk
        clear hit hbd hM hown hMk hnx0 hbel hgk hL hbl own1 bel1 hit1 bd1 hcu HCU hw hW1 e1 hcw
        by_cases hge : nx ≤ k
        · have hO : Hid ((W1.alloc (.cells #[.int .i64 (k : Int), .int .i64 (u : Int)] 149)).ownsRow (w.heap.size + 1) 149 2 u3 M.length (mcells M)) := F.out.2.2.2.2.1.alloc _
          have hMl : M.length ≤ 1099511627776 := by have := F.out.2.2.2.2.2.2.1; omega
          have hbase : w.heap.size + 1 ≤ (W1.alloc (.cells #[.int .i64 (k : Int), .int .i64 (u : Int)] 149)).heap.size := by
            have := F.out.2.2.2.2.2.1.size
            simp
            omega
          obtain ⟨i65, hi65, hz65, hs65, hy65⟩ := info_parts info65
          go_wp2_with (at_builtin; refine wpList_append_own _ rfl (.tmp 20) (.tmp 24) 138 rfl (w.heap.size + 1) 149 i65 (.agg #[.int .i64 0, .int .i64 0]) 2 16 Try.underlying138 hi65 hz65 hs65 hy65 rfl (by decide) _ _ _ rfl hO.out ⟨W1.heap.size, 0, none⟩ 1 1 [.int .i64 (k : Int), .int .i64 (u : Int)] rfl rfl ?c1 ?c2 ?c3 ?c4 ?c5 ?_)
          case c1 => exact cell_two_new _ _ _ _
          case c2 => intro x hx; simp at hx; rcases hx with rfl | rfl <;> rfl
          case c3 => unfold maxLen; omega
          case c4 => omega
          case c5 => exact hbase
          intro v1 w6 hown1 hgrow1 _
          have OW : Hid _ := hown1
          have GR : Hid _ := hgrow1
          clear hown1 hgrow1 hO hbase hi65 hz65 hs65 hy65
          go_wp2_with fail
          refine (HW.out _).mono ?_
          rintro e w' ⟨rfl, rfl⟩
          go_wp2_with fail
          go_roundg (line.size - (k + c))
          case measure =>
            have := HK.out
            obtain ⟨f1, f2, f3, f4, f5, f6, f7, f8, f9⟩ := F.out
            omega
          case rel =>
            obtain ⟨f1, f2, f3, f4, f5, f6, f7, f8, f9⟩ := F.out
            have hne : some w.heap.size ≠ u3.ownBlock := by
              intro e
              have := (f5.lt w.heap.size e.symm).1
              omega
            have g1 := GR.out
            refine ⟨M ++ [(k, u)], k + c, u + d, k + 512, by congr 1, by congr 1, ?_, f3, ?_, ?_, by simp; omega, by omega, ?_, rfl⟩
            · rw [g1.block w.heap.size (by have := lt_of_heap f1; simp; omega) hne, heap_alloc_old _ _ (lt_of_heap f1)]
              exact f1
            · intro m hm
              rcases List.mem_append.1 hm with h | h
              · exact f4 m h
              · simp at h
                subst h
                exact f2
            · rw [mcells_app, List.length_append]
              exact OW.out
            · exact (below_trans f6 (bel_up _ _)).grown g1 (by have := f6.size; simp; omega) (fun q hq => by have := (f5.lt q hq).1; omega)
        · go_wp2_with fail
          refine (HW.out _).mono ?_
          rintro e w' ⟨rfl, rfl⟩
          go_wp2_with fail
          go_roundg (line.size - (k + c))
          case measure =>
            have := HK.out
            obtain ⟨f1, f2, f3, f4, f5, f6, f7, f8, f9⟩ := F.out
            omega
          case rel =>
            obtain ⟨f1, f2, f3, f4, f5, f6, f7, f8, f9⟩ := F.out
            exact ⟨M, k + c, u + d, nx, by congr 1, rfl, f1, f3, f4, f5, by omega, by omega, f6, rfl⟩
      · have hnx := fun ty => Lib.run_next_end_at (P := Try.prog) wr w.heap.size line k ty hit hlt
        have F : Hid (Mk wr u3 line ∧ Below w.heap.size w wr) := ⟨⟨M, hM, by omega, ⟨hown.1, hown.2.imp id (fun ⟨g, cap, cur, q1, q2, q3⟩ => ⟨g, cap, cur, q1, Nat.zero_le _, q3⟩)⟩⟩, hbel⟩
        clear hit hbd hM hown hMk hnx0 hbel hgk hL hbl
        go_wp2_with fail
        go_ret
        exact ⟨_, rfl, F.out.1, F.out.2⟩

end Go.Proofs.Yticheeacbajeeaa.Pc
namespace Go.Proofs.Yticheeacbajeeaa.Pc
open Go.RowKit

theorem idx_spec (l : List UInt8) (c : UInt8) : (Lib.indexByte l c = -1 ∧ ∀ i : Nat, l[i]? ≠ some c) ∨ ∃ m : Nat, Lib.indexByte l c = (m : Int) ∧ l[m]? = some c ∧ ∀ i : Nat, i < m → l[i]? ≠ some c := by
  induction l with
  | nil => exact Or.inl ⟨rfl, by simp⟩
  | cons b l ih =>
    unfold Lib.indexByte
    by_cases hb : b = c
    · subst hb
      exact Or.inr ⟨0, by simp, by simp, fun i hi => by omega⟩
    · have hb' : (b == c) = false := by simpa using hb
      rcases ih with ⟨h1, h2⟩ | ⟨m, h1, h2, h3⟩
      · left
        refine ⟨by simp [hb, h1], fun i => ?_⟩
        cases i with
        | zero => simpa using hb
        | succ i => simpa using h2 i
      · right
        have hne : ((m : Int) == -1) = false := by rw [beq_eq_false_iff_ne]; omega
        refine ⟨m + 1, ?_, by simpa using h2, fun i hi => ?_⟩
        · rw [h1]
          simp only [hb', hne]
          simp
        · cases i with
          | zero => simpa using hb
          | succ i => simpa using h3 i (by omega)

theorem ext_get (s : ByteArray) (p e : Nat) (he : e ≤ s.size) (i : Nat) (hi : p + i < e) : (s.extract p e).data.toList[i]? = some (s.get! (p + i)) := by
  have hs : p + i < s.size := by omega
  rw [← get_bang s (p + i) hs, ByteArray.data_extract]
  simp only [Array.getElem?_toList, Array.getElem?_extract]
  have h1 : i < min e s.data.size - p := by
    have := size_data s
    omega
  rw [if_pos h1]
  exact Array.getElem?_eq_getElem (by rw [size_data]; exact hs)
theorem ext_size (s : ByteArray) (p e : Nat) (hp : p ≤ e) (he : e ≤ s.size) : (s.extract p e).size = e - p := by
  rw [ByteArray.size_extract]; omega
theorem ext_none (s : ByteArray) (p e : Nat) (he : e ≤ s.size) (i : Nat) (hi : e ≤ p + i) : (s.extract p e).data.toList[i]? = none := by
  rw [ByteArray.data_extract]
  simp only [Array.getElem?_toList]
  apply Array.getElem?_eq_none
  have := size_data s
  simp
  omega

/-- the next line end -/
theorem next_nl (s : ByteArray) (p e : Nat) (he : e ≤ s.size) : (Lib.indexByte (s.extract p e).data.toList 10 = -1 ∧ ∀ k, p ≤ k → k < e → s.get! k ≠ 10) ∨
    ∃ m : Nat, Lib.indexByte (s.extract p e).data.toList 10 = (m : Int) ∧ p + m < e ∧ s.get! (p + m) = 10 ∧ ∀ k, p ≤ k → k < p + m → s.get! k ≠ 10 := by
  rcases idx_spec (s.extract p e).data.toList 10 with ⟨h1, h2⟩ | ⟨m, h1, h2, h3⟩
  · refine Or.inl ⟨h1, fun k hk1 hk2 h => h2 (k - p) ?_⟩
    rw [ext_get s p e he (k - p) (by omega), show p + (k - p) = k by omega, h]
  · have hm : p + m < e := by
      rcases Nat.lt_or_ge (p + m) e with h | h
      · exact h
      · rw [ext_none s p e he m h] at h2
        simp at h2
    refine Or.inr ⟨m, h1, hm, ?_, fun k hk1 hk2 h => h3 (k - p) (by omega) ?_⟩
    · rw [ext_get s p e he m hm] at h2
      simpa using h2
    · rw [ext_get s p e he (k - p) (by omega), show p + (k - p) = k by omega, h]
theorem count_le (s : ByteArray) (p e : Nat) (c : UInt8) : Lib.countByte (s.extract p e).data.toList c ≤ s.size := by
  unfold Lib.countByte
  refine Nat.le_trans List.count_le_length ?_
  have h : (s.extract p e).data.toList.length = (s.extract p e).size := by rw [Array.length_toList]; rfl
  rw [h, ByteArray.size_extract]
  omega
theorem count_any (s : ByteArray) (c : UInt8) (w : World) : Calls Try.prog 71 #[.string s, .string ⟨#[c]⟩] w fun e w' => e = .returned (.int .i64 (Lib.countByte s.data.toList c)) ∧ w = w' :=
  (Try.strings_Count_one s c w).mono fun _ _ h => ⟨h.1, h.2.symm⟩
theorem index_any (s : ByteArray) (w : World) : Calls Try.prog 72 #[.string s, .int .u8 10] w fun e w' => e = .returned (.int .i64 (Lib.indexByte s.data.toList 10)) ∧ w = w' :=
  (Try.strings_IndexByte s 10 w).mono fun _ _ h => ⟨h.1, h.2.symm⟩

/-- rows ahead of a place -/
def Pre (s : ByteArray) (a p : Nat) (R : List (Nat × Nat)) : Prop := (R = [] ∧ p = a) ∨ ∃ e', p = e' + 1 ∧ s.get! e' = 10 ∧ Rw s a e' R
theorem Pre.last {s : ByteArray} {a p e : Nat} {R : List (Nat × Nat)} (h : Pre s a p R) (hp : p ≤ e) (he : e ≤ s.size) (hf : ∀ k, p ≤ k → k < e → s.get! k ≠ 10) : Rw s a e (R ++ [(p, e)]) := by
  rcases h with ⟨rfl, rfl⟩ | ⟨e', rfl, h10, hR⟩
  · exact Rw.one hp he hf
  · exact hR.app (Rw.one hp he hf) h10
theorem Pre.more {s : ByteArray} {a p e : Nat} {R : List (Nat × Nat)} (h : Pre s a p R) (hp : p ≤ e) (he : e < s.size) (hf : ∀ k, p ≤ k → k < e → s.get! k ≠ 10) (h10 : s.get! e = 10) : Pre s a (e + 1) (R ++ [(p, e)]) :=
  Or.inr ⟨e, rfl, h10, h.last hp (by omega) hf⟩

theorem own_apart {w : World} {base base2 e e2 z z2 : Nat} {v v2 : Value} {n n2 : Nat} {xs xs2 : List Value} (h : w.ownsRow base e z v n xs) (h2 : w.ownsRow base2 e2 z2 v2 n2 xs2) (hne : e ≠ e2) : v2.ownBlock = none ∨ v2.ownBlock ≠ v.ownBlock := by
  obtain ⟨_, h⟩ := h
  obtain ⟨_, h2⟩ := h2
  rcases h2 with ⟨rfl, _⟩ | ⟨g2, cap2, cur2, rfl, _, hg2, _⟩
  · left; rfl
  · right
    rcases h with ⟨rfl, _⟩ | ⟨g, cap, cur, rfl, _, hg, _⟩
    · simp [Value.ownBlock]
    · intro e'
      have e3 : g2 = g := by simpa [Value.ownBlock] using e'
      subst e3
      rw [hg] at hg2
      simp at hg2
      exact hne hg2.2
theorem Mk.grown {w w' : World} {v rv : Value} {l : ByteArray} {base n : Nat} {xs : List Value} (h : Mk w v l) (hr : w.ownsRow base 141 3 rv n xs) (hg : w.grownBy w' rv.ownBlock) : Mk w' v l := by
  obtain ⟨M, h1, hl, h2⟩ := h
  exact ⟨M, h1, hl, h2.kept hg (own_apart hr h2 (by decide))⟩

/-- where cut stands -/
def Cutd (w : World) (s : ByteArray) (a e : Nat) (gk : Nat) (from_ rows : Value) (wr : World) : Prop :=
  ∃ (T : List ((Nat × Nat) × Value)) (p : Nat), from_ = .int .i64 (p : Int) ∧ p ≤ e ∧ Pre s a p (T.map (·.1)) ∧ wr.ownsRow w.heap.size 141 3 rows T.length (rcells T) ∧ (∀ x ∈ T, Mk wr x.2 (s.extract x.1.1 x.1.2)) ∧ T.length ≤ p ∧ Below w.heap.size w wr ∧ gk = e - p

theorem cell_three_new (w : World) (a b c : Value) (t : TypeId) : ∀ j u, [a, b, c][j]? = some u → (w.alloc (.cells #[a, b, c] t)).cell? ((⟨w.heap.size, 0, none⟩ : Addr).add j) = some u := by
  intro j u hj
  match j, hj with
  | 0, hj => simp at hj; subst hj; simp [Addr.add]
  | 1, hj => simp at hj; subst hj; simp [Addr.add]
  | 2, hj => simp at hj; subst hj; simp [Addr.add]
  | j + 3, hj => simp at hj

set_option maxRecDepth 100000 in
set_option maxHeartbeats 2000000 in
theorem cut_any (s : ByteArray) (a e : Nat) (w : World) (hae : a ≤ e) (hes : e ≤ s.size) (hs : s.size ≤ 1099511627776) :
    Calls Try.prog 58 #[.string s, .int .i64 (a : Int), .int .i64 (e : Int)] w fun x w' => ∃ (rv : Value) (T : List ((Nat × Nat) × Value)), x = .returned rv ∧ w'.ownsRow w.heap.size 141 3 rv T.length (rcells T) ∧ (∀ x ∈ T, Mk w' x.2 (s.extract x.1.1 x.1.2)) ∧ Rw s a e (T.map (·.1)) ∧ Below w.heap.size w w' := by
  have HC : Hid _ := count_any (s.extract a e) 10 w
  have hcl := count_le s a e 10
  generalize hcnt : Lib.countByte (s.extract a e).data.toList 10 = cnt at HC hcl
  clear hcnt
  obtain ⟨i58, hi58, hz58, hs58, hy58⟩ := info_parts info58
  obtain ⟨wm, hmk, hom, hgm⟩ := run_make_own (P := Try.prog) w w.heap.size 117 141 i58 _ 3 Try.underlying117 hi58 hz58 hs58 .i64 .i64 (cnt + 1) (by rw [hy58]; omega) (by unfold maxLen; omega) (Nat.le_refl _)
  rw [show ((cnt + 1 : Nat) : Int) = (cnt : Int) + 1 by omega] at hmk
  have HM : Hid (wm.ownsRow w.heap.size 141 3 (.slice (some ⟨w.heap.size, 0, none⟩) 0 (cnt + 1)) 0 [] ∧ Below w.heap.size w wm) := ⟨hom, (Below.refl _ _).grown hgm (Nat.le_refl _) (fun k hk => by cases hk)⟩
  have hcn : cnt ≤ 1099511627776 := by omega
  have HSZ : Hid _ := hs
  clear hom hgm hcl hs
  have hes2 : e ≤ 1099511627776 := by have := HSZ.out; omega
  go_enter Try.func58, Try.ntmps58
  go_wp2_with fail
  refine Calls.mono HC.out ?_
  rintro x w' ⟨rfl, rfl⟩
  go_wp2_with fail
  clear HC hmk
  go_loopg [1, 7] (e - a) (fun gk f r wr => Cutd w s a e gk f r wr)
  case atStart => exact ⟨[], a, rfl, hae, Or.inl ⟨rfl, rfl⟩, HM.out.1, by simp, by simp, HM.out.2, rfl⟩
  case round =>
    obtain ⟨T, p, rfl, hpe, hpre, hown, hmarks, hTl, hbel, hgk⟩ := hrel
    have hp2 : p ≤ 1099511627776 := by omega
    have F : Hid (Pre s a p (T.map (·.1)) ∧ wr.ownsRow w.heap.size 141 3 u7 T.length (rcells T) ∧ (∀ x ∈ T, Mk wr x.2 (s.extract x.1.1 x.1.2)) ∧ T.length ≤ p ∧ Below w.heap.size w wr) := ⟨hpre, hown, hmarks, hTl, hbel⟩
    have HK : Hid _ := hgk
    clear hpre hown hmarks hTl hbel hgk HM
    have HI : Hid _ := index_any (s.extract p e) wr
    rcases next_nl s p e hes with ⟨hn, hno⟩ | ⟨m, hn, hpm, h10, hno⟩
    · rw [hn] at HI
      have HN : Hid _ := hno
      clear hn hno
      have HMK : Hid _ := marks_any (s.extract p e) wr (by rw [ext_size s p e hpe hes]; omega)
      go_wp2_with fail
      refine Calls.mono HI.out ?_
      rintro x w' ⟨rfl, rfl⟩
      go_wp2_with fail
      refine Calls.mono HMK.out ?_
      rintro x w5 ⟨v, rfl, hmk1, hb1⟩
      obtain ⟨mp, mn, mc, rfl⟩ := hmk1.form
      have HK1 : Hid _ := hmk1
      have HB1 : Hid _ := hb1
      have hO : Hid ((w5.alloc (.cells #[.int .i64 (p : Int), .int .i64 ((e : Int)), .slice mp mn mc] 141)).ownsRow w.heap.size 141 3 u7 T.length (rcells T)) := (own_mono F.out.2.1 hb1).alloc _
      have hTl : T.length ≤ 1099511627776 := by have := F.out.2.2.2.1; omega
      have hbase : w.heap.size ≤ (w5.alloc (.cells #[.int .i64 (p : Int), .int .i64 ((e : Int)), .slice mp mn mc] 141)).heap.size := by
        have := F.out.2.2.2.2.size
        have := hb1.size
        simp
        omega
      clear hmk1 hb1
      go_wp2_with (at_builtin; refine wpList_append_own _ rfl (.tmp 23) (.tmp 32) 117 rfl w.heap.size 141 i58 (.agg #[.int .i64 0, .int .i64 0, .slice none 0 0]) 3 40 Try.underlying117 hi58 hz58 hs58 hy58 rfl (by decide) _ _ _ rfl hO.out ⟨w5.heap.size, 0, none⟩ 1 1 [.int .i64 (p : Int), .int .i64 ((e : Int)), .slice mp mn mc] rfl rfl ?c1 ?c2 ?c3 ?c4 ?c5 ?_)
      case c1 => exact cell_three_new _ _ _ _ _
      case c2 => intro x hx; simp at hx; rcases hx with rfl | rfl | rfl <;> rfl
      case c3 => unfold maxLen; omega
      case c4 => omega
      case c5 => exact hbase
      intro v1 w6 hown1 hgrow1 _
      have G : Hid (w6.ownsRow w.heap.size 141 3 v1 (T ++ [((p, e), Value.slice mp mn mc)]).length (rcells (T ++ [((p, e), Value.slice mp mn mc)])) ∧ (∀ x ∈ T ++ [((p, e), Value.slice mp mn mc)], Mk w6 x.2 (s.extract x.1.1 x.1.2)) ∧ Below w.heap.size w w6) := by
        obtain ⟨f1, f2, f3, f4, f5⟩ := F.out
        have hb := HB1.out
        refine ⟨?_, fun x hx => ?_, ?_⟩
        · rw [rcells_app, List.length_append]
          exact hown1
        · have hup := bel_up w5 (.cells #[.int .i64 (p : Int), .int .i64 ((e : Int)), .slice mp mn mc] 141)
          rcases List.mem_append.1 hx with h | h
          · exact (((f3 x h).mono hb).mono hup).grown hO.out hgrow1
          · simp at h
            subst h
            exact Mk.grown (Mk.mono HK1.out hup) hO.out hgrow1
        · exact (below_trans (below_trans f5 hb) (bel_up _ _)).grown hgrow1 hbase (fun q hq => (hO.out.lt q hq).1)
      clear hown1 hgrow1 hO hbase
      go_wp2_with fail
      go_ret
      refine ⟨_, _, rfl, G.out.1, G.out.2.1, ?_, G.out.2.2⟩
      rw [List.map_append]
      exact F.out.1.last hpe hes HN.out
    · rw [hn] at HI
      have HN : Hid (s.get! (p + m) = 10 ∧ ∀ k, p ≤ k → k < p + m → s.get! k ≠ 10) := ⟨h10, hno⟩
      clear hn hno h10
      have HMK : Hid _ := marks_any (s.extract p (p + m)) wr (by rw [ext_size s p (p + m) (by omega) (by omega)]; omega)
      have hm2 : m ≤ 1099511627776 := by omega
      have hpms : p + m ≤ s.size := by omega
      go_wp2_with fail
      refine Calls.mono HI.out ?_
      rintro x w' ⟨rfl, rfl⟩
      go_wp2_with fail
      refine Calls.mono HMK.out ?_
      rintro x w5 ⟨v, rfl, hmk1, hb1⟩
      obtain ⟨mp, mn, mc, rfl⟩ := hmk1.form
      have HK1 : Hid _ := hmk1
      have HB1 : Hid _ := hb1
      have hO : Hid ((w5.alloc (.cells #[.int .i64 (p : Int), .int .i64 ((p : Int) + (m : Int)), .slice mp mn mc] 141)).ownsRow w.heap.size 141 3 u7 T.length (rcells T)) := (own_mono F.out.2.1 hb1).alloc _
      have hTl : T.length ≤ 1099511627776 := by have := F.out.2.2.2.1; omega
      have hbase : w.heap.size ≤ (w5.alloc (.cells #[.int .i64 (p : Int), .int .i64 ((p : Int) + (m : Int)), .slice mp mn mc] 141)).heap.size := by
        have := F.out.2.2.2.2.size
        have := hb1.size
        simp
        omega
      clear hmk1 hb1
      go_wp2_with (at_builtin; refine wpList_append_own _ rfl (.tmp 34) (.tmp 47) 117 rfl w.heap.size 141 i58 (.agg #[.int .i64 0, .int .i64 0, .slice none 0 0]) 3 40 Try.underlying117 hi58 hz58 hs58 hy58 rfl (by decide) _ _ _ rfl hO.out ⟨w5.heap.size, 0, none⟩ 1 1 [.int .i64 (p : Int), .int .i64 ((p : Int) + (m : Int)), .slice mp mn mc] rfl rfl ?c1 ?c2 ?c3 ?c4 ?c5 ?_)
      case c1 => exact cell_three_new _ _ _ _ _
      case c2 => intro x hx; simp at hx; rcases hx with rfl | rfl | rfl <;> rfl
      case c3 => unfold maxLen; omega
      case c4 => omega
      case c5 => exact hbase
      intro v1 w6 hown1 hgrow1 _
      have G : Hid (w6.ownsRow w.heap.size 141 3 v1 (T ++ [((p, p + m), Value.slice mp mn mc)]).length (rcells (T ++ [((p, p + m), Value.slice mp mn mc)])) ∧ (∀ x ∈ T ++ [((p, p + m), Value.slice mp mn mc)], Mk w6 x.2 (s.extract x.1.1 x.1.2)) ∧ Below w.heap.size w w6) := by
        obtain ⟨f1, f2, f3, f4, f5⟩ := F.out
        have hb := HB1.out
        refine ⟨?_, fun x hx => ?_, ?_⟩
        · rw [rcells_app, List.length_append]
          exact hown1
        · have hup := bel_up w5 (.cells #[.int .i64 (p : Int), .int .i64 ((p : Int) + (m : Int)), .slice mp mn mc] 141)
          rcases List.mem_append.1 hx with h | h
          · exact (((f3 x h).mono hb).mono hup).grown hO.out hgrow1
          · simp at h
            subst h
            exact Mk.grown (Mk.mono HK1.out hup) hO.out hgrow1
        · exact (below_trans (below_trans f5 hb) (bel_up _ _)).grown hgrow1 hbase (fun q hq => (hO.out.lt q hq).1)
      clear hown1 hgrow1 hO hbase
      go_wp2_with fail
      go_roundg (e - (p + m + 1))
      case measure =>
        have := HK.out
        omega
      case rel =>
        refine ⟨_, p + m + 1, by congr 1, by omega, ?_, G.out.1, G.out.2.1, ?_, G.out.2.2, rfl⟩
        · rw [List.map_append]
          exact F.out.1.more (by omega) (by omega) HN.out.2 HN.out.1
        · have := F.out.2.2.2.1
          simp
          omega

end Go.Proofs.Yticheeacbajeeaa.Pc
namespace Go.Proofs.Yticheeacbajeeaa.Pc
open Go.RowKit

theorem own_base {w : World} {base : Nat} {e : TypeId} {z : Nat} {v : Value} {n : Nat} {xs : List Value} (h : w.ownsRow base e z v n xs) : w.ownsRow 0 e z v n xs :=
  ⟨h.1, h.2.imp id (fun ⟨g, cap, cur, q1, _, q3⟩ => ⟨g, cap, cur, q1, Nat.zero_le _, q3⟩)⟩

set_option maxRecDepth 100000 in
set_option maxHeartbeats 400000 in
theorem clone_any (s : ByteArray) (w : World) (hs : s.size ≤ 1099511627776) :
    Calls Try.prog 36 #[.string s] w fun e w' => e = .returned (.string s) ∧ Below w.heap.size w w' := by
  have H : Hid _ := Try.stringslite_Clone s w (by omega)
  clear hs
  go_enter Try.func36, Try.ntmps36
  go_wp2_with fail
  refine Calls.mono H.out ?_
  rintro e w1 ⟨rfl, hb⟩
  have HB : Hid _ := hb
  clear hb
  go_wp2_with fail
  go_ret
  exact ⟨rfl, HB.out⟩

/-- an index is laid -/
theorem ix_new {w : World} {s : ByteArray} {rv : Value} {T : List ((Nat × Nat) × Value)} {base : Nat} (h1 : w.ownsRow base 141 3 rv T.length (rcells T)) (h2 : ∀ x ∈ T, Mk w x.2 (s.extract x.1.1 x.1.2)) (h3 : Rw s 0 s.size (T.map (·.1))) (hs : s.size ≤ 1099511627776) :
    Ix (w.alloc (.cells #[.string s, rv] 120)) w.heap.size s T :=
  ⟨(cells2 w _ _ _).1, ⟨rv, (cells2 w _ _ _).2, own_mono (own_base h1) (bel_up _ _)⟩, fun x hx => (h2 x hx).mono (bel_up _ _), h3, hs⟩

set_option maxRecDepth 100000 in
set_option maxHeartbeats 400000 in
theorem new_any (s : ByteArray) (w : World) (hs : s.size ≤ 1099511627776) :
    Calls Try.prog 48 #[.string s] w fun e w' => ∃ (b : Nat) (T : List ((Nat × Nat) × Value)), e = .returned (.pointer (some ⟨b, 0, none⟩)) ∧ Ix w' b s T ∧ Below w.heap.size w w' := by
  have H : Hid _ := clone_any s w hs
  have HS : Hid _ := hs
  have H2 : Hid _ := fun W => cut_any s 0 s.size W (Nat.zero_le _) (Nat.le_refl _) hs
  clear hs
  go_enter Try.func48, Try.ntmps48
  go_wp2_with fail
  refine Calls.mono H.out ?_
  rintro e w1 ⟨rfl, hb⟩
  have HB : Hid _ := hb
  clear hb
  go_wp2_with fail
  refine (H2.out _).mono ?_
  rintro e w2 ⟨rv, T, rfl, k1, k2, k3, k4⟩
  have hp : 0 < T.length := by have := k3.pos; simpa using this
  obtain ⟨g, cap, rfl, _, _, _⟩ := own_form k1 hp
  have F : Hid _ := ix_new k1 k2 k3 HS.out
  have HB2 : Hid _ := k4
  clear k1 k2 k3 k4 hp
  go_wp2_with fail
  go_ret
  exact ⟨_, T, rfl, F.out, below_trans (below_trans HB.out HB2.out) (bel_up _ _)⟩

end Go.Proofs.Yticheeacbajeeaa.Pc
