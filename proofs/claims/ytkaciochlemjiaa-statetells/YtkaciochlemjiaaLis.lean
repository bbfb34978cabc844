import Derived.Test.YtkaciochlemjiaaFrm
import Derived.Test.YtkaciochlemjiaaApp
namespace Go.Proofs.Ytkaciochlemjiaa
open Go.RowKit Go.Maps

/-- What reading a list answers. -/
def Lst {α : Type} (en : α → List UInt8) (ok : α → Prop) (C : List α → List Value) (et : TypeId) (size most r : Nat) (d : ByteArray) (W : World) (e : Ending) (W' : World) : Prop :=
  W.grownBy W' (some r) ∧ ∃ d', Rdr W' r d' ∧ d'.size ≤ d.size ∧
    ((∃ l : List α, l.length ≤ most ∧ (∀ x ∈ l, ok x) ∧ d.data.toList = nm l.length ++ l.flatMap en ++ d'.data.toList ∧ ∃ v, e = .returned (.tuple #[v, .int .i64 0]) ∧ W'.ownsRow W.heap.size et size v l.length (C l)) ∨
     ((∀ (l : List α) (q : List UInt8), l.length ≤ most → (∀ x ∈ l, ok x) → d.data.toList ≠ nm l.length ++ l.flatMap en ++ q) ∧ e = .returned (.tuple #[.slice none 0 0, .int .i64 65])))
theorem row_base {W : World} {B B' : Nat} {e : TypeId} {size n : Nat} {v : Value} {xs : List Value} (h : W.ownsRow B e size v n xs) (hb : B' ≤ B) : W.ownsRow B' e size v n xs := by
  refine ⟨h.1, ?_⟩
  rcases h.2 with h | ⟨g, cap, cur, h0, h1, h2⟩
  · exact .inl h
  · exact .inr ⟨g, cap, cur, h0, Nat.le_trans hb h1, h2⟩
theorem gb_row {a b c : World} {r : Nat} {e : TypeId} {size n : Nat} {v : Value} {xs : List Value} (h : a.grownBy b (some r)) (hr : b.ownsRow a.heap.size e size v n xs) (hg : b.grownBy c v.ownBlock) : a.grownBy c (some r) :=
  ⟨hg.os.trans h.os, hg.tape.trans h.tape, hg.output.trans h.output, Nat.le_trans h.size hg.size, fun j hj hne => (hg.block j (Nat.lt_of_lt_of_le hj h.size) (fun e => by have := (row_tag hr j e.symm).1; omega)).trans (h.block j hj hne)⟩
theorem rdr_row {b c : World} {r : Nat} {d : ByteArray} {B : Nat} {e : TypeId} {size n : Nat} {v : Value} {xs : List Value} (h : Rdr b r d) (hr : b.ownsRow B e size v n xs) (hg : b.grownBy c v.ownBlock) (he : e ≠ 61) : Rdr c r d := by
  show c.heap[r]? = _
  rw [hg.block r (lt_of_heap h) (fun e => tag_ne_blk hr h he e.symm)]
  exact h
theorem cell_two_nxt (w : World) (o : Obj) (x y : Value) (t : TypeId) : ∀ j u, [x, y][j]? = some u → ((w.alloc o).alloc (.cells #[x, y] t)).cell? ((⟨w.heap.size + 1, 0, none⟩ : Addr).add j) = some u := by
  have := cell_two_new (w.alloc o) x y t
  rw [World.size_alloc] at this
  exact this
/-- A thing that can't be read: no list goes on from here. -/
theorem no_more {α : Type} {en : α → List UInt8} {ok : α → Prop} (hp : Pfx en ok) {n : Nat} {xs : List α} {d d1 dj : List UInt8} (hd : d = nm n ++ d1) (h1 : d1 = xs.flatMap en ++ dj) (hx : ∀ x ∈ xs, ok x) (hl : xs.length < n) (hno : ∀ x q, ok x → dj ≠ en x ++ q) (l : List α) (q : List UInt8) (hlo : ∀ x ∈ l, ok x) : d ≠ nm l.length ++ l.flatMap en ++ q := by
  intro e
  rw [hd, List.append_assoc] at e
  obtain ⟨e1, e2⟩ := nm_pf e
  rw [h1] at e2
  obtain ⟨l', h3, h4⟩ := flat_split hp xs l dj q hx hlo (by omega) e2
  cases l' with
  | nil => rw [h3] at e1; simp at e1; omega
  | cons y l'' =>
    refine hno y (l''.flatMap en ++ q) (hlo y (by rw [h3]; simp)) ?_
    rw [h4, List.flatMap_cons, List.append_assoc]

set_option maxRecDepth 100000 in
set_option maxHeartbeats 8000000 in
theorem lis53_any {r : Nat} {d : ByteArray} (hz : d.size ≤ 140737488355328) (W : World) (h : Rdr W r d) :
    Calls Try.prog 53 #[.pointer (some ⟨r, 0, none⟩), .int .i64 32, .func (.func 54) #[.pointer (some ⟨r, 0, none⟩)] #[]] W fun e W' => Lst nmi (okI 65536) iC 3 1 32 r d W e W' := by
  have HC : Hid _ := num_rd 32 (by omega) hz W h
  have HZ : Hid (d.size ≤ 140737488355328) := hz
  obtain ⟨iE, hi3, hx0, hx1, hx2⟩ := info_parts info3
  clear h hz
  go_enter Try.func53, Try.ntmps53
  go_wp2_with fail
  refine Calls.mono HC.out ?_
  rintro e w2 ⟨hg, hh⟩
  have HG2 : Hid (W.grownBy w2 (some r)) := hg
  clear hg
  rcases hh with ⟨n, d1, hn, hd, hr, hl, rfl⟩ | ⟨hno, hr, rfl⟩
  · have HN : Hid (n ≤ 32) := hn
    have HD : Hid (d.data.toList = nm n ++ d1.data.toList) := hd
    have HR : Hid (Rdr w2 r d1) := hr
    have HL : Hid (d1.size ≤ d.size) := hl
    clear hn hd hr hl
    go_wp2_with fail
    refine (grw72_any n HN.out w2).mono ?_
    rintro e w3 ⟨v3, rfl, ho3, hb3⟩
    have HO3 : Hid (w3.ownsRow W.heap.size 3 1 v3 0 (iC [])) := row_base ho3 HG2.out.size
    have HR3 : Hid (Rdr w3 r d1) := HR.out.up hb3
    have HG3 : Hid (W.grownBy w3 (some r)) := gb_trans HG2.out (gb_of hb3)
    clear ho3 hb3
    go_wp2_with fail
    go_loopg [10, 25] (n + 1) (fun gm v10 v25 wr => ∃ (xs : List (Int)) (dj : ByteArray), v25 = .int .i64 (xs.length : Int) ∧ Hid (xs.length ≤ n ∧ gm = n + 1 - xs.length) ∧ Hid (∀ x ∈ xs, (okI 65536) x) ∧ Hid (d1.data.toList = xs.flatMap nmi ++ dj.data.toList) ∧ Hid (Rdr wr r dj) ∧ Hid (dj.size ≤ d.size) ∧ Hid (wr.ownsRow W.heap.size 3 1 v10 xs.length (iC xs)) ∧ Hid (W.grownBy wr (some r)))
    case atStart => exact ⟨[], d1, rfl, ⟨Nat.zero_le _, rfl⟩, fun x hx => (by cases hx), rfl, HR3, HL, HO3, HG3⟩
    case round =>
      obtain ⟨xs, dj, rfl, HI, HXS, HD1, HRJ, HLJ, HO, HGJ⟩ := hrel
      obtain ⟨j, hj⟩ : ∃ j, xs.length = j := ⟨_, rfl⟩
      have HJ : Hid (xs.length = j) := hj
      rw [hj] at HI HO
      rw [hj]
      clear hj
      obtain ⟨la, lc, hv⟩ := row_shape HO.out
      subst hv
      by_cases hjn : j < n
      · have e1 : decide ((j : Int) < (n : Int)) = true := by rw [decide_eq_true_eq]; omega
        have e2 : decide (j < n) = true := by rw [decide_eq_true_eq]; exact hjn
        have HJN : Hid (j < n) := hjn
        have hjw : wrap64 ((j : Int) + 1) = (j : Int) + 1 := by have := HN.out; unfold wrap64; omega
        have HCI : Hid _ := rind_any (r := r) (d := dj) (Nat.le_trans HLJ.out HZ.out) wr HRJ.out
        clear hjn
        go_wp2_with fail
        refine Calls.mono HCI.out ?_
        rintro e w5 ⟨hg5, d5, hr5, hl5, hh5⟩
        have HG5 : Hid (W.grownBy w5 (some r)) := gb_trans HGJ.out hg5
        have HO5 : Hid (w5.ownsRow W.heap.size 3 1 (.slice la j lc) j (iC xs)) := HO.out.kept hg5 (.inr (tag_ne_blk HO.out HRJ.out (by decide)))
        have HR5 : Hid (Rdr w5 r d5) := hr5
        have HL5 : Hid (d5.size ≤ d.size) := Nat.le_trans hl5 HLJ.out
        clear hg5 hr5 hl5
        rcases hh5 with ⟨x, hx, hd5, rfl⟩ | ⟨hno, v, rfl, -⟩
        · have HX : Hid ((okI 65536) x) := hx
          have HD5 : Hid (dj.data.toList = nmi x ++ d5.data.toList) := hd5
          have HROW : Hid ((w5.alloc (.cells #[.int .i64 x] 3)).ownsRow W.heap.size 3 1 (.slice la j lc) j (iC xs)) := HO5.out.alloc _
          have HSB : Hid (W.heap.size ≤ (w5.alloc (.cells #[.int .i64 x] 3)).heap.size) := by have := HG5.out.size; show _ ≤ _; simp; omega
          have HGA : Hid (W.grownBy (w5.alloc (.cells #[.int .i64 x] 3)) (some r)) := gb_trans HG5.out (gb_of (bel_up _ _))
          have HRA : Hid (Rdr (w5.alloc (.cells #[.int .i64 x] 3)) r d5) := HR5.out.up (bel_up _ _)
          clear hx hd5
          skip
          go_wp2_with (at_builtin; refine wpList_append_own _ rfl _ _ 22 rfl W.heap.size 3 iE (.int .i64 0) 1 8 Try.underlying22 hi3 hx0 hx1 hx2 rfl (by decide) _ _ _ rfl HROW.out ⟨w5.heap.size, 0, none⟩ 1 1 [.int .i64 x] rfl rfl (cell_one_new _ _ _) (by simp [Value.oneCell']) (by have := HN.out; have := HJN.out; unfold maxLen; omega) (by have := HN.out; have := HJN.out; omega) HSB.out ?_; intro v6 w6 ho6 hg6 _; have HO6 : Hid _ := ho6; have HG6 : Hid _ := hg6; obtain ⟨qa, qc, rfl⟩ := row_shape ho6; clear ho6 hg6)
          go_roundg (n + 1 - (j + 1))
          case measure => have := HI.out; have := HJN.out; omega
          case rel =>
            have hlen : (xs ++ [x]).length = j + 1 := by rw [List.length_append, HJ.out]; rfl
            refine ⟨xs ++ [x], d5, by rw [hlen]; first | rfl | (rw [show (j : Int) + 1 = ((j + 1 : Nat) : Int) by omega]; done) | (congr 1; done) | (congr 1; unfold wrap64; have := HN.out; have := HJN.out; omega), ⟨by rw [hlen]; exact HJN.out, by rw [hlen]⟩, ?_, ?_, rdr_row HRA.out HROW.out HG6.out (by decide), HL5, ?_, gb_row HGA.out HROW.out HG6.out⟩
            · intro y hy
              rcases List.mem_append.1 hy with h | h
              · exact HXS.out y h
              · simp at h; subst h; exact HX.out
            · show d1.data.toList = _
              rw [HD1.out, HD5.out, List.flatMap_append, List.flatMap_cons, List.flatMap_nil, List.append_nil, List.append_assoc]
            · rw [hlen, iC_app]; exact HO6.out
        · have HX : Hid (∀ x q, (okI 65536) x → dj.data.toList ≠ nmi x ++ q) := hno
          clear hno
          go_wp2_with fail
          go_ret2
          exact ⟨HG5.out, d5, HR5.out, HL5.out, .inr ⟨fun l q _ hlo => no_more (nmi_pfx 65536) HD.out HD1.out HXS.out (by rw [HJ.out]; exact HJN.out) HX.out l q hlo, rfl⟩⟩
      · have e1 : decide ((j : Int) < (n : Int)) = false := by rw [decide_eq_false_iff_not]; omega
        have e2 : decide (j < n) = false := by rw [decide_eq_false_iff_not]; exact hjn
        have hje : j = n := by have := HI.out; omega
        have HJE : Hid (j = n) := hje
        clear hjn hje
        go_wp2_with fail
        go_ret2
        refine ⟨HGJ.out, dj, HRJ.out, HLJ.out, .inl ⟨xs, by rw [HJ.out, HJE.out]; exact HN.out, HXS.out, ?_, _, rfl, by rw [HJ.out]; exact HO.out⟩⟩
        rw [HJ.out, HJE.out, List.append_assoc, ← HD1.out]
        exact HD.out
  · have HN : Hid (∀ n q, n ≤ 32 → d.data.toList ≠ nm n ++ q) := hno
    have HR : Hid (Rdr w2 r d) := hr
    clear hno hr
    go_wp2_with fail
    go_ret2
    exact ⟨HG2.out, d, HR.out, Nat.le_refl _, .inr ⟨fun l q hl _ e => HN.out l.length (l.flatMap nmi ++ q) hl (by rw [e, List.append_assoc]), rfl⟩⟩

set_option maxRecDepth 100000 in
set_option maxHeartbeats 8000000 in
theorem lis56_any {r : Nat} {d : ByteArray} (hz : d.size ≤ 140737488355328) (W : World) (h : Rdr W r d) :
    Calls Try.prog 56 #[.pointer (some ⟨r, 0, none⟩), .int .i64 8, .func (.func 57) #[.pointer (some ⟨r, 0, none⟩)] #[]] W fun e W' => Lst tx okT qC 9 1 8 r d W e W' := by
  have HC : Hid _ := num_rd 8 (by omega) hz W h
  have HZ : Hid (d.size ≤ 140737488355328) := hz
  obtain ⟨iE, hi3, hx0, hx1, hx2⟩ := info_parts info9
  clear h hz
  go_enter Try.func56, Try.ntmps56
  go_wp2_with fail
  refine Calls.mono HC.out ?_
  rintro e w2 ⟨hg, hh⟩
  have HG2 : Hid (W.grownBy w2 (some r)) := hg
  clear hg
  rcases hh with ⟨n, d1, hn, hd, hr, hl, rfl⟩ | ⟨hno, hr, rfl⟩
  · have HN : Hid (n ≤ 8) := hn
    have HD : Hid (d.data.toList = nm n ++ d1.data.toList) := hd
    have HR : Hid (Rdr w2 r d1) := hr
    have HL : Hid (d1.size ≤ d.size) := hl
    clear hn hd hr hl
    go_wp2_with fail
    refine (grw73_any n HN.out w2).mono ?_
    rintro e w3 ⟨v3, rfl, ho3, hb3⟩
    have HO3 : Hid (w3.ownsRow W.heap.size 9 1 v3 0 (qC [])) := row_base ho3 HG2.out.size
    have HR3 : Hid (Rdr w3 r d1) := HR.out.up hb3
    have HG3 : Hid (W.grownBy w3 (some r)) := gb_trans HG2.out (gb_of hb3)
    clear ho3 hb3
    go_wp2_with fail
    go_loopg [10, 25] (n + 1) (fun gm v10 v25 wr => ∃ (xs : List (ByteArray)) (dj : ByteArray), v25 = .int .i64 (xs.length : Int) ∧ Hid (xs.length ≤ n ∧ gm = n + 1 - xs.length) ∧ Hid (∀ x ∈ xs, okT x) ∧ Hid (d1.data.toList = xs.flatMap tx ++ dj.data.toList) ∧ Hid (Rdr wr r dj) ∧ Hid (dj.size ≤ d.size) ∧ Hid (wr.ownsRow W.heap.size 9 1 v10 xs.length (qC xs)) ∧ Hid (W.grownBy wr (some r)))
    case atStart => exact ⟨[], d1, rfl, ⟨Nat.zero_le _, rfl⟩, fun x hx => (by cases hx), rfl, HR3, HL, HO3, HG3⟩
    case round =>
      obtain ⟨xs, dj, rfl, HI, HXS, HD1, HRJ, HLJ, HO, HGJ⟩ := hrel
      obtain ⟨j, hj⟩ : ∃ j, xs.length = j := ⟨_, rfl⟩
      have HJ : Hid (xs.length = j) := hj
      rw [hj] at HI HO
      rw [hj]
      clear hj
      obtain ⟨la, lc, hv⟩ := row_shape HO.out
      subst hv
      by_cases hjn : j < n
      · have e1 : decide ((j : Int) < (n : Int)) = true := by rw [decide_eq_true_eq]; omega
        have e2 : decide (j < n) = true := by rw [decide_eq_true_eq]; exact hjn
        have HJN : Hid (j < n) := hjn
        have hjw : wrap64 ((j : Int) + 1) = (j : Int) + 1 := by have := HN.out; unfold wrap64; omega
        have HCI : Hid _ := rdel_any (r := r) (d := dj) (Nat.le_trans HLJ.out HZ.out) wr HRJ.out
        clear hjn
        go_wp2_with fail
        refine Calls.mono HCI.out ?_
        rintro e w5 ⟨hg5, d5, hr5, hl5, hh5⟩
        have HG5 : Hid (W.grownBy w5 (some r)) := gb_trans HGJ.out hg5
        have HO5 : Hid (w5.ownsRow W.heap.size 9 1 (.slice la j lc) j (qC xs)) := HO.out.kept hg5 (.inr (tag_ne_blk HO.out HRJ.out (by decide)))
        have HR5 : Hid (Rdr w5 r d5) := hr5
        have HL5 : Hid (d5.size ≤ d.size) := Nat.le_trans hl5 HLJ.out
        clear hg5 hr5 hl5
        rcases hh5 with ⟨x, hx, hd5, rfl⟩ | ⟨hno, v, rfl, -⟩
        · have HX : Hid (okT x) := hx
          have HD5 : Hid (dj.data.toList = tx x ++ d5.data.toList) := hd5
          have HROW : Hid ((w5.alloc (.cells #[.string x] 9)).ownsRow W.heap.size 9 1 (.slice la j lc) j (qC xs)) := HO5.out.alloc _
          have HSB : Hid (W.heap.size ≤ (w5.alloc (.cells #[.string x] 9)).heap.size) := by have := HG5.out.size; show _ ≤ _; simp; omega
          have HGA : Hid (W.grownBy (w5.alloc (.cells #[.string x] 9)) (some r)) := gb_trans HG5.out (gb_of (bel_up _ _))
          have HRA : Hid (Rdr (w5.alloc (.cells #[.string x] 9)) r d5) := HR5.out.up (bel_up _ _)
          clear hx hd5
          skip
          go_wp2_with (at_builtin; refine wpList_append_own _ rfl _ _ 23 rfl W.heap.size 9 iE (.string ⟨#[]⟩) 1 16 Try.underlying23 hi3 hx0 hx1 hx2 rfl (by decide) _ _ _ rfl HROW.out ⟨w5.heap.size, 0, none⟩ 1 1 [.string x] rfl rfl (cell_one_new _ _ _) (by simp [Value.oneCell']) (by have := HN.out; have := HJN.out; unfold maxLen; omega) (by have := HN.out; have := HJN.out; omega) HSB.out ?_; intro v6 w6 ho6 hg6 _; have HO6 : Hid _ := ho6; have HG6 : Hid _ := hg6; obtain ⟨qa, qc, rfl⟩ := row_shape ho6; clear ho6 hg6)
          go_roundg (n + 1 - (j + 1))
          case measure => have := HI.out; have := HJN.out; omega
          case rel =>
            have hlen : (xs ++ [x]).length = j + 1 := by rw [List.length_append, HJ.out]; rfl
            refine ⟨xs ++ [x], d5, by rw [hlen]; first | rfl | (rw [show (j : Int) + 1 = ((j + 1 : Nat) : Int) by omega]; done) | (congr 1; done) | (congr 1; unfold wrap64; have := HN.out; have := HJN.out; omega), ⟨by rw [hlen]; exact HJN.out, by rw [hlen]⟩, ?_, ?_, rdr_row HRA.out HROW.out HG6.out (by decide), HL5, ?_, gb_row HGA.out HROW.out HG6.out⟩
            · intro y hy
              rcases List.mem_append.1 hy with h | h
              · exact HXS.out y h
              · simp at h; subst h; exact HX.out
            · show d1.data.toList = _
              rw [HD1.out, HD5.out, List.flatMap_append, List.flatMap_cons, List.flatMap_nil, List.append_nil, List.append_assoc]
            · rw [hlen, qC_app]; exact HO6.out
        · have HX : Hid (∀ x q, okT x → dj.data.toList ≠ tx x ++ q) := hno
          clear hno
          go_wp2_with fail
          go_ret2
          exact ⟨HG5.out, d5, HR5.out, HL5.out, .inr ⟨fun l q _ hlo => no_more tx_pfx HD.out HD1.out HXS.out (by rw [HJ.out]; exact HJN.out) HX.out l q hlo, rfl⟩⟩
      · have e1 : decide ((j : Int) < (n : Int)) = false := by rw [decide_eq_false_iff_not]; omega
        have e2 : decide (j < n) = false := by rw [decide_eq_false_iff_not]; exact hjn
        have hje : j = n := by have := HI.out; omega
        have HJE : Hid (j = n) := hje
        clear hjn hje
        go_wp2_with fail
        go_ret2
        refine ⟨HGJ.out, dj, HRJ.out, HLJ.out, .inl ⟨xs, by rw [HJ.out, HJE.out]; exact HN.out, HXS.out, ?_, _, rfl, by rw [HJ.out]; exact HO.out⟩⟩
        rw [HJ.out, HJE.out, List.append_assoc, ← HD1.out]
        exact HD.out
  · have HN : Hid (∀ n q, n ≤ 8 → d.data.toList ≠ nm n ++ q) := hno
    have HR : Hid (Rdr w2 r d) := hr
    clear hno hr
    go_wp2_with fail
    go_ret2
    exact ⟨HG2.out, d, HR.out, Nat.le_refl _, .inr ⟨fun l q hl _ e => HN.out l.length (l.flatMap tx ++ q) hl (by rw [e, List.append_assoc]), rfl⟩⟩

set_option maxRecDepth 100000 in
set_option maxHeartbeats 8000000 in
theorem lis58_any {r : Nat} {d : ByteArray} (hz : d.size ≤ 140737488355328) (W : World) (h : Rdr W r d) :
    Calls Try.prog 58 #[.pointer (some ⟨r, 0, none⟩), .int .i64 16, .func (.func 59) #[.pointer (some ⟨r, 0, none⟩)] #[]] W fun e W' => Lst frb okW fC 54 2 16 r d W e W' := by
  have HC : Hid _ := num_rd 16 (by omega) hz W h
  have HZ : Hid (d.size ≤ 140737488355328) := hz
  obtain ⟨iE, hi3, hx0, hx1, hx2⟩ := info_parts info54
  clear h hz
  go_enter Try.func58, Try.ntmps58
  go_wp2_with fail
  refine Calls.mono HC.out ?_
  rintro e w2 ⟨hg, hh⟩
  have HG2 : Hid (W.grownBy w2 (some r)) := hg
  clear hg
  rcases hh with ⟨n, d1, hn, hd, hr, hl, rfl⟩ | ⟨hno, hr, rfl⟩
  · have HN : Hid (n ≤ 16) := hn
    have HD : Hid (d.data.toList = nm n ++ d1.data.toList) := hd
    have HR : Hid (Rdr w2 r d1) := hr
    have HL : Hid (d1.size ≤ d.size) := hl
    clear hn hd hr hl
    go_wp2_with fail
    refine (grw74_any n HN.out w2).mono ?_
    rintro e w3 ⟨v3, rfl, ho3, hb3⟩
    have HO3 : Hid (w3.ownsRow W.heap.size 54 2 v3 0 (fC [])) := row_base ho3 HG2.out.size
    have HR3 : Hid (Rdr w3 r d1) := HR.out.up hb3
    have HG3 : Hid (W.grownBy w3 (some r)) := gb_trans HG2.out (gb_of hb3)
    clear ho3 hb3
    go_wp2_with fail
    go_loopg [10, 25] (n + 1) (fun gm v10 v25 wr => ∃ (xs : List (Int × ByteArray)) (dj : ByteArray), v25 = .int .i64 (xs.length : Int) ∧ Hid (xs.length ≤ n ∧ gm = n + 1 - xs.length) ∧ Hid (∀ x ∈ xs, okW x) ∧ Hid (d1.data.toList = xs.flatMap frb ++ dj.data.toList) ∧ Hid (Rdr wr r dj) ∧ Hid (dj.size ≤ d.size) ∧ Hid (wr.ownsRow W.heap.size 54 2 v10 xs.length (fC xs)) ∧ Hid (W.grownBy wr (some r)))
    case atStart => exact ⟨[], d1, rfl, ⟨Nat.zero_le _, rfl⟩, fun x hx => (by cases hx), rfl, HR3, HL, HO3, HG3⟩
    case round =>
      obtain ⟨xs, dj, rfl, HI, HXS, HD1, HRJ, HLJ, HO, HGJ⟩ := hrel
      obtain ⟨j, hj⟩ : ∃ j, xs.length = j := ⟨_, rfl⟩
      have HJ : Hid (xs.length = j) := hj
      rw [hj] at HI HO
      rw [hj]
      clear hj
      obtain ⟨la, lc, hv⟩ := row_shape HO.out
      subst hv
      by_cases hjn : j < n
      · have e1 : decide ((j : Int) < (n : Int)) = true := by rw [decide_eq_true_eq]; omega
        have e2 : decide (j < n) = true := by rw [decide_eq_true_eq]; exact hjn
        have HJN : Hid (j < n) := hjn
        have hjw : wrap64 ((j : Int) + 1) = (j : Int) + 1 := by have := HN.out; unfold wrap64; omega
        have HCI : Hid _ := rfrm_any (r := r) (d := dj) (Nat.le_trans HLJ.out HZ.out) wr HRJ.out
        clear hjn
        go_wp2_with fail
        refine Calls.mono HCI.out ?_
        rintro e w5 ⟨hg5, d5, hr5, hl5, hh5⟩
        have HG5 : Hid (W.grownBy w5 (some r)) := gb_trans HGJ.out hg5
        have HO5 : Hid (w5.ownsRow W.heap.size 54 2 (.slice la j lc) j (fC xs)) := HO.out.kept hg5 (.inr (tag_ne_blk HO.out HRJ.out (by decide)))
        have HR5 : Hid (Rdr w5 r d5) := hr5
        have HL5 : Hid (d5.size ≤ d.size) := Nat.le_trans hl5 HLJ.out
        clear hg5 hr5 hl5
        rcases hh5 with ⟨⟨xm, xt⟩, hx, hd5, rfl⟩ | ⟨hno, v, rfl, mv, rfl⟩
        · have HX : Hid (okW (xm, xt)) := hx
          have HD5 : Hid (dj.data.toList = frb (xm, xt) ++ d5.data.toList) := hd5
          have HROW : Hid (((w5.alloc (.cells #[.int .i64 xm, .string xt] 54)).alloc (.cells #[.int .i64 xm, .string xt] 54)).ownsRow W.heap.size 54 2 (.slice la j lc) j (fC xs)) := (HO5.out.alloc _).alloc _
          have HSB : Hid (W.heap.size ≤ ((w5.alloc (.cells #[.int .i64 xm, .string xt] 54)).alloc (.cells #[.int .i64 xm, .string xt] 54)).heap.size) := by have := HG5.out.size; show _ ≤ _; simp; omega
          have HGA : Hid (W.grownBy ((w5.alloc (.cells #[.int .i64 xm, .string xt] 54)).alloc (.cells #[.int .i64 xm, .string xt] 54)) (some r)) := gb_trans (gb_trans HG5.out (gb_of (bel_up _ _))) (gb_of (bel_up _ _))
          have HRA : Hid (Rdr ((w5.alloc (.cells #[.int .i64 xm, .string xt] 54)).alloc (.cells #[.int .i64 xm, .string xt] 54)) r d5) := (HR5.out.up (bel_up _ _)).up (bel_up _ _)
          clear hx hd5
          simp only [fV]
          go_wp2_with (at_builtin; refine wpList_append_own _ rfl _ _ 24 rfl W.heap.size 54 iE (.agg #[.int .i64 0, .string ⟨#[]⟩]) 2 24 Try.underlying24 hi3 hx0 hx1 hx2 rfl (by decide) _ _ _ rfl HROW.out ⟨w5.heap.size + 1, 0, none⟩ 1 1 [.int .i64 xm, .string xt] rfl rfl (cell_two_nxt _ _ _ _ _) (by simp [Value.oneCell']) (by have := HN.out; have := HJN.out; unfold maxLen; omega) (by have := HN.out; have := HJN.out; omega) HSB.out ?_; intro v6 w6 ho6 hg6 _; have HO6 : Hid _ := ho6; have HG6 : Hid _ := hg6; obtain ⟨qa, qc, rfl⟩ := row_shape ho6; clear ho6 hg6)
          go_roundg (n + 1 - (j + 1))
          case measure => have := HI.out; have := HJN.out; omega
          case rel =>
            have hlen : (xs ++ [(xm, xt)]).length = j + 1 := by rw [List.length_append, HJ.out]; rfl
            refine ⟨xs ++ [(xm, xt)], d5, by rw [hlen]; first | rfl | (rw [show (j : Int) + 1 = ((j + 1 : Nat) : Int) by omega]; done) | (congr 1; done) | (congr 1; unfold wrap64; have := HN.out; have := HJN.out; omega), ⟨by rw [hlen]; exact HJN.out, by rw [hlen]⟩, ?_, ?_, rdr_row HRA.out HROW.out HG6.out (by decide), HL5, ?_, gb_row HGA.out HROW.out HG6.out⟩
            · intro y hy
              rcases List.mem_append.1 hy with h | h
              · exact HXS.out y h
              · simp at h; subst h; exact HX.out
            · show d1.data.toList = _
              rw [HD1.out, HD5.out, List.flatMap_append, List.flatMap_cons, List.flatMap_nil, List.append_nil, List.append_assoc]
            · rw [hlen, fC_app]; exact HO6.out
        · have HX : Hid (∀ x q, okW x → dj.data.toList ≠ frb x ++ q) := hno
          clear hno
          go_wp2_with fail
          go_ret2
          exact ⟨gb_trans HG5.out (gb_of (bel_up _ _)), d5, HR5.out.up (bel_up _ _), HL5.out, .inr ⟨fun l q _ hlo => no_more frb_pfx HD.out HD1.out HXS.out (by rw [HJ.out]; exact HJN.out) HX.out l q hlo, rfl⟩⟩
      · have e1 : decide ((j : Int) < (n : Int)) = false := by rw [decide_eq_false_iff_not]; omega
        have e2 : decide (j < n) = false := by rw [decide_eq_false_iff_not]; exact hjn
        have hje : j = n := by have := HI.out; omega
        have HJE : Hid (j = n) := hje
        clear hjn hje
        go_wp2_with fail
        go_ret2
        refine ⟨HGJ.out, dj, HRJ.out, HLJ.out, .inl ⟨xs, by rw [HJ.out, HJE.out]; exact HN.out, HXS.out, ?_, _, rfl, by rw [HJ.out]; exact HO.out⟩⟩
        rw [HJ.out, HJE.out, List.append_assoc, ← HD1.out]
        exact HD.out
  · have HN : Hid (∀ n q, n ≤ 16 → d.data.toList ≠ nm n ++ q) := hno
    have HR : Hid (Rdr w2 r d) := hr
    clear hno hr
    go_wp2_with fail
    go_ret2
    exact ⟨HG2.out, d, HR.out, Nat.le_refl _, .inr ⟨fun l q hl _ e => HN.out l.length (l.flatMap frb ++ q) hl (by rw [e, List.append_assoc]), rfl⟩⟩
end Go.Proofs.Ytkaciochlemjiaa
