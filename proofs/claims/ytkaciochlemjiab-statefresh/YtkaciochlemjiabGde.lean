import Derived.Test.YtkaciochlemjiabRdn
import Derived.Test.YtkaciochlemjiabGro
import Derived.Test.YtkaciochlemjiabGpr
import Derived.Test.YtkaciochlemjiabDoo
import Derived.Test.YtkaciochlemjiabApp
namespace Go.Proofs.Ytkaciochlemjiab
open Go.RowKit Go.Maps

/-- A reader that has d left. -/
def Rdr (W : World) (r : Nat) (d : ByteArray) : Prop := W.heap[r]? = some (.cells #[.string d] 56 (0, 0))
theorem Rdr.cell {W : World} {r : Nat} {d : ByteArray} (h : Rdr W r d) : W.cell? ⟨r, 0, none⟩ = some (.string d) := by rw [Lib.cell_of_heap h]; rfl
theorem Rdr.frz {W : World} {r : Nat} {d : ByteArray} (h : Rdr W r d) : W.frozen? ⟨r, 0, none⟩ = false := Lib.frozen_of_heap h 0
theorem Rdr.up {W W' : World} {r : Nat} {d : ByteArray} (h : Rdr W r d) (hb : Below W.heap.size W W') : Rdr W' r d := by
  show W'.heap[r]? = _
  rw [hb.block r (lt_of_heap h)]; exact h
theorem Rdr.set {W : World} {r : Nat} {d : ByteArray} (h : Rdr W r d) (d' : ByteArray) : Rdr (W.setCell ⟨r, 0, none⟩ (.string d')) r d' := by
  show (W.setCell ⟨r, 0, none⟩ (.string d')).heap[r]? = _
  rw [blk_set _ h]; rfl
theorem Rdr.off {W : World} {r p k : Nat} {d : ByteArray} {v : Value} (h : Rdr W r d) (hp : r ≠ p) : Rdr (W.setCell ⟨p, k, none⟩ v) r d := by
  show (W.setCell ⟨p, k, none⟩ v).heap[r]? = _
  rw [Below.heap_setCell _ _ _ _ hp]; exact h
theorem gb_trans {a b c : World} {o : Option Nat} (h : a.grownBy b o) (k : b.grownBy c o) : a.grownBy c o :=
  ⟨k.os.trans h.os, k.tape.trans h.tape, k.output.trans h.output, Nat.le_trans h.size k.size, fun j hj hne => (k.block j (Nat.lt_of_lt_of_le hj h.size) hne).trans (h.block j hj hne)⟩
theorem gb_new {a b : World} {o : Option Nat} {p k : Nat} {v : Value} (h : a.grownBy b o) (hp : a.heap.size ≤ p) : a.grownBy (b.setCell ⟨p, k, none⟩ v) o :=
  ⟨h.os, h.tape, h.output, by simpa using h.size, fun j hj hne => (Below.heap_setCell b ⟨p, k, none⟩ v j (fun e => by subst e; omega)).trans (h.block j hj hne)⟩
theorem gb_of {W W' : World} {o : Option Nat} (h : Below W.heap.size W W') : W.grownBy W' o := ⟨h.os, h.tape, h.output, h.size, fun k hk _ => h.block k hk⟩
theorem gb_refl (W : World) (o : Option Nat) : W.grownBy W o := ⟨rfl, rfl, rfl, Nat.le_refl _, fun _ _ _ => rfl⟩
/-- Bytes that say where they end. -/
def Pfx {α : Type} (en : α → List UInt8) (ok : α → Prop) : Prop := ∀ x y p q, ok x → ok y → en x ++ p = en y ++ q → x = y ∧ p = q
/-- What reading a thing answers. -/
def Itm {α : Type} (en : α → List UInt8) (ok : α → Prop) (val : α → Value) (bv : Value → Prop) (r : Nat) (d : ByteArray) (W : World) (e : Ending) (W' : World) : Prop :=
  W.grownBy W' (some r) ∧ ∃ d', Rdr W' r d' ∧ d'.size ≤ d.size ∧
    ((∃ x, ok x ∧ d.data.toList = en x ++ d'.data.toList ∧ e = .returned (.tuple #[val x, .int .i64 0])) ∨
     ((∀ x q, ok x → d.data.toList ≠ en x ++ q) ∧ ∃ v, e = .returned (.tuple #[v, .int .i64 65]) ∧ bv v))
theorem left_le {d d' : ByteArray} {l : List UInt8} (h : d.data.toList = l ++ d'.data.toList) : d'.size ≤ d.size := by
  have := congrArg List.length h
  rw [List.length_append] at this
  have h1 : d.data.toList.length = d.size := Array.length_toList
  have h2 : d'.data.toList.length = d'.size := Array.length_toList
  omega
theorem ext_take (m : ByteArray) (n : Nat) : (m.extract 0 n).data.toList = m.data.toList.take n := by
  rw [ByteArray.data_extract, Array.toList_extract]
  simp
/-- The reader's number, over the reader's block. -/
theorem num_rd {r : Nat} {d : ByteArray} (most : Nat) (hm : most ≤ 70000) (hz : d.size ≤ 140737488355328) (W : World) (h : Rdr W r d) :
    Calls Try.prog 51 #[.pointer (some ⟨r, 0, none⟩), .int .i64 (most : Int)] W fun e W' => W.grownBy W' (some r) ∧
      ((∃ n d', n ≤ most ∧ d.data.toList = nm n ++ d'.data.toList ∧ Rdr W' r d' ∧ d'.size ≤ d.size ∧ e = .returned (.tuple #[.int .i64 (n : Int), .int .i64 0])) ∨
       ((∀ n q, n ≤ most → d.data.toList ≠ nm n ++ q) ∧ Rdr W' r d ∧ e = .returned (.tuple #[.int .i64 0, .int .i64 65]))) := by
  refine (rnum_any most hm hz W h.cell h.frz).mono ?_
  rintro e w (⟨n, rest, h1, h2, h3, rfl⟩ | ⟨h1, h2, rfl⟩)
  · exact ⟨grown_set, .inl ⟨n, rest, h2, h1, h.set rest, left_le h1, h3⟩⟩
  · exact ⟨gb_refl _ _, .inr ⟨h1, h, h2⟩⟩
def okI (m : Nat) (x : Int) : Prop := 0 ≤ x ∧ x ≤ (m : Int)
def okT (x : ByteArray) : Prop := x.size ≤ 16
def okW (f : Int × ByteArray) : Prop := okI 15 f.1 ∧ okT f.2
def fV (f : Int × ByteArray) : Value := .agg #[.int .i64 f.1, .string f.2]
theorem nmi_nat (n : Nat) : nmi (n : Int) = nm n := rfl
theorem nmi_pfx (m : Nat) : Pfx nmi (okI m) := fun x y p q hx hy e => by
  obtain ⟨h1, h2⟩ := nm_pf e
  exact ⟨by have := hx.1; have := hy.1; omega, h2⟩
theorem bytes_ext {a b : ByteArray} (h : a.data.toList = b.data.toList) : a = b := by
  cases a; cases b
  congr
  exact Array.toList_inj.1 h
theorem tx_pfx : Pfx tx okT := fun x y p q _ _ e => by
  unfold tx at e
  rw [List.append_assoc, List.append_assoc] at e
  obtain ⟨h1, h2⟩ := nm_pf e
  have h3 : x.data.toList.length = y.data.toList.length := by rw [Array.length_toList, Array.length_toList]; exact h1
  obtain ⟨h4, h5⟩ := List.append_inj h2 h3
  exact ⟨bytes_ext h4, h5⟩
theorem frb_pfx : Pfx frb okW := fun x y p q hx hy e => by
  unfold frb at e
  rw [List.append_assoc, List.append_assoc] at e
  obtain ⟨h1, h2⟩ := nmi_pfx 15 x.1 y.1 _ _ hx.1 hy.1 e
  obtain ⟨h3, h4⟩ := tx_pfx x.2 y.2 _ _ hx.2 hy.2 h2
  exact ⟨Prod.ext h1 h3, h4⟩
theorem flat_split {α : Type} {en : α → List UInt8} {ok : α → Prop} (hp : Pfx en ok) : ∀ (xs l : List α) (p q : List UInt8), (∀ x ∈ xs, ok x) → (∀ x ∈ l, ok x) → xs.length ≤ l.length → xs.flatMap en ++ p = l.flatMap en ++ q → ∃ l', l = xs ++ l' ∧ p = l'.flatMap en ++ q
  | [], l, p, q, _, _, _, e => ⟨l, rfl, e⟩
  | x :: xs, [], _, _, _, _, h, _ => by simp at h
  | x :: xs, y :: l, p, q, hx, hl, h, e => by
    rw [List.flatMap_cons, List.flatMap_cons, List.append_assoc, List.append_assoc] at e
    obtain ⟨rfl, e2⟩ := hp x y _ _ (hx x (by simp)) (hl y (by simp)) e
    obtain ⟨l', h1, h2⟩ := flat_split hp xs l p q (fun z hz => hx z (by simp [hz])) (fun z hz => hl z (by simp [hz])) (by simpa using h) e2
    exact ⟨l', by rw [h1]; rfl, h2⟩

set_option maxRecDepth 100000 in
set_option maxHeartbeats 4000000 in
theorem rind_any {r : Nat} {d : ByteArray} (hz : d.size ≤ 140737488355328) (W : World) (h : Rdr W r d) :
    Calls Try.prog 50 #[.pointer (some ⟨r, 0, none⟩)] W fun e W' => Itm nmi (okI 65536) (fun x => .int .i64 x) (fun _ => True) r d W e W' := by
  have HC : Hid _ := num_rd 65536 (by omega) hz W h
  clear h hz
  go_enter Try.func50, Try.ntmps50
  go_wp2_with fail
  refine Calls.mono HC.out ?_
  rintro e w2 ⟨hg, hh⟩
  have HG : Hid _ := hg
  clear hg
  rcases hh with ⟨n, d', hn, hd, hr, hl, rfl⟩ | ⟨hno, hr, rfl⟩
  · have HN : Hid _ := hn
    have HD : Hid _ := hd
    have HR : Hid (Rdr w2 r d') := hr
    have HL : Hid _ := hl
    clear hn hd hr hl
    go_wp2_with fail
    go_ret2
    exact ⟨HG.out, d', HR.out, HL.out, .inl ⟨(n : Int), ⟨by omega, by have := HN.out; omega⟩, HD.out, rfl⟩⟩
  · have HN : Hid _ := hno
    have HR : Hid (Rdr w2 r d) := hr
    clear hno hr
    go_wp2_with fail
    go_ret2
    exact ⟨HG.out, d, HR.out, Nat.le_refl _, .inr ⟨fun x q hx => HN.out x.toNat q (by have := hx.1; have := hx.2; omega), _, rfl, trivial⟩⟩

set_option maxRecDepth 100000 in
set_option maxHeartbeats 4000000 in
theorem rdel_any {r : Nat} {d : ByteArray} (hz : d.size ≤ 140737488355328) (W : World) (h : Rdr W r d) :
    Calls Try.prog 53 #[.pointer (some ⟨r, 0, none⟩)] W fun e W' => Itm tx okT (fun x => .string x) (fun v => v = .string ⟨#[]⟩) r d W e W' := by
  have HC : Hid _ := num_rd 16 (by omega) hz W h
  have HZ : Hid _ := hz
  clear h hz
  go_enter Try.func53, Try.ntmps53
  go_wp2_with fail
  refine Calls.mono HC.out ?_
  rintro e w2 ⟨hg, hh⟩
  have HG : Hid _ := hg
  clear hg
  rcases hh with ⟨n, d', hn, hd, hr, hl, rfl⟩ | ⟨hno, hr, rfl⟩
  · have HN : Hid _ := hn
    have HD : Hid _ := hd
    have HR : Hid (Rdr w2 r d') := hr
    have HL : Hid _ := hl
    have hc := hr.cell
    have hf := hr.frz
    by_cases hle : d'.size < n
    · have e1 : decide (((d'.size : Nat) : Int) < (n : Int)) = true := by rw [decide_eq_true_eq]; omega
      have e2 : decide (d'.size < n) = true := by rw [decide_eq_true_eq]; omega
      have HX : Hid (d'.size < n) := hle
      clear hn hd hr hl hle
      go_wp2_with fail
      go_ret2
      refine ⟨HG.out, d', HR.out, HL.out, .inr ⟨fun x q _ e => ?_, _, rfl, rfl⟩⟩
      rw [HD.out] at e
      unfold tx at e
      rw [List.append_assoc] at e
      obtain ⟨e1, e2⟩ := nm_pf e
      have h3 := congrArg List.length e2
      rw [List.length_append] at h3
      have h4 : x.data.toList.length = x.size := Array.length_toList
      have h5 : d'.data.toList.length = d'.size := Array.length_toList
      have := HX.out
      omega
    · have e1 : decide (((d'.size : Nat) : Int) < (n : Int)) = false := by rw [decide_eq_false_iff_not]; omega
      have e2 : decide (d'.size < n) = false := by rw [decide_eq_false_iff_not]; omega
      have e3 : (n : Int) ≤ (d'.size : Int) := by omega
      have e4 : n ≤ d'.size := by omega
      have HX : Hid (n ≤ d'.size) := e4
      clear hn hd hr hl hle
      go_wp2_with fail
      refine (clone_any (d'.extract 0 n) w2 (by rw [ByteArray.size_extract]; have := HN.out; omega)).mono ?_
      rintro e w3 ⟨rfl, hb3⟩
      have HB3 : Hid _ := hb3
      have HR3 : Hid (Rdr w3 r d') := HR.out.up hb3
      have hc3 := HR3.out.cell
      have hf3 := HR3.out.frz
      clear hb3 hc hf
      go_wp2_with fail
      go_ret2
      have hx : (d'.extract 0 n).size = n := by rw [ByteArray.size_extract]; have := HX.out; omega
      have hsp : d'.data.toList = (d'.extract 0 n).data.toList ++ (d'.extract n d'.size).data.toList := by
        rw [ext_list, ext_take]
        exact (List.take_append_drop n _).symm
      refine ⟨gb_trans (gb_trans HG.out (gb_of HB3.out)) grown_set, _, HR3.out.set _, ?_, .inl ⟨d'.extract 0 n, ?_, ?_, rfl⟩⟩
      · exact Nat.le_trans (left_le hsp) HL.out
      · show (d'.extract 0 n).size ≤ 16
        rw [hx]; exact HN.out
      · unfold tx
        rw [hx, List.append_assoc, ← hsp]
        exact HD.out
  · have HN : Hid _ := hno
    have HR : Hid (Rdr w2 r d) := hr
    clear hno hr
    go_wp2_with fail
    go_ret2
    exact ⟨HG.out, d, HR.out, Nat.le_refl _, .inr ⟨fun x q hx e => HN.out x.size (x.data.toList ++ q) hx (by rw [e]; unfold tx; rw [List.append_assoc]), _, rfl, rfl⟩⟩
end Go.Proofs.Ytkaciochlemjiab
namespace Go.Proofs.Ytkaciochlemjiab
open Go.RowKit Go.Maps

set_option maxRecDepth 100000 in
set_option maxHeartbeats 8000000 in
theorem rfrm_any {r : Nat} {d : ByteArray} (hz : d.size ≤ 140737488355328) (W : World) (h : Rdr W r d) :
    Calls Try.prog 55 #[.pointer (some ⟨r, 0, none⟩)] W fun e W' => Itm frb okW fV (fun v => ∃ m : Int, v = .agg #[.int .i64 m, .string ⟨#[]⟩]) r d W e W' := by
  obtain ⟨W1, hW1⟩ : ∃ W1, W1 = W.alloc (.cells #[.int .i64 0, .string ⟨#[]⟩] 42) := ⟨_, rfl⟩
  have HP : Hid (W1.heap[W.heap.size]? = some (.cells #[.int .i64 0, .string ⟨#[]⟩] 42 (0, 0))) := by rw [hW1]; exact heap_new W _
  have HR1 : Hid (Rdr W1 r d) := by rw [hW1]; exact h.up (bel_up _ _)
  have HG1 : Hid (W.grownBy W1 (some r)) := by rw [hW1]; exact gb_of (bel_up _ _)
  have HRL : Hid (r < W.heap.size) := lt_of_heap h
  have HC : Hid _ := num_rd 15 (by omega) hz W1 HR1.out
  have HW : Hid (W1 = W.alloc (.cells #[.int .i64 0, .string ⟨#[]⟩] 42)) := hW1
  have HZ : Hid (d.size ≤ 140737488355328) := hz
  clear h hz hW1
  go_enter Try.func55, Try.ntmps55
  go_upto_region 1 with fail
  rw [← HW.out]
  go_wp2_with fail
  refine Calls.mono HC.out ?_
  rintro e w2 ⟨hg, hh⟩
  have HG2 : Hid (W.grownBy w2 (some r)) := gb_trans HG1.out hg
  have hp2 : w2.heap[W.heap.size]? = some (.cells #[.int .i64 0, .string ⟨#[]⟩] 42 (0, 0)) := by rw [hg.block _ (lt_of_heap HP.out) (by have := HRL.out; simp; omega)]; exact HP.out
  have HP2 : Hid _ := hp2
  clear hg
  rcases hh with ⟨n, d', hn, hd, hr, hl, rfl⟩ | ⟨hno, hr, rfl⟩
  · have HN : Hid _ := hn
    have HD : Hid _ := hd
    have HR : Hid (Rdr w2 r d') := hr
    have HL : Hid _ := hl
    have HCD : Hid _ := rdel_any (d := d') (Nat.le_trans hl HZ.out) w2 hr
    clear hn hd hr hl hp2
    go_wp2_with fail
    refine Calls.mono HCD.out ?_
    rintro e w3 ⟨hg3, d3, hr3, hl3, hh3⟩
    have HG3 : Hid (W.grownBy w3 (some r)) := gb_trans HG2.out hg3
    have hp3 : w3.heap[W.heap.size]? = some (.cells #[.int .i64 0, .string ⟨#[]⟩] 42 (0, 0)) := by rw [hg3.block _ (lt_of_heap HP2.out) (by have := HRL.out; simp; omega)]; exact HP2.out
    have z0 : w3.cell? ⟨W.heap.size, 0, none⟩ = some (.int .i64 0) := by rw [Lib.cell_of_heap hp3]; rfl
    have z1 : w3.cell? ⟨W.heap.size, 1, none⟩ = some (.string ⟨#[]⟩) := by rw [Lib.cell_of_heap hp3]; rfl
    have zf : ∀ k, w3.frozen? ⟨W.heap.size, k, none⟩ = false := fun k => Lib.frozen_of_heap hp3 k
    have HR3 : Hid (Rdr w3 r d3) := hr3
    have HL3 : Hid (d3.size ≤ d.size) := Nat.le_trans hl3 HL.out
    clear hg3 hp3 hr3 hl3
    rcases hh3 with ⟨x, hx, hd3, rfl⟩ | ⟨hno, v, rfl, rfl⟩
    · have HX : Hid _ := hx
      have HD3 : Hid _ := hd3
      clear hx hd3
      go_wp2_with fail
      (try simp only [Exit.inBlock, Exit.then])
      refine bodyPost_ret (v := .tuple #[.agg #[.int .i64 (n : Int), .string x], .int .i64 0]) ?_ rfl ?_
      · rw [results_cell_tmp rfl]; go_simp
      · refine ⟨gb_new (gb_new HG3.out (Nat.le_refl _)) (Nat.le_refl _), d3, (HR3.out.off (Nat.ne_of_lt HRL.out)).off (Nat.ne_of_lt HRL.out), HL3.out, .inl ⟨((n : Int), x), ⟨⟨by show (0 : Int) ≤ (n : Int); omega, by have := HN.out; show (n : Int) ≤ (15 : Nat); omega⟩, HX.out⟩, ?_, rfl⟩⟩
        show d.data.toList = nm ((n : Int)).toNat ++ tx x ++ d3.data.toList
        rw [Int.toNat_natCast, List.append_assoc, ← HD3.out]
        exact HD.out
    · have HX : Hid _ := hno
      clear hno
      go_wp2_with fail
      (try simp only [Exit.inBlock, Exit.then])
      refine bodyPost_ret (v := .tuple #[.agg #[.int .i64 (n : Int), .string ⟨#[]⟩], .int .i64 65]) ?_ rfl ?_
      · rw [results_cell_tmp rfl]; go_simp
      · refine ⟨gb_new (gb_new HG3.out (Nat.le_refl _)) (Nat.le_refl _), d3, (HR3.out.off (Nat.ne_of_lt HRL.out)).off (Nat.ne_of_lt HRL.out), HL3.out, .inr ⟨fun f q hf e => ?_, _, rfl, _, rfl⟩⟩
        rw [HD.out] at e
        unfold frb at e
        rw [List.append_assoc] at e
        exact HX.out f.2 q hf.2 (nm_pf e).2
  · have HN : Hid _ := hno
    have HR : Hid (Rdr w2 r d) := hr
    have z0 : w2.cell? ⟨W.heap.size, 0, none⟩ = some (.int .i64 0) := by rw [Lib.cell_of_heap hp2]; rfl
    have z1 : w2.cell? ⟨W.heap.size, 1, none⟩ = some (.string ⟨#[]⟩) := by rw [Lib.cell_of_heap hp2]; rfl
    have zf : ∀ k, w2.frozen? ⟨W.heap.size, k, none⟩ = false := fun k => Lib.frozen_of_heap hp2 k
    clear hno hr hp2
    go_wp2_with fail
    (try simp only [Exit.inBlock, Exit.then])
    refine bodyPost_ret (v := .tuple #[.agg #[.int .i64 0, .string ⟨#[]⟩], .int .i64 65]) ?_ rfl ?_
    · rw [results_cell_tmp rfl]; go_simp
    · refine ⟨gb_new (gb_new HG2.out (Nat.le_refl _)) (Nat.le_refl _), d, (HR.out.off (Nat.ne_of_lt HRL.out)).off (Nat.ne_of_lt HRL.out), Nat.le_refl _, .inr ⟨fun f q hf e => ?_, _, rfl, _, rfl⟩⟩
      unfold frb at e
      rw [List.append_assoc] at e
      exact HN.out f.1.toNat _ (by have := hf.1.1; have := hf.1.2; omega) e
end Go.Proofs.Ytkaciochlemjiab
namespace Go.Proofs.Ytkaciochlemjiab
open Go.RowKit Go.Maps

/-- What reading a list answers. -/
def Lst {α : Type} (en : α → List UInt8) (ok : α → Prop) (C : List α → List Value) (et : TypeId) (size most r : Nat) (d : ByteArray) (W : World) (e : Ending) (W' : World) : Prop :=
  W.grownBy W' (some r) ∧ ∃ d', Rdr W' r d' ∧ d'.size ≤ d.size ∧
    ((∃ l : List α, l.length ≤ most ∧ (∀ x ∈ l, ok x) ∧ d.data.toList = nm l.length ++ l.flatMap en ++ d'.data.toList ∧ ∃ v, e = .returned (.tuple #[v, .int .i64 0]) ∧ W'.ownsRow W.heap.size et size v l.length (C l)) ∨
     ((∀ (l : List α) (q : List UInt8), l.length ≤ most → (∀ x ∈ l, ok x) → d.data.toList ≠ nm l.length ++ l.flatMap en ++ q) ∧ e = .returned (.tuple #[.slice none 0 0, .int .i64 65])))
theorem row_base {W : World} {B B' : Nat} {e : TypeId} {size n : Nat} {v : Value} {xs : List Value} (h : W.ownsRow B e size v n xs) (hb : B' ≤ B) : W.ownsRow B' e size v n xs := by
  refine ⟨h.1, ?_⟩
  rcases h.2 with h | ⟨g, cap, cur, h0, h1, h2⟩
  · exact .inl h
  · exact .inr ⟨g, cap, cur, h0, Nat.le_trans hb h1, h2⟩
theorem gb_row {a b c : World} {r : Nat} {e : TypeId} {size n : Nat} {v : Value} {xs : List Value} (h : a.grownBy b (some r)) (hr : b.ownsRow a.heap.size e size v n xs) (hg : b.grownBy c v.ownBlock) : a.grownBy c (some r) :=
  ⟨hg.os.trans h.os, hg.tape.trans h.tape, hg.output.trans h.output, Nat.le_trans h.size hg.size, fun j hj hne => (hg.block j (Nat.lt_of_lt_of_le hj h.size) (fun e => by have := (row_tag hr j e.symm).1; omega)).trans (h.block j hj hne)⟩
theorem rdr_row {b c : World} {r : Nat} {d : ByteArray} {B : Nat} {e : TypeId} {size n : Nat} {v : Value} {xs : List Value} (h : Rdr b r d) (hr : b.ownsRow B e size v n xs) (hg : b.grownBy c v.ownBlock) (he : e ≠ 56) : Rdr c r d := by
  show c.heap[r]? = _
  rw [hg.block r (lt_of_heap h) (fun e => tag_ne_blk hr h he e.symm)]
  exact h
theorem cell_two_nxt (w : World) (o : Obj) (x y : Value) (t : TypeId) : ∀ j u, [x, y][j]? = some u → ((w.alloc o).alloc (.cells #[x, y] t)).cell? ((⟨w.heap.size + 1, 0, none⟩ : Addr).add j) = some u := by
  have := cell_two_new (w.alloc o) x y t
  rw [World.size_alloc] at this
  exact this
/-- A thing that can't be read: no list goes on from here. -/
theorem no_more {α : Type} {en : α → List UInt8} {ok : α → Prop} (hp : Pfx en ok) {n : Nat} {xs : List α} {d d1 dj : List UInt8} (hd : d = nm n ++ d1) (h1 : d1 = xs.flatMap en ++ dj) (hx : ∀ x ∈ xs, ok x) (hl : xs.length < n) (hno : ∀ x q, ok x → dj ≠ en x ++ q) (l : List α) (q : List UInt8) (hlo : ∀ x ∈ l, ok x) : d ≠ nm l.length ++ l.flatMap en ++ q := by
  intro e
  rw [hd, List.append_assoc] at e
  obtain ⟨e1, e2⟩ := nm_pf e
  rw [h1] at e2
  obtain ⟨l', h3, h4⟩ := flat_split hp xs l dj q hx hlo (by omega) e2
  cases l' with
  | nil => rw [h3] at e1; simp at e1; omega
  | cons y l'' =>
    refine hno y (l''.flatMap en ++ q) (hlo y (by rw [h3]; simp)) ?_
    rw [h4, List.flatMap_cons, List.append_assoc]

set_option maxRecDepth 100000 in
set_option maxHeartbeats 8000000 in
theorem lis53_any {r : Nat} {d : ByteArray} (hz : d.size ≤ 140737488355328) (W : World) (h : Rdr W r d) :
    Calls Try.prog 49 #[.pointer (some ⟨r, 0, none⟩), .int .i64 32, .func (.func 50) #[.pointer (some ⟨r, 0, none⟩)] #[]] W fun e W' => Lst nmi (okI 65536) iC 3 1 32 r d W e W' := by
  have HC : Hid _ := num_rd 32 (by omega) hz W h
  have HZ : Hid (d.size ≤ 140737488355328) := hz
  obtain ⟨iE, hi3, hx0, hx1, hx2⟩ := info_parts info3
  clear h hz
  go_enter Try.func49, Try.ntmps49
  go_wp2_with fail
  refine Calls.mono HC.out ?_
  rintro e w2 ⟨hg, hh⟩
  have HG2 : Hid (W.grownBy w2 (some r)) := hg
  clear hg
  rcases hh with ⟨n, d1, hn, hd, hr, hl, rfl⟩ | ⟨hno, hr, rfl⟩
  · have HN : Hid (n ≤ 32) := hn
    have HD : Hid (d.data.toList = nm n ++ d1.data.toList) := hd
    have HR : Hid (Rdr w2 r d1) := hr
    have HL : Hid (d1.size ≤ d.size) := hl
    clear hn hd hr hl
    go_wp2_with fail
    refine (grw72_any n HN.out w2).mono ?_
    rintro e w3 ⟨v3, rfl, ho3, hb3⟩
    have HO3 : Hid (w3.ownsRow W.heap.size 3 1 v3 0 (iC [])) := row_base ho3 HG2.out.size
    have HR3 : Hid (Rdr w3 r d1) := HR.out.up hb3
    have HG3 : Hid (W.grownBy w3 (some r)) := gb_trans HG2.out (gb_of hb3)
    clear ho3 hb3
    go_wp2_with fail
    go_loopg [10, 25] (n + 1) (fun gm v10 v25 wr => ∃ (xs : List (Int)) (dj : ByteArray), v25 = .int .i64 (xs.length : Int) ∧ Hid (xs.length ≤ n ∧ gm = n + 1 - xs.length) ∧ Hid (∀ x ∈ xs, (okI 65536) x) ∧ Hid (d1.data.toList = xs.flatMap nmi ++ dj.data.toList) ∧ Hid (Rdr wr r dj) ∧ Hid (dj.size ≤ d.size) ∧ Hid (wr.ownsRow W.heap.size 3 1 v10 xs.length (iC xs)) ∧ Hid (W.grownBy wr (some r)))
    case atStart => exact ⟨[], d1, rfl, ⟨Nat.zero_le _, rfl⟩, fun x hx => (by cases hx), rfl, HR3, HL, HO3, HG3⟩
    case round =>
      obtain ⟨xs, dj, rfl, HI, HXS, HD1, HRJ, HLJ, HO, HGJ⟩ := hrel
      obtain ⟨j, hj⟩ : ∃ j, xs.length = j := ⟨_, rfl⟩
      have HJ : Hid (xs.length = j) := hj
      rw [hj] at HI HO
      rw [hj]
      clear hj
      obtain ⟨la, lc, hv⟩ := row_shape HO.out
      subst hv
      by_cases hjn : j < n
      · have e1 : decide ((j : Int) < (n : Int)) = true := by rw [decide_eq_true_eq]; omega
        have e2 : decide (j < n) = true := by rw [decide_eq_true_eq]; exact hjn
        have HJN : Hid (j < n) := hjn
        have hjw : wrap64 ((j : Int) + 1) = (j : Int) + 1 := by have := HN.out; unfold wrap64; omega
        have HCI : Hid _ := rind_any (r := r) (d := dj) (Nat.le_trans HLJ.out HZ.out) wr HRJ.out
        clear hjn
        go_wp2_with fail
        refine Calls.mono HCI.out ?_
        rintro e w5 ⟨hg5, d5, hr5, hl5, hh5⟩
        have HG5 : Hid (W.grownBy w5 (some r)) := gb_trans HGJ.out hg5
        have HO5 : Hid (w5.ownsRow W.heap.size 3 1 (.slice la j lc) j (iC xs)) := HO.out.kept hg5 (.inr (tag_ne_blk HO.out HRJ.out (by decide)))
        have HR5 : Hid (Rdr w5 r d5) := hr5
        have HL5 : Hid (d5.size ≤ d.size) := Nat.le_trans hl5 HLJ.out
        clear hg5 hr5 hl5
        rcases hh5 with ⟨x, hx, hd5, rfl⟩ | ⟨hno, v, rfl, -⟩
        · have HX : Hid ((okI 65536) x) := hx
          have HD5 : Hid (dj.data.toList = nmi x ++ d5.data.toList) := hd5
          have HROW : Hid ((w5.alloc (.cells #[.int .i64 x] 3)).ownsRow W.heap.size 3 1 (.slice la j lc) j (iC xs)) := HO5.out.alloc _
          have HSB : Hid (W.heap.size ≤ (w5.alloc (.cells #[.int .i64 x] 3)).heap.size) := by have := HG5.out.size; show _ ≤ _; simp; omega
          have HGA : Hid (W.grownBy (w5.alloc (.cells #[.int .i64 x] 3)) (some r)) := gb_trans HG5.out (gb_of (bel_up _ _))
          have HRA : Hid (Rdr (w5.alloc (.cells #[.int .i64 x] 3)) r d5) := HR5.out.up (bel_up _ _)
          clear hx hd5
          skip
          go_wp2_with (at_builtin; refine wpList_append_own _ rfl _ _ 22 rfl W.heap.size 3 iE (.int .i64 0) 1 8 Try.underlying22 hi3 hx0 hx1 hx2 rfl (by decide) _ _ _ rfl HROW.out ⟨w5.heap.size, 0, none⟩ 1 1 [.int .i64 x] rfl rfl (cell_one_new _ _ _) (by simp [Value.oneCell']) (by have := HN.out; have := HJN.out; unfold maxLen; omega) (by have := HN.out; have := HJN.out; omega) HSB.out ?_; intro v6 w6 ho6 hg6 _; have HO6 : Hid _ := ho6; have HG6 : Hid _ := hg6; obtain ⟨qa, qc, rfl⟩ := row_shape ho6; clear ho6 hg6)
          go_roundg (n + 1 - (j + 1))
          case measure => have := HI.out; have := HJN.out; omega
          case rel =>
            have hlen : (xs ++ [x]).length = j + 1 := by rw [List.length_append, HJ.out]; rfl
            refine ⟨xs ++ [x], d5, by rw [hlen]; first | rfl | (rw [show (j : Int) + 1 = ((j + 1 : Nat) : Int) by omega]; done) | (congr 1; done) | (congr 1; unfold wrap64; have := HN.out; have := HJN.out; omega), ⟨by rw [hlen]; exact HJN.out, by rw [hlen]⟩, ?_, ?_, rdr_row HRA.out HROW.out HG6.out (by decide), HL5, ?_, gb_row HGA.out HROW.out HG6.out⟩
            · intro y hy
              rcases List.mem_append.1 hy with h | h
              · exact HXS.out y h
              · simp at h; subst h; exact HX.out
            · show d1.data.toList = _
              rw [HD1.out, HD5.out, List.flatMap_append, List.flatMap_cons, List.flatMap_nil, List.append_nil, List.append_assoc]
            · rw [hlen, iC_app]; exact HO6.out
        · have HX : Hid (∀ x q, (okI 65536) x → dj.data.toList ≠ nmi x ++ q) := hno
          clear hno
          go_wp2_with fail
          go_ret2
          exact ⟨HG5.out, d5, HR5.out, HL5.out, .inr ⟨fun l q _ hlo => no_more (nmi_pfx 65536) HD.out HD1.out HXS.out (by rw [HJ.out]; exact HJN.out) HX.out l q hlo, rfl⟩⟩
      · have e1 : decide ((j : Int) < (n : Int)) = false := by rw [decide_eq_false_iff_not]; omega
        have e2 : decide (j < n) = false := by rw [decide_eq_false_iff_not]; exact hjn
        have hje : j = n := by have := HI.out; omega
        have HJE : Hid (j = n) := hje
        clear hjn hje
        go_wp2_with fail
        go_ret2
        refine ⟨HGJ.out, dj, HRJ.out, HLJ.out, .inl ⟨xs, by rw [HJ.out, HJE.out]; exact HN.out, HXS.out, ?_, _, rfl, by rw [HJ.out]; exact HO.out⟩⟩
        rw [HJ.out, HJE.out, List.append_assoc, ← HD1.out]
        exact HD.out
  · have HN : Hid (∀ n q, n ≤ 32 → d.data.toList ≠ nm n ++ q) := hno
    have HR : Hid (Rdr w2 r d) := hr
    clear hno hr
    go_wp2_with fail
    go_ret2
    exact ⟨HG2.out, d, HR.out, Nat.le_refl _, .inr ⟨fun l q hl _ e => HN.out l.length (l.flatMap nmi ++ q) hl (by rw [e, List.append_assoc]), rfl⟩⟩

set_option maxRecDepth 100000 in
set_option maxHeartbeats 8000000 in
theorem lis56_any {r : Nat} {d : ByteArray} (hz : d.size ≤ 140737488355328) (W : World) (h : Rdr W r d) :
    Calls Try.prog 52 #[.pointer (some ⟨r, 0, none⟩), .int .i64 8, .func (.func 53) #[.pointer (some ⟨r, 0, none⟩)] #[]] W fun e W' => Lst tx okT qC 9 1 8 r d W e W' := by
  have HC : Hid _ := num_rd 8 (by omega) hz W h
  have HZ : Hid (d.size ≤ 140737488355328) := hz
  obtain ⟨iE, hi3, hx0, hx1, hx2⟩ := info_parts info9
  clear h hz
  go_enter Try.func52, Try.ntmps52
  go_wp2_with fail
  refine Calls.mono HC.out ?_
  rintro e w2 ⟨hg, hh⟩
  have HG2 : Hid (W.grownBy w2 (some r)) := hg
  clear hg
  rcases hh with ⟨n, d1, hn, hd, hr, hl, rfl⟩ | ⟨hno, hr, rfl⟩
  · have HN : Hid (n ≤ 8) := hn
    have HD : Hid (d.data.toList = nm n ++ d1.data.toList) := hd
    have HR : Hid (Rdr w2 r d1) := hr
    have HL : Hid (d1.size ≤ d.size) := hl
    clear hn hd hr hl
    go_wp2_with fail
    refine (grw73_any n HN.out w2).mono ?_
    rintro e w3 ⟨v3, rfl, ho3, hb3⟩
    have HO3 : Hid (w3.ownsRow W.heap.size 9 1 v3 0 (qC [])) := row_base ho3 HG2.out.size
    have HR3 : Hid (Rdr w3 r d1) := HR.out.up hb3
    have HG3 : Hid (W.grownBy w3 (some r)) := gb_trans HG2.out (gb_of hb3)
    clear ho3 hb3
    go_wp2_with fail
    go_loopg [10, 25] (n + 1) (fun gm v10 v25 wr => ∃ (xs : List (ByteArray)) (dj : ByteArray), v25 = .int .i64 (xs.length : Int) ∧ Hid (xs.length ≤ n ∧ gm = n + 1 - xs.length) ∧ Hid (∀ x ∈ xs, okT x) ∧ Hid (d1.data.toList = xs.flatMap tx ++ dj.data.toList) ∧ Hid (Rdr wr r dj) ∧ Hid (dj.size ≤ d.size) ∧ Hid (wr.ownsRow W.heap.size 9 1 v10 xs.length (qC xs)) ∧ Hid (W.grownBy wr (some r)))
    case atStart => exact ⟨[], d1, rfl, ⟨Nat.zero_le _, rfl⟩, fun x hx => (by cases hx), rfl, HR3, HL, HO3, HG3⟩
    case round =>
      obtain ⟨xs, dj, rfl, HI, HXS, HD1, HRJ, HLJ, HO, HGJ⟩ := hrel
      obtain ⟨j, hj⟩ : ∃ j, xs.length = j := ⟨_, rfl⟩
      have HJ : Hid (xs.length = j) := hj
      rw [hj] at HI HO
      rw [hj]
      clear hj
      obtain ⟨la, lc, hv⟩ := row_shape HO.out
      subst hv
      by_cases hjn : j < n
      · have e1 : decide ((j : Int) < (n : Int)) = true := by rw [decide_eq_true_eq]; omega
        have e2 : decide (j < n) = true := by rw [decide_eq_true_eq]; exact hjn
        have HJN : Hid (j < n) := hjn
        have hjw : wrap64 ((j : Int) + 1) = (j : Int) + 1 := by have := HN.out; unfold wrap64; omega
        have HCI : Hid _ := rdel_any (r := r) (d := dj) (Nat.le_trans HLJ.out HZ.out) wr HRJ.out
        clear hjn
        go_wp2_with fail
        refine Calls.mono HCI.out ?_
        rintro e w5 ⟨hg5, d5, hr5, hl5, hh5⟩
        have HG5 : Hid (W.grownBy w5 (some r)) := gb_trans HGJ.out hg5
        have HO5 : Hid (w5.ownsRow W.heap.size 9 1 (.slice la j lc) j (qC xs)) := HO.out.kept hg5 (.inr (tag_ne_blk HO.out HRJ.out (by decide)))
        have HR5 : Hid (Rdr w5 r d5) := hr5
        have HL5 : Hid (d5.size ≤ d.size) := Nat.le_trans hl5 HLJ.out
        clear hg5 hr5 hl5
        rcases hh5 with ⟨x, hx, hd5, rfl⟩ | ⟨hno, v, rfl, -⟩
        · have HX : Hid (okT x) := hx
          have HD5 : Hid (dj.data.toList = tx x ++ d5.data.toList) := hd5
          have HROW : Hid ((w5.alloc (.cells #[.string x] 9)).ownsRow W.heap.size 9 1 (.slice la j lc) j (qC xs)) := HO5.out.alloc _
          have HSB : Hid (W.heap.size ≤ (w5.alloc (.cells #[.string x] 9)).heap.size) := by have := HG5.out.size; show _ ≤ _; simp; omega
          have HGA : Hid (W.grownBy (w5.alloc (.cells #[.string x] 9)) (some r)) := gb_trans HG5.out (gb_of (bel_up _ _))
          have HRA : Hid (Rdr (w5.alloc (.cells #[.string x] 9)) r d5) := HR5.out.up (bel_up _ _)
          clear hx hd5
          skip
          go_wp2_with (at_builtin; refine wpList_append_own _ rfl _ _ 23 rfl W.heap.size 9 iE (.string ⟨#[]⟩) 1 16 Try.underlying23 hi3 hx0 hx1 hx2 rfl (by decide) _ _ _ rfl HROW.out ⟨w5.heap.size, 0, none⟩ 1 1 [.string x] rfl rfl (cell_one_new _ _ _) (by simp [Value.oneCell']) (by have := HN.out; have := HJN.out; unfold maxLen; omega) (by have := HN.out; have := HJN.out; omega) HSB.out ?_; intro v6 w6 ho6 hg6 _; have HO6 : Hid _ := ho6; have HG6 : Hid _ := hg6; obtain ⟨qa, qc, rfl⟩ := row_shape ho6; clear ho6 hg6)
          go_roundg (n + 1 - (j + 1))
          case measure => have := HI.out; have := HJN.out; omega
          case rel =>
            have hlen : (xs ++ [x]).length = j + 1 := by rw [List.length_append, HJ.out]; rfl
            refine ⟨xs ++ [x], d5, by rw [hlen]; first | rfl | (rw [show (j : Int) + 1 = ((j + 1 : Nat) : Int) by omega]; done) | (congr 1; done) | (congr 1; unfold wrap64; have := HN.out; have := HJN.out; omega), ⟨by rw [hlen]; exact HJN.out, by rw [hlen]⟩, ?_, ?_, rdr_row HRA.out HROW.out HG6.out (by decide), HL5, ?_, gb_row HGA.out HROW.out HG6.out⟩
            · intro y hy
              rcases List.mem_append.1 hy with h | h
              · exact HXS.out y h
              · simp at h; subst h; exact HX.out
            · show d1.data.toList = _
              rw [HD1.out, HD5.out, List.flatMap_append, List.flatMap_cons, List.flatMap_nil, List.append_nil, List.append_assoc]
            · rw [hlen, qC_app]; exact HO6.out
        · have HX : Hid (∀ x q, okT x → dj.data.toList ≠ tx x ++ q) := hno
          clear hno
          go_wp2_with fail
          go_ret2
          exact ⟨HG5.out, d5, HR5.out, HL5.out, .inr ⟨fun l q _ hlo => no_more tx_pfx HD.out HD1.out HXS.out (by rw [HJ.out]; exact HJN.out) HX.out l q hlo, rfl⟩⟩
      · have e1 : decide ((j : Int) < (n : Int)) = false := by rw [decide_eq_false_iff_not]; omega
        have e2 : decide (j < n) = false := by rw [decide_eq_false_iff_not]; exact hjn
        have hje : j = n := by have := HI.out; omega
        have HJE : Hid (j = n) := hje
        clear hjn hje
        go_wp2_with fail
        go_ret2
        refine ⟨HGJ.out, dj, HRJ.out, HLJ.out, .inl ⟨xs, by rw [HJ.out, HJE.out]; exact HN.out, HXS.out, ?_, _, rfl, by rw [HJ.out]; exact HO.out⟩⟩
        rw [HJ.out, HJE.out, List.append_assoc, ← HD1.out]
        exact HD.out
  · have HN : Hid (∀ n q, n ≤ 8 → d.data.toList ≠ nm n ++ q) := hno
    have HR : Hid (Rdr w2 r d) := hr
    clear hno hr
    go_wp2_with fail
    go_ret2
    exact ⟨HG2.out, d, HR.out, Nat.le_refl _, .inr ⟨fun l q hl _ e => HN.out l.length (l.flatMap tx ++ q) hl (by rw [e, List.append_assoc]), rfl⟩⟩

set_option maxRecDepth 100000 in
set_option maxHeartbeats 8000000 in
theorem lis58_any {r : Nat} {d : ByteArray} (hz : d.size ≤ 140737488355328) (W : World) (h : Rdr W r d) :
    Calls Try.prog 54 #[.pointer (some ⟨r, 0, none⟩), .int .i64 16, .func (.func 55) #[.pointer (some ⟨r, 0, none⟩)] #[]] W fun e W' => Lst frb okW fC 42 2 16 r d W e W' := by
  have HC : Hid _ := num_rd 16 (by omega) hz W h
  have HZ : Hid (d.size ≤ 140737488355328) := hz
  obtain ⟨iE, hi3, hx0, hx1, hx2⟩ := info_parts info54
  clear h hz
  go_enter Try.func54, Try.ntmps54
  go_wp2_with fail
  refine Calls.mono HC.out ?_
  rintro e w2 ⟨hg, hh⟩
  have HG2 : Hid (W.grownBy w2 (some r)) := hg
  clear hg
  rcases hh with ⟨n, d1, hn, hd, hr, hl, rfl⟩ | ⟨hno, hr, rfl⟩
  · have HN : Hid (n ≤ 16) := hn
    have HD : Hid (d.data.toList = nm n ++ d1.data.toList) := hd
    have HR : Hid (Rdr w2 r d1) := hr
    have HL : Hid (d1.size ≤ d.size) := hl
    clear hn hd hr hl
    go_wp2_with fail
    refine (grw74_any n HN.out w2).mono ?_
    rintro e w3 ⟨v3, rfl, ho3, hb3⟩
    have HO3 : Hid (w3.ownsRow W.heap.size 42 2 v3 0 (fC [])) := row_base ho3 HG2.out.size
    have HR3 : Hid (Rdr w3 r d1) := HR.out.up hb3
    have HG3 : Hid (W.grownBy w3 (some r)) := gb_trans HG2.out (gb_of hb3)
    clear ho3 hb3
    go_wp2_with fail
    go_loopg [10, 25] (n + 1) (fun gm v10 v25 wr => ∃ (xs : List (Int × ByteArray)) (dj : ByteArray), v25 = .int .i64 (xs.length : Int) ∧ Hid (xs.length ≤ n ∧ gm = n + 1 - xs.length) ∧ Hid (∀ x ∈ xs, okW x) ∧ Hid (d1.data.toList = xs.flatMap frb ++ dj.data.toList) ∧ Hid (Rdr wr r dj) ∧ Hid (dj.size ≤ d.size) ∧ Hid (wr.ownsRow W.heap.size 42 2 v10 xs.length (fC xs)) ∧ Hid (W.grownBy wr (some r)))
    case atStart => exact ⟨[], d1, rfl, ⟨Nat.zero_le _, rfl⟩, fun x hx => (by cases hx), rfl, HR3, HL, HO3, HG3⟩
    case round =>
      obtain ⟨xs, dj, rfl, HI, HXS, HD1, HRJ, HLJ, HO, HGJ⟩ := hrel
      obtain ⟨j, hj⟩ : ∃ j, xs.length = j := ⟨_, rfl⟩
      have HJ : Hid (xs.length = j) := hj
      rw [hj] at HI HO
      rw [hj]
      clear hj
      obtain ⟨la, lc, hv⟩ := row_shape HO.out
      subst hv
      by_cases hjn : j < n
      · have e1 : decide ((j : Int) < (n : Int)) = true := by rw [decide_eq_true_eq]; omega
        have e2 : decide (j < n) = true := by rw [decide_eq_true_eq]; exact hjn
        have HJN : Hid (j < n) := hjn
        have hjw : wrap64 ((j : Int) + 1) = (j : Int) + 1 := by have := HN.out; unfold wrap64; omega
        have HCI : Hid _ := rfrm_any (r := r) (d := dj) (Nat.le_trans HLJ.out HZ.out) wr HRJ.out
        clear hjn
        go_wp2_with fail
        refine Calls.mono HCI.out ?_
        rintro e w5 ⟨hg5, d5, hr5, hl5, hh5⟩
        have HG5 : Hid (W.grownBy w5 (some r)) := gb_trans HGJ.out hg5
        have HO5 : Hid (w5.ownsRow W.heap.size 42 2 (.slice la j lc) j (fC xs)) := HO.out.kept hg5 (.inr (tag_ne_blk HO.out HRJ.out (by decide)))
        have HR5 : Hid (Rdr w5 r d5) := hr5
        have HL5 : Hid (d5.size ≤ d.size) := Nat.le_trans hl5 HLJ.out
        clear hg5 hr5 hl5
        rcases hh5 with ⟨⟨xm, xt⟩, hx, hd5, rfl⟩ | ⟨hno, v, rfl, mv, rfl⟩
        · have HX : Hid (okW (xm, xt)) := hx
          have HD5 : Hid (dj.data.toList = frb (xm, xt) ++ d5.data.toList) := hd5
          have HROW : Hid (((w5.alloc (.cells #[.int .i64 xm, .string xt] 42)).alloc (.cells #[.int .i64 xm, .string xt] 42)).ownsRow W.heap.size 42 2 (.slice la j lc) j (fC xs)) := (HO5.out.alloc _).alloc _
          have HSB : Hid (W.heap.size ≤ ((w5.alloc (.cells #[.int .i64 xm, .string xt] 42)).alloc (.cells #[.int .i64 xm, .string xt] 42)).heap.size) := by have := HG5.out.size; show _ ≤ _; simp; omega
          have HGA : Hid (W.grownBy ((w5.alloc (.cells #[.int .i64 xm, .string xt] 42)).alloc (.cells #[.int .i64 xm, .string xt] 42)) (some r)) := gb_trans (gb_trans HG5.out (gb_of (bel_up _ _))) (gb_of (bel_up _ _))
          have HRA : Hid (Rdr ((w5.alloc (.cells #[.int .i64 xm, .string xt] 42)).alloc (.cells #[.int .i64 xm, .string xt] 42)) r d5) := (HR5.out.up (bel_up _ _)).up (bel_up _ _)
          clear hx hd5
          simp only [fV]
          go_wp2_with (at_builtin; refine wpList_append_own _ rfl _ _ 24 rfl W.heap.size 42 iE (.agg #[.int .i64 0, .string ⟨#[]⟩]) 2 24 Try.underlying24 hi3 hx0 hx1 hx2 rfl (by decide) _ _ _ rfl HROW.out ⟨w5.heap.size + 1, 0, none⟩ 1 1 [.int .i64 xm, .string xt] rfl rfl (cell_two_nxt _ _ _ _ _) (by simp [Value.oneCell']) (by have := HN.out; have := HJN.out; unfold maxLen; omega) (by have := HN.out; have := HJN.out; omega) HSB.out ?_; intro v6 w6 ho6 hg6 _; have HO6 : Hid _ := ho6; have HG6 : Hid _ := hg6; obtain ⟨qa, qc, rfl⟩ := row_shape ho6; clear ho6 hg6)
          go_roundg (n + 1 - (j + 1))
          case measure => have := HI.out; have := HJN.out; omega
          case rel =>
            have hlen : (xs ++ [(xm, xt)]).length = j + 1 := by rw [List.length_append, HJ.out]; rfl
            refine ⟨xs ++ [(xm, xt)], d5, by rw [hlen]; first | rfl | (rw [show (j : Int) + 1 = ((j + 1 : Nat) : Int) by omega]; done) | (congr 1; done) | (congr 1; unfold wrap64; have := HN.out; have := HJN.out; omega), ⟨by rw [hlen]; exact HJN.out, by rw [hlen]⟩, ?_, ?_, rdr_row HRA.out HROW.out HG6.out (by decide), HL5, ?_, gb_row HGA.out HROW.out HG6.out⟩
            · intro y hy
              rcases List.mem_append.1 hy with h | h
              · exact HXS.out y h
              · simp at h; subst h; exact HX.out
            · show d1.data.toList = _
              rw [HD1.out, HD5.out, List.flatMap_append, List.flatMap_cons, List.flatMap_nil, List.append_nil, List.append_assoc]
            · rw [hlen, fC_app]; exact HO6.out
        · have HX : Hid (∀ x q, okW x → dj.data.toList ≠ frb x ++ q) := hno
          clear hno
          go_wp2_with fail
          go_ret2
          exact ⟨gb_trans HG5.out (gb_of (bel_up _ _)), d5, HR5.out.up (bel_up _ _), HL5.out, .inr ⟨fun l q _ hlo => no_more frb_pfx HD.out HD1.out HXS.out (by rw [HJ.out]; exact HJN.out) HX.out l q hlo, rfl⟩⟩
      · have e1 : decide ((j : Int) < (n : Int)) = false := by rw [decide_eq_false_iff_not]; omega
        have e2 : decide (j < n) = false := by rw [decide_eq_false_iff_not]; exact hjn
        have hje : j = n := by have := HI.out; omega
        have HJE : Hid (j = n) := hje
        clear hjn hje
        go_wp2_with fail
        go_ret2
        refine ⟨HGJ.out, dj, HRJ.out, HLJ.out, .inl ⟨xs, by rw [HJ.out, HJE.out]; exact HN.out, HXS.out, ?_, _, rfl, by rw [HJ.out]; exact HO.out⟩⟩
        rw [HJ.out, HJE.out, List.append_assoc, ← HD1.out]
        exact HD.out
  · have HN : Hid (∀ n q, n ≤ 16 → d.data.toList ≠ nm n ++ q) := hno
    have HR : Hid (Rdr w2 r d) := hr
    clear hno hr
    go_wp2_with fail
    go_ret2
    exact ⟨HG2.out, d, HR.out, Nat.le_refl _, .inr ⟨fun l q hl _ e => HN.out l.length (l.flatMap frb ++ q) hl (by rw [e, List.append_assoc]), rfl⟩⟩
end Go.Proofs.Ytkaciochlemjiab
