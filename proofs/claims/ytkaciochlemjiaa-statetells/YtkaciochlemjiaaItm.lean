import Derived.Test.YtkaciochlemjiaaRdn
import Derived.Test.YtkaciochlemjiaaGro
import Derived.Test.YtkaciochlemjiaaGpr
namespace Go.Proofs.Ytkaciochlemjiaa
open Go.RowKit Go.Maps

/-- A reader that has d left. -/
def Rdr (W : World) (r : Nat) (d : ByteArray) : Prop := W.heap[r]? = some (.cells #[.string d] 61 (0, 0))
theorem Rdr.cell {W : World} {r : Nat} {d : ByteArray} (h : Rdr W r d) : W.cell? ⟨r, 0, none⟩ = some (.string d) := by rw [Lib.cell_of_heap h]; rfl
theorem Rdr.frz {W : World} {r : Nat} {d : ByteArray} (h : Rdr W r d) : W.frozen? ⟨r, 0, none⟩ = false := Lib.frozen_of_heap h 0
theorem Rdr.up {W W' : World} {r : Nat} {d : ByteArray} (h : Rdr W r d) (hb : Below W.heap.size W W') : Rdr W' r d := by
  show W'.heap[r]? = _
  rw [hb.block r (lt_of_heap h)]; exact h
theorem Rdr.set {W : World} {r : Nat} {d : ByteArray} (h : Rdr W r d) (d' : ByteArray) : Rdr (W.setCell ⟨r, 0, none⟩ (.string d')) r d' := by
  show (W.setCell ⟨r, 0, none⟩ (.string d')).heap[r]? = _
  rw [blk_set _ h]; rfl
theorem Rdr.off {W : World} {r p k : Nat} {d : ByteArray} {v : Value} (h : Rdr W r d) (hp : r ≠ p) : Rdr (W.setCell ⟨p, k, none⟩ v) r d := by
  show (W.setCell ⟨p, k, none⟩ v).heap[r]? = _
  rw [Below.heap_setCell _ _ _ _ hp]; exact h
theorem gb_trans {a b c : World} {o : Option Nat} (h : a.grownBy b o) (k : b.grownBy c o) : a.grownBy c o :=
  ⟨k.os.trans h.os, k.tape.trans h.tape, k.output.trans h.output, Nat.le_trans h.size k.size, fun j hj hne => (k.block j (Nat.lt_of_lt_of_le hj h.size) hne).trans (h.block j hj hne)⟩
theorem gb_new {a b : World} {o : Option Nat} {p k : Nat} {v : Value} (h : a.grownBy b o) (hp : a.heap.size ≤ p) : a.grownBy (b.setCell ⟨p, k, none⟩ v) o :=
  ⟨h.os, h.tape, h.output, by simpa using h.size, fun j hj hne => (Below.heap_setCell b ⟨p, k, none⟩ v j (fun e => by subst e; omega)).trans (h.block j hj hne)⟩
theorem gb_of {W W' : World} {o : Option Nat} (h : Below W.heap.size W W') : W.grownBy W' o := ⟨h.os, h.tape, h.output, h.size, fun k hk _ => h.block k hk⟩
theorem gb_refl (W : World) (o : Option Nat) : W.grownBy W o := ⟨rfl, rfl, rfl, Nat.le_refl _, fun _ _ _ => rfl⟩
/-- Bytes that say where they end. -/
def Pfx {α : Type} (en : α → List UInt8) (ok : α → Prop) : Prop := ∀ x y p q, ok x → ok y → en x ++ p = en y ++ q → x = y ∧ p = q
/-- What reading a thing answers. -/
def Itm {α : Type} (en : α → List UInt8) (ok : α → Prop) (val : α → Value) (bv : Value → Prop) (r : Nat) (d : ByteArray) (W : World) (e : Ending) (W' : World) : Prop :=
  W.grownBy W' (some r) ∧ ∃ d', Rdr W' r d' ∧ d'.size ≤ d.size ∧
    ((∃ x, ok x ∧ d.data.toList = en x ++ d'.data.toList ∧ e = .returned (.tuple #[val x, .int .i64 0])) ∨
     ((∀ x q, ok x → d.data.toList ≠ en x ++ q) ∧ ∃ v, e = .returned (.tuple #[v, .int .i64 65]) ∧ bv v))
theorem left_le {d d' : ByteArray} {l : List UInt8} (h : d.data.toList = l ++ d'.data.toList) : d'.size ≤ d.size := by
  have := congrArg List.length h
  rw [List.length_append] at this
  have h1 : d.data.toList.length = d.size := Array.length_toList
  have h2 : d'.data.toList.length = d'.size := Array.length_toList
  omega
theorem ext_take (m : ByteArray) (n : Nat) : (m.extract 0 n).data.toList = m.data.toList.take n := by
  rw [ByteArray.data_extract, Array.toList_extract]
  simp
/-- The reader's number, over the reader's block. -/
theorem num_rd {r : Nat} {d : ByteArray} (most : Nat) (hm : most ≤ 70000) (hz : d.size ≤ 140737488355328) (W : World) (h : Rdr W r d) :
    Calls Try.prog 55 #[.pointer (some ⟨r, 0, none⟩), .int .i64 (most : Int)] W fun e W' => W.grownBy W' (some r) ∧
      ((∃ n d', n ≤ most ∧ d.data.toList = nm n ++ d'.data.toList ∧ Rdr W' r d' ∧ d'.size ≤ d.size ∧ e = .returned (.tuple #[.int .i64 (n : Int), .int .i64 0])) ∨
       ((∀ n q, n ≤ most → d.data.toList ≠ nm n ++ q) ∧ Rdr W' r d ∧ e = .returned (.tuple #[.int .i64 0, .int .i64 65]))) := by
  refine (rnum_any most hm hz W h.cell h.frz).mono ?_
  rintro e w (⟨n, rest, h1, h2, h3, rfl⟩ | ⟨h1, h2, rfl⟩)
  · exact ⟨grown_set, .inl ⟨n, rest, h2, h1, h.set rest, left_le h1, h3⟩⟩
  · exact ⟨gb_refl _ _, .inr ⟨h1, h, h2⟩⟩
def okI (m : Nat) (x : Int) : Prop := 0 ≤ x ∧ x ≤ (m : Int)
def okT (x : ByteArray) : Prop := x.size ≤ 16
def okW (f : Int × ByteArray) : Prop := okI 15 f.1 ∧ okT f.2
def fV (f : Int × ByteArray) : Value := .agg #[.int .i64 f.1, .string f.2]
theorem nmi_nat (n : Nat) : nmi (n : Int) = nm n := rfl
theorem nmi_pfx (m : Nat) : Pfx nmi (okI m) := fun x y p q hx hy e => by
  obtain ⟨h1, h2⟩ := nm_pf e
  exact ⟨by have := hx.1; have := hy.1; omega, h2⟩
theorem bytes_ext {a b : ByteArray} (h : a.data.toList = b.data.toList) : a = b := by
  cases a; cases b
  congr
  exact Array.toList_inj.1 h
theorem tx_pfx : Pfx tx okT := fun x y p q _ _ e => by
  unfold tx at e
  rw [List.append_assoc, List.append_assoc] at e
  obtain ⟨h1, h2⟩ := nm_pf e
  have h3 : x.data.toList.length = y.data.toList.length := by rw [Array.length_toList, Array.length_toList]; exact h1
  obtain ⟨h4, h5⟩ := List.append_inj h2 h3
  exact ⟨bytes_ext h4, h5⟩
theorem frb_pfx : Pfx frb okW := fun x y p q hx hy e => by
  unfold frb at e
  rw [List.append_assoc, List.append_assoc] at e
  obtain ⟨h1, h2⟩ := nmi_pfx 15 x.1 y.1 _ _ hx.1 hy.1 e
  obtain ⟨h3, h4⟩ := tx_pfx x.2 y.2 _ _ hx.2 hy.2 h2
  exact ⟨Prod.ext h1 h3, h4⟩
theorem flat_split {α : Type} {en : α → List UInt8} {ok : α → Prop} (hp : Pfx en ok) : ∀ (xs l : List α) (p q : List UInt8), (∀ x ∈ xs, ok x) → (∀ x ∈ l, ok x) → xs.length ≤ l.length → xs.flatMap en ++ p = l.flatMap en ++ q → ∃ l', l = xs ++ l' ∧ p = l'.flatMap en ++ q
  | [], l, p, q, _, _, _, e => ⟨l, rfl, e⟩
  | x :: xs, [], _, _, _, _, h, _ => by simp at h
  | x :: xs, y :: l, p, q, hx, hl, h, e => by
    rw [List.flatMap_cons, List.flatMap_cons, List.append_assoc, List.append_assoc] at e
    obtain ⟨rfl, e2⟩ := hp x y _ _ (hx x (by simp)) (hl y (by simp)) e
    obtain ⟨l', h1, h2⟩ := flat_split hp xs l p q (fun z hz => hx z (by simp [hz])) (fun z hz => hl z (by simp [hz])) (by simpa using h) e2
    exact ⟨l', by rw [h1]; rfl, h2⟩

set_option maxRecDepth 100000 in
set_option maxHeartbeats 4000000 in
theorem rind_any {r : Nat} {d : ByteArray} (hz : d.size ≤ 140737488355328) (W : World) (h : Rdr W r d) :
    Calls Try.prog 54 #[.pointer (some ⟨r, 0, none⟩)] W fun e W' => Itm nmi (okI 65536) (fun x => .int .i64 x) (fun _ => True) r d W e W' := by
  have HC : Hid _ := num_rd 65536 (by omega) hz W h
  clear h hz
  go_enter Try.func54, Try.ntmps54
  go_wp2_with fail
  refine Calls.mono HC.out ?_
  rintro e w2 ⟨hg, hh⟩
  have HG : Hid _ := hg
  clear hg
  rcases hh with ⟨n, d', hn, hd, hr, hl, rfl⟩ | ⟨hno, hr, rfl⟩
  · have HN : Hid _ := hn
    have HD : Hid _ := hd
    have HR : Hid (Rdr w2 r d') := hr
    have HL : Hid _ := hl
    clear hn hd hr hl
    go_wp2_with fail
    go_ret2
    exact ⟨HG.out, d', HR.out, HL.out, .inl ⟨(n : Int), ⟨by omega, by have := HN.out; omega⟩, HD.out, rfl⟩⟩
  · have HN : Hid _ := hno
    have HR : Hid (Rdr w2 r d) := hr
    clear hno hr
    go_wp2_with fail
    go_ret2
    exact ⟨HG.out, d, HR.out, Nat.le_refl _, .inr ⟨fun x q hx => HN.out x.toNat q (by have := hx.1; have := hx.2; omega), _, rfl, trivial⟩⟩

set_option maxRecDepth 100000 in
set_option maxHeartbeats 4000000 in
theorem rdel_any {r : Nat} {d : ByteArray} (hz : d.size ≤ 140737488355328) (W : World) (h : Rdr W r d) :
    Calls Try.prog 57 #[.pointer (some ⟨r, 0, none⟩)] W fun e W' => Itm tx okT (fun x => .string x) (fun v => v = .string ⟨#[]⟩) r d W e W' := by
  have HC : Hid _ := num_rd 16 (by omega) hz W h
  have HZ : Hid _ := hz
  clear h hz
  go_enter Try.func57, Try.ntmps57
  go_wp2_with fail
  refine Calls.mono HC.out ?_
  rintro e w2 ⟨hg, hh⟩
  have HG : Hid _ := hg
  clear hg
  rcases hh with ⟨n, d', hn, hd, hr, hl, rfl⟩ | ⟨hno, hr, rfl⟩
  · have HN : Hid _ := hn
    have HD : Hid _ := hd
    have HR : Hid (Rdr w2 r d') := hr
    have HL : Hid _ := hl
    have hc := hr.cell
    have hf := hr.frz
    by_cases hle : d'.size < n
    · have e1 : decide (((d'.size : Nat) : Int) < (n : Int)) = true := by rw [decide_eq_true_eq]; omega
      have e2 : decide (d'.size < n) = true := by rw [decide_eq_true_eq]; omega
      have HX : Hid (d'.size < n) := hle
      clear hn hd hr hl hle
      go_wp2_with fail
      go_ret2
      refine ⟨HG.out, d', HR.out, HL.out, .inr ⟨fun x q _ e => ?_, _, rfl, rfl⟩⟩
      rw [HD.out] at e
      unfold tx at e
      rw [List.append_assoc] at e
      obtain ⟨e1, e2⟩ := nm_pf e
      have h3 := congrArg List.length e2
      rw [List.length_append] at h3
      have h4 : x.data.toList.length = x.size := Array.length_toList
      have h5 : d'.data.toList.length = d'.size := Array.length_toList
      have := HX.out
      omega
    · have e1 : decide (((d'.size : Nat) : Int) < (n : Int)) = false := by rw [decide_eq_false_iff_not]; omega
      have e2 : decide (d'.size < n) = false := by rw [decide_eq_false_iff_not]; omega
      have e3 : (n : Int) ≤ (d'.size : Int) := by omega
      have e4 : n ≤ d'.size := by omega
      have HX : Hid (n ≤ d'.size) := e4
      clear hn hd hr hl hle
      go_wp2_with fail
      refine (clone_any (d'.extract 0 n) w2 (by rw [ByteArray.size_extract]; have := HN.out; omega)).mono ?_
      rintro e w3 ⟨rfl, hb3⟩
      have HB3 : Hid _ := hb3
      have HR3 : Hid (Rdr w3 r d') := HR.out.up hb3
      have hc3 := HR3.out.cell
      have hf3 := HR3.out.frz
      clear hb3 hc hf
      go_wp2_with fail
      go_ret2
      have hx : (d'.extract 0 n).size = n := by rw [ByteArray.size_extract]; have := HX.out; omega
      have hsp : d'.data.toList = (d'.extract 0 n).data.toList ++ (d'.extract n d'.size).data.toList := by
        rw [ext_list, ext_take]
        exact (List.take_append_drop n _).symm
      refine ⟨gb_trans (gb_trans HG.out (gb_of HB3.out)) grown_set, _, HR3.out.set _, ?_, .inl ⟨d'.extract 0 n, ?_, ?_, rfl⟩⟩
      · exact Nat.le_trans (left_le hsp) HL.out
      · show (d'.extract 0 n).size ≤ 16
        rw [hx]; exact HN.out
      · unfold tx
        rw [hx, List.append_assoc, ← hsp]
        exact HD.out
  · have HN : Hid _ := hno
    have HR : Hid (Rdr w2 r d) := hr
    clear hno hr
    go_wp2_with fail
    go_ret2
    exact ⟨HG.out, d, HR.out, Nat.le_refl _, .inr ⟨fun x q hx e => HN.out x.size (x.data.toList ++ q) hx (by rw [e]; unfold tx; rw [List.append_assoc]), _, rfl, rfl⟩⟩
end Go.Proofs.Ytkaciochlemjiaa
