import Derived.Shelf.LaysM
import Derived.Shelf.Strconv.Clone
import Derived.Test.YticheeacbajeeaaProg
import Derived.Test.YticheeacbajeeaaBas
import Derived.Laws.RangeAny
import Derived.Shelf.Small.Strs
import Derived.Shelf.Strings.Search1
import Derived.Shelf.Strings.Search2
import Derived.Shelf.Strings.Count
import Derived.WalkKit
import Derived.WalkSpells
import Derived.WalkLawsBesides
import Derived.Deep.LoopGhost
import Derived.Deep.RegionWith
import Derived.Deep.Cut
import Derived.Deep.CutRange
import Derived.Deep.QuietTactic
import Derived.BigQuiet
import Derived.WalkSmall
import Derived.Laws.ResultCell
namespace Go.Proofs
open Go.Shelf Go.RowKit
def Try.laysM316_ren : Go.Shelf.Ren := ⟨fun | 316 => 51 | n => n, fun | 9 => 9 | 3 => 3 | 4 => 4 | 37 => 123 | 0 => 0 | 127 => 124 | 5 => 5 | n => n, fun | n => n⟩
theorem Try.laysM316 : Go.Proofs.LaysM.n316 Try.prog Try.laysM316_ren := {
  mixed := by kernel_rfl
  f316 := Try.func51.trans (congrArg some (by kernel_rfl))
  t0 := Try.underlying0
  a0 := Try.isAgg0
  z0 := Try.sizeOf0
  v0 := Try.zeroValue0
  t3 := Try.underlying3
  a3 := Try.isAgg3
  z3 := Try.sizeOf3
  v3 := Try.zeroValue3
  t4 := Try.underlying4
  a4 := Try.isAgg4
  z4 := Try.sizeOf4
  v4 := Try.zeroValue4
  t9 := Try.underlying9
  a9 := Try.isAgg9
  z9 := Try.sizeOf9
  v9 := Try.zeroValue9
  t37 := Try.underlying123
  a37 := Try.isAgg123
  z37 := Try.sizeOf123
  v37 := Try.zeroValue123
  t127 := Try.underlying124
  a127 := Try.isAgg124
  z127 := Try.sizeOf124
  v127 := Try.zeroValue124
  t5 := Try.underlying5
  a5 := Try.isAgg5
  z5 := Try.sizeOf5
  v5 := Try.zeroValue5
  i0 := by kernel_rfl
  i3 := by kernel_rfl
  i4 := by kernel_rfl
  i5 := by kernel_rfl
  i9 := by kernel_rfl
  i37 := by kernel_rfl
  i127 := by kernel_rfl }
open Go.RowKit in
/-- internal/stringslite.Clone (what strings.Clone calls): "Clone returns a fresh copy of s.": THE SAME BYTES. Of what was there nothing has turned (a new row is laid, and frozen, where s is not empty). (LAID: no walk: one application.) -/
theorem Try.stringslite_Clone (s : ByteArray) (w : World) (hlim : s.size ≤ 281474976710656) :
    Calls Try.prog 51 #[.string s] w fun e w' => e = .returned (.string s) ∧ Below w.heap.size w w' := Any.stringslite_Clone Try.laysM316 s w hlim
end Go.Proofs
namespace Go.Proofs.Yticheeacbajeeaa.Pc
open Go.RowKit

/-- the rows of a text's bytes from a to e -/
structure Rw (s : ByteArray) (a e : Nat) (R : List (Nat × Nat)) : Prop where
  pos : 0 < R.length
  first : ∀ r, R[0]? = some r → r.1 = a
  last : ∀ r, R[R.length - 1]? = some r → r.2 = e
  le : ∀ (i : Nat) (r : Nat × Nat), R[i]? = some r → a ≤ r.1 ∧ r.1 ≤ r.2 ∧ r.2 ≤ e
  fin : e ≤ s.size
  step : ∀ (i : Nat) (r r' : Nat × Nat), R[i]? = some r → R[i + 1]? = some r' → r'.1 = r.2 + 1 ∧ s.get! r.2 = 10
  free : ∀ (i : Nat) (r : Nat × Nat), R[i]? = some r → ∀ k, r.1 ≤ k → k < r.2 → s.get! k ≠ 10

theorem get_of_lt {R : List (Nat × Nat)} {i : Nat} (h : i < R.length) : ∃ r, R[i]? = some r := ⟨R[i], List.getElem?_eq_getElem h⟩
theorem lt_of_get {R : List (Nat × Nat)} {i : Nat} {r : Nat × Nat} (h : R[i]? = some r) : i < R.length := (List.getElem?_eq_some_iff.1 h).1

theorem Rw.apart {s : ByteArray} {a e : Nat} {R : List (Nat × Nat)} (h : Rw s a e R) {i : Nat} {r : Nat × Nat} (hi : R[i]? = some r) : ∀ (d : Nat) (r' : Nat × Nat), R[i + 1 + d]? = some r' → r.2 < r'.1 := by
  intro d
  induction d with
  | zero =>
    intro r' h'
    have := (h.step i r r' hi h').1
    omega
  | succ d ih =>
    intro r' h'
    obtain ⟨q, hq⟩ := get_of_lt (R := R) (i := i + 1 + d) (by have := lt_of_get h'; omega)
    have h1 := ih q hq
    have h2 := (h.step (i + 1 + d) q r' hq h').1
    have h3 := h.le _ _ hq
    omega
theorem Rw.apart' {s : ByteArray} {a e : Nat} {R : List (Nat × Nat)} (h : Rw s a e R) {i j : Nat} {r r' : Nat × Nat} (hi : R[i]? = some r) (hj : R[j]? = some r') (hij : i < j) : r.2 < r'.1 :=
  h.apart hi (j - (i + 1)) r' (by rw [show i + 1 + (j - (i + 1)) = j by omega]; exact hj)
theorem Rw.uniq {s : ByteArray} {a e : Nat} {R : List (Nat × Nat)} (h : Rw s a e R) {i j : Nat} {r r' : Nat × Nat} {t : Nat} (hi : R[i]? = some r) (hj : R[j]? = some r') (h1 : r.1 ≤ t) (h2 : t ≤ r.2) (h3 : r'.1 ≤ t) (h4 : t ≤ r'.2) : i = j := by
  rcases Nat.lt_trichotomy i j with hl | hl | hl
  · have := h.apart' hi hj hl; omega
  · exact hl
  · have := h.apart' hj hi hl; omega
theorem Rw.find {s : ByteArray} {a e : Nat} {R : List (Nat × Nat)} (h : Rw s a e R) {t : Nat} (ha : a ≤ t) (he : t ≤ e) : ∃ (j : Nat) (r : Nat × Nat), R[j]? = some r ∧ r.1 ≤ t ∧ t ≤ r.2 := by
  have key : ∀ n, n < R.length → (∃ (j : Nat) (r : Nat × Nat), R[j]? = some r ∧ r.1 ≤ t ∧ t ≤ r.2) ∨ (∃ r : Nat × Nat, R[n]? = some r ∧ r.2 < t) := by
    intro n
    induction n with
    | zero =>
      intro hn
      obtain ⟨r, hr⟩ := get_of_lt hn
      have := h.first r hr
      by_cases ht : t ≤ r.2
      · exact Or.inl ⟨0, r, hr, by omega, ht⟩
      · exact Or.inr ⟨r, hr, by omega⟩
    | succ n ih =>
      intro hn
      rcases ih (by omega) with hh | ⟨r, hr, hlt⟩
      · exact Or.inl hh
      · obtain ⟨q, hq⟩ := get_of_lt hn
        have := (h.step n r q hr hq).1
        by_cases ht : t ≤ q.2
        · exact Or.inl ⟨n + 1, q, hq, by omega, ht⟩
        · exact Or.inr ⟨q, hq, by omega⟩
  have hp := h.pos
  rcases key (R.length - 1) (by omega) with hh | ⟨r, hr, hlt⟩
  · exact hh
  · have := h.last r hr
    omega
theorem Rw.ge {s : ByteArray} {a e : Nat} {R : List (Nat × Nat)} (h : Rw s a e R) : ∀ (i : Nat) (r : Nat × Nat), R[i]? = some r → a + i ≤ r.1 := by
  intro i
  induction i with
  | zero => intro r hr; have := h.first r hr; omega
  | succ i ih =>
    intro r hr
    obtain ⟨q, hq⟩ := get_of_lt (R := R) (i := i) (by have := lt_of_get hr; omega)
    have h1 := ih q hq
    have h2 := (h.step i q r hq hr).1
    have h3 := h.le _ _ hq
    omega
theorem Rw.len {s : ByteArray} {a e : Nat} {R : List (Nat × Nat)} (h : Rw s a e R) : R.length ≤ e - a + 1 := by
  have hp := h.pos
  obtain ⟨r, hr⟩ := get_of_lt (R := R) (i := R.length - 1) (by omega)
  have h1 := h.ge _ _ hr
  have h2 := h.le _ _ hr
  omega
/-- the last row of all that begin at a place or ahead -/
theorem Rw.isLast {s : ByteArray} {a e : Nat} {R : List (Nat × Nat)} (h : Rw s a e R) {t j : Nat} {r : Nat × Nat} (hj : R[j]? = some r) (he : t ≤ e) (h2 : ∀ q, R[j + 1]? = some q → t < q.1) : t ≤ r.2 := by
  by_cases hn : j + 1 < R.length
  · obtain ⟨q, hq⟩ := get_of_lt hn
    have := (h.step j r q hj hq).1
    have := h2 q hq
    omega
  · have hl := lt_of_get hj
    have : R.length - 1 = j := by omega
    have := h.last r (by rw [this]; exact hj)
    omega
theorem Rw.same {s : ByteArray} {a e : Nat} {R R' : List (Nat × Nat)} (h : Rw s a e R) (h' : Rw s a e R') : R = R' := by
  have key : ∀ (i : Nat) (r r' : Nat × Nat), R[i]? = some r → R'[i]? = some r' → r = r' := by
    intro i
    induction i with
    | zero =>
      intro r r' hr hr'
      have e1 := h.first r hr
      have e2 := h'.first r' hr'
      have l1 := h.le _ _ hr
      have l2 := h'.le _ _ hr'
      have : r.2 = r'.2 := by
        rcases Nat.lt_trichotomy r.2 r'.2 with hl | hl | hl
        · have hn : 0 + 1 < R.length := by
            rcases Nat.lt_or_ge 1 R.length with hh | hh
            · omega
            · have hp := h.pos
              have : R.length - 1 = 0 := by omega
              have := h.last r (by rw [this]; exact hr)
              omega
          obtain ⟨q, hq⟩ := get_of_lt hn
          exact absurd (h.step 0 r q hr hq).2 (h'.free 0 r' hr' r.2 (by omega) hl)
        · exact hl
        · have hn : 0 + 1 < R'.length := by
            rcases Nat.lt_or_ge 1 R'.length with hh | hh
            · omega
            · have hp := h'.pos
              have : R'.length - 1 = 0 := by omega
              have := h'.last r' (by rw [this]; exact hr')
              omega
          obtain ⟨q, hq⟩ := get_of_lt hn
          exact absurd (h'.step 0 r' q hr' hq).2 (h.free 0 r hr r'.2 (by omega) hl)
      exact Prod.ext (by omega) this
    | succ i ih =>
      intro r r' hr hr'
      obtain ⟨q, hq⟩ := get_of_lt (R := R) (i := i) (by have := lt_of_get hr; omega)
      obtain ⟨q', hq'⟩ := get_of_lt (R := R') (i := i) (by have := lt_of_get hr'; omega)
      have eq := ih q q' hq hq'
      subst eq
      have e1 := (h.step i q r hq hr).1
      have e2 := (h'.step i q r' hq' hr').1
      have l1 := h.le _ _ hr
      have l2 := h'.le _ _ hr'
      have : r.2 = r'.2 := by
        rcases Nat.lt_trichotomy r.2 r'.2 with hl | hl | hl
        · have hn : i + 1 + 1 < R.length := by
            rcases Nat.lt_or_ge (i + 1 + 1) R.length with hh | hh
            · exact hh
            · have hp := lt_of_get hr
              have : R.length - 1 = i + 1 := by omega
              have := h.last r (by rw [this]; exact hr)
              omega
          obtain ⟨p, hp⟩ := get_of_lt hn
          exact absurd (h.step (i + 1) r p hr hp).2 (h'.free (i + 1) r' hr' r.2 (by omega) hl)
        · exact hl
        · have hn : i + 1 + 1 < R'.length := by
            rcases Nat.lt_or_ge (i + 1 + 1) R'.length with hh | hh
            · exact hh
            · have hp := lt_of_get hr'
              have : R'.length - 1 = i + 1 := by omega
              have := h'.last r' (by rw [this]; exact hr')
              omega
          obtain ⟨p, hp⟩ := get_of_lt hn
          exact absurd (h'.step (i + 1) r' p hr' hp).2 (h.free (i + 1) r hr r'.2 (by omega) hl)
      exact Prod.ext (by omega) this
  have hlen : R.length = R'.length := by
    rcases Nat.lt_trichotomy R.length R'.length with hl | hl | hl
    · have hp := h.pos
      obtain ⟨r, hr⟩ := get_of_lt (R := R) (i := R.length - 1) (by omega)
      obtain ⟨r', hr'⟩ := get_of_lt (R := R') (i := R.length - 1) (by omega)
      obtain ⟨q, hq⟩ := get_of_lt (R := R') (i := R.length - 1 + 1) (by omega)
      have := key _ _ _ hr hr'
      subst this
      have h1 := h.last r hr
      have h2 := (h'.step _ r q hr' hq).1
      have h3 := h'.le _ _ hq
      omega
    · exact hl
    · have hp := h'.pos
      obtain ⟨r, hr⟩ := get_of_lt (R := R') (i := R'.length - 1) (by omega)
      obtain ⟨r', hr'⟩ := get_of_lt (R := R) (i := R'.length - 1) (by omega)
      obtain ⟨q, hq⟩ := get_of_lt (R := R) (i := R'.length - 1 + 1) (by omega)
      have := key _ _ _ hr' hr
      subst this
      have h1 := h'.last _ hr
      have h2 := (h.step _ _ q hr' hq).1
      have h3 := h.le _ _ hq
      omega
  apply List.ext_getElem?
  intro i
  by_cases hi : i < R.length
  · obtain ⟨r, hr⟩ := get_of_lt hi
    obtain ⟨r', hr'⟩ := get_of_lt (R := R') (i := i) (by omega)
    rw [hr, hr', key _ _ _ hr hr']
  · rw [List.getElem?_eq_none (by omega), List.getElem?_eq_none (by omega)]
theorem Rw.one {s : ByteArray} {a e : Nat} (h : a ≤ e) (he : e ≤ s.size) (hf : ∀ k, a ≤ k → k < e → s.get! k ≠ 10) : Rw s a e [(a, e)] := by
  have key : ∀ (i : Nat) (r : Nat × Nat), [(a, e)][i]? = some r → i = 0 ∧ r = (a, e) := by
    intro i r hr
    have := lt_of_get hr
    have h0 : i = 0 := by simp at this; omega
    subst h0
    simp at hr
    exact ⟨rfl, hr.symm⟩
  refine ⟨by simp, fun r hr => by rw [(key _ _ hr).2], fun r hr => by rw [(key _ _ hr).2], fun i r hr => ?_, he, fun i r r' _ hr' => ?_, fun i r hr => ?_⟩
  · rw [(key _ _ hr).2]; exact ⟨Nat.le_refl _, h, Nat.le_refl _⟩
  · have := (key _ _ hr').1; omega
  · rw [(key _ _ hr).2]; exact hf
theorem Rw.app {s : ByteArray} {a e e' : Nat} {R R' : List (Nat × Nat)} (h : Rw s a e R) (h' : Rw s (e + 1) e' R') (h10 : s.get! e = 10) : Rw s a e' (R ++ R') := by
  have hp := h.pos
  have hp' := h'.pos
  have hle : e + 1 ≤ e' := by
    obtain ⟨r, hr⟩ := get_of_lt hp'
    have := h'.le _ _ hr
    omega
  have hae : a ≤ e := by
    obtain ⟨r, hr⟩ := get_of_lt hp
    have := h.le _ _ hr
    omega
  refine ⟨by simp; omega, fun r hr => h.first r (by rwa [List.getElem?_append_left hp] at hr), fun r hr => ?_, fun i r hr => ?_, h'.fin, fun i r r' hr hr' => ?_, fun i r hr => ?_⟩
  · rw [List.getElem?_append_right (by simp; omega)] at hr
    apply h'.last r
    rw [← hr]
    congr 1
    simp
    omega
  · by_cases hi : i < R.length
    · rw [List.getElem?_append_left hi] at hr
      have := h.le _ _ hr
      omega
    · rw [List.getElem?_append_right (by omega)] at hr
      have := h'.le _ _ hr
      omega
  · by_cases hi : i + 1 < R.length
    · rw [List.getElem?_append_left (by omega)] at hr
      rw [List.getElem?_append_left hi] at hr'
      exact h.step _ _ _ hr hr'
    · by_cases hi2 : i < R.length
      · rw [List.getElem?_append_left hi2] at hr
        rw [List.getElem?_append_right (by omega), show i + 1 - R.length = 0 by omega] at hr'
        have h1 := h.last r (by rw [show R.length - 1 = i by omega]; exact hr)
        have h2 := h'.first r' hr'
        rw [h1]
        exact ⟨h2, h10⟩
      · rw [List.getElem?_append_right (by omega)] at hr hr'
        exact h'.step _ _ _ hr (by rw [show i - R.length + 1 = i + 1 - R.length by omega]; exact hr')
  · by_cases hi : i < R.length
    · rw [List.getElem?_append_left hi] at hr
      exact h.free _ _ hr
    · rw [List.getElem?_append_right (by omega)] at hr
      exact h'.free _ _ hr

/-- the width of a character in bytes, in units -/
def cw (s : ByteArray) (k : Nat) : Nat := (Utf8.decode s k).2
def cu (s : ByteArray) (k : Nat) : Nat := if 65536 ≤ (Utf8.decode s k).1 then 2 else 1

theorem cw_pos (s : ByteArray) (k : Nat) (h : k < s.size) : 1 ≤ cw s k := by
  unfold cw
  by_cases ha : (s[k]'h).toNat < 128
  · rw [decode_ascii s k h ha]
    exact Nat.le_refl _
  · exact (decode_high s k h (by omega)).2
theorem cw_le (s : ByteArray) (k : Nat) (h : k < s.size) : k + cw s k ≤ s.size ∧ cw s k ≤ 4 ∧ cu s k ≤ cw s k := by
  have hb : ∀ i, (s.get! (k + i)).toNat < 256 := fun i => (s.get! (k + i)).toNat_lt
  have h0 := hb 0; have h1 := hb 1; have h2 := hb 2; have h3 := hb 3
  unfold cw cu
  simp only [Utf8.decode]
  repeat' split
  all_goals simp_all [Utf8.runeError]
  all_goals omega
theorem cu_pos (s : ByteArray) (k : Nat) : 1 ≤ cu s k ∧ cu s k ≤ 2 := by
  unfold cu
  split <;> omega

/-- the n-th border -/
def brd (s : ByteArray) : Nat → Nat × Nat
  | 0 => (0, 0)
  | n + 1 => if (brd s n).1 < s.size then ((brd s n).1 + cw s (brd s n).1, (brd s n).2 + cu s (brd s n).1) else brd s n
def Bd (s : ByteArray) (k u : Nat) : Prop := ∃ n, brd s n = (k, u)
theorem Bd.zero (s : ByteArray) : Bd s 0 0 := ⟨0, rfl⟩
theorem Bd.step {s : ByteArray} {k u : Nat} (h : Bd s k u) (hk : k < s.size) : Bd s (k + cw s k) (u + cu s k) := by
  obtain ⟨n, hn⟩ := h
  refine ⟨n + 1, ?_⟩
  unfold brd
  rw [hn, if_pos hk]
theorem Bd.le {s : ByteArray} {k u : Nat} (h : Bd s k u) : k ≤ s.size ∧ u ≤ k := by
  obtain ⟨n, hn⟩ := h
  induction n generalizing k u with
  | zero => simp [brd] at hn; omega
  | succ n ih =>
    have hh := ih (k := (brd s n).1) (u := (brd s n).2) rfl
    unfold brd at hn
    by_cases hl : (brd s n).1 < s.size
    · rw [if_pos hl] at hn
      have h1 := cw_le s _ hl
      simp only [Prod.mk.injEq] at hn
      omega
    · rw [if_neg hl] at hn
      rw [hn] at hh
      exact hh

/-- the last border that is within, from a border on -/
def lgo (s : ByteArray) (win : Nat → Nat → Bool) : Nat → Nat → Nat → Nat × Nat → Nat × Nat
  | 0, k, u, b => if win k u then (k, u) else b
  | f + 1, k, u, b => if win k u then (if k < s.size then lgo s win f (k + cw s k) (u + cu s k) (k, u) else (k, u)) else b
def lastB (s : ByteArray) (win : Nat → Nat → Bool) : Nat × Nat := lgo s win s.size 0 0 (0, 0)

theorem lgo_fuel (s : ByteArray) (win : Nat → Nat → Bool) : ∀ (f f' k u : Nat) (b : Nat × Nat), s.size - k ≤ f → s.size - k ≤ f' → lgo s win f k u b = lgo s win f' k u b := by
  intro f
  induction f with
  | zero =>
    intro f' k u b h1 h2
    have hk : ¬ k < s.size := by omega
    cases f' with
    | zero => rfl
    | succ f' => simp [lgo, hk]
  | succ f ih =>
    intro f' k u b h1 h2
    cases f' with
    | zero =>
      have hk : ¬ k < s.size := by omega
      simp [lgo, hk]
    | succ f' =>
      unfold lgo
      by_cases hk : k < s.size
      · have := cw_pos s k hk
        rw [if_pos hk, if_pos hk, ih f' _ _ _ (by omega) (by omega)]
      · rw [if_neg hk, if_neg hk]
theorem lgo_best (s : ByteArray) (win : Nat → Nat → Bool) (f k u : Nat) (b b' : Nat × Nat) (h : win k u = true) : lgo s win f k u b = lgo s win f k u b' := by
  cases f <;> simp [lgo, h]
theorem lgo_out (s : ByteArray) (win : Nat → Nat → Bool) (f k u : Nat) (b : Nat × Nat) (h : win k u = false) : lgo s win f k u b = b := by
  cases f <;> simp [lgo, h]
theorem lgo_in (s : ByteArray) (win : Nat → Nat → Bool) (k u : Nat) (b : Nat × Nat) (h : win k u = true) (hk : k < s.size) : lgo s win s.size k u b = lgo s win s.size (k + cw s k) (u + cu s k) (k, u) := by
  have hp := cw_pos s k hk
  obtain ⟨f, hf⟩ : ∃ f, s.size = f + 1 := ⟨s.size - 1, by omega⟩
  rw [lgo_fuel s win s.size (f + 1) k u b (by omega) (by omega)]
  show (if win k u then (if k < s.size then lgo s win f (k + cw s k) (u + cu s k) (k, u) else (k, u)) else b) = _
  rw [if_pos h, if_pos hk]
  exact lgo_fuel s win _ _ _ _ _ (by omega) (by omega)
theorem lgo_end (s : ByteArray) (win : Nat → Nat → Bool) (f k u : Nat) (b : Nat × Nat) (hk : s.size ≤ k) (h : win k u = true) : lgo s win f k u b = (k, u) := by
  have hk' : ¬ k < s.size := by omega
  cases f <;> simp [lgo, h, hk']
theorem lgo_end' (s : ByteArray) (win : Nat → Nat → Bool) (f k u : Nat) (hk : s.size ≤ k) : lgo s win f k u (k, u) = (k, u) := by
  have hk' : ¬ k < s.size := by omega
  cases f <;> simp [lgo, hk']

/-- what holds of a border holds of those ahead -/
def Mono (win : Nat → Nat → Bool) : Prop := ∀ k u k' u', k ≤ k' → u ≤ u' → win k' u' = true → win k u = true

theorem lgo_stay (s : ByteArray) (win : Nat → Nat → Bool) (k u : Nat) (hk : k < s.size) (h : win (k + cw s k) (u + cu s k) = false) : lgo s win s.size k u (k, u) = (k, u) := by
  by_cases hw : win k u = true
  · rw [lgo_in s win k u _ hw hk, lgo_out _ _ _ _ _ _ h]
  · rw [lgo_out]; simpa using hw
theorem lgo_next (s : ByteArray) (win : Nat → Nat → Bool) (hm : Mono win) (k u : Nat) (hk : k < s.size) (h : win (k + cw s k) (u + cu s k) = true) :
    lgo s win s.size k u (k, u) = lgo s win s.size (k + cw s k) (u + cu s k) (k + cw s k, u + cu s k) := by
  have hw : win k u = true := hm _ _ _ _ (by omega) (by omega) h
  rw [lgo_in s win k u _ hw hk]
  exact lgo_best _ _ _ _ _ _ _ h
theorem lgo_from (s : ByteArray) (win : Nat → Nat → Bool) (hm : Mono win) {k u : Nat} (hb : Bd s k u) (hw : win k u = true) (b : Nat × Nat) : lastB s win = lgo s win s.size k u b := by
  obtain ⟨n, hn⟩ := hb
  induction n generalizing k u b with
  | zero =>
    simp [brd] at hn
    obtain ⟨rfl, rfl⟩ := hn
    exact lgo_best _ _ _ _ _ _ _ hw
  | succ n ih =>
    unfold brd at hn
    by_cases hl : (brd s n).1 < s.size
    · rw [if_pos hl] at hn
      simp only [Prod.mk.injEq] at hn
      obtain ⟨rfl, rfl⟩ := hn
      have hw0 : win (brd s n).1 (brd s n).2 = true := hm _ _ _ _ (by omega) (by omega) hw
      rw [ih (k := (brd s n).1) (u := (brd s n).2) hw0 (0, 0) rfl, lgo_in _ _ _ _ _ hw0 hl]
      exact lgo_best _ _ _ _ _ _ _ hw
    · rw [if_neg hl] at hn
      exact ih hw b hn
/-- a border that is within, and the next is not -/
theorem lastB_at (s : ByteArray) (win : Nat → Nat → Bool) (hm : Mono win) {k u : Nat} (hb : Bd s k u) (hw : win k u = true) (hn : k < s.size → win (k + cw s k) (u + cu s k) = false) : lastB s win = (k, u) := by
  rw [lgo_from s win hm hb hw (k, u)]
  by_cases hk : k < s.size
  · exact lgo_stay s win k u hk (hn hk)
  · exact lgo_end' s win _ k u (by omega)
theorem lgo_spec (s : ByteArray) (win : Nat → Nat → Bool) : ∀ (f k u : Nat) (b : Nat × Nat), s.size - k ≤ f → Bd s k u → win k u = true →
    ∃ k' u', lgo s win f k u b = (k', u') ∧ Bd s k' u' ∧ win k' u' = true ∧ k ≤ k' ∧ u ≤ u' ∧ (k' < s.size → win (k' + cw s k') (u' + cu s k') = false) := by
  intro f
  induction f with
  | zero =>
    intro k u b h1 hb hw
    exact ⟨k, u, by simp [lgo, hw], hb, hw, by omega, by omega, fun h => by omega⟩
  | succ f ih =>
    intro k u b h1 hb hw
    by_cases hk : k < s.size
    · have hp := cw_pos s k hk
      unfold lgo
      rw [if_pos hw, if_pos hk]
      by_cases hn : win (k + cw s k) (u + cu s k) = true
      · obtain ⟨k', u', e, b', w', l1, l2, l3⟩ := ih (k + cw s k) (u + cu s k) (k, u) (by omega) (hb.step hk) hn
        exact ⟨k', u', e, b', w', by omega, by omega, l3⟩
      · have hn' : win (k + cw s k) (u + cu s k) = false := by simpa using hn
        exact ⟨k, u, lgo_out _ _ _ _ _ _ hn', hb, hw, by omega, by omega, fun _ => hn'⟩
    · exact ⟨k, u, by simp [lgo, hw, hk], hb, hw, by omega, by omega, fun h => by omega⟩
theorem lastB_spec (s : ByteArray) (win : Nat → Nat → Bool) (hw : win 0 0 = true) : ∃ k u, lastB s win = (k, u) ∧ Bd s k u ∧ win k u = true ∧ (k < s.size → win (k + cw s k) (u + cu s k) = false) := by
  obtain ⟨k, u, e, b, w, _, _, l⟩ := lgo_spec s win s.size 0 0 (0, 0) (by omega) (Bd.zero s) hw
  exact ⟨k, u, e, b, w, l⟩
theorem lastB_none (s : ByteArray) (win : Nat → Nat → Bool) (hw : win 0 0 = false) : lastB s win = (0, 0) := lgo_out _ _ _ _ _ _ hw
theorem lastB_mono (s : ByteArray) (w1 w2 : Nat → Nat → Bool) (hm : Mono w2) (h0 : w1 0 0 = true) (h : ∀ k u, w1 k u = true → w2 k u = true) : (lastB s w1).1 ≤ (lastB s w2).1 ∧ (lastB s w1).2 ≤ (lastB s w2).2 := by
  obtain ⟨k, u, e, b, w, _⟩ := lastB_spec s w1 h0
  obtain ⟨k', u', e', _, _, l1, l2, _⟩ := lgo_spec s w2 s.size k u (0, 0) (by omega) b (h k u w)
  rw [e, lgo_from s w2 hm b (h k u w) (0, 0), e']
  exact ⟨l1, l2⟩

def winAt (c : Int) : Nat → Nat → Bool := fun k _ => decide ((k : Int) ≤ c)
def winUn (c : Int) : Nat → Nat → Bool := fun _ u => decide ((u : Int) ≤ c)
theorem winAt_mono (c : Int) : Mono (winAt c) := by
  intro k u k' u' h1 h2 h
  simp [winAt] at *
  omega
theorem winUn_mono (c : Int) : Mono (winUn c) := by
  intro k u k' u' h1 h2 h
  simp [winUn] at *
  omega

end Go.Proofs.Yticheeacbajeeaa.Pc
/-
  DERIVED: THE SHELF's CONTRACTS AT THIS DUMP, IN PLAIN WORDS (tools/lay-plain.mjs out of 'YticheeacbajeeaaShe.lean', which tools/lay-shelf.mjs wrote): THE SAME DECLARATIONS UNDER THE SAME NAMES: 'import', 'namespace', 'open', 'def', 'theorem' AND NOTHING ELSE: no command of the shelf's: FOR A HAND-IN. Each laying: the table of numbers ('.._ren') and one theorem, a field a fact of the dump's own or the kernel's comparison; each contract: ONE APPLICATION.
-/
namespace Go.Proofs
open Go.Shelf
def Try.lays137_ren : Go.Shelf.Ren := ⟨fun | 137 => 72 | 217 => 84 | 266 => 90 | n => n, fun | 9 => 9 | 5 => 5 | 3 => 3 | n => n, fun | n => n⟩
theorem Try.lays137 : Go.Proofs.Lays.n137 Try.prog Try.lays137_ren := {
  mixed := by kernel_rfl
  f137 := Try.func72.trans (congrArg some (by kernel_rfl))
  f217 := Try.func84.trans (congrArg some (by kernel_rfl))
  f266 := Try.func90.trans (congrArg some (by kernel_rfl))
  t3 := Try.underlying3
  a3 := Try.isAgg3
  z3 := Try.sizeOf3
  v3 := Try.zeroValue3
  t5 := Try.underlying5
  a5 := Try.isAgg5
  z5 := Try.sizeOf5
  v5 := Try.zeroValue5
  t9 := Try.underlying9
  a9 := Try.isAgg9
  z9 := Try.sizeOf9
  v9 := Try.zeroValue9 }
open Go.RowKit in
/-- strings.IndexByte: "IndexByte returns the index of the first instance of c in s, or -1 if c is not present in s.": IT RETURNS 'Lib.indexByte s c'; the world is as it was. (LAID: no walk: one application.) -/
theorem Try.strings_IndexByte (s : ByteArray) (c : Int) (w : World) :
    Calls Try.prog 72 #[.string s, .int .u8 c] w fun e w' => e = .returned (.int .i64 (Lib.indexByte s.data.toList c.toNat.toUInt8)) ∧ w' = w := Any.strings_IndexByte Try.lays137 s c w
def Try.lays138_ren : Go.Shelf.Ren := ⟨fun | 138 => 71 | 195 => 81 | 218 => 82 | 143 => 83 | 219 => 89 | 217 => 84 | 225 => 91 | 224 => 92 | 267 => 93 | 266 => 90 | 314 => 94 | n => n, fun | 9 => 9 | 3 => 3 | 4 => 4 | 5 => 5 | 0 => 0 | 46 => 115 | 146 => 154 | 51 => 133 | n => n, fun | 1 => 0 | n => n⟩
theorem Try.lays138 : Go.Proofs.Lays.n138 Try.prog Try.lays138_ren := {
  mixed := by kernel_rfl
  f138 := Try.func71.trans (congrArg some (by kernel_rfl))
  f143 := Try.func83.trans (congrArg some (by kernel_rfl))
  f195 := Try.func81.trans (congrArg some (by kernel_rfl))
  f217 := Try.func84.trans (congrArg some (by kernel_rfl))
  f218 := Try.func82.trans (congrArg some (by kernel_rfl))
  f219 := Try.func89.trans (congrArg some (by kernel_rfl))
  f224 := Try.func92.trans (congrArg some (by kernel_rfl))
  f225 := Try.func91.trans (congrArg some (by kernel_rfl))
  f266 := Try.func90.trans (congrArg some (by kernel_rfl))
  f267 := Try.func93.trans (congrArg some (by kernel_rfl))
  f314 := Try.func94.trans (congrArg some (by kernel_rfl))
  t0 := Try.underlying0
  a0 := Try.isAgg0
  z0 := Try.sizeOf0
  v0 := Try.zeroValue0
  t3 := Try.underlying3
  a3 := Try.isAgg3
  z3 := Try.sizeOf3
  v3 := Try.zeroValue3
  t4 := Try.underlying4
  a4 := Try.isAgg4
  z4 := Try.sizeOf4
  v4 := Try.zeroValue4
  t5 := Try.underlying5
  a5 := Try.isAgg5
  z5 := Try.sizeOf5
  v5 := Try.zeroValue5
  t9 := Try.underlying9
  a9 := Try.isAgg9
  z9 := Try.sizeOf9
  v9 := Try.zeroValue9
  t46 := Try.underlying115
  a46 := Try.isAgg115
  z46 := Try.sizeOf115
  v46 := Try.zeroValue115
  t51 := Try.underlying133
  a51 := Try.isAgg133
  z51 := Try.sizeOf133
  v51 := Try.zeroValue133
  t146 := Try.underlying154
  a146 := Try.isAgg154
  z146 := Try.sizeOf154
  v146 := Try.zeroValue154
  g1 := by kernel_rfl }
open Go.RowKit Go.Lib in
/-- strings.Count AT A substr OF ONE BYTE ('hp'): "Count counts the number of non-overlapping instances of substr in s.": IT RETURNS 'Lib.countByte s (that byte)'; the world is as it was. ✋ NO CONTRACT HERE YET at an empty substr (utf8.RuneCountInString) or at a longer one (a loop over strings.Index). (LAID: no walk: one application.) -/
theorem Try.strings_Count_one (s : ByteArray) (c : UInt8) (w : World) :
    Calls Try.prog 71 #[.string s, .string ⟨#[c]⟩] w fun e w' => e = .returned (.int .i64 (Lib.countByte s.data.toList c)) ∧ w' = w := Any.strings_Count_one Try.lays138 s c w
open Go.RowKit Go.Lib in
/-- strings.Count AT A substr OF TWO BYTES OR MORE: "Count counts the number of non-overlapping instances of substr in s.": IT RETURNS 'Lib.count s substr'; the world is as it was. (LAID: no walk: one application.) -/
theorem Try.strings_Count (s sub : ByteArray) (m : Int) (w : World) (hs : s.size < 4294967281) (hm : w.cell? ⟨0, 0, none⟩ = some (.int .i64 m)) (h2 : 2 ≤ sub.size) :
    Calls Try.prog 71 #[.string s, .string sub] w fun e w' => e = .returned (.int .i64 (Lib.countB s sub)) ∧ w' = w := Any.strings_Count Try.lays138 s sub m w hs hm h2
end Go.Proofs
namespace Go.Proofs.Yticheeacbajeeaa.Pc
open Go.RowKit

theorem cell_lt {w : World} {a : Addr} {v : Value} (h : w.cell? a = some v) : a.block < w.heap.size := by
  rcases Nat.lt_or_ge a.block w.heap.size with h' | h'
  · exact h'
  · unfold World.cell? at h
    simp [Array.getElem?_eq_none h'] at h
theorem below_cell {w w' : World} (hb : Below w.heap.size w w') {a : Addr} {v : Value} (h : w.cell? a = some v) : w'.cell? a = some v := by
  rw [hb.cell (p := a) (cell_lt h)]; exact h
theorem below_trans {a b c : World} (h : Below a.heap.size a b) (k : Below b.heap.size b c) : Below a.heap.size a c :=
  h.trans (k.mono h.size)
theorem lt_of_heap {w : World} {b : Nat} {o : Obj} (h : w.heap[b]? = some o) : b < w.heap.size := (Array.getElem?_eq_some_iff.1 h).1

theorem quiet_same {P : Program} {f : FuncId} {args : Array Value} {w : World} {n : Nat} {v : Value}
    (h : Calls P f args (w.drewN n) fun e w' => e = .returned v ∧ w.drewN n = w') : Calls P f args (w.drewN n) fun e w'' => e = .returned v ∧ ∃ m, w'' = w.drewN m :=
  h.mono fun _ _ ⟨he, hm⟩ => ⟨he, n, hm.symm⟩

/-- clamped -/
def cl (n m : Int) : Int := if n < 0 then 0 else if m < n then m else n
theorem cl_bd (n m : Int) (h : 0 ≤ m) : 0 ≤ cl n m ∧ cl n m ≤ m := by
  unfold cl
  split
  · omega
  · split <;> omega
theorem cl_id {n m : Int} (h : 0 ≤ n) (h2 : n ≤ m) : cl n m = n := by
  unfold cl
  split
  · omega
  · split <;> omega
theorem ret_int {k : IntKind} {a b : Int} (h : a = b) : Ending.returned (.int k a) = .returned (.int k b) := by rw [h]

theorem size_data (s : ByteArray) : s.data.size = s.size := rfl
theorem get_bang (s : ByteArray) (i : Nat) (h : i < s.size) : s[i]'h = s.get! i := by
  have := get_at s i h
  simpa using this.symm
/-- a byte of a string -/
theorem idx_fact (s : ByteArray) (i : Nat) (hi : i < s.size) : ∀ W : World, (Instr.index 9 (.string s) (.int .i64 (i : Int))).run Try.prog W = .ok (.int .u8 ((s.get! i).toNat : Int)) W := by
  intro W
  rw [run_index_string W 9 s .i64 _ Try.underlying9, dif_pos ⟨by omega, by omega⟩]
  have e : ((i : Int)).toNat = i := by omega
  simp only [e, get_bang s i hi]
theorem is_nl (s : ByteArray) (i : Nat) (h : s.get! i = 10) : (((s.get! i).toNat : Int) == 10) = true := by
  rw [h]; rfl
theorem no_nl (s : ByteArray) (i : Nat) (h : s.get! i ≠ 10) : (((s.get! i).toNat : Int) == 10) = false := by
  rw [beq_eq_false_iff_ne]
  intro e
  apply h
  have : (s.get! i).toNat = 10 := by omega
  exact UInt8.toNat_inj.1 (by rw [this]; rfl)

theorem results_cell1 {fn : Func} {p : Tmp} {ty : TypeId} (h : fn.results = #[.cell p ty]) (tmps : Array Value) (P : Program) (w : World) :
    (results fn tmps).run P w = ((asAddr (tmps.getD p undef)).run P w).andThen fun a w₁ => (loadVar ty a).run P w₁ := by
  simp only [results, h]
  simp [Sem.run_bind, Result.andThen]

theorem bel_up (w : World) (o : Obj) : Below w.heap.size w (w.alloc o) := (Below.refl _ _).alloc (Nat.le_refl _) _
theorem cell_up {w : World} {a : Addr} {v : Value} (o : Obj) (h : w.cell? a = some v) : (w.alloc o).cell? a = some v := below_cell (bel_up w o) h
theorem cell1 (w : World) (a : Value) (t : TypeId) : (w.alloc (.cells #[a] t)).cell? ⟨w.heap.size, 0, none⟩ = some a := by
  rw [World.cell?_alloc_at _ _ _ _ (by simp)]; rfl
theorem cells2 (w : World) (a b : Value) (t : TypeId) : (w.alloc (.cells #[a, b] t)).cell? ⟨w.heap.size, 0, none⟩ = some a ∧ (w.alloc (.cells #[a, b] t)).cell? ⟨w.heap.size, 1, none⟩ = some b := by
  constructor <;> (rw [World.cell?_alloc_at _ _ _ _ (by simp)]; rfl)
theorem cells3 (w : World) (a b c : Value) (t : TypeId) : (w.alloc (.cells #[a, b, c] t)).cell? ⟨w.heap.size, 0, none⟩ = some a ∧ (w.alloc (.cells #[a, b, c] t)).cell? ⟨w.heap.size, 1, none⟩ = some b ∧ (w.alloc (.cells #[a, b, c] t)).cell? ⟨w.heap.size, 2, none⟩ = some c := by
  refine ⟨?_, ?_, ?_⟩ <;> (rw [World.cell?_alloc_at _ _ _ _ (by simp)]; rfl)

end Go.Proofs.Yticheeacbajeeaa.Pc
