import Derived.Test.YtbkhhegmmkcbbaaDoorPcs
namespace Go.Proofs.YtbkhhegmmkcbbaaDoor
open Go.RowKit Go.Maps

/-! The spans of a list of nodes, as the program reckons them. -/
structure Ar where
  fr : Int
  tt : Int
  cl : ByteArray
structure Oq where
  ar : Ar
  lf : Int
def arf (x : Ar) : List Value := [.int .i64 x.fr, .int .i64 x.tt, .string x.cl]
def oqf (x : Oq) : List Value := [.int .i64 x.ar.fr, .int .i64 x.ar.tt, .string x.ar.cl, .int .i64 x.lf]
theorem arf_len (x : Ar) : (arf x).length = 3 := rfl
theorem oqf_len (x : Oq) : (oqf x).length = 4 := rfl
theorem arf_one (x : Ar) : ∀ u ∈ arf x, u.oneCell' = true := fun u hu => by
  simp only [arf, List.mem_cons, List.not_mem_nil, or_false] at hu
  rcases hu with rfl | rfl | rfl <;> rfl
theorem oqf_one (x : Oq) : ∀ u ∈ oqf x, u.oneCell' = true := fun u hu => by
  simp only [oqf, List.mem_cons, List.not_mem_nil, or_false] at hu
  rcases hu with rfl | rfl | rfl | rfl <;> rfl
def arz : Ar := ⟨0, 0, ⟨#[]⟩⟩
def oqz : Oq := ⟨arz, 0⟩
/-- The class of a name by the first line that has it. -/
def lcl (L : List Pa) (t : ByteArray) : Option ByteArray := (fs L t).map fun k => (L.getD k paz).cl
/-- A child's area. -/
def bel1 (a : Ar) (n : Nd) : Ar := ⟨max a.fr n.fr, min a.tt n.tt, a.cl⟩
def own1 (C : ByteArray → Option ByteArray) (a : Ar) (n : Nd) : Ar := ⟨max a.fr n.fr, min a.tt n.tt, (C n.nm).getD a.cl⟩
def dec1 (z : Int) : Int := IntKind.i64.wrap (z - 1)
/-- Those that are done leave the stack (its top first). -/
def popr : List Ar → List Oq → List Ar × List Oq
  | out, x :: y :: R => if x.lf = 0 then popr (out ++ [x.ar]) (y :: R) else (out, x :: y :: R)
  | out, R => (out, R)
def pstep (C : ByteArray → Option ByteArray) (s : List Ar × List Oq) (n : Nd) : List Ar × List Oq :=
  match s.2 with
  | [] => s
  | t :: R => popr s.1 (⟨own1 C t.ar n, n.kd⟩ :: ⟨t.ar, dec1 t.lf⟩ :: R)
def ar0 : List Ar × List Oq := ([], [⟨⟨0, 9223372036854775807, ⟨#[]⟩⟩, 0⟩])
def ars (C : ByteArray → Option ByteArray) (T : List Nd) : List Ar × List Oq := T.foldl (pstep C) ar0
theorem popr_ne : ∀ (R : List Oq) (out : List Ar), R ≠ [] → (popr out R).2 ≠ []
  | [], _, h => h
  | [_], _, _ => by unfold popr; exact List.cons_ne_nil _ _
  | x :: y :: R, out, _ => by
    unfold popr
    split
    · exact popr_ne (y :: R) _ (List.cons_ne_nil _ _)
    · exact List.cons_ne_nil _ _
theorem pstep_ne {C : ByteArray → Option ByteArray} {s : List Ar × List Oq} (h : s.2 ≠ []) (n : Nd) : (pstep C s n).2 ≠ [] := by
  unfold pstep
  split
  · exact h
  · exact popr_ne _ _ (List.cons_ne_nil _ _)
theorem fold_ne (C : ByteArray → Option ByteArray) : ∀ (T : List Nd) (s : List Ar × List Oq), s.2 ≠ [] → (T.foldl (pstep C) s).2 ≠ []
  | [], _, h => h
  | n :: T, _, h => fold_ne C T _ (pstep_ne h n)
/-- Areas and open ones together are no more than the nodes that came. -/
theorem popr_len : ∀ (R : List Oq) (out : List Ar), (popr out R).1.length + (popr out R).2.length = out.length + R.length
  | [], _ => rfl
  | [_], _ => rfl
  | x :: y :: R, out => by
    unfold popr
    split
    · rw [popr_len (y :: R)]; simp; omega
    · rfl
theorem pstep_len {C : ByteArray → Option ByteArray} {s : List Ar × List Oq} (h : s.2 ≠ []) (n : Nd) : (pstep C s n).1.length + (pstep C s n).2.length = s.1.length + s.2.length + 1 := by
  unfold pstep
  cases hq : s.2 with
  | nil => exact absurd hq h
  | cons t R => simp only; rw [popr_len]; simp; omega
theorem fold_len (C : ByteArray → Option ByteArray) : ∀ (T : List Nd) (s : List Ar × List Oq), s.2 ≠ [] → (T.foldl (pstep C) s).1.length + (T.foldl (pstep C) s).2.length = s.1.length + s.2.length + T.length
  | [], _, _ => rfl
  | n :: T, s, h => by
    have h1 := fold_len C T _ (pstep_ne (C := C) h n)
    rw [pstep_len h] at h1
    rw [List.foldl_cons, h1, List.length_cons]; omega
theorem ars_len (C : ByteArray → Option ByteArray) (T : List Nd) : (ars C T).1.length + (ars C T).2.length = T.length + 1 := by
  unfold ars
  rw [fold_len C T ar0 (List.cons_ne_nil _ _)]
  show 0 + 1 + T.length = _
  omega
theorem ars_take (C : ByteArray → Option ByteArray) (T : List Nd) (i : Nat) (h : i < T.length) : ars C (T.take (i + 1)) = pstep C (ars C (T.take i)) (T.getD i ndd) := by
  have e : T.take (i + 1) = T.take i ++ [T.getD i ndd] := by
    rw [List.take_add_one, List.getD_eq_getElem?_getD, List.getElem?_eq_getElem h]; rfl
  unfold ars
  rw [e, List.foldl_append]; rfl
theorem ars_ne (C : ByteArray → Option ByteArray) (T : List Nd) : (ars C T).2 ≠ [] := fold_ne C T ar0 (List.cons_ne_nil _ _)
/-- The places at which a class may change. -/
def eds (A : List Ar) : List Int := A.flatMap fun a => [a.fr, a.tt]
def ddp : List Int → List Int
  | [] => []
  | x :: l => if x ∈ l then ddp l else x :: ddp l
theorem ddp_mem (y : Int) : ∀ l, y ∈ ddp l ↔ y ∈ l
  | [] => Iff.rfl
  | x :: l => by
    unfold ddp
    split
    · next h =>
      rw [ddp_mem y l, List.mem_cons]
      exact ⟨Or.inr, fun h1 => h1.elim (fun e => e ▸ h) id⟩
    · rw [List.mem_cons, List.mem_cons, ddp_mem y l]
theorem ddp_nodup : ∀ l, (ddp l).Nodup
  | [] => List.nodup_nil
  | x :: l => by
    unfold ddp
    split
    · exact ddp_nodup l
    · next h => exact List.nodup_cons.2 ⟨fun h1 => h ((ddp_mem x l).1 h1), ddp_nodup l⟩
def cts (A : List Ar) : List Int := (ddp (eds A)).mergeSort fun x y => decide (x ≤ y)
def num (P : List Int) (x : Int) : Nat := P.idxOf x
/-- The class of the bytes from a cut on: the first area's that has them. -/
def fa (A : List Ar) (P : List Int) (c : Nat) : ByteArray := match A.find? (fun a => decide (num P a.fr ≤ c ∧ c < num P a.tt)) with
  | some a => a.cl
  | none => ⟨#[]⟩
structure Sn where
  fr : Int
  tt : Int
  cl : ByteArray
def snf (x : Sn) : List Value := [.int .i64 x.fr, .int .i64 x.tt, .string x.cl]
def snz : Sn := ⟨0, 0, ⟨#[]⟩⟩
/-- One more span behind all. -/
def jn (O : List Sn) (s : Sn) : List Sn := match O.getLast? with
  | some x => if x.tt = s.fr ∧ x.cl = s.cl then O.dropLast ++ [⟨x.fr, s.tt, x.cl⟩] else O ++ [s]
  | none => [s]
def spr (A : List Ar) (P : List Int) : Nat → List Sn
  | 0 => []
  | i + 1 => if fa A P i = ⟨#[]⟩ then spr A P i else jn (spr A P i) ⟨P.getD i 0, P.getD (i + 1) 0, fa A P i⟩
def spn (C : ByteArray → Option ByteArray) (T : List Nd) : List Sn := if (ars C T).2.length = 1 then spr (ars C T).1 (cts (ars C T).1) (cts (ars C T).1).length else []
end Go.Proofs.YtbkhhegmmkcbbaaDoor
