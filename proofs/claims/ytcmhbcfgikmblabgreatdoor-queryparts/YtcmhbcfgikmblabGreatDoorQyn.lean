import Derived.Test.YtcmhbcfgikmblabGreatDoorBay
import Derived.Test.YtcmhbcfgikmblabGreatDoorTvb
import Derived.Test.YtcmhbcfgikmblabGreatDoorSpf
namespace Go.Proofs.YtcmhbcfgikmblabGreatDoor.Qy
open Go.RowKit Go.Maps

/-- A name other than _, or nothing. -/
def nmN (t : ByteArray) : Bool := decide (t = ⟨#[]⟩) || (!decide (t = ⟨#[95]⟩) && snm t.data.toList)
def nsh (n : Pn) : Bool := nmN n.fd && (nmN n.cp && (if n.lit then !decide (n.nm = ⟨#[]⟩) && decide (n.kd = 0) else nmN n.nm))
def csh (l : List Pn) (c : Cd) : Bool := !decide (cap l c.a = -1) && (decide (c.b = ⟨#[]⟩) || (decide (c.tx = ⟨#[]⟩) && !decide (cap l c.b = -1)))
/-- A node at its place. -/
def nat' (l : List Pn) (i : Nat) : Bool := nsh (l.getD i pz) && (decide ((l.getD i pz).cp = ⟨#[]⟩) || decide (cap l (l.getD i pz).cp = (i : Int)))
def pks (l : List Pn) : List Int := l.map Pn.kd
/-- Well shaped. -/
def shp (l : List Pn) (c : List Cd) : Bool := decide (l.length ≤ 32) && (decide (c.length ≤ 16) && (decide (Tr.rt (pks l) = some 1) && ((List.range l.length).all (nat' l) && c.all (csh l))))
end Go.Proofs.YtcmhbcfgikmblabGreatDoor.Qy
namespace Go.Proofs.YtcmhbcfgikmblabGreatDoor.Qy
open Go.RowKit Go.Maps

/-- Does the one fit the other, but for their children? -/
def alk (p : Pn) (v : Tr.Nd) : Bool := if p.fd ≠ ⟨#[]⟩ ∧ p.fd ≠ v.fd then false else if p.lit then !v.nd && decide (p.nm = v.nm) else decide (p.nm = ⟨#[]⟩) || (v.nd && decide (p.nm = v.nm))
/-- Where the children of a pattern's node stand. -/
def kN (l : List Int) (c : Nat) : List Nat := (List.range (Tr.kA l c)).map (fun j => Tr.wA l (c + 1) j)
/-- A node of the pattern at a node; children of a pattern among those of a node, from a place to another. -/
def ft (P : List Pn) (T : List Tr.Nd) : Nat → Option Nat → List Nat → Nat → Option (List Int)
  | 0, _, _, _ => none
  | _ + 1, none, [], _ => none
  | n + 1, none, c :: _, v => if alk (P.getD c pz) (T.getD v Tr.ndd) then (ft P T n (some (Tr.eA (Tr.kds T) v)) (kN (pks P) c) (v + 1)).map ((v : Int) :: ·) else none
  | _ + 1, some _, [], _ => some []
  | n + 1, some e, c :: cs, a => if a < e then (match ft P T n none [c] a with
      | some l => (ft P T n (some e) cs (Tr.eA (Tr.kds T) a)).map (l ++ ·)
      | none => ft P T n (some e) (c :: cs) (Tr.eA (Tr.kds T) a)) else none
/-- The bytes of a node. -/
def byo (x : Tr.Nd) (s : ByteArray) : ByteArray := if max x.fr 0 ≥ min x.tt (s.size : Int) then ⟨#[]⟩ else s.extract (max x.fr 0).toNat (min x.tt (s.size : Int)).toNat
/-- Do the conditions hold? -/
def cho (P : List Pn) (T : List Tr.Nd) (s : ByteArray) (F : List Int) (c : Cd) : Bool :=
  (decide (byo (T.getD (F.getD (cap P c.a).toNat 0).toNat Tr.ndd) s = (if cap P c.b = -1 then c.tx else byo (T.getD (F.getD (cap P c.b).toNat 0).toNat Tr.ndd) s))) != c.nt
def hld (P : List Pn) (cs : List Cd) (T : List Tr.Nd) (s : ByteArray) (F : List Int) : Bool := cs.all (cho P T s F)
/-- The match at a node, if there is one. -/
def mt1 (P : List Pn) (cs : List Cd) (T : List Tr.Nd) (s : ByteArray) (v : Nat) : Option (List Int) := match ft P T (2 * T.length + 1) none [0] v with
  | some l => if hld P cs T s l then some l else none
  | none => none
def alls (P : List Pn) (cs : List Cd) (T : List Tr.Nd) (s : ByteArray) (n : Nat) : List (List Int) := (List.range n).filterMap (mt1 P cs T s)
theorem alls_succ (P : List Pn) (cs : List Cd) (T : List Tr.Nd) (s : ByteArray) (n : Nat) : alls P cs T s (n + 1) = alls P cs T s n ++ (match mt1 P cs T s n with | some l => [l] | none => []) := by
  unfold alls
  rw [List.range_succ, List.filterMap_append]
  congr 1
  cases h : mt1 P cs T s n <;> simp [h]
theorem kN_len (l : List Int) (c : Nat) : (kN l c).length = Tr.kA l c := by unfold kN; simp
/-- From the j-th child on. -/
def kF (l : List Int) (c j : Nat) : List Nat := (kN l c).drop j
theorem kF_cons (l : List Int) (c j : Nat) (h : j < Tr.kA l c) : kF l c j = Tr.wA l (c + 1) j :: kF l c (j + 1) := by
  unfold kF
  rw [List.drop_eq_getElem_cons (by rw [kN_len]; exact h)]
  unfold kN
  simp
theorem kF_nil (l : List Int) (c : Nat) : kF l c (Tr.kA l c) = [] := List.drop_eq_nil_of_le (by rw [kN_len]; exact Nat.le_refl _)
/-- A match has as many nodes as its pattern. -/
theorem ft_len (P : List Pn) (T : List Tr.Nd) (hf : Tr.Fo (pks P)) : ∀ (n : Nat),
    (∀ c cs v l, ft P T n none (c :: cs) v = some l → c < P.length → l.length = Tr.eA (pks P) c - c) ∧
    (∀ e c j a l, ft P T n (some e) (kF (pks P) c j) a = some l → c < P.length → j ≤ Tr.kA (pks P) c → l.length = Tr.eA (pks P) c - Tr.wA (pks P) (c + 1) j) := by
  have hpl : (pks P).length = P.length := by unfold pks; simp
  intro n
  induction n with
  | zero => exact ⟨fun c cs v l h => by simp [ft] at h, fun e c j a l h => by simp [ft] at h⟩
  | succ n ih =>
    obtain ⟨ih1, ih2⟩ := ih
    constructor
    · intro c cs v l h hc
      unfold ft at h
      split at h
      · cases hq : ft P T n (some (Tr.eA (Tr.kds T) v)) (kN (pks P) c) (v + 1) with
        | none => rw [hq] at h; simp at h
        | some k =>
          rw [hq] at h
          simp only [Option.map_some, Option.some.injEq] at h
          have h2 := ih2 _ c 0 _ k hq hc (Nat.zero_le _)
          rw [Tr.wA_zero] at h2
          have h3 := hf.elt c (by rw [hpl]; exact hc)
          rw [← h, List.length_cons, h2]
          omega
      · simp at h
    · intro e c j a l h hc hj
      rcases Nat.lt_or_ge j (Tr.kA (pks P) c) with hlt | hge
      · rw [kF_cons _ _ _ hlt] at h
        obtain ⟨s1, s2, s3, s4⟩ := hf.step c (by rw [hpl]; exact hc)
        unfold ft at h
        split at h
        · cases hq : ft P T n none [Tr.wA (pks P) (c + 1) j] a with
          | none =>
            rw [hq] at h
            simp only at h
            rw [← kF_cons _ _ _ hlt] at h
            exact ih2 _ c j _ l h hc hj
          | some k =>
            rw [hq] at h
            simp only at h
            cases hr : ft P T n (some e) (kF (pks P) c (j + 1)) (Tr.eA (Tr.kds T) a) with
            | none => rw [hr] at h; simp at h
            | some k2 =>
              rw [hr] at h
              simp only [Option.map_some, Option.some.injEq] at h
              have hlt2 : Tr.wA (pks P) (c + 1) j < P.length := by rw [← hpl]; exact hf.lt (c + 1) j (by rw [hpl]; omega) (by omega)
              have g1 := ih1 _ [] a k hq hlt2
              have g2 := ih2 _ c (j + 1) _ k2 hr hc (by omega)
              have g3 := hf.next (c + 1) j (by omega)
              have g4 := hf.elt (Tr.wA (pks P) (c + 1) j) (by rw [hpl]; exact hlt2)
              have g5 := hf.mono (c + 1) (j + 1) (Tr.kA (pks P) c) (by rw [hpl]; omega) (by omega) s3
              rw [← hf.eq c (by rw [hpl]; exact hc)] at g5
              rw [← g3] at g1 g4
              rw [← h, List.length_append, g1, g2]
              omega
        · simp at h
      · have e1 : j = Tr.kA (pks P) c := by omega
        subst e1
        rw [kF_nil] at h
        unfold ft at h
        simp only [Option.some.injEq] at h
        rw [← h, hf.eq c (by rw [hpl]; exact hc), Nat.sub_self]
        rfl
end Go.Proofs.YtcmhbcfgikmblabGreatDoor.Qy
