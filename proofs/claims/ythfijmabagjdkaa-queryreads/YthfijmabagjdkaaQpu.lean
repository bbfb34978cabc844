import Derived.Test.YthfijmabagjdkaaBas
namespace Go.Proofs.Ythfijmabagjdkaa.Qy
open Go.RowKit Go.Maps

/-- A node of a pattern; a condition. -/
structure Pn where
  nm : ByteArray
  lit : Bool
  fd : ByteArray
  cp : ByteArray
  kd : Int
  deriving DecidableEq
structure Cd where
  nt : Bool
  a : ByteArray
  b : ByteArray
  tx : ByteArray
  deriving DecidableEq
def pz : Pn := ⟨⟨#[]⟩, false, ⟨#[]⟩, ⟨#[]⟩, 0⟩
def cz : Cd := ⟨false, ⟨#[]⟩, ⟨#[]⟩, ⟨#[]⟩⟩
def pf (x : Pn) : List Value := [.string x.nm, .bool x.lit, .string x.fd, .string x.cp, .int .i64 x.kd]
def cf (x : Cd) : List Value := [.bool x.nt, .string x.a, .string x.b, .string x.tx]
abbrev pV (x : Pn) : Value := .agg #[.string x.nm, .bool x.lit, .string x.fd, .string x.cp, .int .i64 x.kd]
abbrev cV (x : Cd) : Value := .agg #[.bool x.nt, .string x.a, .string x.b, .string x.tx]
abbrev wV (x : Wd) : Value := .agg #[.int .i64 x.k, .string ⟨x.t.toArray⟩, .int .i64 x.n, .int .i64 x.a]
theorem pf_len (x : Pn) : (pf x).length = 5 := rfl
theorem cf_len (x : Cd) : (cf x).length = 4 := rfl
theorem pf_one (x : Pn) : ∀ u ∈ pf x, u.oneCell' = true := fun u hu => by
  simp only [pf, List.mem_cons, List.not_mem_nil, or_false] at hu
  rcases hu with rfl | rfl | rfl | rfl | rfl <;> rfl
theorem cf_one (x : Cd) : ∀ u ∈ cf x, u.oneCell' = true := fun u hu => by
  simp only [cf, List.mem_cons, List.not_mem_nil, or_false] at hu
  rcases hu with rfl | rfl | rfl | rfl <;> rfl
/-- The place of the first node that has the capture. -/
def ixc : List Pn → ByteArray → Nat → Int
  | [], _, _ => -1
  | n :: l, t, k => if n.cp = t then (k : Int) else ixc l t (k + 1)
def cap (l : List Pn) (t : ByteArray) : Int := if t = ⟨#[]⟩ then -1 else ixc l t 0
/-- The reader: words that are left, what has been made, the error. -/
structure Rs where
  ws : List Wd
  ns : List Pn
  cs : List Cd
  co : Int
def hd (s : Rs) : Wd := s.ws.headD w0
def tl (s : Rs) : Rs := ⟨s.ws.tail, s.ns, s.cs, s.co⟩
def fl (s : Rs) (c : Int) : Rs := ⟨s.ws, s.ns, s.cs, c⟩
def se (s : Rs) (k : Int) (t : List UInt8) : Bool := (hd s).k == k && decide ((hd s).t = t)
def nmA (s : Rs) : Bool := (hd s).k == 1 && !decide ((hd s).t = [95])
def fdA (s : Rs) : Bool := nmA s && se (tl s) 5 [58]
def ndA (s : Rs) : Bool := se s 5 [40] || ((hd s).k == 2 && !decide ((hd s).t = []))
abbrev bs (t : List UInt8) : ByteArray := ⟨t.toArray⟩
/-- A node is changed. -/
def upN (s : Rs) (i : Nat) (f : Pn → Pn) : Rs := ⟨s.ws, s.ns.set i (f (s.ns.getD i pz)), s.cs, s.co⟩
def tk (s : Rs) (t : List UInt8) : Rs := if se s 5 t then tl s else s
def mst (s : Rs) (t : List UInt8) : Bool × Rs := if se s 5 t then (true, tl s) else (false, fl s 200)
/-- A capture's name. -/
def cnm (s : Rs) (kn : Bool) : Bool × Rs :=
  if nmA s then (if kn = decide (cap s.ns (bs (hd s).t) ≠ -1) then (true, tl s) else (false, fl s 201)) else (false, fl s 200)
def cpt (s : Rs) (i : Nat) : Bool × Rs :=
  if se s 5 [64] then (match cnm (tl s) false with
    | (true, s1) => (true, upN s1 i fun p => { p with cp := bs (hd (tl s)).t })
    | (false, s1) => (false, s1)) else (true, s)
/-- The node's field, if there is one. -/
def fld (s : Rs) : Rs :=
  if fdA s then upN ⟨s.ws.drop 2, s.ns, s.cs, s.co⟩ (s.ns.length - 1) fun p => { p with fd := bs (hd s).t } else s
def opn (s : Rs) : Rs := fld ⟨s.ws, s.ns ++ [pz], s.cs, s.co⟩
/-- A pattern; the children of a node. -/
def rdP : Nat → Option Nat → Rs → Bool × Rs
  | 0, _, s => (false, s)
  | n + 1, none, s =>
    if !fdA s && !ndA s then (false, fl s 200)
    else if s.ns.length = 32 then (false, fl s 202)
    else if !ndA (opn s) then (false, fl (opn s) 200)
    else if (hd (opn s)).k = 2 then cpt (upN (tl (opn s)) s.ns.length fun p => { p with lit := true, nm := bs (hd (opn s)).t }) s.ns.length
    else if (hd (tl (opn s))).k ≠ 1 then (false, fl (tl (opn s)) 200)
    else match rdP n (some s.ns.length) (tl (if nmA (tl (opn s)) then upN (tl (opn s)) s.ns.length fun p => { p with nm := bs (hd (tl (opn s))).t } else tl (opn s))) with
      | (true, s1) => cpt s1 s.ns.length
      | (false, s1) => (false, s1)
  | n + 1, some i, s =>
    if se s 5 [41] then (true, tl s)
    else match rdP n none s with
      | (true, s1) => rdP n (some i) (upN s1 i fun p => { p with kd := p.kd + 1 })
      | (false, s1) => (false, s1)
def adC (s : Rs) (c : Cd) : Rs := ⟨s.ws, s.ns, s.cs ++ [c], s.co⟩
/-- What a condition holds its capture against. -/
def oth (s : Rs) : Bool × Rs × ByteArray × ByteArray :=
  if (hd s).k = 2 then (true, tl s, ⟨#[]⟩, bs (hd s).t)
  else match mst s [64] with
    | (false, s1) => (false, s1, ⟨#[]⟩, ⟨#[]⟩)
    | (true, s1) => match cnm s1 true with
      | (false, s2) => (false, s2, ⟨#[]⟩, ⟨#[]⟩)
      | (true, s2) => (true, s2, bs (hd s1).t, ⟨#[]⟩)
/-- A condition. -/
def cnd (s : Rs) : Bool × Rs :=
  if !se s 1 [117, 110, 108, 101, 115, 115] && !se s 1 [119, 104, 101, 110] then (false, fl s 200)
  else if s.cs.length = 16 then (false, fl s 202)
  else match mst (tl s) [64] with
    | (false, s1) => (false, adC s1 ⟨se s 1 [117, 110, 108, 101, 115, 115], ⟨#[]⟩, ⟨#[]⟩, ⟨#[]⟩⟩)
    | (true, s1) => match cnm s1 true with
      | (false, s2) => (false, adC s2 ⟨se s 1 [117, 110, 108, 101, 115, 115], ⟨#[]⟩, ⟨#[]⟩, ⟨#[]⟩⟩)
      | (true, s2) => match mst s2 [61] with
        | (false, s3) => (false, adC s3 ⟨se s 1 [117, 110, 108, 101, 115, 115], bs (hd s1).t, ⟨#[]⟩, ⟨#[]⟩⟩)
        | (true, s3) => ((oth s3).1, adC (oth s3).2.1 ⟨se s 1 [117, 110, 108, 101, 115, 115], bs (hd s1).t, (oth s3).2.2.1, (oth s3).2.2.2⟩)
def rdC : Nat → Rs → Bool × Rs
  | 0, s => (true, s)
  | n + 1, s => if s.ws.length ≤ 1 then (true, s) else match cnd s with
    | (true, s1) => rdC n s1
    | (false, s1) => (false, s1)
def rdA (s : Rs) : Bool × Rs := match rdP (2 * s.ws.length) none s with
  | (true, s1) => rdC s1.ws.length s1
  | (false, s1) => (false, s1)
end Go.Proofs.Ythfijmabagjdkaa.Qy
