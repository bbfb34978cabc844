import Derived.Test.YtcfmpmhdjkchjaaTsf
import Derived.Test.YtcfmpmhdjkchjaaTsg
import Derived.Test.YtcfmpmhdjkchjaaTty
namespace Go.Proofs.Ytcfmpmhdjkchjaa
open Go.RowKit Go.Maps

/-- Where a cursor may stand. -/
def Pos (t : List Nd) (x : Int) : Prop := (kns t = [] ∧ x = -1) ∨ (Fo (kds t) ∧ ∃ c : Nat, x = (c : Int) ∧ c < t.length)
theorem Pos.mv {t : List Nd} {x y : Int} (h : Pos t x) (hy : goes y = true → ∀ c : Nat, Fo (kds t) → x = (c : Int) → c < t.length → ∃ z : Nat, y = (z : Int) ∧ z < t.length) (hn : kns t = [] → x = -1 → y = -1) : Pos t (gone x y) := by
  rcases h with ⟨h1, h2⟩ | ⟨h1, c, h2, h3⟩
  · exact Or.inl ⟨h1, by rw [hn h1 h2, h2]; rfl⟩
  · cases hg : goes y with
    | true =>
      obtain ⟨z, hz, hl⟩ := hy hg c h1 h2 h3
      exact Or.inr ⟨h1, z, by rw [gone_yes hg, hz], hl⟩
    | false => exact Or.inr ⟨h1, c, by rw [gone_no hg, h2], h3⟩
theorem Pos.dn {t : List Nd} {x : Int} (h : Pos t x) : Pos t (gone x (blw (kns t) x)) :=
  h.mv (fun hg c hf e hc => by subst e; exact goes_blw hf c hc hg) (fun h1 h2 => by rw [h1, h2]; rfl)
theorem Pos.nx {t : List Nd} {x : Int} (h : Pos t x) : Pos t (gone x (bsd (kns t) x)) :=
  h.mv (fun hg c hf e hc => by subst e; exact goes_bsd hf c hc hg) (fun h1 h2 => by rw [h1, h2]; rfl)
theorem Pos.ab {t : List Nd} {x : Int} (h : Pos t x) : Pos t (gone x (abv (kns t) x)) :=
  h.mv (fun hg c hf e hc => by subst e; exact goes_abv hf c hc hg) (fun h1 h2 => by rw [h1, h2]; rfl)
theorem Fo.last {l : List Int} {k : Nat} (h : rt l = some k) : wA l 0 k = l.length := by
  have hf : Fo l := ⟨k, h⟩
  have ht := Fo.top h
  obtain ⟨h1, h2, _⟩ := hf.end 0 k (Nat.zero_le _) (by omega)
  rcases Nat.lt_or_ge (wA l 0 k) l.length with h3 | h3
  · have := hf.pos _ h3; omega
  · omega
/-- What find answers a cursor. -/
def Rfd (B : Nat) (w0 : World) (t : List Nd) (x : Int) (y : Nd) (vy : Value) (c pp : Int) (bb : Bool) : Prop :=
  (bb = true ∧ Fo (kds t) ∧ ∃ c' : Nat, c' < t.length ∧ x = (c' : Int) ∧ c = (c' : Int) ∧ y = t.getD c' ndd ∧ TrM (fun g => B ≤ g) w0 t c' vy ∧ pp = pl (kds t) c')
  ∨ (bb = false ∧ kns t = [] ∧ x = -1)
/-- A forest in a cursor. -/
def Mf (B : Nat) (w0 : World) (t : List Nd) (ad : Option Addr) (k cp : Nat) : Prop :=
  rt (kds t) = some k ∧ FrM (fun g => B ≤ g) w0 t (.slice ad k cp) 0 k ∨ rt (kds t) = none ∧ ad = none ∧ k = 0 ∧ cp = 0
def RfE (B : Nat) (w0 : World) (t : List Nd) (x : Int) (w w' : World) (e : Ending) : Prop :=
  ∃ y ad nn cp c pp bb, e = .returned (.tuple #[.agg (tA y (.slice ad nn cp) c), .int .i64 pp, .bool bb]) ∧ Rfd B w0 t x y (.slice ad nn cp) c pp bb ∧ Below w.heap.size w w'
theorem rfind_any {B : Nat} {w0 : World} {t : List Nd} {ad : Option Addr} {k cp : Nat} {x : Int} (hs : t.length * 72 + 4096 ≤ 140737488355328) (hm : Mf B w0 t ad k cp) (hp : Pos t x) (w : World) (hb : Below w0.heap.size w0 w) :
    Calls Try.prog 44 #[.slice ad k cp, .int .i64 x, .int .i64 (-1)] w fun e w' => RfE B w0 t x w w' e := by
  rcases hm with ⟨h1, h2⟩ | ⟨h1, rfl, rfl, rfl⟩
  · have hf : Fo (kds t) := ⟨k, h1⟩
    refine (find_any hs hf x (t.length + 1) 0 k (-1) _ w (by omega) (by omega) (by rw [Fo.top h1]; exact Nat.le_refl _) h2 hb).mono ?_
    rintro e w' ⟨y, ad, nn, cp, c, pp, bb, rfl, hr, hb'⟩
    refine ⟨y, ad, nn, cp, c, pp, bb, rfl, ?_, hb'⟩
    rcases hr with ⟨rfl, c', i, hi, e1, e2, e3, e4, e5, e6⟩ | ⟨rfl, c', h3, h4, _, e2, e3, e4, e5, e6⟩ | ⟨rfl, h3, _⟩
    · have hro : Ro (kds t) i c' := ⟨by rw [Fo.top h1]; exact hi, e1⟩
      have hlt := hro.lt hf
      rw [kds_len] at hlt
      exact Or.inl ⟨rfl, hf, c', hlt, e2, e3, e4, e5, by rw [e6, pl_ro hf hro]⟩
    · rw [Fo.last h1, kds_len] at h4
      exact Or.inl ⟨rfl, hf, c', h4, e2, e3, e4, e5, e6⟩
    · rw [Fo.last h1, kds_len] at h3
      rcases hp with ⟨p1, p2⟩ | ⟨_, c, p2, p3⟩
      · exact Or.inr ⟨rfl, p1, p2⟩
      · omega
  · refine (find_any (P := fun g => B ≤ g) (w0 := w0) (t := []) (by decide) ⟨0, rfl⟩ x 1 0 0 (-1) _ w (by decide) (by decide) (Nat.zero_le _) ⟨[], rfl, ⟨none, 0, 0, 0, rfl, by omega, fun _ => ⟨rfl, rfl⟩, fun h => by omega, fun j u h => by simp [flat] at h⟩, fun z hz => by cases hz⟩ hb).mono ?_
    rintro e w' ⟨y, ad, nn, cp, c, pp, bb, rfl, hr, hb'⟩
    refine ⟨y, ad, nn, cp, c, pp, bb, rfl, ?_, hb'⟩
    rcases hp with ⟨p1, p2⟩ | ⟨⟨r, p1⟩, _⟩
    · rcases hr with ⟨rfl, c', i, hi, _⟩ | ⟨rfl, c', h3, h4, _⟩ | ⟨rfl, h3, _⟩
      · omega
      · rw [wA_zero] at h4; omega
      · exact Or.inr ⟨rfl, p1, p2⟩
    · rw [h1] at p1; cases p1
/-- Trees beside one another: roots, or one node's children. -/
def Sib (l : List Int) (a k : Nat) (P : Int) : Prop := (a = 0 ∧ k = rA l 0 ∧ P = -1) ∨ ∃ p : Nat, p < l.length ∧ a = p + 1 ∧ k = kA l p ∧ P = (p : Int)
theorem Sib.is {l : List Int} (hf : Fo l) {a k : Nat} {P : Int} (h : Sib l a k P) : a ≤ l.length ∧ k ≤ rA l a ∧ (∀ i, i < k → pl l (wA l a i) = P) ∧ (∀ c, c < l.length → pl l c = P → ∃ i, i < k ∧ wA l a i = c) := by
  rcases h with ⟨rfl, rfl, rfl⟩ | ⟨p, hp, rfl, rfl, rfl⟩
  · refine ⟨Nat.zero_le _, Nat.le_refl _, fun i hi => pl_ro hf ⟨hi, rfl⟩, fun c hc e => ?_⟩
    rcases pl_is hf c hc with ⟨_, i, hi⟩ | ⟨q, i, e1, _⟩
    · exact ⟨i, hi.1, hi.2⟩
    · omega
  · refine ⟨hp, (hf.step p hp).2.2.1, fun i hi => pl_ch hf ⟨hp, hi, rfl⟩, fun c hc e => ?_⟩
    rcases pl_is hf c hc with ⟨e1, _⟩ | ⟨q, i, e1, _, hi⟩
    · omega
    · have : q = p := by omega
      subst this
      exact ⟨i, hi.2.1, hi.2.2⟩
theorem Sib.next {l : List Int} (hf : Fo l) {a k i : Nat} {P : Int} (h : Sib l a k P) (hi : i < k) : if i + 1 < k then eA l (wA l a i) = wA l a (i + 1) ∧ wA l a (i + 1) < l.length ∧ pl l (wA l a (i + 1)) = P else ¬(eA l (wA l a i) < l.length ∧ pl l (eA l (wA l a i)) = P) := by
  obtain ⟨h1, h2, h3, h4⟩ := h.is hf
  split
  · next hk => exact ⟨(hf.next a i (by omega)).symm, hf.lt a (i + 1) h1 (by omega), h3 _ hk⟩
  · next hk =>
    rintro ⟨q1, q2⟩
    obtain ⟨j, hj, hw⟩ := h4 _ q1 q2
    have hn := hf.next a i (by omega)
    have := hf.mono a j (i + 1) h1 (by omega) (by omega)
    have := hf.mono a j i h1 (by omega) (by omega)
    have := (hf.elt _ (hf.lt a i h1 (by omega))).1
    omega
end Go.Proofs.Ytcfmpmhdjkchjaa
