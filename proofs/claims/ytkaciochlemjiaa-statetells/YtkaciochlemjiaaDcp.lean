import Derived.Test.YtkaciochlemjiaaDpt
namespace Go.Proofs.Ytkaciochlemjiaa
open Go.RowKit Go.Maps

theorem lpt_of {s : Stt} (h : s.shp = true) (hf : s.flg < 65536) (q : Nat) : Lpt s q := by
  have hl := Lim.of h hf
  match q with
  | 0 => exact ⟨hl.i, hl.iv⟩
  | 1 => exact ⟨hl.p0, hl.p1⟩
  | 2 => exact ⟨hl.q, hl.qv⟩
  | 3 => exact ⟨hl.f, fun f hm => ⟨⟨(hl.fv f hm).1, (hl.fv f hm).2.1⟩, (hl.fv f hm).2.2⟩⟩
  | 4 => exact Nat.le_of_lt_succ hf
  | _ + 5 => exact trivial
/-- The same in a part. -/
def Feq (s s' : Stt) : Nat → Prop
  | 0 => s.ind = s'.ind
  | 1 => s.pen = s'.pen
  | 2 => s.que = s'.que
  | 3 => s.frm = s'.frm
  | 4 => s.flg = s'.flg
  | _ => True
theorem lst_pfx {α : Type} {en : α → List UInt8} {ok : α → Prop} (hp : Pfx en ok) {l l' : List α} {x y : List UInt8} (h : ∀ z ∈ l, ok z) (h' : ∀ z ∈ l', ok z) (e : nm l.length ++ l.flatMap en ++ x = nm l'.length ++ l'.flatMap en ++ y) : l = l' ∧ x = y := by
  rw [List.append_assoc, List.append_assoc] at e
  obtain ⟨e1, e2⟩ := nm_pf e
  obtain ⟨l'', h3, h4⟩ := flat_split hp l l' x y h h' (by omega) e2
  have : l'' = [] := by
    rw [h3, List.length_append] at e1
    exact List.length_eq_zero_iff.1 (by omega)
  subst this
  exact ⟨by rw [h3, List.append_nil], by rw [h4]; rfl⟩
theorem prt_pfx {s s' : Stt} (p : Nat) (hp : p < 5) {x y : List UInt8} (h : Lpt s p) (h' : Lpt s' p) (e : prt s p ++ x = prt s' p ++ y) : Feq s s' p ∧ x = y := by
  match p, hp with
  | 0, _ => exact lst_pfx (nmi_pfx 65536) h.2 h'.2 e
  | 1, _ =>
    obtain ⟨e1, e2⟩ := nm_pf e
    refine ⟨?_, e2⟩
    have := h.1; have := h'.1
    show s.pen = s'.pen
    omega
  | 2, _ => exact lst_pfx tx_pfx h.2 h'.2 e
  | 3, _ => exact lst_pfx frb_pfx h.2 h'.2 e
  | 4, _ => exact nm_pf e
theorem pre_pfx {s s' : Stt} : ∀ p, p ≤ 5 → (∀ q, q < p → Lpt s q) → (∀ q, q < p → Lpt s' q) → ∀ x y, pre s p ++ x = pre s' p ++ y → (∀ q, q < p → Feq s s' q) ∧ x = y
  | 0, _, _, _, x, y, e => ⟨fun q hq => absurd hq (by omega), by simpa [pre] using e⟩
  | p + 1, hp, h, h', x, y, e => by
    simp only [pre, List.append_assoc] at e
    obtain ⟨h1, h2⟩ := pre_pfx p (by omega) (fun q hq => h q (by omega)) (fun q hq => h' q (by omega)) _ _ e
    obtain ⟨h3, h4⟩ := prt_pfx p (by omega) (h p (by omega)) (h' p (by omega)) h2
    refine ⟨fun q hq => ?_, h4⟩
    rcases Nat.lt_or_eq_of_le (Nat.le_of_lt_succ hq) with h | h
    · exact h1 q h
    · subst h; exact h3
theorem enc_pfx {s s' : Stt} (hs : s.shp = true) (hf : s.flg < 65536) (hs' : s'.shp = true) (hf' : s'.flg < 65536) {x y : List UInt8} (e : enc s ++ x = enc s' ++ y) : s = s' ∧ x = y := by
  rw [← pre_five, ← pre_five] at e
  obtain ⟨h1, h2⟩ := pre_pfx 5 (by omega) (fun q _ => lpt_of hs hf q) (fun q _ => lpt_of hs' hf' q) _ _ e
  refine ⟨?_, h2⟩
  have a0 : s.ind = s'.ind := h1 0 (by omega)
  have a1 : s.pen = s'.pen := h1 1 (by omega)
  have a2 : s.que = s'.que := h1 2 (by omega)
  have a3 : s.frm = s'.frm := h1 3 (by omega)
  have a4 : s.flg = s'.flg := h1 4 (by omega)
  cases s; cases s'
  simp only at a0 a1 a2 a3 a4
  subst a0 a1 a2 a3 a4
  rfl
theorem pre_same {s s' : Stt} : ∀ p, (∀ q, q < p → prt s' q = prt s q) → pre s' p = pre s p
  | 0, _ => rfl
  | p + 1, h => by rw [pre, pre, pre_same p (fun q hq => h q (by omega)), h p (by omega)]
theorem pre_ext (s : Stt) : ∀ p k, ∃ z, pre s (p + k) = pre s p ++ z
  | p, 0 => ⟨[], by simp⟩
  | p, k + 1 => by
    obtain ⟨z, hz⟩ := pre_ext s p k
    exact ⟨z ++ prt s (p + k), by rw [← Nat.add_assoc, pre, hz, List.append_assoc]⟩
theorem enc_at (s : Stt) (p : Nat) (hp : p < 5) : ∃ z, enc s = pre s p ++ (prt s p ++ z) := by
  obtain ⟨z, hz⟩ := pre_ext s (p + 1) (5 - (p + 1))
  refine ⟨z, ?_⟩
  rw [← pre_five, ← List.append_assoc]
  rw [show p + 1 + (5 - (p + 1)) = 5 by omega] at hz
  exact hz
/-- A part that can't be read: no shaped state's bytes. -/
theorem no_state {s : Stt} {p : Nat} {t d : List UInt8} (hp : p < 5) (ht : t = pre s p ++ d) (hl : ∀ q, q < p → Lpt s q) (hno : ∀ (s' : Stt) q, Lpt s' p → d ≠ prt s' p ++ q) (s' : Stt) (hs : s'.shp = true) (hf : s'.flg < 65536) : t ≠ enc s' := by
  intro e
  obtain ⟨z, hz⟩ := enc_at s' p hp
  rw [ht, hz] at e
  exact hno s' z (lpt_of hs hf p) (pre_pfx p (by omega) hl (fun q _ => lpt_of hs hf q) _ _ e).2
end Go.Proofs.Ytkaciochlemjiaa
