import Derived.Test.YthfijmabagjdkaaQtb
import Derived.Test.YthfijmabagjdkaaQrg
namespace Go.Proofs.Ythfijmabagjdkaa.Qy
open Go.RowKit Go.Maps

def ovw : List Value → Nat → List Value → List Value
  | xs, _, [] => xs
  | xs, o, v :: vs => ovw (xs.set o v) (o + 1) vs
theorem row_ovw {B g n cap : Nat} {e : TypeId} {s : Nat} : ∀ (vs : List Value) (o : Nat) (W : World) (xs : List Value), W.ownsRow B e s (.slice (some ⟨g, 0, none⟩) n cap) n xs → (W.setCells g o vs).ownsRow B e s (.slice (some ⟨g, 0, none⟩) n cap) n (ovw xs o vs)
  | [], _, _, _, h => h
  | v :: vs, o, _, _, h => row_ovw vs (o + 1) _ _ (row_set h o v)
theorem grown_cells (g : Nat) : ∀ (vs : List Value) (o : Nat) (W W' : World), W.grownBy W' (some g) → W.grownBy (W'.setCells g o vs) (some g)
  | [], _, _, _, h => h
  | v :: vs, o, W, W', h => grown_cells g vs (o + 1) W _ ⟨h.os, h.tape, h.output, by simpa [World.setCell] using h.size, fun j hj hne => by
      rw [← h.block j hj hne]
      exact Below.heap_setCell _ _ _ _ (fun e => hne (by rw [e]))⟩
theorem ovw_append (xs ys : List Value) : ∀ (vs : List Value) (o : Nat), ovw (xs ++ ys) (xs.length + o) vs = xs ++ ovw ys o vs
  | [], _ => rfl
  | v :: vs, o => by
    show ovw ((xs ++ ys).set (xs.length + o) v) (xs.length + o + 1) vs = xs ++ ovw (ys.set o v) (o + 1) vs
    rw [List.set_append_right _ _ (by omega), Nat.add_sub_cancel_left, Nat.add_assoc]
    exact ovw_append xs (ys.set o v) vs (o + 1)
theorem ovw_all : ∀ (ps vs xs ys : List Value), xs.length = vs.length → ovw (ps ++ (xs ++ ys)) ps.length vs = ps ++ (vs ++ ys)
  | ps, [], xs, ys, h => by
    rw [List.length_nil] at h
    rw [List.eq_nil_of_length_eq_zero h]; rfl
  | ps, v :: vs, [], ys, h => by simp at h
  | ps, v :: vs, x :: xs, ys, h => by
    show ovw ((ps ++ (x :: xs ++ ys)).set ps.length v) (ps.length + 1) vs = _
    have e1 : (ps ++ (x :: xs ++ ys)).set ps.length v = (ps ++ [v]) ++ (xs ++ ys) := by
      rw [List.set_append_right _ _ (Nat.le_refl _), Nat.sub_self]
      simp
    have e2 : ps.length + 1 = (ps ++ [v]).length := by simp
    rw [e1, e2, ovw_all (ps ++ [v]) vs xs ys (by simpa using h)]
    simp
theorem flat_ovw {α : Type} {f : α → List Value} {z : Nat} (hf : ∀ x, (f x).length = z) (x : α) : ∀ (X : List α) (k : Nat), k < X.length → ovw (flat f X) (k * z) (f x) = flat f (X.set k x)
  | [], _, h => by cases h
  | y :: X, 0, _ => by
    have h1 := ovw_all [] (f x) (f y) (flat f X) (by rw [hf, hf])
    rw [Nat.zero_mul]
    exact h1
  | y :: X, k + 1, h => by
    have ih := flat_ovw hf x X k (by simpa using h)
    have e : (k + 1) * z = (f y).length + k * z := by rw [hf, Nat.add_mul, Nat.one_mul, Nat.add_comm]
    show ovw (f y ++ flat f X) ((k + 1) * z) (f x) = f y ++ flat f (X.set k x)
    rw [e, ovw_append, ih]
/-! The program's reader and the reference's, side by side. -/
structure Sy (L : List Wd) (z : Wd) (s : Rs) (m : Rm) : Prop where
  ws : s.ws = L.drop m.at_ ++ [z]
  zk : z.k = 0
  le : m.at_ ≤ L.length
  co : s.co = 0
  e : m.e = 0
  ln : m.ns.map Pn.cp = s.ns.map Pn.cp
  cs : m.cs = s.cs
theorem hd_at {L : List Wd} {z : Wd} {s : Rs} {i : Nat} (h : s.ws = L.drop i ++ [z]) (_hi : i ≤ L.length) : (i < L.length → hd s = L.getD i w0 ∧ (tl s).ws = L.drop (i + 1) ++ [z]) ∧ (i = L.length → hd s = z) := by
  refine ⟨fun k => ?_, fun k => ?_⟩
  · have e : s.ws = L.getD i w0 :: (L.drop (i + 1) ++ [z]) := by
      rw [h, List.drop_eq_getElem_cons k, List.getD_eq_getElem?_getD, List.getElem?_eq_getElem k]; rfl
    exact ⟨by unfold hd; rw [e]; rfl, by show s.ws.tail = _; rw [e]; rfl⟩
  · unfold hd
    rw [h, k, List.drop_length]; rfl
theorem se_at {L : List Wd} {z : Wd} {s : Rs} {i : Nat} (h : s.ws = L.drop i ++ [z]) (hi : i ≤ L.length) (hz : z.k = 0) {k : Int} (hk : k ≠ 0) (t : List UInt8) : se s k t = seR L i k t := by
  obtain ⟨h1, h2⟩ := hd_at h hi
  unfold se seR
  rcases Nat.lt_or_ge i L.length with q | q
  · rw [(h1 q).1, decide_eq_true q, Bool.true_and]
  · rw [h2 (by omega), decide_eq_false (show ¬(i < L.length) by omega), hz, Bool.false_and]
    have : ((0 : Int) == k) = false := by simpa using fun e => hk e.symm
    rw [this, Bool.false_and]
theorem nm_at {L : List Wd} {z : Wd} {s : Rs} {i : Nat} (h : s.ws = L.drop i ++ [z]) (hi : i ≤ L.length) (hz : z.k = 0) : nmA s = nmR L i := by
  obtain ⟨h1, h2⟩ := hd_at h hi
  unfold nmA nmR
  rcases Nat.lt_or_ge i L.length with q | q
  · rw [(h1 q).1, decide_eq_true q, Bool.true_and]
  · rw [h2 (by omega), decide_eq_false (show ¬(i < L.length) by omega), hz, Bool.false_and]; rfl
theorem tx_at {L : List Wd} {z : Wd} {s : Rs} {i : Nat} (h : s.ws = L.drop i ++ [z]) (hi : i ≤ L.length) (hz : z.k = 0) : ((hd s).k == 2 && !decide ((hd s).t = [])) = txR L i := by
  obtain ⟨h1, h2⟩ := hd_at h hi
  unfold txR
  rcases Nat.lt_or_ge i L.length with q | q
  · rw [(h1 q).1, decide_eq_true q, Bool.true_and]
  · rw [h2 (by omega), decide_eq_false (show ¬(i < L.length) by omega), hz, Bool.false_and]; rfl
theorem seR_lt {L : List Wd} {i : Nat} {k : Int} {t : List UInt8} (h : seR L i k t = true) : i < L.length ∧ (L.getD i w0).k = k ∧ (L.getD i w0).t = t := by
  unfold seR at h
  rw [Bool.and_eq_true, Bool.and_eq_true, decide_eq_true_eq, decide_eq_true_eq] at h
  exact ⟨h.1, by simpa using h.2.1, h.2.2⟩
theorem nmR_lt {L : List Wd} {i : Nat} (h : nmR L i = true) : i < L.length ∧ (L.getD i w0).k = 1 := by
  unfold nmR at h
  rw [Bool.and_eq_true, Bool.and_eq_true, decide_eq_true_eq] at h
  exact ⟨h.1, by simpa using h.2.1⟩
theorem txR_lt {L : List Wd} {i : Nat} (h : txR L i = true) : i < L.length ∧ (L.getD i w0).k = 2 := by
  unfold txR at h
  rw [Bool.and_eq_true, Bool.and_eq_true, decide_eq_true_eq] at h
  exact ⟨h.1, by simpa using h.2.1⟩
theorem fd_at {L : List Wd} {z : Wd} {s : Rs} {i : Nat} (h : s.ws = L.drop i ++ [z]) (hi : i ≤ L.length) (hz : z.k = 0) : fdA s = (nmR L i && seR L (i + 1) 5 [58]) := by
  unfold fdA
  rw [nm_at h hi hz]
  cases hn : nmR L i with
  | false => rfl
  | true =>
    have h1 := ((hd_at h hi).1 (nmR_lt hn).1).2
    rw [Bool.true_and, Bool.true_and]
    exact se_at h1 (nmR_lt hn).1 hz (by decide) _
theorem ixc_map {l k : List Pn} (h : l.map Pn.cp = k.map Pn.cp) (t : ByteArray) : ∀ n, ixc l t n = ixc k t n := by
  induction l generalizing k with
  | nil => intro n; cases k with
    | nil => rfl
    | cons y k => cases h
  | cons x l ih =>
    intro n
    cases k with
    | nil => cases h
    | cons y k =>
      rw [List.map_cons, List.map_cons] at h
      injection h with h1 h2
      unfold ixc
      rw [h1, ih h2]
theorem cap_map {l k : List Pn} (h : l.map Pn.cp = k.map Pn.cp) (t : ByteArray) : cap l t = cap k t := by
  unfold cap
  rw [ixc_map h]
theorem cap_ge (l : List Pn) (t : ByteArray) : -1 ≤ cap l t := by
  unfold cap
  split
  · omega
  · have : ∀ (l : List Pn) (n : Nat), -1 ≤ ixc l t n := fun l => by
      induction l with
      | nil => intro n; exact Int.le_refl _
      | cons x l ih =>
        intro n
        unfold ixc
        split
        · omega
        · exact ih _
    exact this l 0
/-- What capture answers, and the reader behind it. -/
def cpR (L : List Wd) (m : Rm) : ByteArray × Rm :=
  if seR L m.at_ 5 [64] = true then
    if nmR L (m.at_ + 1) = true then
      if cap m.ns (bs (L.getD (m.at_ + 1) w0).t) < 0 then (bs (L.getD (m.at_ + 1) w0).t, ⟨m.at_ + 2, m.ns, m.cs, 201, m.at_ + 1⟩) else (bs (L.getD (m.at_ + 1) w0).t, ⟨m.at_ + 2, m.ns, m.cs, 0, m.po⟩)
    else (⟨#[]⟩, ⟨m.at_ + 1, m.ns, m.cs, 200, m.at_ + 1⟩)
  else (⟨#[]⟩, ⟨m.at_ + 1, m.ns, m.cs, 200, m.at_⟩)
set_option maxRecDepth 100000 in
set_option maxHeartbeats 8000000 in
/-- capture: one of the pattern's. -/
theorem rcapture_any {B r : Nat} {vl vn : Value} {ca : Option Addr} {cn cc : Nat} {L : List Wd} {m : Rm} (w : World) (h : Rr B w r vl vn (.slice ca cn cc) L m) (he : m.e = 0) (ha : m.at_ ≤ 2305843009213693952) (hn : m.ns.length ≤ 4611686018427387904) : Calls Try.prog 23 #[.pointer (some ⟨r, 0, none⟩)] w fun e w' => e = .returned (.string (cpR L m).1) ∧ Rr B w' r vl vn (.slice ca cn cc) L (cpR L m).2 ∧ Kr w w' (fun j => j = r) := by
  have HTK : Hid _ := rtake_any 5 [64] w h he (by omega)
  have HM : Hid (m.at_ ≤ 2305843009213693952 ∧ m.ns.length ≤ 4611686018427387904 ∧ m.e = 0) := ⟨ha, hn, he⟩
  obtain ⟨P, hP⟩ : ∃ P, cpR L m = P := ⟨_, rfl⟩
  have HP : Hid (cpR L m = P) := hP
  rw [hP]
  clear h he hn ha hP
  cases hv : seR L m.at_ 5 [64] with
  | false =>
    have HPE : Hid (P = (⟨#[]⟩, ⟨m.at_ + 1, m.ns, m.cs, 200, m.at_⟩)) := by show _ = _; rw [← HP.out]; unfold cpR; rw [if_neg (by rw [hv]; decide)]
    rw [hv] at HTK
    clear hv
    go_enter Try.func23, Try.ntmps23
    go_upto_region 2 with (go_at_call 20; refine Calls.mono HTK.out ?_; rintro e w2 ⟨rfl, hr2, hk2⟩; have HR2 : Hid (Rr B w2 r vl vn (.slice ca cn cc) L ⟨m.at_ + 1, m.ns, m.cs, 200, m.at_⟩) := hr2; have HK2 : Hid (Kr w w2 (fun j => j = r)) := hk2; clear hr2 hk2)
    obtain ⟨-, -, -, -, k4, -⟩ := HR2.out.open
    go_wp2_with fail
    go_ret
    obtain rfl := HPE.out
    exact ⟨rfl, HR2.out, HK2.out⟩
  | true =>
    rw [hv] at HTK
    have hlt := (seR_lt hv).1
    have HPV : Hid (P = if nmR L (m.at_ + 1) = true then (if cap m.ns (bs (L.getD (m.at_ + 1) w0).t) < 0 then (bs (L.getD (m.at_ + 1) w0).t, ⟨m.at_ + 2, m.ns, m.cs, 201, m.at_ + 1⟩) else (bs (L.getD (m.at_ + 1) w0).t, ⟨m.at_ + 2, m.ns, m.cs, 0, m.po⟩)) else (⟨#[]⟩, ⟨m.at_ + 1, m.ns, m.cs, 200, m.at_ + 1⟩)) := by show _ = _; rw [← HP.out]; unfold cpR; rw [if_pos hv]
    clear hv
    go_enter Try.func23, Try.ntmps23
    go_upto_region 2 with (go_at_call 20; refine Calls.mono HTK.out ?_; rintro e w2 ⟨rfl, hr2, hk2⟩; have HR2 : Hid (Rr B w2 r vl vn (.slice ca cn cc) L ⟨m.at_ + 1, m.ns, m.cs, 0, m.po⟩) := hr2; have HK2 : Hid (Kr w w2 (fun j => j = r)) := hk2; clear hr2 hk2)
    obtain ⟨-, -, -, -, k4, -⟩ := HR2.out.open
    have HTN : Hid _ := rtakeName_any w2 HR2.out rfl (by show m.at_ + 1 ≤ _; have := HM.out; omega)
    cases hv : nmR L (m.at_ + 1) with
    | false =>
      have HPE : Hid (P = (⟨#[]⟩, ⟨m.at_ + 1, m.ns, m.cs, 200, m.at_ + 1⟩)) := by show _ = _; rw [HPV.out, if_neg (by rw [hv]; decide)]
      simp only [hv] at HTN
      clear hv
      go_upto_region 5 with (go_at_call 21; refine Calls.mono HTN.out ?_; rintro e w3 ⟨rfl, hr3, hk3⟩; have HR3 : Hid (Rr B w3 r vl vn (.slice ca cn cc) L ⟨m.at_ + 1, m.ns, m.cs, 200, m.at_ + 1⟩) := hr3; have HK3 : Hid (Kr w2 w3 (fun j => j = r)) := hk3; clear hr3 hk3)
      clear k4
      obtain ⟨-, -, -, -, k4, -⟩ := HR3.out.open
      go_wp2_with fail
      go_ret
      obtain rfl := HPE.out
      exact ⟨rfl, HR3.out, HK2.out.trans HK3.out (fun j e => .inl e)⟩
    | true =>
      simp only [hv] at HTN
      obtain ⟨t, ht⟩ : ∃ t, bs (L.getD (m.at_ + 1) w0).t = t := ⟨_, rfl⟩
      have HTN2 : Hid (Calls Try.prog 21 #[.pointer (some ⟨r, 0, none⟩)] w2 fun e w' => e = .returned (.string t) ∧ Rr B w' r vl vn (.slice ca cn cc) L ⟨m.at_ + 2, m.ns, m.cs, 0, m.po⟩ ∧ Kr w2 w' (fun j => j = r)) := by
        rw [← ht]; exact HTN.out
      have HPW : Hid (P = if cap m.ns t < 0 then (t, ⟨m.at_ + 2, m.ns, m.cs, 201, m.at_ + 1⟩) else (t, ⟨m.at_ + 2, m.ns, m.cs, 0, m.po⟩)) := by show _ = _; rw [HPV.out, if_pos hv, ht]
      clear hv ht HTN
      go_upto_region 5 with (go_at_call 21; refine Calls.mono HTN2.out ?_; rintro e w3 ⟨rfl, hr3, hk3⟩; have HR3 : Hid (Rr B w3 r vl vn (.slice ca cn cc) L ⟨m.at_ + 2, m.ns, m.cs, 0, m.po⟩) := hr3; have HK3 : Hid (Kr w2 w3 (fun j => j = r)) := hk3; clear hr3 hk3)
      clear k4
      obtain ⟨-, k1, k2, k3, k4, -⟩ := HR3.out.open
      have HND : Hid (∀ W, Below w3.heap.size w3 W → Calls Try.prog 22 #[.agg #[vn, .slice ca cn cc], .string t] W fun e w' => e = .returned (.int .i64 (cap m.ns t)) ∧ Below W.heap.size W w') := fun W hW => rnode_any t W (row_rw (HR3.out.up hW).ns) HM.out.2.1
      obtain ⟨C, hC⟩ : ∃ C, cap m.ns t = C := ⟨_, rfl⟩
      rw [hC] at HND HPW
      by_cases hc : C < 0
      · have d1 : decide (C < 0) = true := decide_eq_true hc
        have HPE : Hid (P = (t, ⟨m.at_ + 2, m.ns, m.cs, 201, m.at_ + 1⟩)) := by show _ = _; rw [HPW.out, if_pos hc]
        have hws : IntKind.i64.wrap (((m.at_ + 2 : Nat) : Int) - 1) = ((m.at_ + 1 : Nat) : Int) := by have := HM.out; rw [IntKind.wrap_i64]; omega
        have HAT : Hid (∀ W, Rr B W r vl vn (.slice ca cn cc) L ⟨m.at_ + 2, m.ns, m.cs, 0, m.po⟩ → Calls Try.prog 19 #[.pointer (some ⟨r, 0, none⟩), .int .i64 201, .int .i64 ((m.at_ + 1 : Nat) : Int)] W fun e w' => e = .returned (.tuple #[]) ∧ Rr B w' r vl vn (.slice ca cn cc) L ⟨m.at_ + 2, m.ns, m.cs, 201, m.at_ + 1⟩ ∧ Kr W w' (fun j => j = r)) := fun W hW => rstop_any 201 (m.at_ + 1) W hW rfl
        obtain ⟨a2, ha2⟩ : ∃ a2, m.at_ + 2 = a2 := ⟨_, rfl⟩
        obtain ⟨a1, ha1⟩ : ∃ a1, m.at_ + 1 = a1 := ⟨_, rfl⟩
        rw [ha1, ha2] at hws HAT HPE
        have HR4 : Hid (Rr B w3 r vl vn (.slice ca cn cc) L ⟨a2, m.ns, m.cs, 0, m.po⟩) := by rw [← ha2]; exact HR3.out
        have k1' : w3.cell? ⟨r, 1, none⟩ = some (.int .i64 (a2 : Int)) := HR4.out.open.2.1
        clear hc hC k1 ha1 ha2 HR3
        go_upto_region 6 with (go_at_call 22; refine Calls.mono (HND.out w3 (Below.refl _ _)) ?_; rintro e w5 ⟨rfl, hb⟩; have HR5 : Hid (Rr B w5 r vl vn (.slice ca cn cc) L ⟨a2, m.ns, m.cs, 0, m.po⟩) := HR4.out.up hb; have HK5 : Hid (Kr w2 w5 (fun j => j = r)) := HK3.out.trans (Kr.of_below hb) (fun j e => .inl e); clear hb)
        clear k1' k2 k3 k4
        obtain ⟨-, k1, -⟩ := HR5.out.open
        go_wp2_with (go_at_call 19; refine Calls.mono (HAT.out w5 HR5.out) ?_; rintro e w6 ⟨rfl, hr6, hk6⟩; have HR6 : Hid (Rr B w6 r vl vn (.slice ca cn cc) L ⟨a2, m.ns, m.cs, 201, a1⟩) := hr6; have HK6 : Hid (Kr w2 w6 (fun j => j = r)) := HK5.out.trans hk6 (fun j e => .inl e); clear hr6 hk6)
        go_ret
        obtain rfl := HPE.out
        exact ⟨rfl, HR6.out, HK2.out.trans HK6.out (fun j e => .inl e)⟩
      · have d1 : decide (C < 0) = false := decide_eq_false hc
        have HPE : Hid (P = (t, ⟨m.at_ + 2, m.ns, m.cs, 0, m.po⟩)) := by show _ = _; rw [HPW.out, if_neg hc]
        clear hc hC
        go_wp2_with (go_at_call 22; refine Calls.mono (HND.out w3 (Below.refl _ _)) ?_; rintro e w5 ⟨rfl, hb⟩; have HR5 : Hid (Rr B w5 r vl vn (.slice ca cn cc) L ⟨m.at_ + 2, m.ns, m.cs, 0, m.po⟩) := HR3.out.up hb; have HK5 : Hid (Kr w2 w5 (fun j => j = r)) := HK3.out.trans (Kr.of_below hb) (fun j e => .inl e); clear hb)
        go_ret
        obtain rfl := HPE.out
        exact ⟨rfl, HR5.out, HK2.out.trans HK5.out (fun j e => .inl e)⟩
end Go.Proofs.Ythfijmabagjdkaa.Qy
