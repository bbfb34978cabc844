import Derived.Test.YtcmhbcfgikmblabGreatDoorTva
namespace Go.Proofs.YtcmhbcfgikmblabGreatDoor.Tr
open Go.RowKit Go.Maps

/-- Is it the place of a node of a forest? -/
def std (t : List Nd) (at_ : Int) : Bool := decide (0 ≤ at_) && (decide (at_ < (t.length : Int)) && decide (0 ≤ rts t))
theorem rts_fo {t : List Nd} : (∃ r : Nat, rt (kds t) = some r ∧ rts t = (r : Int)) ∨ (rt (kds t) = none ∧ rts t = -1) := by
  cases h : rt (kds t) with
  | none => exact .inr ⟨rfl, rts_none h⟩
  | some r => exact .inl ⟨r, rfl, rts_some h⟩
theorem std_true {t : List Nd} {z : Int} (h : std t z = true) : ∃ a : Nat, z = (a : Int) ∧ a < t.length ∧ Fo (kds t) := by
  simp only [std, Bool.and_eq_true, decide_eq_true_eq] at h
  obtain ⟨h0, h1, h2⟩ := h
  refine ⟨z.toNat, by omega, by omega, ?_⟩
  rcases @rts_fo t with ⟨r, hr, _⟩ | ⟨_, he⟩
  · exact ⟨r, hr⟩
  · omega
theorem std_of {t : List Nd} {a : Nat} (ha : a < t.length) (hf : Fo (kds t)) : std t (a : Int) = true := by
  obtain ⟨r, hr⟩ := hf
  have := rts_some hr
  simp only [std, Bool.and_eq_true, decide_eq_true_eq]
  omega
set_option maxRecDepth 100000 in
set_option maxHeartbeats 8000000 in
theorem stands_any {v : Value} {t : List Nd} (w : World) (h : Ns w v t) (hs : Sm t) (z : Int) :
    Calls Tryz.prog 28 #[v, .int .i64 z] w fun e w' => e = .returned (.bool (std t z)) ∧ w = w' := by
  have HT : Hid (Ns w v t) := h
  have HS : Hid (Sm t) := hs
  obtain ⟨a, cap, rfl⟩ := h.form
  clear h hs
  by_cases h0 : 0 ≤ z
  · have e1 : decide ((0 : Int) ≤ z) = true := by rw [decide_eq_true_eq]; exact h0
    by_cases h1 : z < (t.length : Int)
    · have e2 : decide (z < (t.length : Int)) = true := by rw [decide_eq_true_eq]; exact h1
      have HE : Hid (std t z = decide (0 ≤ rts t)) := by show _ = _; unfold std; rw [e1, e2]; rfl
      clear h0 h1
      obtain ⟨n, hn⟩ : ∃ n, t.length = n := ⟨_, rfl⟩
      rw [hn] at HT e2 ⊢
      clear hn
      go_enter Tryz.func28, Tryz.ntmps28
      go_wp2_with (go_at_call 10; refine (roots_any _ HT.out HS.out).mono ?_; rintro ee ww ⟨rfl, rfl⟩)
      go_ret
      exact ⟨by rw [HE.out]; rfl, rfl⟩
    · have e2 : decide (z < (t.length : Int)) = false := by rw [decide_eq_false_iff_not]; exact h1
      have HE : Hid (std t z = false) := by show _ = _; unfold std; rw [e1, e2]; rfl
      clear h0 h1
      obtain ⟨n, hn⟩ : ∃ n, t.length = n := ⟨_, rfl⟩
      rw [hn] at HT e2 ⊢
      clear hn
      go_enter Tryz.func28, Tryz.ntmps28
      go_wp2_with fail
      go_ret
      exact ⟨by rw [HE.out]; rfl, rfl⟩
  · have e1 : decide ((0 : Int) ≤ z) = false := by rw [decide_eq_false_iff_not]; exact h0
    have HE : Hid (std t z = false) := by show _ = _; unfold std; rw [e1]; rfl
    clear h0
    go_enter Tryz.func28, Tryz.ntmps28
    go_wp2_with fail
    go_ret
    exact ⟨by rw [HE.out]; rfl, rfl⟩
end Go.Proofs.YtcmhbcfgikmblabGreatDoor.Tr
namespace Go.Proofs.YtcmhbcfgikmblabGreatDoor.Tr
open Go.RowKit Go.Maps

theorem info_parts {e : TypeId} {z : Value} {s b : Nat} (h : (Tryz.prog.info? e).map (fun i => (i.zero, i.size, i.bytes)) = some (some z, s, b)) : ∃ i, Tryz.prog.info? e = some i ∧ i.zero = some z ∧ i.size = s ∧ i.bytes = b := by
  cases hi : Tryz.prog.info? e with
  | none => rw [hi] at h; cases h
  | some i =>
    rw [hi] at h
    have h1 : (i.zero, i.size, i.bytes) = (some z, s, b) := Option.some.inj h
    exact ⟨i, rfl, congrArg (·.1) h1, congrArg (·.2.1) h1, congrArg (·.2.2) h1⟩
theorem infoNd : (Tryz.prog.info? 42).map (fun i => (i.zero, i.size, i.bytes)) = some (some (.agg #[.string ⟨#[]⟩, .bool false, .string ⟨#[]⟩, .int .i64 0, .int .i64 0, .int .i64 0, .int .i64 0]), 7, 72) := by kernel_rfl
theorem flat_take {α : Type} {f : α → List Value} {n : Nat} (hf : ∀ x, (f x).length = n) (l k : List α) : (flat f (l ++ k)).take (l.length * n) = flat f l := by
  rw [flat_app, ← flat_len hf l, List.take_left']
  rfl
theorem take_getD {α : Type} (l : List α) (d : α) (i : Nat) (h : i < l.length) : l.take (i + 1) = l.take i ++ [l.getD i d] := by
  rw [List.take_succ_eq_append_getElem h, List.getD_eq_getElem?_getD, List.getElem?_eq_getElem h]
  rfl
theorem cell_one_new (w : World) (x : Value) (t : TypeId) : ∀ j q, [x][j]? = some q → (w.alloc (.cells #[x] t)).cell? ((⟨w.heap.size, 0, none⟩ : Addr).add j) = some q :=
  World.news_of_block (heap_new w (.cells #[x] t))
theorem cell_two_new (w : World) (x y : Value) (t : TypeId) : ∀ j q, [x, y][j]? = some q → (w.alloc (.cells #[x, y] t)).cell? ((⟨w.heap.size, 0, none⟩ : Addr).add j) = some q :=
  World.news_of_block (heap_new w (.cells #[x, y] t))
/-- Nothing but a row has turned; where it lies now. -/
def Gr (w w' : World) (v v' : Value) : Prop := w.grownBy w' v.ownBlock ∧ ∀ r, v'.ownBlock = some r → w.heap.size ≤ r ∨ v.ownBlock = some r
theorem Gr.refl (w : World) (v : Value) : Gr w w v v := ⟨World.grownBy.refl _ _, fun _ h => .inr h⟩
theorem Gr.trans {w w1 w2 : World} {v v1 v2 : Value} (h : Gr w w1 v v1) (k : Gr w1 w2 v1 v2) : Gr w w2 v v2 :=
  ⟨h.1.andThen k.1 h.2, fun r hr => (k.2 r hr).elim (fun e => .inl (Nat.le_trans h.1.size e)) (h.2 r)⟩
theorem Gr.up {w w1 w2 : World} {v v1 : Value} (h : Gr w w1 v v1) (hb : Below w1.heap.size w1 w2) : Gr w w2 v v1 :=
  ⟨h.1.andThen (grown_of_below hb) (fun j e => by cases e), h.2⟩
theorem Gr.pre {w w0 w1 : World} {v v1 : Value} (hb : Below w.heap.size w w0) (h : Gr w0 w1 v v1) : Gr w w1 v v1 :=
  ⟨((grown_of_below hb).but v.ownBlock).andThen h.1 (fun _ e => .inr e), fun r hr => (h.2 r hr).elim (fun e => .inl (Nat.le_trans hb.size e)) .inr⟩
theorem Gr.below {B : Nat} {w w' : World} {v v' : Value} (h : Gr w w' v v') (hB : B ≤ w.heap.size) (hv : ∀ r, v.ownBlock = some r → B ≤ r) : Below B w w' := (Below.refl B w).grown h.1 hB hv
theorem gr_app {w w' : World} {o : Obj} {v v' : Value} (h : (w.alloc o).grownBy w' v.ownBlock) (ha : v'.ownBlock = v.ownBlock ∨ v'.ownBlock = some (w.alloc o).heap.size) : Gr w w' v v' :=
  ⟨(World.grownBy_alloc w o v.ownBlock).trans h, fun r hr => ha.elim (fun e => .inr (e ▸ hr)) (fun e => by rw [hr] at e; cases e; exact .inl (by simp))⟩
theorem Gr.cell {w w' : World} {v v' : Value} (h : Gr w w' v v') {a : Addr} {u : Value} (hc : w.cell? a = some u) (hne : v.ownBlock ≠ some a.block) : w'.cell? a = some u := h.1.cell hc (fun e => hne e.symm)
/-- A row of the call's own that has grown: what was there before the call stays. -/
theorem bel_app {w W W2 : World} {B : Nat} {e : TypeId} {size n : Nat} {v : Value} {xs : List Value} {o : Obj} (hb : Below B w W) (hB : B ≤ W.heap.size) (hr : W.ownsRow B e size v n xs) (hg : (W.alloc o).grownBy W2 v.ownBlock) : Below B w W2 :=
  hb.grown ((World.grownBy_alloc W o v.ownBlock).trans hg) hB (fun r hr' => (row_tag hr r hr').1)
theorem bel_app0 {w W W2 : World} {B : Nat} {e : TypeId} {size n : Nat} {v : Value} {xs : List Value} (hb : Below B w W) (hB : B ≤ W.heap.size) (hr : W.ownsRow B e size v n xs) (hg : W.grownBy W2 v.ownBlock) : Below B w W2 :=
  hb.grown hg hB (fun r hr' => (row_tag hr r hr').1)
/-- Where the children stand. -/
def kl (l : List Int) (a i : Nat) : List Int := (List.range i).map fun j => ((wA l (a + 1) j : Nat) : Int)
theorem kl_succ (l : List Int) (a i : Nat) : kl l a (i + 1) = kl l a i ++ [((wA l (a + 1) i : Nat) : Int)] := by unfold kl; rw [List.range_succ, List.map_append]; rfl
theorem kl_len (l : List Int) (a i : Nat) : (kl l a i).length = i := by unfold kl; simp
theorem kl_get (l : List Int) (a i j : Nat) (h : j < i) : (kl l a i).getD j 0 = ((wA l (a + 1) j : Nat) : Int) := by
  unfold kl
  rw [List.getD_eq_getElem?_getD, List.getElem?_map, List.getElem?_range h]; rfl
/-- The answer of Kids. -/
def kls (t : List Nd) (z : Int) : List Int := if std t z then kl (kds t) z.toNat (kA (kds t) z.toNat) else []
set_option maxRecDepth 100000 in
set_option maxHeartbeats 8000000 in
theorem kids_any {v : Value} {t : List Nd} (w : World) (h : Ns w v t) (hs : Sm t) (z : Int) :
    Calls Tryz.prog 16 #[v, .int .i64 z] w fun e w' => ∃ v', e = .returned v' ∧ w'.ownsRow w.heap.size 3 1 v' (kls t z).length (iC (kls t z)) ∧ Below w.heap.size w w' := by
  obtain ⟨i3, hi3, hx0, hx1, hx2⟩ := info_parts info3
  have HT : Hid (Ns w v t) := h
  have HS : Hid (Sm t) := hs
  obtain ⟨a, cap, rfl⟩ := h.form
  clear h hs
  cases hst : std t z with
  | false =>
    have HE : Hid (kls t z = []) := by show _ = _; unfold kls; rw [hst]; rfl
    have HST : Hid (std t z = false) := hst
    clear hst
    go_enter Tryz.func16, Tryz.ntmps16
    go_wp2_with (go_at_call 28; refine (stands_any _ HT.out HS.out z).mono ?_; rintro ee ww ⟨rfl, rfl⟩; rw [HST.out])
    go_ret
    exact ⟨_, rfl, by rw [HE.out]; exact World.ownsRow_nil _ _ _ _, Below.refl _ _⟩
  | true =>
    have HST : Hid (std t z = true) := hst
    obtain ⟨c, rfl, hp, hf⟩ := std_true hst
    have HE : Hid (kls t (c : Int) = kl (kds t) c (kA (kds t) c)) := by show _ = _; unfold kls; rw [hst]; rfl
    have HF : Hid (Fo (kds t)) := hf
    obtain ⟨n, hn⟩ : ∃ n, t.length = n := ⟨_, rfl⟩
    have HN : Hid (t.length = n) := hn
    obtain ⟨g, o, rfl, hc⟩ := HT.out.kid c hp
    obtain ⟨s1, s2, s3, s4⟩ := hf.step c (by rw [kds_len]; exact hp)
    rw [← kds_get, s2] at hc
    rw [hn] at HT hp ⊢
    have HSZ : Hid (n * 72 + 4096 ≤ 140737488355328) := by have := HS.out; unfold Sm at this; rw [hn] at this; exact this
    have HP : Hid (c < n) := hp
    have HK : Hid (kA (kds t) c ≤ rA (kds t) (c + 1) ∧ kA (kds t) c ≤ n) := by
      have h2 := hf.le (c + 1)
      rw [kds_len, hn] at h2
      exact ⟨s3, by omega⟩
    rw [HE.out]
    obtain ⟨m, hm⟩ : ∃ m, kA (kds t) c = m := ⟨_, rfl⟩
    rw [hm] at hc HK ⊢
    have e3 : (c : Int) < (n : Int) := by omega
    have e4 : c < n := hp
    have hw0 : IntKind.i64.wrap ((c : Int) + 1) = ((c + 1 : Nat) : Int) := w64n c (by have := HSZ.out; omega)
    obtain ⟨c1, hc1⟩ : ∃ c1, c + 1 = c1 := ⟨_, rfl⟩
    rw [hc1] at hw0
    have HC1 : Hid (c + 1 = c1) := hc1
    clear hst hp hf hn s1 s2 s3 s4 hm HE hc1
    go_enter Tryz.func16, Tryz.ntmps16
    go_upto_region 6 with (go_at_call 28; refine (stands_any _ HT.out HS.out _).mono ?_; rintro ee ww ⟨rfl, rfl⟩; rw [HST.out])
    clear hw0 e3 e4 hc
    go_loopg [5, 6, 18] m (fun gm v5 v6 v18 wr => ∃ (i k : Nat), v6 = .int .i64 (k : Int) ∧ v18 = .int .i64 (i : Int) ∧ Hid (gm = m - i ∧ i ≤ m) ∧ Hid (k = wA (kds t) (c + 1) i) ∧ Hid (wr.ownsRow w.heap.size 3 1 v5 i (iC (kl (kds t) c i))) ∧ Hid (Below w.heap.size w wr))
    case atStart => exact ⟨0, c1, rfl, rfl, ⟨rfl, Nat.zero_le _⟩, by rw [wA_zero]; exact HC1.out.symm, World.ownsRow_nil _ _ _ _, Below.refl _ _⟩
    case round =>
      obtain ⟨i, k, rfl, rfl, HI, HKK, HO, HBW⟩ := hrel
      by_cases hi : i < m
      · have e1 : decide ((i : Int) < (m : Int)) = true := by rw [decide_eq_true_eq]; omega
        have e2 : decide (i < m) = true := by rw [decide_eq_true_eq]; omega
        have HIM : Hid (i < m) := hi
        have hlt : k < t.length := by
          have := HF.out.lt (c + 1) i (by rw [kds_len, HN.out]; exact HP.out) (by have := HK.out; omega)
          rw [kds_len] at this; rw [HKK.out]; exact this
        have HLT : Hid (k < t.length) := hlt
        have HNX : Hid (eA (kds t) k = wA (kds t) (c + 1) (i + 1)) := by
          have := HF.out.next (c + 1) i (by have := HK.out; omega)
          rw [HKK.out]; exact this.symm
        have HT5 : Hid (∀ W, Below w.heap.size w W → Ns W (.slice (some ⟨g, o, none⟩) n cap) t) := fun W hb => HT.out.up hb
        have hwi := w64n i (by have := HSZ.out; have := HK.out; omega)
        have HSB : Hid (w.heap.size ≤ wr.heap.size) := HBW.out.size
        have HBY : Hid (i + 1 ≤ n) := by have := HK.out; show _ ≤ _; omega
        obtain ⟨E, hE⟩ : ∃ E, eA (kds t) k = E := ⟨_, rfl⟩
        rw [hE] at HNX
        have HEE : Hid (eA (kds t) k = E) := hE
        obtain ⟨ra, rc, hrv⟩ := row_shape HO.out
        subst hrv
        have HROW : Hid ((wr.alloc (.cells #[.int .i64 (k : Int)] 3)).ownsRow w.heap.size 3 1 (.slice ra i rc) i (iC (kl (kds t) c i))) := HO.out.alloc _
        clear hi hlt hE
        go_wp2_with first | (at_builtin; refine wpList_append_own_at _ rfl _ _ 34 rfl w.heap.size 3 i3 (.int .i64 0) 1 8 Tryz.underlying34 hi3 hx0 hx1 hx2 rfl (by decide) _ _ _ rfl HROW.out ⟨wr.heap.size, 0, none⟩ 1 1 [.int .i64 (k : Int)] rfl rfl (cell_one_new _ _ _) (by simp [Value.oneCell']) (by have := HBY.out; have := HSZ.out; unfold maxLen; omega) (by have := HBY.out; have := HSZ.out; omega) (by have := HSB.out; simp; omega) ?_; intro v5 w5 ho5 hg5 _ ha5; have HB5 : Hid (Below w.heap.size w w5) := bel_app HBW.out HSB.out HO.out hg5; have HO5 : Hid (w5.ownsRow w.heap.size 3 1 v5 (i + 1) (iC (kl (kds t) c (i + 1)))) := (by rw [kl_succ, iC_app, ← HKK.out]; exact ho5); obtain ⟨qa, qc, rfl⟩ := row_shape ho5; clear ho5 hg5 ha5) | (go_at_call 29; refine (behind_any _ (HT5.out _ HB5.out) HS.out HF.out k HLT.out).mono ?_; rintro ee ww ⟨rfl, rfl⟩; rw [HEE.out])
        go_roundg (m - (i + 1))
        case measure => have := HI.out.1; have := HIM.out; omega
        case rel => exact ⟨i + 1, E, rfl, by first | rfl | (rw [show (i : Int) + 1 = ((i + 1 : Nat) : Int) by omega]), ⟨rfl, HIM.out⟩, HNX.out, HO5.out, HB5.out⟩
      · have e1 : decide ((i : Int) < (m : Int)) = false := by rw [decide_eq_false_iff_not]; omega
        have e2 : decide (i < m) = false := by rw [decide_eq_false_iff_not]; omega
        have HIN : Hid (i = m) := by have := HI.out; show i = m; omega
        obtain ⟨ra, rc, hrv⟩ := row_shape HO.out
        subst hrv
        clear hi
        go_wp2_with fail
        go_ret
        exact ⟨_, rfl, by rw [kl_len, ← show i = m from HIN.out]; exact HO.out, HBW.out⟩
end Go.Proofs.YtcmhbcfgikmblabGreatDoor.Tr
