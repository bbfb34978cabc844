import Derived.Test.YtockmlaaefbfkaaLfa
namespace Go.Proofs.Ytockmlaaefbfkaa
open Go.RowKit Go.Maps

theorem sts_mem' {A D I : Int} : ∀ (l : List Lf) (b : ByteArray) (o : Int) (y : Int × St), y ∈ sts A D I b o l → y.2.2 ∈ l
  | [], _, _, _, h => by cases h
  | x :: r, b, o, y, h => by
    simp only [sts] at h
    rcases List.mem_append.1 h with h | h
    · have h9 : y.2.2 = x := by
        rcases List.mem_append.1 h with h | h
        · unfold kp1 at h
          split at h
          · cases List.mem_singleton.1 h; rfl
          · cases h
        · unfold kp2 at h
          split at h
          · cases List.mem_singleton.1 h; rfl
          · cases h
      rw [h9]; exact List.mem_cons_self ..
    · exact List.mem_cons_of_mem _ (sts_mem' r _ _ y h)
theorem stz_mem' {n A D I : Int} {l : List Lf} {y : Int × St} (h : y ∈ stz n A D I l) : y.2.2 ∈ l := by
  unfold stz at h
  split at h
  · exact sts_mem' l _ _ y h
  · cases h
theorem lst_mem' {S : List (Int × St)} {k : Int} {s : St} (h : s ∈ lst S k) : (k, s) ∈ S := by
  unfold lst at h
  obtain ⟨y, hy, rfl⟩ := List.mem_map.1 h
  obtain ⟨h1, h2⟩ := List.mem_filter.1 hy
  have : y.1 = k := of_decide_eq_true h2
  rw [← this]; exact h1
theorem lst_stz' (n A D I : Int) (l : List Lf) (k : Int) : (lst (stz n A D I l) k).length ≤ l.length := by
  unfold stz
  split
  · exact sts_lst _ _ _ _ _ _ _
  · simp [lst]
def l77 : Lf := ⟨77, 0, 0, 0, 0, ⟨#[]⟩⟩
/-- Leaves, the first i of them written over. -/
def ov (l : List Lf) (i : Nat) : List Lf := List.replicate i l77 ++ l.drop i
theorem ov_len (l : List Lf) (i : Nat) (h : i ≤ l.length) : (ov l i).length = l.length := by unfold ov; rw [List.length_append, List.length_replicate, List.length_drop]; omega
theorem ov_at (l : List Lf) (i : Nat) (_h : i < l.length) : (ov l i).getD i lfd = l.getD i lfd := by
  unfold ov
  rw [List.getD_eq_getElem?_getD, List.getElem?_append_right (by rw [List.length_replicate]; exact Nat.le_refl _), List.length_replicate, Nat.sub_self, List.getElem?_drop, Nat.add_zero, List.getD_eq_getElem?_getD]
theorem ov_set (l : List Lf) (i : Nat) (h : i < l.length) : (ov l i).set i l77 = ov l (i + 1) := by
  unfold ov
  rw [List.set_append_right _ _ (by rw [List.length_replicate]; exact Nat.le_refl _), List.length_replicate, Nat.sub_self, drop_cons l lfd i h, List.set_cons_zero, List.replicate_succ', List.append_assoc]; rfl
/-- What two of one question agree on. -/
structure Qs (W : World) (m : Nat) (po bo mo : Nat) (fo : Int → Value) (B1 : Nat) (pm : Nat) (vm : Value) (B2 : Nat) (n A D I : Int) (L : List Lf) : Prop where
  o : Ol B1 W po bo mo fo (stz n A D I L) (cnz n A D L)
  m : Mo B2 W pm vm (mL n L) (mA n A L) (mD n A D L) (mI n I L)
theorem Qs.up {W W' : World} {m po bo mo : Nat} {fo : Int → Value} {B1 pm : Nat} {vm : Value} {B2 : Nat} {n A D I : Int} {L : List Lf} (h : Qs W m po bo mo fo B1 pm vm B2 n A D I L) (hb : Below W.heap.size W W') : Qs W' m po bo mo fo B1 pm vm B2 n A D I L := ⟨h.o.up hb, h.m.up hb⟩
theorem Qs.off {W W' : World} {m po bo mo g : Nat} {fo : Int → Value} {B1 pm : Nat} {vm : Value} {B2 : Nat} {n A D I : Int} {L : List Lf} {cs : Array Value} (h : Qs W m po bo mo fo B1 pm vm B2 n A D I L) (hg : W.heap[g]? = some (.cells cs 36 (0, 0))) (hb : g < B2) (hw : W.grownBy W' (some g)) : Qs W' m po bo mo fo B1 pm vm B2 n A D I L := ⟨h.o.off hg (by decide) (by decide) hw, h.m.off hb hw⟩
section
variable {W : World} {m po bo mo : Nat} {fo : Int → Value} {B1 pm : Nat} {vm : Value} {B2 : Nat} {n A D : Int} {I : Nat} {L : List Lf}
theorem Qs.stand (h : Qs W m po bo mo fo B1 pm vm B2 n A D I L) : Calls Try.prog 9 #[.pointer (some ⟨po, 0, none⟩)] W fun e w' => e = .returned (.int .i64 (cnz n A D L)) ∧ W = w' := standing_any W h.o
theorem Qs.mstand (h : Qs W m po bo mo fo B1 pm vm B2 n A D I L) (hl : L.length * 56 ≤ 140737488355328) (hI : I ≤ 140737488355328) : Calls Try.prog 13 #[.pointer (some ⟨pm, 0, none⟩)] W fun e w' => e = .returned (.int .i64 (cnz n A D L)) ∧ Below W.heap.size W w' := by
  obtain ⟨h1, h2, h3, h4, h5⟩ := m_in n A D (I : Int) L ⟨by omega, by omega⟩
  have h6 := mstanding_any W h.m h1 (by omega) h2 h3
  rw [m_cns] at h6
  exact h6
theorem Qs.find (h : Qs W m po bo mo fo B1 pm vm B2 n A D I L) (hl : L.length * 56 ≤ 140737488355328) (ha : ∀ x ∈ L, x.a.size ≤ 140737488355328) (k : Int) (hk : wfi k) (b : ByteArray) (v : Int) : Calls Try.prog 8 #[.pointer (some ⟨po, 0, none⟩), .int .i64 k, .string b, .int .u64 v] W fun e w' => e = .returned (fdv (fnd (lst (stz n A D I L) k) b v)) ∧ Below W.heap.size W w' :=
  find_any W h.o k hk b v (by have := lst_stz' n A D I L k; omega) (fun s hs => ha _ (stz_mem' (lst_mem' hs)))
theorem Qs.mfind (h : Qs W m po bo mo fo B1 pm vm B2 n A D I L) (hl : L.length * 56 ≤ 140737488355328) (hI : I ≤ 140737488355328) (k : Int) (b : ByteArray) (v : Int) : Calls Try.prog 14 #[.pointer (some ⟨pm, 0, none⟩), .int .i64 k, .string b, .int .u64 v] W fun e w' => e = .returned (fdv (fnd (lst (stz n A D I L) k) b v)) ∧ Below W.heap.size W w' := by
  obtain ⟨h1, h2, h3, h4, h5⟩ := m_in n A D (I : Int) L ⟨by omega, by omega⟩
  have h6 := mfind_any W h.m h1 (by omega) h2 h3 h4 k b v
  rw [m_sts] at h6
  exact h6
end
/-- The two cells of an answer. -/
def fdl : Option Lf → Lf
  | some x => x
  | none => lfd
theorem fdv_is (r : Option Lf) : fdv r = .tuple #[.agg #[.int .i64 (fdl r).t, .int .i64 (fdl r).p, .int .i64 (fdl r).l, .int .i64 (fdl r).k, .int .u64 (fdl r).v, .string (fdl r).a], .bool r.isSome] := by cases r <;> rfl
set_option maxRecDepth 1000000 in
set_option maxHeartbeats 64000000 in
theorem reuseFinds_any {v va : Value} {l : List Lf} {q : List Ak} (n A D : Int) (I : ByteArray) (w : World) (h : Lv w v l) (hl : l.length * 56 + 4096 ≤ 140737488355328) (hI : I.size ≤ 140737488355328) (ha : ∀ x ∈ l, x.a.size ≤ 140737488355328) (hq : Rw w va q.length (flat af q)) (hql : q.length ≤ 140737488355328) (hqk : ∀ x ∈ q, wfi x.1) :
    Calls Try.prog 4 #[.int .i64 n, v, edv A D I, va] w fun e w' => e = .returned (.bool true) ∧ Below w.heap.size w w' := by
  have HH : Hid (Lv w v l) := h
  have HA : Hid (∀ x ∈ l, x.a.size ≤ 140737488355328) := ha
  have HIS : Hid (I.size ≤ 140737488355328) := hI
  have HK : Hid (∀ x ∈ q, wfi x.1) := hqk
  have HAQ : Hid (Rw w va q.length (flat af q)) := hq
  obtain ⟨a, cap, rfl⟩ := h.form
  obtain ⟨qa, qcap, rfl⟩ := Rw.form hq
  obtain ⟨m, hm⟩ : ∃ m, l.length = m := ⟨_, rfl⟩
  have HM : Hid (l.length = m) := hm
  obtain ⟨mq, hmq⟩ : ∃ mq, q.length = mq := ⟨_, rfl⟩
  have HMQ : Hid (q.length = mq) := hmq
  have HTW : Hid (∀ (W : World) (v' : Value) (L : List Lf), Lv W v' L → L.length = m → Calls Try.prog 7 #[v'] W fun e w' => ∃ v'', e = .returned (.agg (rsA v'')) ∧ w'.ownsRow W.heap.size 36 6 v'' L.length (flat lf L) ∧ Below W.heap.size W w') := fun W v' L h7 h8 => twin_any W h7 (by omega)
  have HLE : Hid (∀ W, Below w.heap.size w W → Calls Try.prog 10 #[.slice a l.length cap] W fun e w' => ∃ g cp, e = .returned (.agg (rsA (.slice (some ⟨g, 0, none⟩) l.length cp))) ∧ Ln W.heap.size w' g cp l ∧ Below W.heap.size W w') := fun W hb => lent_any W (Rw.up h hb) hl
  have HMA : Hid (∀ (W : World) (B g cp : Nat) (L : List Lf), Ln B W g cp L → L.length = m → Calls Try.prog 11 #[.agg (rsA (.slice (some ⟨g, 0, none⟩) m cp)), .int .i64 (m : Int)] W fun e w' => e = .returned (.bool true) ∧ Below W.heap.size W w') := fun W B g cp L h7 h8 => by
    have h9 := marks_any W h7 (by omega)
    rw [h8] at h9
    exact h9
  have HNW : Hid (∀ (W : World) (v' : Value) (L : List Lf), Lv W v' L → L.length = m → (∀ x ∈ L, x.a.size ≤ 140737488355328) → Calls Try.prog 6 #[.int .i64 n, .agg (rsA v'), .agg #[.int .i64 A, .int .i64 D, .string I]] W fun e w' => ∃ p b k f, e = .returned (.pointer (some ⟨p, 0, none⟩)) ∧ Ol W.heap.size w' p b k f (stz n A D I.size L) (cnz n A D L) ∧ Below W.heap.size W w') := fun W v' L h7 h8 h9 => new_any ru n A D I W h7 (by omega) hI h9
  have HRN : Hid (∀ (W : World) (v' : Value) (L : List Lf), Lv W v' L → L.length = m → Calls Try.prog 12 #[.int .i64 n, .agg (rsA v'), .agg #[.int .i64 A, .int .i64 D, .string I]] W fun e w' => ∃ p v'', e = .returned (.pointer (some ⟨p, 0, none⟩)) ∧ Mo W.heap.size w' p v'' (mL n L) (mA n A L) (mD n A D L) (mI n I.size L) ∧ Below W.heap.size W w') := fun W v' L h7 h8 => rnew_any n A D I W h7 (by omega) hI
  unfold Lv at HH
  rw [hm] at HH hl HLE ⊢
  rw [hmq] at HAQ hql ⊢
  have HL : Hid (m * 56 + 4096 ≤ 140737488355328) := hl
  have HQL : Hid (mq ≤ 140737488355328) := hql
  clear h hm hl ha hI hq hql hqk hmq
  unfold rsA at HTW HLE HMA HNW HRN
  obtain ⟨N, hN⟩ : ∃ N, w.heap.size = N := ⟨_, rfl⟩
  obtain ⟨W1, hW1⟩ : ∃ W1, W1 = w.alloc (.cells #[.int .i64 A, .int .i64 D, .string I] 24) := ⟨_, rfl⟩
  have HB1 : Hid (Below w.heap.size w W1) := by rw [hW1]; exact bel_up _ _
  have HE1 : Hid (W1.heap[N]? = some (.cells #[.int .i64 A, .int .i64 D, .string I] 24 (0, 0))) := by rw [hW1, ← hN]; exact heap_new w _
  unfold edv
  go_enter Try.func4, Try.ntmps4
  go_upto_region 1 with fail
  rw [← hW1]
  clear hW1
  go_upto_region 2 with (go_at_call 10; refine Calls.mono (HLE.out _ HB1.out) ?_; rintro ee W2 ⟨g, cp, rfl, hn2, hb2⟩; have HL2 : Hid (Ln N W2 g cp l) := ⟨row_base hn2.r (by have := HB1.out.size; omega)⟩; have HE2 : Hid (W2.heap[N]? = some (.cells #[.int .i64 A, .int .i64 D, .string I] 24 (0, 0))) := (hb2.block _ (lt_of_heap HE1.out)).trans HE1.out; have HB2 : Hid (Below w.heap.size w W2) := below_trans HB1.out hb2; clear hn2 hb2)
  obtain ⟨q9, hq9⟩ : ∃ q9, W2.heap.size = q9 := ⟨_, rfl⟩
  obtain ⟨W3, hW3⟩ : ∃ W3, W3 = W2.alloc (.cells #[.int .i64 0, .int .i64 0, .int .u64 0, .slice (some ⟨g, 0, none⟩) m cp, .slice none 0 0, .int .i64 0] 33) := ⟨_, rfl⟩
  have HR3 : Hid (Rb q9 (.slice (some ⟨g, 0, none⟩) m cp) W3) := by rw [hW3, ← hq9]; exact heap_new W2 _
  have HL3 : Hid (Ln N W3 g cp l) := by rw [hW3]; exact HL2.out.up (bel_up _ _)
  have HE3 : Hid (W3.heap[N]? = some (.cells #[.int .i64 A, .int .i64 D, .string I] 24 (0, 0))) := by rw [hW3]; exact ((bel_up _ _).block _ (lt_of_heap HE2.out)).trans HE2.out
  have HB3 : Hid (Below w.heap.size w W3) := by rw [hW3]; exact below_trans HB2.out (bel_up _ _)
  rw [← hW3, hq9]
  clear hW3 hq9 HL2 HE2 HB2 HE1 HB1
  obtain ⟨r0, r1, r2, r3, r4, r5⟩ := HR3.out.cs
  have d0 := rcell HE3.out 0 _ rfl; have d1 := rcell HE3.out 1 _ rfl; have d2 := rcell HE3.out 2 _ rfl
  have HV3 : Hid (Lv W3 (.slice (some ⟨g, 0, none⟩) m cp) l) := by have h8 := HL3.out.lv; rw [HM.out] at h8; exact h8
  go_upto_region 3 with (go_at_call 6; refine Calls.mono (HNW.out _ _ _ HV3.out HM.out HA.out) ?_; rintro ee W4 ⟨po, bo, ko, fo, rfl, ho4, hb4⟩; have HO4 : Hid (Ol W3.heap.size W4 po bo ko fo (stz n A D I.size l) (cnz n A D l)) := ho4; have HR4 : Hid (Rb q9 (.slice (some ⟨g, 0, none⟩) m cp) W4) := HR3.out.up hb4; have HL4 : Hid (Ln N W4 g cp l) := HL3.out.up hb4; have HE4 : Hid (W4.heap[N]? = some (.cells #[.int .i64 A, .int .i64 D, .string I] 24 (0, 0))) := (hb4.block _ (lt_of_heap HE3.out)).trans HE3.out; have HB4 : Hid (Below w.heap.size w W4) := below_trans HB3.out hb4; clear ho4 hb4)
  clear r0 r1 r2 r3 r4 r5 d0 d1 d2 HR3 HE3 HL3 HB3 HV3
  obtain ⟨r0, r1, r2, r3, r4, r5⟩ := HR4.out.cs
  go_upto_region 5 with (go_at_call 11; refine Calls.mono (HMA.out _ _ _ _ _ HL4.out HM.out) ?_; rintro ee W5 ⟨rfl, hb5⟩; have HO5 : Hid (Ol W3.heap.size W5 po bo ko fo (stz n A D I.size l) (cnz n A D l)) := HO4.out.up hb5; have HR5 : Hid (Rb q9 (.slice (some ⟨g, 0, none⟩) m cp) W5) := HR4.out.up hb5; have HL5 : Hid (Ln N W5 g cp l) := HL4.out.up hb5; have HE5 : Hid (W5.heap[N]? = some (.cells #[.int .i64 A, .int .i64 D, .string I] 24 (0, 0))) := (hb5.block _ (lt_of_heap HE4.out)).trans HE4.out; have HB5 : Hid (Below w.heap.size w W5) := below_trans HB4.out hb5; clear hb5)
  clear r0 r1 r2 r3 r4 r5 HO4 HR4 HE4 HL4 HB4
  refine wp_region_noPanic ?_
  refine wp_region_held_drew (S := fun V => V.cell? ⟨N, 0, none⟩ = some (.int .i64 A) ∧ V.cell? ⟨N, 1, none⟩ = some (.int .i64 D) ∧ V.cell? ⟨N, 2, none⟩ = some (.string I)) (by kernel_rfl) ⟨rcell (W := W5.drew) HE5.out 0 _ rfl, rcell (W := W5.drew) HE5.out 1 _ rfl, rcell (W := W5.drew) HE5.out 2 _ rfl⟩ (fun hHeld => ?_)
  obtain ⟨WD, hWD⟩ : ∃ WD, W5.drew = WD := ⟨_, rfl⟩
  have hbd : Below W5.heap.size W5 WD := by rw [← hWD]; exact Below.drew (Below.refl _ _)
  have HOD : Hid (Ol W3.heap.size WD po bo ko fo (stz n A D I.size l) (cnz n A D l)) := HO5.out.up hbd
  have HRD : Hid (Rb q9 (.slice (some ⟨g, 0, none⟩) m cp) WD) := HR5.out.up hbd
  have HLD : Hid (Ln N WD g cp l) := HL5.out.up hbd
  have HED : Hid (WD.heap[N]? = some (.cells #[.int .i64 A, .int .i64 D, .string I] 24 (0, 0))) := (hbd.block _ (lt_of_heap HE5.out)).trans HE5.out
  have HBD : Hid (Below w.heap.size w WD) := below_trans HB5.out hbd
  have HVD : Hid (Lv WD (.slice a m cap) l) := by have h8 := Rw.up HH.out HBD.out; unfold Lv; rw [HM.out]; exact h8
  rw [hWD] at hHeld ⊢
  clear hWD hbd HO5 HR5 HL5 HE5 HB5
  refine wpAnyH_take (i := 0) (oi := { dst := _, op := _, type := _, pos := _, after := _, guard := _ }) (v := ?_) rfl (by kernel_rfl) (by kernel_rfl) (by kernel_rfl) (fun _ _ _ h => h) (Or.inl ⟨by rfl, ?_⟩) (by assumption) ?_
  rotate_left
  · intro W hSw
    (try dsimp only at hSw)
    obtain ⟨t0, t1, t2⟩ := hSw
    go_simp
    (try with_reducible rfl)
  try simp only [Act.put, List.setIfInBounds_toArray, List.set_cons_zero, List.set_cons_succ]
  refine wpAnyH_take (i := 1) (oi := { dst := _, op := _, type := _, pos := _, after := _, guard := _ }) (v := ?_) rfl (by kernel_rfl) (by kernel_rfl) (by kernel_rfl) (fun _ _ _ h => h) (Or.inl ⟨by rfl, ?_⟩) (by assumption) ?_
  rotate_left
  · intro W hSw
    (try dsimp only at hSw)
    obtain ⟨t0, t1, t2⟩ := hSw
    go_simp
    (try with_reducible rfl)
  try simp only [Act.put, List.setIfInBounds_toArray, List.set_cons_zero, List.set_cons_succ]
  refine wpAnyH_take (i := 3) (oi := { dst := _, op := _, type := _, pos := _, after := _, guard := _ }) (v := ?_) rfl (by kernel_rfl) (by kernel_rfl) (by kernel_rfl) (fun _ _ _ h => h) (Or.inl ⟨by rfl, ?_⟩) (by assumption) ?_
  rotate_left
  · intro W hSw
    (try dsimp only at hSw)
    obtain ⟨t0, t1, t2⟩ := hSw
    go_simp
    (try with_reducible rfl)
  try simp only [Act.put, List.setIfInBounds_toArray, List.set_cons_zero, List.set_cons_succ]
  refine wpAnyH_ready (rs := [2]) (by kernel_rfl) (by simp) ?_
  refine AllReadyH.cons (o := { dst := _, op := _, type := _, pos := _, after := _, guard := _ }) rfl (fun K hK => ?_) AllReadyH.nil
  go_simp
  refine Calls.mono (HTW.out _ _ _ HVD.out HM.out) ?_
  rintro ee W6 ⟨v6, rfl, ho6, hb6⟩
  have HO6 : Hid (Ol W3.heap.size W6 po bo ko fo (stz n A D I.size l) (cnz n A D l)) := HOD.out.up hb6
  have HR6 : Hid (Rb q9 (.slice (some ⟨g, 0, none⟩) m cp) W6) := HRD.out.up hb6
  have HL6 : Hid (Ln N W6 g cp l) := HLD.out.up hb6
  have HE6 : Hid (W6.heap[N]? = some (.cells #[.int .i64 A, .int .i64 D, .string I] 24 (0, 0))) := (hb6.block _ (lt_of_heap HED.out)).trans HED.out
  have HB6 : Hid (Below w.heap.size w W6) := below_trans HBD.out hb6
  have HV6 : Hid (Lv W6 v6 l) := row_rw ho6 (by decide)
  obtain ⟨va6, vc6, rfl⟩ := row_shape ho6
  clear ho6 hb6
  refine hK.out _ _ ?_ (fun hHeld => ?_)
  · first | exact trivial | (exact ⟨rcell HE6.out 0 _ rfl, rcell HE6.out 1 _ rfl, rcell HE6.out 2 _ rfl⟩)
  clear hK K
  try simp only [Act.put, List.setIfInBounds_toArray, List.set_cons_zero, List.set_cons_succ]
  refine wpAnyH_ready (rs := [4]) (by kernel_rfl) (by simp) ?_
  refine AllReadyH.cons (o := { dst := _, op := _, type := _, pos := _, after := _, guard := _ }) rfl (fun K hK => ?_) AllReadyH.nil
  go_simp
  refine Calls.mono (HRN.out _ _ _ HV6.out HM.out) ?_
  rintro ee W7 ⟨pm, vm, rfl, hm7, hb7⟩
  have HM7 : Hid (Mo W6.heap.size W7 pm vm (mL n l) (mA n A l) (mD n A D l) (mI n I.size l)) := hm7
  have HO7 : Hid (Ol W3.heap.size W7 po bo ko fo (stz n A D I.size l) (cnz n A D l)) := HO6.out.up hb7
  have HR7 : Hid (Rb q9 (.slice (some ⟨g, 0, none⟩) m cp) W7) := HR6.out.up hb7
  have HL7 : Hid (Ln N W7 g cp l) := HL6.out.up hb7
  have HE7 : Hid (W7.heap[N]? = some (.cells #[.int .i64 A, .int .i64 D, .string I] 24 (0, 0))) := (hb7.block _ (lt_of_heap HE6.out)).trans HE6.out
  have HB7 : Hid (Below w.heap.size w W7) := below_trans HB6.out hb7
  clear hm7 hb7
  refine hK.out _ _ ?_ (fun hHeld => ?_)
  · first | exact trivial | (exact ⟨rcell HE7.out 0 _ rfl, rcell HE7.out 1 _ rfl, rcell HE7.out 2 _ rfl⟩)
  clear hK K
  try simp only [Act.put, List.setIfInBounds_toArray, List.set_cons_zero, List.set_cons_succ]
  refine wpAnyH_take (i := 5) (oi := { dst := _, op := _, type := _, pos := _, after := _, guard := _ }) (v := ?_) rfl (by kernel_rfl) (by kernel_rfl) (by kernel_rfl) (fun _ _ _ h => h) (Or.inl ⟨by rfl, ?_⟩) (by assumption) ?_
  rotate_left
  · intro W hSw
    (try dsimp only at hSw)
    obtain ⟨t0, t1, t2⟩ := hSw
    go_simp
    (try with_reducible rfl)
  try simp only [Act.put, List.setIfInBounds_toArray, List.set_cons_zero, List.set_cons_succ]
  refine wpAnyH_done (by kernel_rfl) ?_ _
  refine NoPanic.normal ?_
  have HQ7 : Hid (Qs W7 0 po bo ko fo W3.heap.size pm vm W6.heap.size n A D I.size l) := ⟨HO7.out, HM7.out⟩
  have HGB : Hid (g < W6.heap.size) := by obtain ⟨_, cs, hc⟩ := HL6.out.blk; exact lt_of_heap hc
  obtain ⟨B2, hB2⟩ : ∃ B2, W6.heap.size = B2 := ⟨_, rfl⟩
  obtain ⟨B1, hB1⟩ : ∃ B1, W3.heap.size = B1 := ⟨_, rfl⟩
  rw [hB1, hB2] at HQ7
  rw [hB2] at HGB
  clear hB1 hB2 HO7 HM7 HL6 HV6 HE6 HO6 HR6 HB6 hHeld
  go_upto_region 7 with fail
  go_loopg [12] m (fun gm v12 wr => ∃ (i : Nat), v12 = .int .i64 (i : Int) ∧ Hid (i ≤ m ∧ gm = m - i) ∧ Hid (Qs wr 0 po bo ko fo B1 pm vm B2 n A D I.size l) ∧ Hid (Rb q9 (.slice (some ⟨g, 0, none⟩) m cp) wr) ∧ Hid (Ln N wr g cp (ov l i)) ∧ Hid (wr.heap[N]? = some (.cells #[.int .i64 A, .int .i64 D, .string I] 24 (0, 0))) ∧ Hid (Below w.heap.size w wr))
  case atStart => exact ⟨0, rfl, ⟨Nat.zero_le _, rfl⟩, HQ7, HR7, HL7, HE7, HB7⟩
  case round =>
    obtain ⟨i, rfl, HIX, HQ, HR, HLN, HE, HB⟩ := hrel
    clear HQ7 HR7 HL7 HE7 HB7
    by_cases hi : i < m
    · have e1 : decide ((i : Int) < (m : Int)) = true := by rw [decide_eq_true_eq]; omega
      have e2 : decide (i < m) = true := by rw [decide_eq_true_eq]; omega
      have b1 : (i : Int) < (m : Int) := by omega
      have b2 : i < m := hi
      have HIM : Hid (i < m) := hi
      have hwi := w64n i (by have := HL.out; omega)
      obtain ⟨ga, oa, rfl, hc⟩ := Lv.at HH.out HM.out i hi
      have hov : (ov l i).length = m := by rw [ov_len l i (by have := HM.out; omega)]; exact HM.out
      have hgc : ∀ W', Ln N W' g cp (ov l i) → Lc g (i * 6) (l.getD i lfd) W' := fun W' h7 => by have h8 := h7.at i (by rw [hov]; exact hi); rw [ov_at l i (by have := HM.out; omega)] at h8; exact h8
      have HNX : Hid (∀ W', Ln N W' g cp (ov l i) → Ln N (p6 W' g i l77) g cp (ov l (i + 1))) := fun W' h7 => by have h8 := h7.put i (by rw [hov]; exact hi) l77; rw [ov_set l i (by have := HM.out; omega)] at h8; exact h8
      obtain ⟨x, hx⟩ : ∃ x, l.getD i lfd = x := ⟨_, rfl⟩
      rw [hx] at hc hgc
      have HC : Hid (∀ W', Below w.heap.size w W' → Lc ga (oa + i * 6) x W') := hc
      have HGC : Hid (∀ W', Ln N W' g cp (ov l i) → Lc g (i * 6) x W') := hgc
      clear hi hc hx hov hgc
      go_upto_region 9 with fail
      refine wp_region_noPanic ?_
      refine wp_region_held_drew (S := fun V => Lc g (i * 6) x V ∧ Lc ga (oa + i * 6) x V ∧ V.cell? ⟨q9, 3, none⟩ = some (.slice (some ⟨g, 0, none⟩) m cp)) (by kernel_rfl) ⟨HGC.out _ (HLN.out.up (Below.drew (Below.refl _ _))), HC.out _ (Below.drew HB.out), (HR.out.up (Below.drew (Below.refl _ _))).cs.2.2.2.1⟩ (fun hHeld => ?_)
      obtain ⟨WD, hWD⟩ : ∃ WD, wr.drew = WD := ⟨_, rfl⟩
      have hbd : Below wr.heap.size wr WD := by rw [← hWD]; exact Below.drew (Below.refl _ _)
      have HQD : Hid (Qs WD 0 po bo ko fo B1 pm vm B2 n A D I.size l) := HQ.out.up hbd
      have HRD : Hid (Rb q9 (.slice (some ⟨g, 0, none⟩) m cp) WD) := HR.out.up hbd
      have HLD : Hid (Ln N WD g cp (ov l i)) := HLN.out.up hbd
      have HED : Hid (WD.heap[N]? = some (.cells #[.int .i64 A, .int .i64 D, .string I] 24 (0, 0))) := (hbd.block _ (lt_of_heap HE.out)).trans HE.out
      have HBD : Hid (Below w.heap.size w WD) := below_trans HB.out hbd
      rw [hWD] at hHeld ⊢
      clear hWD hbd HQ HR HLN HE HB
      refine wpAnyH_take (i := 0) (oi := { dst := _, op := _, type := _, pos := _, after := _, guard := _ }) (v := ?_) rfl (by kernel_rfl) (by kernel_rfl) (by kernel_rfl) (fun _ _ _ h => h) (Or.inl ⟨by rfl, ?_⟩) (by assumption) ?_
      rotate_left
      · intro W hSw
        (try dsimp only at hSw)
        obtain ⟨⟨a0, a1, a2, a3, a4, a5⟩, ⟨t0, t1, t2, t3, t4, t5⟩, t6⟩ := hSw
        go_simp
        (try with_reducible rfl)
      try simp only [Act.put, List.setIfInBounds_toArray, List.set_cons_zero, List.set_cons_succ]
      refine wpAnyH_take (i := 1) (oi := { dst := _, op := _, type := _, pos := _, after := _, guard := _ }) (v := ?_) rfl (by kernel_rfl) (by kernel_rfl) (by kernel_rfl) (fun _ _ _ h => h) (Or.inl ⟨by rfl, ?_⟩) (by assumption) ?_
      rotate_left
      · intro W hSw
        (try dsimp only at hSw)
        obtain ⟨⟨a0, a1, a2, a3, a4, a5⟩, ⟨t0, t1, t2, t3, t4, t5⟩, t6⟩ := hSw
        go_simp
        (try with_reducible rfl)
      try simp only [Act.put, List.setIfInBounds_toArray, List.set_cons_zero, List.set_cons_succ]
      refine wpAnyH_take (i := 2) (oi := { dst := _, op := _, type := _, pos := _, after := _, guard := _ }) (v := ?_) rfl (by kernel_rfl) (by kernel_rfl) (by kernel_rfl) (fun _ _ _ h => h) (Or.inl ⟨by rfl, ?_⟩) (by assumption) ?_
      rotate_left
      · intro W hSw
        (try dsimp only at hSw)
        obtain ⟨⟨a0, a1, a2, a3, a4, a5⟩, ⟨t0, t1, t2, t3, t4, t5⟩, t6⟩ := hSw
        go_simp
        (try with_reducible rfl)
      try simp only [Act.put, List.setIfInBounds_toArray, List.set_cons_zero, List.set_cons_succ]
      refine wpAnyH_take (i := 3) (oi := { dst := _, op := _, type := _, pos := _, after := _, guard := _ }) (v := ?_) rfl (by kernel_rfl) (by kernel_rfl) (by kernel_rfl) (fun _ _ _ h => h) (Or.inl ⟨by rfl, ?_⟩) (by assumption) ?_
      rotate_left
      · intro W hSw
        (try dsimp only at hSw)
        obtain ⟨⟨a0, a1, a2, a3, a4, a5⟩, ⟨t0, t1, t2, t3, t4, t5⟩, t6⟩ := hSw
        go_simp
        (try with_reducible rfl)
      try simp only [Act.put, List.setIfInBounds_toArray, List.set_cons_zero, List.set_cons_succ]
      refine wpAnyH_take (i := 4) (oi := { dst := _, op := _, type := _, pos := _, after := _, guard := _ }) (v := ?_) rfl (by kernel_rfl) (by kernel_rfl) (by kernel_rfl) (fun _ _ _ h => h) (Or.inl ⟨by rfl, ?_⟩) (by assumption) ?_
      rotate_left
      · intro W hSw
        (try dsimp only at hSw)
        obtain ⟨⟨a0, a1, a2, a3, a4, a5⟩, ⟨t0, t1, t2, t3, t4, t5⟩, t6⟩ := hSw
        go_simp
        (try with_reducible rfl)
      try simp only [Act.put, List.setIfInBounds_toArray, List.set_cons_zero, List.set_cons_succ]
      refine wpAnyH_take (i := 5) (oi := { dst := _, op := _, type := _, pos := _, after := _, guard := _ }) (v := ?_) rfl (by kernel_rfl) (by kernel_rfl) (by kernel_rfl) (fun _ _ _ h => h) (Or.inl ⟨by rfl, ?_⟩) (by assumption) ?_
      rotate_left
      · intro W hSw
        (try dsimp only at hSw)
        obtain ⟨⟨a0, a1, a2, a3, a4, a5⟩, ⟨t0, t1, t2, t3, t4, t5⟩, t6⟩ := hSw
        go_simp
        (try with_reducible rfl)
      try simp only [Act.put, List.setIfInBounds_toArray, List.set_cons_zero, List.set_cons_succ]
      refine wpAnyH_take (i := 6) (oi := { dst := _, op := _, type := _, pos := _, after := _, guard := _ }) (v := ?_) rfl (by kernel_rfl) (by kernel_rfl) (by kernel_rfl) (fun _ _ _ h => h) (Or.inl ⟨by rfl, ?_⟩) (by assumption) ?_
      rotate_left
      · intro W hSw
        (try dsimp only at hSw)
        obtain ⟨⟨a0, a1, a2, a3, a4, a5⟩, ⟨t0, t1, t2, t3, t4, t5⟩, t6⟩ := hSw
        go_simp
        (try with_reducible rfl)
      try simp only [Act.put, List.setIfInBounds_toArray, List.set_cons_zero, List.set_cons_succ]
      refine wpAnyH_take (i := 7) (oi := { dst := _, op := _, type := _, pos := _, after := _, guard := _ }) (v := ?_) rfl (by kernel_rfl) (by kernel_rfl) (by kernel_rfl) (fun _ _ _ h => h) (Or.inl ⟨by rfl, ?_⟩) (by assumption) ?_
      rotate_left
      · intro W hSw
        (try dsimp only at hSw)
        obtain ⟨⟨a0, a1, a2, a3, a4, a5⟩, ⟨t0, t1, t2, t3, t4, t5⟩, t6⟩ := hSw
        go_simp
        (try with_reducible rfl)
      try simp only [Act.put, List.setIfInBounds_toArray, List.set_cons_zero, List.set_cons_succ]
      refine wpAnyH_take (i := 8) (oi := { dst := _, op := _, type := _, pos := _, after := _, guard := _ }) (v := ?_) rfl (by kernel_rfl) (by kernel_rfl) (by kernel_rfl) (fun _ _ _ h => h) (Or.inl ⟨by rfl, ?_⟩) (by assumption) ?_
      rotate_left
      · intro W hSw
        (try dsimp only at hSw)
        obtain ⟨⟨a0, a1, a2, a3, a4, a5⟩, ⟨t0, t1, t2, t3, t4, t5⟩, t6⟩ := hSw
        go_simp
        (try with_reducible rfl)
      try simp only [Act.put, List.setIfInBounds_toArray, List.set_cons_zero, List.set_cons_succ]
      refine wpAnyH_take (i := 9) (oi := { dst := _, op := _, type := _, pos := _, after := _, guard := _ }) (v := ?_) rfl (by kernel_rfl) (by kernel_rfl) (by kernel_rfl) (fun _ _ _ h => h) (Or.inl ⟨by rfl, ?_⟩) (by assumption) ?_
      rotate_left
      · intro W hSw
        (try dsimp only at hSw)
        obtain ⟨⟨a0, a1, a2, a3, a4, a5⟩, ⟨t0, t1, t2, t3, t4, t5⟩, t6⟩ := hSw
        go_simp
        (try with_reducible rfl)
      try simp only [Act.put, List.setIfInBounds_toArray, List.set_cons_zero, List.set_cons_succ]
      refine wpAnyH_done (by kernel_rfl) ?_ _
      refine NoPanic.normal ?_
      clear hHeld
      obtain ⟨-, -, -, r3, -, -⟩ := HRD.out.cs
      obtain ⟨c0, c1, c2, c3, c4, c5⟩ := HGC.out _ HLD.out
      have z0 := HLD.out.froz (i * 6); have z1 := HLD.out.froz (i * 6 + 1); have z2 := HLD.out.froz (i * 6 + 2); have z3 := HLD.out.froz (i * 6 + 3); have z4 := HLD.out.froz (i * 6 + 4); have z5 := HLD.out.froz (i * 6 + 5)
      go_upto_region 8 with fail
      clear r3 c0 c1 c2 c3 c4 c5 z0 z1 z2 z3 z4 z5
      obtain ⟨WP, hWP⟩ : ∃ WP, WP = p6 WD g i l77 := ⟨_, rfl⟩
      have HLP : Hid (Ln N WP g cp (ov l (i + 1))) := by rw [hWP]; exact HNX.out WD HLD.out
      have HGP : Hid (WD.grownBy WP (some g)) := by rw [hWP]; exact p6_grown _ _ _ _
      obtain ⟨hgN, gcs, hgb⟩ := HLD.out.blk
      have HQP : Hid (Qs WP 0 po bo ko fo B1 pm vm B2 n A D I.size l) := HQD.out.off hgb HGB.out HGP.out
      have HRP : Hid (Rb q9 (.slice (some ⟨g, 0, none⟩) m cp) WP) := (HGP.out.block _ (lt_of_heap HRD.out) (fun e => by have h7 := HRD.out; unfold Rb at h7; rw [Option.some.inj e, hgb] at h7; cases h7)).trans HRD.out
      have HEP : Hid (WP.heap[N]? = some (.cells #[.int .i64 A, .int .i64 D, .string I] 24 (0, 0))) := (HGP.out.block _ (lt_of_heap HED.out) (fun e => by have h7 := HED.out; rw [Option.some.inj e, hgb] at h7; cases h7)).trans HED.out
      have HBP : Hid (Below w.heap.size w WP) := HBD.out.grown HGP.out HBD.out.size (fun r hr => by cases hr; omega)
      have hWP' : WP = (((((WD.setCell ⟨g, i * 6, none⟩ (.int .i64 77)).setCell ⟨g, i * 6 + 1, none⟩ (.int .i64 0)).setCell ⟨g, i * 6 + 2, none⟩ (.int .i64 0)).setCell ⟨g, i * 6 + 3, none⟩ (.int .i64 0)).setCell ⟨g, i * 6 + 4, none⟩ (.int .u64 0)).setCell ⟨g, i * 6 + 5, none⟩ (.string ⟨#[]⟩) := hWP
      rw [← hWP']
      clear hWP hWP' hgb HLD HQD HRD HED HBD HGP
      go_wp2_with fail
      go_roundg (m - (i + 1))
      case measure => have := HIX.out; have := HIM.out; omega
      case rel => exact ⟨i + 1, by first | rfl | (rw [show (i : Int) + 1 = ((i + 1 : Nat) : Int) by omega]), ⟨HIM.out, rfl⟩, HQP, HRP, HLP, HEP, HBP⟩
    · have e1 : decide ((i : Int) < (m : Int)) = false := by rw [decide_eq_false_iff_not]; omega
      have e2 : decide (i < m) = false := by rw [decide_eq_false_iff_not]; omega
      have hov : (ov l i).length = m := by rw [ov_len l i (by have := HIX.out; have := HM.out; omega)]; exact HM.out
      have HOV : Hid ((ov l i).length = m) := hov
      clear hi hov
      obtain ⟨Lo, hLo⟩ : ∃ Lo, ov l i = Lo := ⟨_, rfl⟩
      rw [hLo] at HLN HOV
      clear hLo
      have HLL : Hid (l.length = m ∧ ∀ x ∈ l, x.a.size ≤ 140737488355328) := ⟨HM.out, HA.out⟩
      obtain ⟨CT, hCT⟩ : ∃ CT, cnz n A D l = CT := ⟨_, rfl⟩
      have HSO : Hid (∀ W, Qs W 0 po bo ko fo B1 pm vm B2 n A D I.size l → Calls Try.prog 9 #[.pointer (some ⟨po, 0, none⟩)] W fun e w' => e = .returned (.int .i64 CT) ∧ W = w') := fun W h7 => by rw [← hCT]; exact h7.stand
      have HSM : Hid (∀ W, Qs W 0 po bo ko fo B1 pm vm B2 n A D I.size l → Calls Try.prog 13 #[.pointer (some ⟨pm, 0, none⟩)] W fun e w' => e = .returned (.int .i64 CT) ∧ Below W.heap.size W w') := fun W h7 => by rw [← hCT]; exact h7.mstand (by have := HM.out; have := HL.out; omega) HIS.out
      clear hCT
      go_upto_region 15 with first | (go_at_call 9; refine Calls.mono (HSO.out _ HQ.out) ?_; rintro ee ww ⟨rfl, rfl⟩) | (go_at_call 13; refine Calls.mono (HSM.out _ HQ.out) ?_; rintro ee W8 ⟨rfl, hb8⟩; have HQs : Hid (Qs W8 0 po bo ko fo B1 pm vm B2 n A D I.size l) := HQ.out.up hb8; have HRs : Hid (Rb q9 (.slice (some ⟨g, 0, none⟩) m cp) W8) := HR.out.up hb8; have HLNs : Hid (Ln N W8 g cp Lo) := HLN.out.up hb8; have HEs : Hid (W8.heap[N]? = some (.cells #[.int .i64 A, .int .i64 D, .string I] 24 (0, 0))) := (hb8.block _ (lt_of_heap HE.out)).trans HE.out; have HBs : Hid (Below w.heap.size w W8) := below_trans HB.out hb8; clear hb8)
      clear HQ HR HLN HE HB
      go_loopg [13] mq (fun gm v13 wr => ∃ (i : Nat), v13 = .int .i64 (i : Int) ∧ Hid (i ≤ mq ∧ gm = mq - i) ∧ Hid (Qs wr 0 po bo ko fo B1 pm vm B2 n A D I.size l) ∧ Hid (Rb q9 (.slice (some ⟨g, 0, none⟩) m cp) wr) ∧ Hid (Ln N wr g cp Lo) ∧ Hid (wr.heap[N]? = some (.cells #[.int .i64 A, .int .i64 D, .string I] 24 (0, 0))) ∧ Hid (Below w.heap.size w wr))
      case atStart => exact ⟨0, rfl, ⟨Nat.zero_le _, rfl⟩, HQs, HRs, HLNs, HEs, HBs⟩
      case round =>
        obtain ⟨i, rfl, HIX, HQ, HR, HLN, HE, HB⟩ := hrel
        clear HQs HRs HLNs HEs HBs
        by_cases hi : i < mq
        · have e1 : decide ((i : Int) < (mq : Int)) = true := by rw [decide_eq_true_eq]; omega
          have e2 : decide (i < mq) = true := by rw [decide_eq_true_eq]; omega
          have b1 : (i : Int) < (mq : Int) := by omega
          have b2 : i < mq := hi
          have HIM : Hid (i < mq) := hi
          have hwi := w64n i (by have := HQL.out; omega)
          obtain ⟨gq, og, rfl, hc⟩ := Rw.ask HAQ.out HMQ.out i hi
          have hkx := HK.out (q.getD i akd) (by rw [List.getD_eq_getElem?_getD, List.getElem?_eq_getElem (by have := HMQ.out; omega)]; exact List.getElem_mem _)
          obtain ⟨x, hx⟩ : ∃ x, q.getD i akd = x := ⟨_, rfl⟩
          rw [hx] at hc hkx
          obtain ⟨R, hR⟩ : ∃ R, fnd (lst (stz n A D I.size l) x.1) x.2.1 x.2.2 = R := ⟨_, rfl⟩
          obtain ⟨y, hy⟩ : ∃ y, fdl R = y := ⟨_, rfl⟩
          obtain ⟨bb, hbb⟩ : ∃ bb, R.isSome = bb := ⟨_, rfl⟩
          have HF1 : Hid (∀ W, Qs W 0 po bo ko fo B1 pm vm B2 n A D I.size l → Calls Try.prog 8 #[.pointer (some ⟨po, 0, none⟩), .int .i64 x.1, .string x.2.1, .int .u64 x.2.2] W fun e w' => e = .returned (.tuple #[.agg #[.int .i64 y.t, .int .i64 y.p, .int .i64 y.l, .int .i64 y.k, .int .u64 y.v, .string y.a], .bool bb]) ∧ Below W.heap.size W w') := fun W h7 => by
            have h8 := h7.find (by have := HLL.out.1; have := HL.out; omega) HLL.out.2 x.1 hkx x.2.1 x.2.2
            rw [hR, fdv_is, hy, hbb] at h8
            exact h8
          have HF2 : Hid (∀ W, Qs W 0 po bo ko fo B1 pm vm B2 n A D I.size l → Calls Try.prog 14 #[.pointer (some ⟨pm, 0, none⟩), .int .i64 x.1, .string x.2.1, .int .u64 x.2.2] W fun e w' => e = .returned (.tuple #[.agg #[.int .i64 y.t, .int .i64 y.p, .int .i64 y.l, .int .i64 y.k, .int .u64 y.v, .string y.a], .bool bb]) ∧ Below W.heap.size W w') := fun W h7 => by
            have h8 := h7.mfind (by have := HLL.out.1; have := HL.out; omega) HIS.out x.1 x.2.1 x.2.2
            rw [hR, fdv_is, hy, hbb] at h8
            exact h8
          obtain ⟨oq, hoq⟩ : ∃ oq, og + i * 3 = oq := ⟨_, rfl⟩
          have HAC : Hid (∀ W', Below w.heap.size w W' → Ac gq (og + i * 3) x W') := hc
          clear hi hc hx hkx hR hy hbb hoq oq
          obtain ⟨wb, hwb⟩ : ∃ wb, wb = wr := ⟨_, rfl⟩
          have HBb : Hid (Below w.heap.size w wb) := by rw [hwb]; exact HB.out
          have HQb : Hid (Qs wb 0 po bo ko fo B1 pm vm B2 n A D I.size l) := by rw [hwb]; exact HQ.out
          have HUb : Hid (Below wr.heap.size wr wb) := by rw [hwb]; exact Below.refl _ _
          go_upto_region 17 with fail
          rw [← hwb]
          clear hwb
          go_cut [14, 15] from 73 to 126 (fun v14 v15 wx => ∃ r : Nat, v14 = .pointer (some ⟨r, 0, none⟩) ∧ v15 = .bool bb ∧ Hid (wx.heap[r]? = some (.cells #[.int .i64 y.t, .int .i64 y.p, .int .i64 y.l, .int .i64 y.k, .int .u64 y.v, .string y.a] 36 (0, 0))) ∧ Hid (Below wb.heap.size wb wx))
          case first =>
            refine wp_region_noPanic ?_
            refine wp_region_held_drew (S := Ac gq (og + i * 3) x) (by kernel_rfl) (HAC.out _ (Below.drew HBb.out)) (fun hHeld => ?_)
            obtain ⟨WD, hWD⟩ : ∃ WD, wb.drew = WD := ⟨_, rfl⟩
            have HUD : Hid (Below wb.heap.size wb WD) := by rw [← hWD]; exact Below.drew (Below.refl _ _)
            rw [hWD] at hHeld ⊢
            clear hWD
            refine wpAnyH_take (i := 0) (oi := { dst := _, op := _, type := _, pos := _, after := _, guard := _ }) (v := ?_) rfl (by kernel_rfl) (by kernel_rfl) (by kernel_rfl) (fun _ _ _ h => h) (Or.inl ⟨by rfl, ?_⟩) (by assumption) ?_
            rotate_left
            · intro W hSw
              (try dsimp only at hSw)
              obtain ⟨t0, t1, t2⟩ := hSw
              go_simp
              (try with_reducible rfl)
            try simp only [Act.put, List.setIfInBounds_toArray, List.set_cons_zero, List.set_cons_succ]
            refine wpAnyH_take (i := 1) (oi := { dst := _, op := _, type := _, pos := _, after := _, guard := _ }) (v := ?_) rfl (by kernel_rfl) (by kernel_rfl) (by kernel_rfl) (fun _ _ _ h => h) (Or.inl ⟨by rfl, ?_⟩) (by assumption) ?_
            rotate_left
            · intro W hSw
              (try dsimp only at hSw)
              obtain ⟨t0, t1, t2⟩ := hSw
              go_simp
              (try with_reducible rfl)
            try simp only [Act.put, List.setIfInBounds_toArray, List.set_cons_zero, List.set_cons_succ]
            refine wpAnyH_take (i := 2) (oi := { dst := _, op := _, type := _, pos := _, after := _, guard := _ }) (v := ?_) rfl (by kernel_rfl) (by kernel_rfl) (by kernel_rfl) (fun _ _ _ h => h) (Or.inl ⟨by rfl, ?_⟩) (by assumption) ?_
            rotate_left
            · intro W hSw
              (try dsimp only at hSw)
              obtain ⟨t0, t1, t2⟩ := hSw
              go_simp
              (try with_reducible rfl)
            try simp only [Act.put, List.setIfInBounds_toArray, List.set_cons_zero, List.set_cons_succ]
            refine wpAnyH_take (i := 3) (oi := { dst := _, op := _, type := _, pos := _, after := _, guard := _ }) (v := ?_) rfl (by kernel_rfl) (by kernel_rfl) (by kernel_rfl) (fun _ _ _ h => h) (Or.inl ⟨by rfl, ?_⟩) (by assumption) ?_
            rotate_left
            · intro W hSw
              (try dsimp only at hSw)
              obtain ⟨t0, t1, t2⟩ := hSw
              go_simp
              (try with_reducible rfl)
            try simp only [Act.put, List.setIfInBounds_toArray, List.set_cons_zero, List.set_cons_succ]
            refine wpAnyH_take (i := 4) (oi := { dst := _, op := _, type := _, pos := _, after := _, guard := _ }) (v := ?_) rfl (by kernel_rfl) (by kernel_rfl) (by kernel_rfl) (fun _ _ _ h => h) (Or.inl ⟨by rfl, ?_⟩) (by assumption) ?_
            rotate_left
            · intro W hSw
              (try dsimp only at hSw)
              obtain ⟨t0, t1, t2⟩ := hSw
              go_simp
              (try with_reducible rfl)
            try simp only [Act.put, List.setIfInBounds_toArray, List.set_cons_zero, List.set_cons_succ]
            refine wpAnyH_take (i := 5) (oi := { dst := _, op := _, type := _, pos := _, after := _, guard := _ }) (v := ?_) rfl (by kernel_rfl) (by kernel_rfl) (by kernel_rfl) (fun _ _ _ h => h) (Or.inl ⟨by rfl, ?_⟩) (by assumption) ?_
            rotate_left
            · intro W hSw
              (try dsimp only at hSw)
              obtain ⟨t0, t1, t2⟩ := hSw
              go_simp
              (try with_reducible rfl)
            try simp only [Act.put, List.setIfInBounds_toArray, List.set_cons_zero, List.set_cons_succ]
            refine wpAnyH_take (i := 6) (oi := { dst := _, op := _, type := _, pos := _, after := _, guard := _ }) (v := ?_) rfl (by kernel_rfl) (by kernel_rfl) (by kernel_rfl) (fun _ _ _ h => h) (Or.inl ⟨by rfl, ?_⟩) (by assumption) ?_
            rotate_left
            · intro W hSw
              (try dsimp only at hSw)
              obtain ⟨t0, t1, t2⟩ := hSw
              go_simp
              (try with_reducible rfl)
            try simp only [Act.put, List.setIfInBounds_toArray, List.set_cons_zero, List.set_cons_succ]
            refine wpAnyH_take (i := 7) (oi := { dst := _, op := _, type := _, pos := _, after := _, guard := _ }) (v := ?_) rfl (by kernel_rfl) (by kernel_rfl) (by kernel_rfl) (fun _ _ _ h => h) (Or.inl ⟨by rfl, ?_⟩) (by assumption) ?_
            rotate_left
            · intro W hSw
              (try dsimp only at hSw)
              obtain ⟨t0, t1, t2⟩ := hSw
              go_simp
              (try with_reducible rfl)
            try simp only [Act.put, List.setIfInBounds_toArray, List.set_cons_zero, List.set_cons_succ]
            refine wpAnyH_take (i := 8) (oi := { dst := _, op := _, type := _, pos := _, after := _, guard := _ }) (v := ?_) rfl (by kernel_rfl) (by kernel_rfl) (by kernel_rfl) (fun _ _ _ h => h) (Or.inl ⟨by rfl, ?_⟩) (by assumption) ?_
            rotate_left
            · intro W hSw
              (try dsimp only at hSw)
              obtain ⟨t0, t1, t2⟩ := hSw
              go_simp
              (try with_reducible rfl)
            try simp only [Act.put, List.setIfInBounds_toArray, List.set_cons_zero, List.set_cons_succ]
            refine wpAnyH_take (i := 9) (oi := { dst := _, op := _, type := _, pos := _, after := _, guard := _ }) (v := ?_) rfl (by kernel_rfl) (by kernel_rfl) (by kernel_rfl) (fun _ _ _ h => h) (Or.inl ⟨by rfl, ?_⟩) (by assumption) ?_
            rotate_left
            · intro W hSw
              (try dsimp only at hSw)
              obtain ⟨t0, t1, t2⟩ := hSw
              go_simp
              (try with_reducible rfl)
            try simp only [Act.put, List.setIfInBounds_toArray, List.set_cons_zero, List.set_cons_succ]
            refine wpAnyH_take (i := 10) (oi := { dst := _, op := _, type := _, pos := _, after := _, guard := _ }) (v := ?_) rfl (by kernel_rfl) (by kernel_rfl) (by kernel_rfl) (fun _ _ _ h => h) (Or.inl ⟨by rfl, ?_⟩) (by assumption) ?_
            rotate_left
            · intro W hSw
              (try dsimp only at hSw)
              obtain ⟨t0, t1, t2⟩ := hSw
              go_simp
              (try with_reducible rfl)
            try simp only [Act.put, List.setIfInBounds_toArray, List.set_cons_zero, List.set_cons_succ]
            refine wpAnyH_take (i := 11) (oi := { dst := _, op := _, type := _, pos := _, after := _, guard := _ }) (v := ?_) rfl (by kernel_rfl) (by kernel_rfl) (by kernel_rfl) (fun _ _ _ h => h) (Or.inl ⟨by rfl, ?_⟩) (by assumption) ?_
            rotate_left
            · intro W hSw
              (try dsimp only at hSw)
              obtain ⟨t0, t1, t2⟩ := hSw
              go_simp
              (try with_reducible rfl)
            try simp only [Act.put, List.setIfInBounds_toArray, List.set_cons_zero, List.set_cons_succ]
            refine wpAnyH_take (i := 12) (oi := { dst := _, op := _, type := _, pos := _, after := _, guard := _ }) (v := ?_) rfl (by kernel_rfl) (by kernel_rfl) (by kernel_rfl) (fun _ _ _ h => h) (Or.inl ⟨by rfl, ?_⟩) (by assumption) ?_
            rotate_left
            · intro W hSw
              (try dsimp only at hSw)
              obtain ⟨t0, t1, t2⟩ := hSw
              go_simp
              (try with_reducible rfl)
            try simp only [Act.put, List.setIfInBounds_toArray, List.set_cons_zero, List.set_cons_succ]
            refine wpAnyH_take (i := 13) (oi := { dst := _, op := _, type := _, pos := _, after := _, guard := _ }) (v := ?_) rfl (by kernel_rfl) (by kernel_rfl) (by kernel_rfl) (fun _ _ _ h => h) (Or.inl ⟨by rfl, ?_⟩) (by assumption) ?_
            rotate_left
            · intro W hSw
              (try dsimp only at hSw)
              obtain ⟨t0, t1, t2⟩ := hSw
              go_simp
              (try with_reducible rfl)
            try simp only [Act.put, List.setIfInBounds_toArray, List.set_cons_zero, List.set_cons_succ]
            refine wpAnyH_take (i := 14) (oi := { dst := _, op := _, type := _, pos := _, after := _, guard := _ }) (v := ?_) rfl (by kernel_rfl) (by kernel_rfl) (by kernel_rfl) (fun _ _ _ h => h) (Or.inl ⟨by rfl, ?_⟩) (by assumption) ?_
            rotate_left
            · intro W hSw
              (try dsimp only at hSw)
              obtain ⟨t0, t1, t2⟩ := hSw
              go_simp
              (try with_reducible rfl)
            try simp only [Act.put, List.setIfInBounds_toArray, List.set_cons_zero, List.set_cons_succ]
            refine wpAnyH_take (i := 15) (oi := { dst := _, op := _, type := _, pos := _, after := _, guard := _ }) (v := ?_) rfl (by kernel_rfl) (by kernel_rfl) (by kernel_rfl) (fun _ _ _ h => h) (Or.inl ⟨by rfl, ?_⟩) (by assumption) ?_
            rotate_left
            · intro W hSw
              (try dsimp only at hSw)
              obtain ⟨t0, t1, t2⟩ := hSw
              go_simp
              (try with_reducible rfl)
            try simp only [Act.put, List.setIfInBounds_toArray, List.set_cons_zero, List.set_cons_succ]
            clear hHeld
            refine wpAnyH_ready (rs := [16, 20]) (by kernel_rfl) (by simp) ?_
            refine AllReadyH.cons (o := { dst := _, op := _, type := _, pos := _, after := _, guard := _ }) rfl (fun K hK => ?_) (AllReadyH.cons (o := { dst := _, op := _, type := _, pos := _, after := _, guard := _ }) rfl (fun K hK => ?_) AllReadyH.nil)
            · go_simp
              refine Calls.mono (HF1.out WD (HQb.out.up HUD.out)) ?_
              rintro ee WE ⟨rfl, hbe⟩
              have HUE : Hid (Below wb.heap.size wb WE) := below_trans HUD.out hbe
              clear hbe
              refine hK.out _ _ ?_ (fun hHeld => ?_)
              · exact HAC.out _ (below_trans HBb.out HUE.out)
              clear hK K
              try simp only [Act.put, List.setIfInBounds_toArray, List.set_cons_zero, List.set_cons_succ]
              refine wpAnyH_take (i := 17) (oi := { dst := _, op := _, type := _, pos := _, after := _, guard := _ }) (v := ?_) rfl (by kernel_rfl) (by kernel_rfl) (by kernel_rfl) (fun _ _ _ h => h) (Or.inl ⟨by rfl, ?_⟩) (by assumption) ?_
              rotate_left
              · intro W hSw
                (try dsimp only at hSw)
                obtain ⟨t0, t1, t2⟩ := hSw
                go_simp
                (try with_reducible rfl)
              try simp only [Act.put, List.setIfInBounds_toArray, List.set_cons_zero, List.set_cons_succ]
              refine wpAnyH_take (i := 18) (oi := { dst := _, op := _, type := _, pos := _, after := _, guard := _ }) (v := ?_) rfl (by kernel_rfl) (by kernel_rfl) (by kernel_rfl) (fun _ _ _ h => h) (Or.inl ⟨by rfl, ?_⟩) (by assumption) ?_
              rotate_left
              · intro W hSw
                (try dsimp only at hSw)
                obtain ⟨t0, t1, t2⟩ := hSw
                go_simp
                (try with_reducible rfl)
              try simp only [Act.put, List.setIfInBounds_toArray, List.set_cons_zero, List.set_cons_succ]
              refine wpAnyH_take (i := 19) (oi := { dst := _, op := _, type := _, pos := _, after := _, guard := _ }) (v := ?_) rfl (by kernel_rfl) (by kernel_rfl) (by kernel_rfl) (fun _ _ _ h => h) (Or.inl ⟨by rfl, ?_⟩) (by assumption) ?_
              rotate_left
              · intro W hSw
                (try dsimp only at hSw)
                obtain ⟨t0, t1, t2⟩ := hSw
                go_simp
                (try with_reducible rfl)
              try simp only [Act.put, List.setIfInBounds_toArray, List.set_cons_zero, List.set_cons_succ]
              clear hHeld
              refine wpAnyH_ready (rs := [20]) (by kernel_rfl) (by simp) ?_
              refine AllReadyH.cons (o := { dst := _, op := _, type := _, pos := _, after := _, guard := _ }) rfl (fun K hK => ?_) AllReadyH.nil
              go_simp
              refine hK.out _ _ ?_ (fun hHeld => ?_)
              · exact HAC.out _ (below_trans (below_trans HBb.out HUE.out) (bel_up _ _))
              clear hK K hHeld
              try simp only [Act.put, List.setIfInBounds_toArray, List.set_cons_zero, List.set_cons_succ]
              refine wpAnyH_ready (rs := [21]) (by kernel_rfl) (by simp) ?_
              refine AllReadyH.cons (o := { dst := _, op := _, type := _, pos := _, after := _, guard := _ }) rfl (fun K hK => ?_) AllReadyH.nil
              go_simp
              have HXE : Hid ((WE.alloc (.cells #[.int .i64 y.t, .int .i64 y.p, .int .i64 y.l, .int .i64 y.k, .int .u64 y.v, .string y.a] 36)).heap[WE.heap.size]? = some (.cells #[.int .i64 y.t, .int .i64 y.p, .int .i64 y.l, .int .i64 y.k, .int .u64 y.v, .string y.a] 36 (0, 0))) := heap_new WE _
              have HUF : Hid (Below wb.heap.size wb (WE.alloc (.cells #[.int .i64 y.t, .int .i64 y.p, .int .i64 y.l, .int .i64 y.k, .int .u64 y.v, .string y.a] 36))) := below_trans HUE.out (bel_up _ _)
              refine hK.out _ _ ?_ (fun hHeld => ?_)
              · exact HAC.out _ (below_trans HBb.out HUF.out)
              clear hK K
              try simp only [Act.put]
              refine wpAnyH_take (i := 22) (oi := { dst := _, op := _, type := _, pos := _, after := _, guard := _ }) (v := ?_) rfl (by kernel_rfl) (by kernel_rfl) (by kernel_rfl) (fun _ _ _ h => h) (Or.inl ⟨by rfl, ?_⟩) (by assumption) ?_
              rotate_left
              · intro W hSw
                (try dsimp only at hSw)
                obtain ⟨t0, t1, t2⟩ := hSw
                go_simp
                (try with_reducible rfl)
              try simp only [Act.put, List.setIfInBounds_toArray, List.set_cons_zero, List.set_cons_succ]
              refine wpAnyH_done (by kernel_rfl) ?_ _
              refine NoPanic.normal ?_
              clear hHeld
              go_wp2_with fail
              go_meet
              exact ⟨_, rfl, rfl, HXE, HUF⟩
            · go_simp
              obtain ⟨WE, hWE⟩ : ∃ WE, WE = WD.alloc (.cells #[.int .i64 0, .int .i64 0, .int .i64 0, .int .i64 0, .int .u64 0, .string ⟨#[]⟩] 36) := ⟨_, rfl⟩
              have HXE : Hid (WE.heap[WD.heap.size]? = some (.cells #[.int .i64 0, .int .i64 0, .int .i64 0, .int .i64 0, .int .u64 0, .string ⟨#[]⟩] 36 (0, 0))) := by rw [hWE]; exact heap_new WD _
              have HUE : Hid (Below wb.heap.size wb WE) := by rw [hWE]; exact below_trans HUD.out (bel_up _ _)
              rw [← hWE]
              obtain ⟨r, hr⟩ : ∃ r, WD.heap.size = r := ⟨_, rfl⟩
              rw [hr] at HXE ⊢
              have HRR : Hid (wb.heap.size ≤ r) := by rw [← hr]; exact HUD.out.size
              clear hWE hr
              refine hK.out _ _ ?_ (fun hHeld => ?_)
              · exact HAC.out _ (below_trans HBb.out HUE.out)
              clear hK K hHeld
              try simp only [Act.put, List.setIfInBounds_toArray, List.set_cons_zero, List.set_cons_succ]
              refine wpAnyH_ready (rs := [16]) (by kernel_rfl) (by simp) ?_
              refine AllReadyH.cons (o := { dst := _, op := _, type := _, pos := _, after := _, guard := _ }) rfl (fun K hK => ?_) AllReadyH.nil
              go_simp
              refine Calls.mono (HF1.out WE (HQb.out.up HUE.out)) ?_
              rintro ee WF ⟨rfl, hbf⟩
              have HUF : Hid (Below wb.heap.size wb WF) := below_trans HUE.out hbf
              have HXF : Hid (WF.heap[r]? = some (.cells #[.int .i64 0, .int .i64 0, .int .i64 0, .int .i64 0, .int .u64 0, .string ⟨#[]⟩] 36 (0, 0))) := (hbf.block _ (lt_of_heap HXE.out)).trans HXE.out
              clear hbf HXE
              refine hK.out _ _ ?_ (fun hHeld => ?_)
              · exact HAC.out _ (below_trans HBb.out HUF.out)
              clear hK K
              try simp only [Act.put, List.setIfInBounds_toArray, List.set_cons_zero, List.set_cons_succ]
              refine wpAnyH_take (i := 17) (oi := { dst := _, op := _, type := _, pos := _, after := _, guard := _ }) (v := ?_) rfl (by kernel_rfl) (by kernel_rfl) (by kernel_rfl) (fun _ _ _ h => h) (Or.inl ⟨by rfl, ?_⟩) (by assumption) ?_
              rotate_left
              · intro W hSw
                (try dsimp only at hSw)
                obtain ⟨t0, t1, t2⟩ := hSw
                go_simp
                (try with_reducible rfl)
              try simp only [Act.put, List.setIfInBounds_toArray, List.set_cons_zero, List.set_cons_succ]
              refine wpAnyH_take (i := 18) (oi := { dst := _, op := _, type := _, pos := _, after := _, guard := _ }) (v := ?_) rfl (by kernel_rfl) (by kernel_rfl) (by kernel_rfl) (fun _ _ _ h => h) (Or.inl ⟨by rfl, ?_⟩) (by assumption) ?_
              rotate_left
              · intro W hSw
                (try dsimp only at hSw)
                obtain ⟨t0, t1, t2⟩ := hSw
                go_simp
                (try with_reducible rfl)
              try simp only [Act.put, List.setIfInBounds_toArray, List.set_cons_zero, List.set_cons_succ]
              refine wpAnyH_take (i := 19) (oi := { dst := _, op := _, type := _, pos := _, after := _, guard := _ }) (v := ?_) rfl (by kernel_rfl) (by kernel_rfl) (by kernel_rfl) (fun _ _ _ h => h) (Or.inl ⟨by rfl, ?_⟩) (by assumption) ?_
              rotate_left
              · intro W hSw
                (try dsimp only at hSw)
                obtain ⟨t0, t1, t2⟩ := hSw
                go_simp
                (try with_reducible rfl)
              try simp only [Act.put, List.setIfInBounds_toArray, List.set_cons_zero, List.set_cons_succ]
              clear hHeld
              have y0 := rcell HXF.out 0 _ rfl; have y1 := rcell HXF.out 1 _ rfl; have y2 := rcell HXF.out 2 _ rfl; have y3 := rcell HXF.out 3 _ rfl; have y4 := rcell HXF.out 4 _ rfl; have y5 := rcell HXF.out 5 _ rfl
              have z0 := Lib.frozen_of_heap HXF.out 0; have z1 := Lib.frozen_of_heap HXF.out 1; have z2 := Lib.frozen_of_heap HXF.out 2; have z3 := Lib.frozen_of_heap HXF.out 3; have z4 := Lib.frozen_of_heap HXF.out 4; have z5 := Lib.frozen_of_heap HXF.out 5
              refine wpAnyH_ready (rs := [21]) (by kernel_rfl) (by simp) ?_
              refine AllReadyH.cons (o := { dst := _, op := _, type := _, pos := _, after := _, guard := _ }) rfl (fun K hK => ?_) AllReadyH.nil
              go_simp
              obtain ⟨WG, hWG⟩ : ∃ WG, WG = ((((((WF.setCell ⟨r, 0, none⟩ (.int .i64 y.t)).setCell ⟨r, 1, none⟩ (.int .i64 y.p)).setCell ⟨r, 2, none⟩ (.int .i64 y.l)).setCell ⟨r, 3, none⟩ (.int .i64 y.k)).setCell ⟨r, 4, none⟩ (.int .u64 y.v)).setCell ⟨r, 5, none⟩ (.string y.a)) := ⟨_, rfl⟩
              have HXG : Hid (WG.heap[r]? = some (.cells #[.int .i64 y.t, .int .i64 y.p, .int .i64 y.l, .int .i64 y.k, .int .u64 y.v, .string y.a] 36 (0, 0))) := by rw [hWG]; exact put6_heap _ _ _ _ _ _ HXF.out
              have HUG : Hid (Below wb.heap.size wb WG) := by rw [hWG]; exact HUF.out.trans (put6_bel HRR.out)
              rw [← hWG]
              clear hWG y0 y1 y2 y3 y4 y5 z0 z1 z2 z3 z4 z5
              refine hK.out _ _ ?_ (fun hHeld => ?_)
              · exact HAC.out _ (below_trans HBb.out HUG.out)
              clear hK K
              try simp only [Act.put]
              refine wpAnyH_take (i := 22) (oi := { dst := _, op := _, type := _, pos := _, after := _, guard := _ }) (v := ?_) rfl (by kernel_rfl) (by kernel_rfl) (by kernel_rfl) (fun _ _ _ h => h) (Or.inl ⟨by rfl, ?_⟩) (by assumption) ?_
              rotate_left
              · intro W hSw
                (try dsimp only at hSw)
                obtain ⟨t0, t1, t2⟩ := hSw
                go_simp
                (try with_reducible rfl)
              try simp only [Act.put, List.setIfInBounds_toArray, List.set_cons_zero, List.set_cons_succ]
              refine wpAnyH_done (by kernel_rfl) ?_ _
              refine NoPanic.normal ?_
              clear hHeld
              go_wp2_with fail
              go_meet
              exact ⟨_, rfl, rfl, HXG, HUG⟩
          case rest =>
            obtain ⟨r1, rfl, rfl, HY1, HU1⟩ := hcut
            have HBc : Hid (Below w.heap.size w wc) := below_trans HBb.out HU1.out
            have HQc : Hid (Qs wc 0 po bo ko fo B1 pm vm B2 n A D I.size l) := HQb.out.up HU1.out
            have HUc : Hid (Below wr.heap.size wr wc) := below_trans HUb.out HU1.out
            clear HBb HQb HUb HU1 HF1
            obtain ⟨wb, hwb⟩ : ∃ wb, wb = wc := ⟨_, rfl⟩
            have HBb : Hid (Below w.heap.size w wb) := by rw [hwb]; exact HBc.out
            have HQb : Hid (Qs wb 0 po bo ko fo B1 pm vm B2 n A D I.size l) := by rw [hwb]; exact HQc.out
            have HUb : Hid (Below wr.heap.size wr wb) := by rw [hwb]; exact HUc.out
            have HYb : Hid (wb.heap[r1]? = some (.cells #[.int .i64 y.t, .int .i64 y.p, .int .i64 y.l, .int .i64 y.k, .int .u64 y.v, .string y.a] 36 (0, 0))) := by rw [hwb]; exact HY1.out
            go_upto_region 18 with fail
            rw [← hwb]
            clear hwb HBc HQc HUc HY1
            go_cut [16, 17] from 73 to 126 (fun v16 v17 wx => ∃ r : Nat, v16 = .pointer (some ⟨r, 0, none⟩) ∧ v17 = .bool bb ∧ Hid (wx.heap[r]? = some (.cells #[.int .i64 y.t, .int .i64 y.p, .int .i64 y.l, .int .i64 y.k, .int .u64 y.v, .string y.a] 36 (0, 0))) ∧ Hid (Below wb.heap.size wb wx))
            case first =>
              refine wp_region_noPanic ?_
              refine wp_region_held_drew (S := Ac gq (og + i * 3) x) (by kernel_rfl) (HAC.out _ (Below.drew HBb.out)) (fun hHeld => ?_)
              obtain ⟨WD, hWD⟩ : ∃ WD, wb.drew = WD := ⟨_, rfl⟩
              have HUD : Hid (Below wb.heap.size wb WD) := by rw [← hWD]; exact Below.drew (Below.refl _ _)
              rw [hWD] at hHeld ⊢
              clear hWD
              refine wpAnyH_take (i := 0) (oi := { dst := _, op := _, type := _, pos := _, after := _, guard := _ }) (v := ?_) rfl (by kernel_rfl) (by kernel_rfl) (by kernel_rfl) (fun _ _ _ h => h) (Or.inl ⟨by rfl, ?_⟩) (by assumption) ?_
              rotate_left
              · intro W hSw
                (try dsimp only at hSw)
                obtain ⟨t0, t1, t2⟩ := hSw
                go_simp
                (try with_reducible rfl)
              try simp only [Act.put, List.setIfInBounds_toArray, List.set_cons_zero, List.set_cons_succ]
              refine wpAnyH_take (i := 1) (oi := { dst := _, op := _, type := _, pos := _, after := _, guard := _ }) (v := ?_) rfl (by kernel_rfl) (by kernel_rfl) (by kernel_rfl) (fun _ _ _ h => h) (Or.inl ⟨by rfl, ?_⟩) (by assumption) ?_
              rotate_left
              · intro W hSw
                (try dsimp only at hSw)
                obtain ⟨t0, t1, t2⟩ := hSw
                go_simp
                (try with_reducible rfl)
              try simp only [Act.put, List.setIfInBounds_toArray, List.set_cons_zero, List.set_cons_succ]
              refine wpAnyH_take (i := 2) (oi := { dst := _, op := _, type := _, pos := _, after := _, guard := _ }) (v := ?_) rfl (by kernel_rfl) (by kernel_rfl) (by kernel_rfl) (fun _ _ _ h => h) (Or.inl ⟨by rfl, ?_⟩) (by assumption) ?_
              rotate_left
              · intro W hSw
                (try dsimp only at hSw)
                obtain ⟨t0, t1, t2⟩ := hSw
                go_simp
                (try with_reducible rfl)
              try simp only [Act.put, List.setIfInBounds_toArray, List.set_cons_zero, List.set_cons_succ]
              refine wpAnyH_take (i := 3) (oi := { dst := _, op := _, type := _, pos := _, after := _, guard := _ }) (v := ?_) rfl (by kernel_rfl) (by kernel_rfl) (by kernel_rfl) (fun _ _ _ h => h) (Or.inl ⟨by rfl, ?_⟩) (by assumption) ?_
              rotate_left
              · intro W hSw
                (try dsimp only at hSw)
                obtain ⟨t0, t1, t2⟩ := hSw
                go_simp
                (try with_reducible rfl)
              try simp only [Act.put, List.setIfInBounds_toArray, List.set_cons_zero, List.set_cons_succ]
              refine wpAnyH_take (i := 4) (oi := { dst := _, op := _, type := _, pos := _, after := _, guard := _ }) (v := ?_) rfl (by kernel_rfl) (by kernel_rfl) (by kernel_rfl) (fun _ _ _ h => h) (Or.inl ⟨by rfl, ?_⟩) (by assumption) ?_
              rotate_left
              · intro W hSw
                (try dsimp only at hSw)
                obtain ⟨t0, t1, t2⟩ := hSw
                go_simp
                (try with_reducible rfl)
              try simp only [Act.put, List.setIfInBounds_toArray, List.set_cons_zero, List.set_cons_succ]
              refine wpAnyH_take (i := 5) (oi := { dst := _, op := _, type := _, pos := _, after := _, guard := _ }) (v := ?_) rfl (by kernel_rfl) (by kernel_rfl) (by kernel_rfl) (fun _ _ _ h => h) (Or.inl ⟨by rfl, ?_⟩) (by assumption) ?_
              rotate_left
              · intro W hSw
                (try dsimp only at hSw)
                obtain ⟨t0, t1, t2⟩ := hSw
                go_simp
                (try with_reducible rfl)
              try simp only [Act.put, List.setIfInBounds_toArray, List.set_cons_zero, List.set_cons_succ]
              refine wpAnyH_take (i := 6) (oi := { dst := _, op := _, type := _, pos := _, after := _, guard := _ }) (v := ?_) rfl (by kernel_rfl) (by kernel_rfl) (by kernel_rfl) (fun _ _ _ h => h) (Or.inl ⟨by rfl, ?_⟩) (by assumption) ?_
              rotate_left
              · intro W hSw
                (try dsimp only at hSw)
                obtain ⟨t0, t1, t2⟩ := hSw
                go_simp
                (try with_reducible rfl)
              try simp only [Act.put, List.setIfInBounds_toArray, List.set_cons_zero, List.set_cons_succ]
              refine wpAnyH_take (i := 7) (oi := { dst := _, op := _, type := _, pos := _, after := _, guard := _ }) (v := ?_) rfl (by kernel_rfl) (by kernel_rfl) (by kernel_rfl) (fun _ _ _ h => h) (Or.inl ⟨by rfl, ?_⟩) (by assumption) ?_
              rotate_left
              · intro W hSw
                (try dsimp only at hSw)
                obtain ⟨t0, t1, t2⟩ := hSw
                go_simp
                (try with_reducible rfl)
              try simp only [Act.put, List.setIfInBounds_toArray, List.set_cons_zero, List.set_cons_succ]
              refine wpAnyH_take (i := 8) (oi := { dst := _, op := _, type := _, pos := _, after := _, guard := _ }) (v := ?_) rfl (by kernel_rfl) (by kernel_rfl) (by kernel_rfl) (fun _ _ _ h => h) (Or.inl ⟨by rfl, ?_⟩) (by assumption) ?_
              rotate_left
              · intro W hSw
                (try dsimp only at hSw)
                obtain ⟨t0, t1, t2⟩ := hSw
                go_simp
                (try with_reducible rfl)
              try simp only [Act.put, List.setIfInBounds_toArray, List.set_cons_zero, List.set_cons_succ]
              refine wpAnyH_take (i := 9) (oi := { dst := _, op := _, type := _, pos := _, after := _, guard := _ }) (v := ?_) rfl (by kernel_rfl) (by kernel_rfl) (by kernel_rfl) (fun _ _ _ h => h) (Or.inl ⟨by rfl, ?_⟩) (by assumption) ?_
              rotate_left
              · intro W hSw
                (try dsimp only at hSw)
                obtain ⟨t0, t1, t2⟩ := hSw
                go_simp
                (try with_reducible rfl)
              try simp only [Act.put, List.setIfInBounds_toArray, List.set_cons_zero, List.set_cons_succ]
              refine wpAnyH_take (i := 10) (oi := { dst := _, op := _, type := _, pos := _, after := _, guard := _ }) (v := ?_) rfl (by kernel_rfl) (by kernel_rfl) (by kernel_rfl) (fun _ _ _ h => h) (Or.inl ⟨by rfl, ?_⟩) (by assumption) ?_
              rotate_left
              · intro W hSw
                (try dsimp only at hSw)
                obtain ⟨t0, t1, t2⟩ := hSw
                go_simp
                (try with_reducible rfl)
              try simp only [Act.put, List.setIfInBounds_toArray, List.set_cons_zero, List.set_cons_succ]
              refine wpAnyH_take (i := 11) (oi := { dst := _, op := _, type := _, pos := _, after := _, guard := _ }) (v := ?_) rfl (by kernel_rfl) (by kernel_rfl) (by kernel_rfl) (fun _ _ _ h => h) (Or.inl ⟨by rfl, ?_⟩) (by assumption) ?_
              rotate_left
              · intro W hSw
                (try dsimp only at hSw)
                obtain ⟨t0, t1, t2⟩ := hSw
                go_simp
                (try with_reducible rfl)
              try simp only [Act.put, List.setIfInBounds_toArray, List.set_cons_zero, List.set_cons_succ]
              refine wpAnyH_take (i := 12) (oi := { dst := _, op := _, type := _, pos := _, after := _, guard := _ }) (v := ?_) rfl (by kernel_rfl) (by kernel_rfl) (by kernel_rfl) (fun _ _ _ h => h) (Or.inl ⟨by rfl, ?_⟩) (by assumption) ?_
              rotate_left
              · intro W hSw
                (try dsimp only at hSw)
                obtain ⟨t0, t1, t2⟩ := hSw
                go_simp
                (try with_reducible rfl)
              try simp only [Act.put, List.setIfInBounds_toArray, List.set_cons_zero, List.set_cons_succ]
              refine wpAnyH_take (i := 13) (oi := { dst := _, op := _, type := _, pos := _, after := _, guard := _ }) (v := ?_) rfl (by kernel_rfl) (by kernel_rfl) (by kernel_rfl) (fun _ _ _ h => h) (Or.inl ⟨by rfl, ?_⟩) (by assumption) ?_
              rotate_left
              · intro W hSw
                (try dsimp only at hSw)
                obtain ⟨t0, t1, t2⟩ := hSw
                go_simp
                (try with_reducible rfl)
              try simp only [Act.put, List.setIfInBounds_toArray, List.set_cons_zero, List.set_cons_succ]
              refine wpAnyH_take (i := 14) (oi := { dst := _, op := _, type := _, pos := _, after := _, guard := _ }) (v := ?_) rfl (by kernel_rfl) (by kernel_rfl) (by kernel_rfl) (fun _ _ _ h => h) (Or.inl ⟨by rfl, ?_⟩) (by assumption) ?_
              rotate_left
              · intro W hSw
                (try dsimp only at hSw)
                obtain ⟨t0, t1, t2⟩ := hSw
                go_simp
                (try with_reducible rfl)
              try simp only [Act.put, List.setIfInBounds_toArray, List.set_cons_zero, List.set_cons_succ]
              refine wpAnyH_take (i := 15) (oi := { dst := _, op := _, type := _, pos := _, after := _, guard := _ }) (v := ?_) rfl (by kernel_rfl) (by kernel_rfl) (by kernel_rfl) (fun _ _ _ h => h) (Or.inl ⟨by rfl, ?_⟩) (by assumption) ?_
              rotate_left
              · intro W hSw
                (try dsimp only at hSw)
                obtain ⟨t0, t1, t2⟩ := hSw
                go_simp
                (try with_reducible rfl)
              try simp only [Act.put, List.setIfInBounds_toArray, List.set_cons_zero, List.set_cons_succ]
              clear hHeld
              refine wpAnyH_ready (rs := [16, 20]) (by kernel_rfl) (by simp) ?_
              refine AllReadyH.cons (o := { dst := _, op := _, type := _, pos := _, after := _, guard := _ }) rfl (fun K hK => ?_) (AllReadyH.cons (o := { dst := _, op := _, type := _, pos := _, after := _, guard := _ }) rfl (fun K hK => ?_) AllReadyH.nil)
              · go_simp
                refine Calls.mono (HF2.out WD (HQb.out.up HUD.out)) ?_
                rintro ee WE ⟨rfl, hbe⟩
                have HUE : Hid (Below wb.heap.size wb WE) := below_trans HUD.out hbe
                clear hbe
                refine hK.out _ _ ?_ (fun hHeld => ?_)
                · exact HAC.out _ (below_trans HBb.out HUE.out)
                clear hK K
                try simp only [Act.put, List.setIfInBounds_toArray, List.set_cons_zero, List.set_cons_succ]
                refine wpAnyH_take (i := 17) (oi := { dst := _, op := _, type := _, pos := _, after := _, guard := _ }) (v := ?_) rfl (by kernel_rfl) (by kernel_rfl) (by kernel_rfl) (fun _ _ _ h => h) (Or.inl ⟨by rfl, ?_⟩) (by assumption) ?_
                rotate_left
                · intro W hSw
                  (try dsimp only at hSw)
                  obtain ⟨t0, t1, t2⟩ := hSw
                  go_simp
                  (try with_reducible rfl)
                try simp only [Act.put, List.setIfInBounds_toArray, List.set_cons_zero, List.set_cons_succ]
                refine wpAnyH_take (i := 18) (oi := { dst := _, op := _, type := _, pos := _, after := _, guard := _ }) (v := ?_) rfl (by kernel_rfl) (by kernel_rfl) (by kernel_rfl) (fun _ _ _ h => h) (Or.inl ⟨by rfl, ?_⟩) (by assumption) ?_
                rotate_left
                · intro W hSw
                  (try dsimp only at hSw)
                  obtain ⟨t0, t1, t2⟩ := hSw
                  go_simp
                  (try with_reducible rfl)
                try simp only [Act.put, List.setIfInBounds_toArray, List.set_cons_zero, List.set_cons_succ]
                refine wpAnyH_take (i := 19) (oi := { dst := _, op := _, type := _, pos := _, after := _, guard := _ }) (v := ?_) rfl (by kernel_rfl) (by kernel_rfl) (by kernel_rfl) (fun _ _ _ h => h) (Or.inl ⟨by rfl, ?_⟩) (by assumption) ?_
                rotate_left
                · intro W hSw
                  (try dsimp only at hSw)
                  obtain ⟨t0, t1, t2⟩ := hSw
                  go_simp
                  (try with_reducible rfl)
                try simp only [Act.put, List.setIfInBounds_toArray, List.set_cons_zero, List.set_cons_succ]
                clear hHeld
                refine wpAnyH_ready (rs := [20]) (by kernel_rfl) (by simp) ?_
                refine AllReadyH.cons (o := { dst := _, op := _, type := _, pos := _, after := _, guard := _ }) rfl (fun K hK => ?_) AllReadyH.nil
                go_simp
                refine hK.out _ _ ?_ (fun hHeld => ?_)
                · exact HAC.out _ (below_trans (below_trans HBb.out HUE.out) (bel_up _ _))
                clear hK K hHeld
                try simp only [Act.put, List.setIfInBounds_toArray, List.set_cons_zero, List.set_cons_succ]
                refine wpAnyH_ready (rs := [21]) (by kernel_rfl) (by simp) ?_
                refine AllReadyH.cons (o := { dst := _, op := _, type := _, pos := _, after := _, guard := _ }) rfl (fun K hK => ?_) AllReadyH.nil
                go_simp
                have HXE : Hid ((WE.alloc (.cells #[.int .i64 y.t, .int .i64 y.p, .int .i64 y.l, .int .i64 y.k, .int .u64 y.v, .string y.a] 36)).heap[WE.heap.size]? = some (.cells #[.int .i64 y.t, .int .i64 y.p, .int .i64 y.l, .int .i64 y.k, .int .u64 y.v, .string y.a] 36 (0, 0))) := heap_new WE _
                have HUF : Hid (Below wb.heap.size wb (WE.alloc (.cells #[.int .i64 y.t, .int .i64 y.p, .int .i64 y.l, .int .i64 y.k, .int .u64 y.v, .string y.a] 36))) := below_trans HUE.out (bel_up _ _)
                refine hK.out _ _ ?_ (fun hHeld => ?_)
                · exact HAC.out _ (below_trans HBb.out HUF.out)
                clear hK K
                try simp only [Act.put]
                refine wpAnyH_take (i := 22) (oi := { dst := _, op := _, type := _, pos := _, after := _, guard := _ }) (v := ?_) rfl (by kernel_rfl) (by kernel_rfl) (by kernel_rfl) (fun _ _ _ h => h) (Or.inl ⟨by rfl, ?_⟩) (by assumption) ?_
                rotate_left
                · intro W hSw
                  (try dsimp only at hSw)
                  obtain ⟨t0, t1, t2⟩ := hSw
                  go_simp
                  (try with_reducible rfl)
                try simp only [Act.put, List.setIfInBounds_toArray, List.set_cons_zero, List.set_cons_succ]
                refine wpAnyH_done (by kernel_rfl) ?_ _
                refine NoPanic.normal ?_
                clear hHeld
                go_wp2_with fail
                go_meet
                exact ⟨_, rfl, rfl, HXE, HUF⟩
              · go_simp
                obtain ⟨WE, hWE⟩ : ∃ WE, WE = WD.alloc (.cells #[.int .i64 0, .int .i64 0, .int .i64 0, .int .i64 0, .int .u64 0, .string ⟨#[]⟩] 36) := ⟨_, rfl⟩
                have HXE : Hid (WE.heap[WD.heap.size]? = some (.cells #[.int .i64 0, .int .i64 0, .int .i64 0, .int .i64 0, .int .u64 0, .string ⟨#[]⟩] 36 (0, 0))) := by rw [hWE]; exact heap_new WD _
                have HUE : Hid (Below wb.heap.size wb WE) := by rw [hWE]; exact below_trans HUD.out (bel_up _ _)
                rw [← hWE]
                obtain ⟨r, hr⟩ : ∃ r, WD.heap.size = r := ⟨_, rfl⟩
                rw [hr] at HXE ⊢
                have HRR : Hid (wb.heap.size ≤ r) := by rw [← hr]; exact HUD.out.size
                clear hWE hr
                refine hK.out _ _ ?_ (fun hHeld => ?_)
                · exact HAC.out _ (below_trans HBb.out HUE.out)
                clear hK K hHeld
                try simp only [Act.put, List.setIfInBounds_toArray, List.set_cons_zero, List.set_cons_succ]
                refine wpAnyH_ready (rs := [16]) (by kernel_rfl) (by simp) ?_
                refine AllReadyH.cons (o := { dst := _, op := _, type := _, pos := _, after := _, guard := _ }) rfl (fun K hK => ?_) AllReadyH.nil
                go_simp
                refine Calls.mono (HF2.out WE (HQb.out.up HUE.out)) ?_
                rintro ee WF ⟨rfl, hbf⟩
                have HUF : Hid (Below wb.heap.size wb WF) := below_trans HUE.out hbf
                have HXF : Hid (WF.heap[r]? = some (.cells #[.int .i64 0, .int .i64 0, .int .i64 0, .int .i64 0, .int .u64 0, .string ⟨#[]⟩] 36 (0, 0))) := (hbf.block _ (lt_of_heap HXE.out)).trans HXE.out
                clear hbf HXE
                refine hK.out _ _ ?_ (fun hHeld => ?_)
                · exact HAC.out _ (below_trans HBb.out HUF.out)
                clear hK K
                try simp only [Act.put, List.setIfInBounds_toArray, List.set_cons_zero, List.set_cons_succ]
                refine wpAnyH_take (i := 17) (oi := { dst := _, op := _, type := _, pos := _, after := _, guard := _ }) (v := ?_) rfl (by kernel_rfl) (by kernel_rfl) (by kernel_rfl) (fun _ _ _ h => h) (Or.inl ⟨by rfl, ?_⟩) (by assumption) ?_
                rotate_left
                · intro W hSw
                  (try dsimp only at hSw)
                  obtain ⟨t0, t1, t2⟩ := hSw
                  go_simp
                  (try with_reducible rfl)
                try simp only [Act.put, List.setIfInBounds_toArray, List.set_cons_zero, List.set_cons_succ]
                refine wpAnyH_take (i := 18) (oi := { dst := _, op := _, type := _, pos := _, after := _, guard := _ }) (v := ?_) rfl (by kernel_rfl) (by kernel_rfl) (by kernel_rfl) (fun _ _ _ h => h) (Or.inl ⟨by rfl, ?_⟩) (by assumption) ?_
                rotate_left
                · intro W hSw
                  (try dsimp only at hSw)
                  obtain ⟨t0, t1, t2⟩ := hSw
                  go_simp
                  (try with_reducible rfl)
                try simp only [Act.put, List.setIfInBounds_toArray, List.set_cons_zero, List.set_cons_succ]
                refine wpAnyH_take (i := 19) (oi := { dst := _, op := _, type := _, pos := _, after := _, guard := _ }) (v := ?_) rfl (by kernel_rfl) (by kernel_rfl) (by kernel_rfl) (fun _ _ _ h => h) (Or.inl ⟨by rfl, ?_⟩) (by assumption) ?_
                rotate_left
                · intro W hSw
                  (try dsimp only at hSw)
                  obtain ⟨t0, t1, t2⟩ := hSw
                  go_simp
                  (try with_reducible rfl)
                try simp only [Act.put, List.setIfInBounds_toArray, List.set_cons_zero, List.set_cons_succ]
                clear hHeld
                have y0 := rcell HXF.out 0 _ rfl; have y1 := rcell HXF.out 1 _ rfl; have y2 := rcell HXF.out 2 _ rfl; have y3 := rcell HXF.out 3 _ rfl; have y4 := rcell HXF.out 4 _ rfl; have y5 := rcell HXF.out 5 _ rfl
                have z0 := Lib.frozen_of_heap HXF.out 0; have z1 := Lib.frozen_of_heap HXF.out 1; have z2 := Lib.frozen_of_heap HXF.out 2; have z3 := Lib.frozen_of_heap HXF.out 3; have z4 := Lib.frozen_of_heap HXF.out 4; have z5 := Lib.frozen_of_heap HXF.out 5
                refine wpAnyH_ready (rs := [21]) (by kernel_rfl) (by simp) ?_
                refine AllReadyH.cons (o := { dst := _, op := _, type := _, pos := _, after := _, guard := _ }) rfl (fun K hK => ?_) AllReadyH.nil
                go_simp
                obtain ⟨WG, hWG⟩ : ∃ WG, WG = ((((((WF.setCell ⟨r, 0, none⟩ (.int .i64 y.t)).setCell ⟨r, 1, none⟩ (.int .i64 y.p)).setCell ⟨r, 2, none⟩ (.int .i64 y.l)).setCell ⟨r, 3, none⟩ (.int .i64 y.k)).setCell ⟨r, 4, none⟩ (.int .u64 y.v)).setCell ⟨r, 5, none⟩ (.string y.a)) := ⟨_, rfl⟩
                have HXG : Hid (WG.heap[r]? = some (.cells #[.int .i64 y.t, .int .i64 y.p, .int .i64 y.l, .int .i64 y.k, .int .u64 y.v, .string y.a] 36 (0, 0))) := by rw [hWG]; exact put6_heap _ _ _ _ _ _ HXF.out
                have HUG : Hid (Below wb.heap.size wb WG) := by rw [hWG]; exact HUF.out.trans (put6_bel HRR.out)
                rw [← hWG]
                clear hWG y0 y1 y2 y3 y4 y5 z0 z1 z2 z3 z4 z5
                refine hK.out _ _ ?_ (fun hHeld => ?_)
                · exact HAC.out _ (below_trans HBb.out HUG.out)
                clear hK K
                try simp only [Act.put]
                refine wpAnyH_take (i := 22) (oi := { dst := _, op := _, type := _, pos := _, after := _, guard := _ }) (v := ?_) rfl (by kernel_rfl) (by kernel_rfl) (by kernel_rfl) (fun _ _ _ h => h) (Or.inl ⟨by rfl, ?_⟩) (by assumption) ?_
                rotate_left
                · intro W hSw
                  (try dsimp only at hSw)
                  obtain ⟨t0, t1, t2⟩ := hSw
                  go_simp
                  (try with_reducible rfl)
                try simp only [Act.put, List.setIfInBounds_toArray, List.set_cons_zero, List.set_cons_succ]
                refine wpAnyH_done (by kernel_rfl) ?_ _
                refine NoPanic.normal ?_
                clear hHeld
                go_wp2_with fail
                go_meet
                exact ⟨_, rfl, rfl, HXG, HUG⟩
            case rest =>
              obtain ⟨r2, rfl, rfl, HY2, HU2⟩ := hcut
              have HY1 : Hid (wc.heap[r1]? = some (.cells #[.int .i64 y.t, .int .i64 y.p, .int .i64 y.l, .int .i64 y.k, .int .u64 y.v, .string y.a] 36 (0, 0))) := (HU2.out.block _ (lt_of_heap HYb.out)).trans HYb.out
              have HUW : Hid (Below wr.heap.size wr wc) := below_trans HUb.out HU2.out
              have u0' := rcell HY1.out 0 _ rfl; have u1' := rcell HY1.out 1 _ rfl; have u2' := rcell HY1.out 2 _ rfl; have u3' := rcell HY1.out 3 _ rfl; have u4' := rcell HY1.out 4 _ rfl; have u5' := rcell HY1.out 5 _ rfl
              have v0' := rcell HY2.out 0 _ rfl; have v1' := rcell HY2.out 1 _ rfl; have v2' := rcell HY2.out 2 _ rfl; have v3' := rcell HY2.out 3 _ rfl; have v4' := rcell HY2.out 4 _ rfl; have v5' := rcell HY2.out 5 _ rfl
              have HQn : Hid (Qs wc 0 po bo ko fo B1 pm vm B2 n A D I.size l) := HQ.out.up HUW.out
              have HRn : Hid (Rb q9 (.slice (some ⟨g, 0, none⟩) m cp) wc) := HR.out.up HUW.out
              have HLNn : Hid (Ln N wc g cp Lo) := HLN.out.up HUW.out
              have HEn : Hid (wc.heap[N]? = some (.cells #[.int .i64 A, .int .i64 D, .string I] 24 (0, 0))) := (HUW.out.block _ (lt_of_heap HE.out)).trans HE.out
              have HBn : Hid (Below w.heap.size w wc) := below_trans HB.out HUW.out
              cases bb with
              | true =>
                go_wp2_with fail
                go_roundg (mq - (i + 1))
                case measure => have := HIX.out; have := HIM.out; omega
                case rel => exact ⟨i + 1, by first | rfl | (rw [show (i : Int) + 1 = ((i + 1 : Nat) : Int) by omega]), ⟨HIM.out, rfl⟩, HQn, HRn, HLNn, HEn, HBn⟩
              | false =>
                go_wp2_with fail
                go_roundg (mq - (i + 1))
                case measure => have := HIX.out; have := HIM.out; omega
                case rel => exact ⟨i + 1, by first | rfl | (rw [show (i : Int) + 1 = ((i + 1 : Nat) : Int) by omega]), ⟨HIM.out, rfl⟩, HQn, HRn, HLNn, HEn, HBn⟩
        · have e1 : decide ((i : Int) < (mq : Int)) = false := by rw [decide_eq_false_iff_not]; omega
          have e2 : decide (i < mq) = false := by rw [decide_eq_false_iff_not]; omega
          clear hi
          go_upto_region 23 with first | (go_at_call 9; refine Calls.mono (HSO.out _ HQ.out) ?_; rintro ee ww ⟨rfl, rfl⟩) | (go_at_call 13; refine Calls.mono (HSM.out _ HQ.out) ?_; rintro ee W8 ⟨rfl, hb8⟩; have HR8 : Hid (Rb q9 (.slice (some ⟨g, 0, none⟩) m cp) W8) := HR.out.up hb8; have HLN8 : Hid (Ln N W8 g cp Lo) := HLN.out.up hb8; have HE8 : Hid (W8.heap[N]? = some (.cells #[.int .i64 A, .int .i64 D, .string I] 24 (0, 0))) := (hb8.block _ (lt_of_heap HE.out)).trans HE.out; have HB8 : Hid (Below w.heap.size w W8) := below_trans HB.out hb8; obtain ⟨r0, r1, r2, r3, r4, r5⟩ := HR8.out.cs; clear hb8) | (go_at_call 11; refine Calls.mono (HMA.out _ _ _ _ _ HLN8.out HOV.out) ?_; rintro ee W9 ⟨rfl, hb9⟩; have HE9 : Hid (W9.heap[N]? = some (.cells #[.int .i64 A, .int .i64 D, .string I] 24 (0, 0))) := (hb9.block _ (lt_of_heap HE8.out)).trans HE8.out; have HB9 : Hid (Below w.heap.size w W9) := below_trans HB8.out hb9; clear hb9)
          clear r0 r1 r2 r3 r4 r5 HQ HR HLN HE HB HR8 HLN8 HE8 HB8 HSO HSM HLL HGB
          go_upto_region 24 with (go_at_call 10; refine Calls.mono (HLE.out _ HB9.out) ?_; rintro ee W10 ⟨g2, cp2, rfl, hn10, hb10⟩; have HL10 : Hid (Ln N W10 g2 cp2 l) := ⟨row_base hn10.r (by have := HB9.out.size; omega)⟩; have HE10 : Hid (W10.heap[N]? = some (.cells #[.int .i64 A, .int .i64 D, .string I] 24 (0, 0))) := (hb10.block _ (lt_of_heap HE9.out)).trans HE9.out; have HB10 : Hid (Below w.heap.size w W10) := below_trans HB9.out hb10; clear hn10 hb10)
          obtain ⟨q18, hq18⟩ : ∃ q18, W10.heap.size = q18 := ⟨_, rfl⟩
          obtain ⟨W11, hW11⟩ : ∃ W11, W11 = W10.alloc (.cells #[.int .i64 0, .int .i64 0, .int .u64 0, .slice (some ⟨g2, 0, none⟩) m cp2, .slice none 0 0, .int .i64 0] 33) := ⟨_, rfl⟩
          have HRz11 : Hid (Rb q18 (.slice (some ⟨g2, 0, none⟩) m cp2) W11) := by rw [hW11, ← hq18]; exact heap_new W10 _
          have hb11 : Below W10.heap.size W10 W11 := by rw [hW11]; exact bel_up _ _
          have HL11 : Hid (Ln N W11 g2 cp2 l) := HL10.out.up hb11
          have HE11 : Hid (W11.heap[N]? = some (.cells #[.int .i64 A, .int .i64 D, .string I] 24 (0, 0))) := (hb11.block _ (lt_of_heap HE10.out)).trans HE10.out
          have HB11 : Hid (Below w.heap.size w W11) := below_trans HB10.out hb11
          rw [← hW11, hq18]
          clear hW11 hq18 hb11 HL10 HE10 HB10 HE9 HB9
          obtain ⟨r0, r1, r2, r3, r4, r5⟩ := HRz11.out.cs
          have d0 := rcell HE11.out 0 _ rfl; have d1 := rcell HE11.out 1 _ rfl; have d2 := rcell HE11.out 2 _ rfl
          have HV11 : Hid (Lv W11 (.slice (some ⟨g2, 0, none⟩) m cp2) l) := by have h8 := HL11.out.lv; rw [HM.out] at h8; exact h8
          go_upto_region 26 with (go_at_call 6; refine Calls.mono (HNW.out _ _ _ HV11.out HM.out HA.out) ?_; rintro ee W12 ⟨p12, b12, k12, f12, rfl, ho12, hb12⟩; have HRz12 : Hid (Rb q18 (.slice (some ⟨g2, 0, none⟩) m cp2) W12) := HRz11.out.up hb12; have HE12 : Hid (W12.heap[N]? = some (.cells #[.int .i64 A, .int .i64 D, .string I] 24 (0, 0))) := (hb12.block _ (lt_of_heap HE11.out)).trans HE11.out; have HB12 : Hid (Below w.heap.size w W12) := below_trans HB11.out hb12; have HL12 : Hid (Ln N W12 g2 cp2 l) := HL11.out.up hb12; clear ho12 hb12)
          clear r0 r1 r2 r3 r4 r5 d0 d1 d2 HRz11 HL11 HE11 HB11 HV11
          go_loopg [19] m (fun gm v19 wr => ∃ (i : Nat) (L2 : List Lf), v19 = .int .i64 (i : Int) ∧ Hid (i ≤ m ∧ gm = m - i) ∧ Hid (L2.length = m ∧ ∀ x ∈ L2, x ∈ l) ∧ Hid (Rb q18 (.slice (some ⟨g2, 0, none⟩) m cp2) wr) ∧ Hid (Ln N wr g2 cp2 L2) ∧ Hid (wr.heap[N]? = some (.cells #[.int .i64 A, .int .i64 D, .string I] 24 (0, 0))) ∧ Hid (Below w.heap.size w wr))
          case atStart => exact ⟨0, l, rfl, ⟨Nat.zero_le _, rfl⟩, ⟨HM.out, fun _ h => h⟩, HRz12, HL12, HE12, HB12⟩
          case round =>
            obtain ⟨i, L2, rfl, HIX, HLM, HRz, HLN, HE, HB⟩ := hrel
            clear HRz12 HL12 HE12 HB12
            by_cases hi : i < m
            · have e1 : decide ((i : Int) < (m : Int)) = true := by rw [decide_eq_true_eq]; omega
              have e2 : decide (i < m) = true := by rw [decide_eq_true_eq]; omega
              have HIM : Hid (i < m) := hi
              have hwi := w64n i (by have := HL.out; omega)
              obtain ⟨j, hj⟩ : ∃ j : Nat, m = i + j + 1 := ⟨m - 1 - i, by omega⟩
              have w1 : IntKind.i64.wrap ((m : Int) - 1) = (m : Int) - 1 := by have := HL.out; rw [IntKind.wrap_i64]; omega
              have w2 : IntKind.i64.wrap ((m : Int) - 1 - (i : Int)) = (j : Int) := by have := HL.out; rw [IntKind.wrap_i64]; omega
              have b1 : (i : Int) < (m : Int) := by omega
              have b2 : i < m := hi
              have b3 : (j : Int) < (m : Int) := by omega
              have b4 : j < m := by omega
              have hx0 := getD_mem L2 lfd j (by have := HLM.out.1; omega)
              have hgc : ∀ W', Ln N W' g2 cp2 L2 → Lc g2 (j * 6) (L2.getD j lfd) W' ∧ Lc g2 (i * 6) (L2.getD i lfd) W' := fun W' h7 => ⟨h7.at j (by have := HLM.out.1; omega), h7.at i (by have := HLM.out.1; omega)⟩
              obtain ⟨x, hx⟩ : ∃ x, L2.getD j lfd = x := ⟨_, rfl⟩
              obtain ⟨x', hx'⟩ : ∃ x', L2.getD i lfd = x' := ⟨_, rfl⟩
              have HNX : Hid (∀ W', Ln N W' g2 cp2 L2 → Ln N (p6 W' g2 i x) g2 cp2 (L2.set i x)) := fun W' h7 => h7.put i (by have := HLM.out.1; omega) x
              have HLM2 : Hid ((L2.set i x).length = m ∧ ∀ z ∈ L2.set i x, z ∈ l) := ⟨by rw [List.length_set]; exact HLM.out.1, fun z hz => by
                rcases List.mem_or_eq_of_mem_set hz with h7 | h7
                · exact HLM.out.2 z h7
                · rw [h7, ← hx]; exact HLM.out.2 _ hx0⟩
              have HSJ : Hid (∀ W', Ln N W' g2 cp2 (L2.set i x) → Lc g2 (j * 6) x W') := fun W' h7 => by
                have h8 := h7.at j (by rw [List.length_set]; have := HLM.out.1; omega)
                have h9 : (L2.set i x).getD j lfd = x := by
                  by_cases hij : i = j
                  · rw [← hij]; exact set_getD _ _ _ _ (by have := HLM.out.1; omega)
                  · rw [List.getD_eq_getElem?_getD, List.getElem?_set_ne hij, ← List.getD_eq_getElem?_getD]; exact hx
                rw [h9] at h8
                exact h8
              rw [hx, hx'] at hgc
              have HGC : Hid (∀ W', Ln N W' g2 cp2 L2 → Lc g2 (j * 6) x W' ∧ Lc g2 (i * 6) x' W') := hgc
              clear hi hgc hx hx' hx0 hj
              go_upto_region 28 with fail
              refine wp_region_noPanic ?_
              refine wp_region_held_drew (S := fun V => Lc g2 (j * 6) x V ∧ V.cell? ⟨q18, 3, none⟩ = some (.slice (some ⟨g2, 0, none⟩) m cp2)) (by kernel_rfl) ⟨(HGC.out _ (HLN.out.up (Below.drew (Below.refl _ _)))).1, (HRz.out.up (Below.drew (Below.refl _ _))).cs.2.2.2.1⟩ (fun hHeld => ?_)
              obtain ⟨WD, hWD⟩ : ∃ WD, wr.drew = WD := ⟨_, rfl⟩
              have hbd : Below wr.heap.size wr WD := by rw [← hWD]; exact Below.drew (Below.refl _ _)
              have HRD : Hid (Rb q18 (.slice (some ⟨g2, 0, none⟩) m cp2) WD) := HRz.out.up hbd
              have HLD : Hid (Ln N WD g2 cp2 L2) := HLN.out.up hbd
              have HED : Hid (WD.heap[N]? = some (.cells #[.int .i64 A, .int .i64 D, .string I] 24 (0, 0))) := (hbd.block _ (lt_of_heap HE.out)).trans HE.out
              have HBD : Hid (Below w.heap.size w WD) := below_trans HB.out hbd
              rw [hWD] at hHeld ⊢
              clear hWD hbd HRz HLN HE HB
              refine wpAnyH_take (i := 0) (oi := { dst := _, op := _, type := _, pos := _, after := _, guard := _ }) (v := ?_) rfl (by kernel_rfl) (by kernel_rfl) (by kernel_rfl) (fun _ _ _ h => h) (Or.inl ⟨by rfl, ?_⟩) (by assumption) ?_
              rotate_left
              · intro W hSw
                (try dsimp only at hSw)
                obtain ⟨⟨t0, t1, t2, t3, t4, t5⟩, t6⟩ := hSw
                go_simp
                (try with_reducible rfl)
              try simp only [Act.put, List.setIfInBounds_toArray, List.set_cons_zero, List.set_cons_succ]
              refine wpAnyH_take (i := 1) (oi := { dst := _, op := _, type := _, pos := _, after := _, guard := _ }) (v := ?_) rfl (by kernel_rfl) (by kernel_rfl) (by kernel_rfl) (fun _ _ _ h => h) (Or.inl ⟨by rfl, ?_⟩) (by assumption) ?_
              rotate_left
              · intro W hSw
                (try dsimp only at hSw)
                obtain ⟨⟨t0, t1, t2, t3, t4, t5⟩, t6⟩ := hSw
                go_simp
                (try with_reducible rfl)
              try simp only [Act.put, List.setIfInBounds_toArray, List.set_cons_zero, List.set_cons_succ]
              refine wpAnyH_take (i := 2) (oi := { dst := _, op := _, type := _, pos := _, after := _, guard := _ }) (v := ?_) rfl (by kernel_rfl) (by kernel_rfl) (by kernel_rfl) (fun _ _ _ h => h) (Or.inl ⟨by rfl, ?_⟩) (by assumption) ?_
              rotate_left
              · intro W hSw
                (try dsimp only at hSw)
                obtain ⟨⟨t0, t1, t2, t3, t4, t5⟩, t6⟩ := hSw
                go_simp
                (try with_reducible rfl)
              try simp only [Act.put, List.setIfInBounds_toArray, List.set_cons_zero, List.set_cons_succ]
              refine wpAnyH_take (i := 3) (oi := { dst := _, op := _, type := _, pos := _, after := _, guard := _ }) (v := ?_) rfl (by kernel_rfl) (by kernel_rfl) (by kernel_rfl) (fun _ _ _ h => h) (Or.inl ⟨by rfl, ?_⟩) (by assumption) ?_
              rotate_left
              · intro W hSw
                (try dsimp only at hSw)
                obtain ⟨⟨t0, t1, t2, t3, t4, t5⟩, t6⟩ := hSw
                go_simp
                (try with_reducible rfl)
              try simp only [Act.put, List.setIfInBounds_toArray, List.set_cons_zero, List.set_cons_succ]
              refine wpAnyH_take (i := 4) (oi := { dst := _, op := _, type := _, pos := _, after := _, guard := _ }) (v := ?_) rfl (by kernel_rfl) (by kernel_rfl) (by kernel_rfl) (fun _ _ _ h => h) (Or.inl ⟨by rfl, ?_⟩) (by assumption) ?_
              rotate_left
              · intro W hSw
                (try dsimp only at hSw)
                obtain ⟨⟨t0, t1, t2, t3, t4, t5⟩, t6⟩ := hSw
                go_simp
                (try with_reducible rfl)
              try simp only [Act.put, List.setIfInBounds_toArray, List.set_cons_zero, List.set_cons_succ]
              refine wpAnyH_take (i := 5) (oi := { dst := _, op := _, type := _, pos := _, after := _, guard := _ }) (v := ?_) rfl (by kernel_rfl) (by kernel_rfl) (by kernel_rfl) (fun _ _ _ h => h) (Or.inl ⟨by rfl, ?_⟩) (by assumption) ?_
              rotate_left
              · intro W hSw
                (try dsimp only at hSw)
                obtain ⟨⟨t0, t1, t2, t3, t4, t5⟩, t6⟩ := hSw
                go_simp
                (try with_reducible rfl)
              try simp only [Act.put, List.setIfInBounds_toArray, List.set_cons_zero, List.set_cons_succ]
              refine wpAnyH_take (i := 6) (oi := { dst := _, op := _, type := _, pos := _, after := _, guard := _ }) (v := ?_) rfl (by kernel_rfl) (by kernel_rfl) (by kernel_rfl) (fun _ _ _ h => h) (Or.inl ⟨by rfl, ?_⟩) (by assumption) ?_
              rotate_left
              · intro W hSw
                (try dsimp only at hSw)
                obtain ⟨⟨t0, t1, t2, t3, t4, t5⟩, t6⟩ := hSw
                go_simp
                (try with_reducible rfl)
              try simp only [Act.put, List.setIfInBounds_toArray, List.set_cons_zero, List.set_cons_succ]
              refine wpAnyH_take (i := 7) (oi := { dst := _, op := _, type := _, pos := _, after := _, guard := _ }) (v := ?_) rfl (by kernel_rfl) (by kernel_rfl) (by kernel_rfl) (fun _ _ _ h => h) (Or.inl ⟨by rfl, ?_⟩) (by assumption) ?_
              rotate_left
              · intro W hSw
                (try dsimp only at hSw)
                obtain ⟨⟨t0, t1, t2, t3, t4, t5⟩, t6⟩ := hSw
                go_simp
                (try with_reducible rfl)
              try simp only [Act.put, List.setIfInBounds_toArray, List.set_cons_zero, List.set_cons_succ]
              refine wpAnyH_take (i := 8) (oi := { dst := _, op := _, type := _, pos := _, after := _, guard := _ }) (v := ?_) rfl (by kernel_rfl) (by kernel_rfl) (by kernel_rfl) (fun _ _ _ h => h) (Or.inl ⟨by rfl, ?_⟩) (by assumption) ?_
              rotate_left
              · intro W hSw
                (try dsimp only at hSw)
                obtain ⟨⟨t0, t1, t2, t3, t4, t5⟩, t6⟩ := hSw
                go_simp
                (try with_reducible rfl)
              try simp only [Act.put, List.setIfInBounds_toArray, List.set_cons_zero, List.set_cons_succ]
              refine wpAnyH_take (i := 9) (oi := { dst := _, op := _, type := _, pos := _, after := _, guard := _ }) (v := ?_) rfl (by kernel_rfl) (by kernel_rfl) (by kernel_rfl) (fun _ _ _ h => h) (Or.inl ⟨by rfl, ?_⟩) (by assumption) ?_
              rotate_left
              · intro W hSw
                (try dsimp only at hSw)
                obtain ⟨⟨t0, t1, t2, t3, t4, t5⟩, t6⟩ := hSw
                go_simp
                (try with_reducible rfl)
              try simp only [Act.put, List.setIfInBounds_toArray, List.set_cons_zero, List.set_cons_succ]
              refine wpAnyH_take (i := 10) (oi := { dst := _, op := _, type := _, pos := _, after := _, guard := _ }) (v := ?_) rfl (by kernel_rfl) (by kernel_rfl) (by kernel_rfl) (fun _ _ _ h => h) (Or.inl ⟨by rfl, ?_⟩) (by assumption) ?_
              rotate_left
              · intro W hSw
                (try dsimp only at hSw)
                obtain ⟨⟨t0, t1, t2, t3, t4, t5⟩, t6⟩ := hSw
                go_simp
                (try with_reducible rfl)
              try simp only [Act.put, List.setIfInBounds_toArray, List.set_cons_zero, List.set_cons_succ]
              refine wpAnyH_take (i := 11) (oi := { dst := _, op := _, type := _, pos := _, after := _, guard := _ }) (v := ?_) rfl (by kernel_rfl) (by kernel_rfl) (by kernel_rfl) (fun _ _ _ h => h) (Or.inl ⟨by rfl, ?_⟩) (by assumption) ?_
              rotate_left
              · intro W hSw
                (try dsimp only at hSw)
                obtain ⟨⟨t0, t1, t2, t3, t4, t5⟩, t6⟩ := hSw
                go_simp
                (try with_reducible rfl)
              try simp only [Act.put, List.setIfInBounds_toArray, List.set_cons_zero, List.set_cons_succ]
              refine wpAnyH_take (i := 12) (oi := { dst := _, op := _, type := _, pos := _, after := _, guard := _ }) (v := ?_) rfl (by kernel_rfl) (by kernel_rfl) (by kernel_rfl) (fun _ _ _ h => h) (Or.inl ⟨by rfl, ?_⟩) (by assumption) ?_
              rotate_left
              · intro W hSw
                (try dsimp only at hSw)
                obtain ⟨⟨t0, t1, t2, t3, t4, t5⟩, t6⟩ := hSw
                go_simp
                (try with_reducible rfl)
              try simp only [Act.put, List.setIfInBounds_toArray, List.set_cons_zero, List.set_cons_succ]
              obtain ⟨-, c0, c1, c2, c3, c4, c5⟩ := HGC.out _ HLD.out
              have z0 := HLD.out.froz (i * 6); have z1 := HLD.out.froz (i * 6 + 1); have z2 := HLD.out.froz (i * 6 + 2); have z3 := HLD.out.froz (i * 6 + 3); have z4 := HLD.out.froz (i * 6 + 4); have z5 := HLD.out.froz (i * 6 + 5)
              refine wpAnyH_ready (rs := [13]) (by kernel_rfl) (by simp) ?_
              refine AllReadyH.cons (o := { dst := _, op := _, type := _, pos := _, after := _, guard := _ }) rfl (fun K hK => ?_) AllReadyH.nil
              go_simp
              obtain ⟨WP, hWP⟩ : ∃ WP, WP = p6 WD g2 i x := ⟨_, rfl⟩
              have HLP : Hid (Ln N WP g2 cp2 (L2.set i x)) := by rw [hWP]; exact HNX.out WD HLD.out
              have HGP : Hid (WD.grownBy WP (some g2)) := by rw [hWP]; exact p6_grown _ _ _ _
              obtain ⟨hgN, gcs, hgb⟩ := HLD.out.blk
              have HRP : Hid (Rb q18 (.slice (some ⟨g2, 0, none⟩) m cp2) WP) := (HGP.out.block _ (lt_of_heap HRD.out) (fun e => by have h7 := HRD.out; unfold Rb at h7; rw [Option.some.inj e, hgb] at h7; cases h7)).trans HRD.out
              have HEP : Hid (WP.heap[N]? = some (.cells #[.int .i64 A, .int .i64 D, .string I] 24 (0, 0))) := (HGP.out.block _ (lt_of_heap HED.out) (fun e => by have h7 := HED.out; rw [Option.some.inj e, hgb] at h7; cases h7)).trans HED.out
              have HBP : Hid (Below w.heap.size w WP) := HBD.out.grown HGP.out HBD.out.size (fun r hr => by cases hr; omega)
              have hWP' : WP = (((((WD.setCell ⟨g2, i * 6, none⟩ (.int .i64 x.t)).setCell ⟨g2, i * 6 + 1, none⟩ (.int .i64 x.p)).setCell ⟨g2, i * 6 + 2, none⟩ (.int .i64 x.l)).setCell ⟨g2, i * 6 + 3, none⟩ (.int .i64 x.k)).setCell ⟨g2, i * 6 + 4, none⟩ (.int .u64 x.v)).setCell ⟨g2, i * 6 + 5, none⟩ (.string x.a) := hWP
              rw [← hWP']
              clear hWP hWP' hgb hgN gcs c0 c1 c2 c3 c4 c5 z0 z1 z2 z3 z4 z5
              refine hK.out _ _ ?_ (fun hHeld => ?_)
              · first | exact trivial | (exact ⟨HSJ.out _ HLP.out, HRP.out.cs.2.2.2.1⟩)
              clear hK K
              try simp only [Act.put]
              refine wpAnyH_done (by kernel_rfl) ?_ _
              refine NoPanic.normal ?_
              clear hHeld
              go_wp2_with fail
              go_roundg (m - (i + 1))
              case measure => have := HIX.out; have := HIM.out; omega
              case rel => exact ⟨i + 1, _, by first | rfl | (rw [show (i : Int) + 1 = ((i + 1 : Nat) : Int) by omega]), ⟨HIM.out, rfl⟩, HLM2, HRP, HLP, HEP, HBP⟩
            · have e1 : decide ((i : Int) < (m : Int)) = false := by rw [decide_eq_false_iff_not]; omega
              have e2 : decide (i < m) = false := by rw [decide_eq_false_iff_not]; omega
              have HLLz : Hid (L2.length = m ∧ ∀ x ∈ L2, x.a.size ≤ 140737488355328) := ⟨HLM.out.1, fun z hz => HA.out z (HLM.out.2 z hz)⟩
              clear hi HLM
              go_upto_region 29 with fail
              refine wp_region_noPanic ?_
              refine wp_region_held_drew (S := fun V => V.cell? ⟨q18, 3, none⟩ = some (.slice (some ⟨g2, 0, none⟩) m cp2) ∧ V.cell? ⟨N, 0, none⟩ = some (.int .i64 A) ∧ V.cell? ⟨N, 1, none⟩ = some (.int .i64 D) ∧ V.cell? ⟨N, 2, none⟩ = some (.string I)) (by kernel_rfl) ⟨(HRz.out.up (Below.drew (Below.refl _ _))).cs.2.2.2.1, rcell (W := wr.drew) HE.out 0 _ rfl, rcell (W := wr.drew) HE.out 1 _ rfl, rcell (W := wr.drew) HE.out 2 _ rfl⟩ (fun hHeld => ?_)
              obtain ⟨WD, hWD⟩ : ∃ WD, wr.drew = WD := ⟨_, rfl⟩
              have hbd : Below wr.heap.size wr WD := by rw [← hWD]; exact Below.drew (Below.refl _ _)
              have HRzD : Hid (Rb q18 (.slice (some ⟨g2, 0, none⟩) m cp2) WD) := HRz.out.up hbd
              have HLND : Hid (Ln N WD g2 cp2 L2) := HLN.out.up hbd
              have HED : Hid (WD.heap[N]? = some (.cells #[.int .i64 A, .int .i64 D, .string I] 24 (0, 0))) := (hbd.block _ (lt_of_heap HE.out)).trans HE.out
              have HBD : Hid (Below w.heap.size w WD) := below_trans HB.out hbd
              have HVD : Hid (Lv WD (.slice (some ⟨g2, 0, none⟩) m cp2) L2) := by have h8 := HLND.out.lv; rw [HLLz.out.1] at h8; exact h8
              rw [hWD] at hHeld ⊢
              clear hWD hbd HRz HLN HE HB
              refine wpAnyH_take (i := 0) (oi := { dst := _, op := _, type := _, pos := _, after := _, guard := _ }) (v := ?_) rfl (by kernel_rfl) (by kernel_rfl) (by kernel_rfl) (fun _ _ _ h => h) (Or.inl ⟨by rfl, ?_⟩) (by assumption) ?_
              rotate_left
              · intro W hSw
                (try dsimp only at hSw)
                obtain ⟨t3, t0, t1, t2⟩ := hSw
                go_simp
                (try with_reducible rfl)
              try simp only [Act.put, List.setIfInBounds_toArray, List.set_cons_zero, List.set_cons_succ]
              refine wpAnyH_take (i := 1) (oi := { dst := _, op := _, type := _, pos := _, after := _, guard := _ }) (v := ?_) rfl (by kernel_rfl) (by kernel_rfl) (by kernel_rfl) (fun _ _ _ h => h) (Or.inl ⟨by rfl, ?_⟩) (by assumption) ?_
              rotate_left
              · intro W hSw
                (try dsimp only at hSw)
                obtain ⟨t3, t0, t1, t2⟩ := hSw
                go_simp
                (try with_reducible rfl)
              try simp only [Act.put, List.setIfInBounds_toArray, List.set_cons_zero, List.set_cons_succ]
              refine wpAnyH_take (i := 2) (oi := { dst := _, op := _, type := _, pos := _, after := _, guard := _ }) (v := ?_) rfl (by kernel_rfl) (by kernel_rfl) (by kernel_rfl) (fun _ _ _ h => h) (Or.inl ⟨by rfl, ?_⟩) (by assumption) ?_
              rotate_left
              · intro W hSw
                (try dsimp only at hSw)
                obtain ⟨t3, t0, t1, t2⟩ := hSw
                go_simp
                (try with_reducible rfl)
              try simp only [Act.put, List.setIfInBounds_toArray, List.set_cons_zero, List.set_cons_succ]
              refine wpAnyH_take (i := 4) (oi := { dst := _, op := _, type := _, pos := _, after := _, guard := _ }) (v := ?_) rfl (by kernel_rfl) (by kernel_rfl) (by kernel_rfl) (fun _ _ _ h => h) (Or.inl ⟨by rfl, ?_⟩) (by assumption) ?_
              rotate_left
              · intro W hSw
                (try dsimp only at hSw)
                obtain ⟨t3, t0, t1, t2⟩ := hSw
                go_simp
                (try with_reducible rfl)
              try simp only [Act.put, List.setIfInBounds_toArray, List.set_cons_zero, List.set_cons_succ]
              refine wpAnyH_ready (rs := [3]) (by kernel_rfl) (by simp) ?_
              refine AllReadyH.cons (o := { dst := _, op := _, type := _, pos := _, after := _, guard := _ }) rfl (fun K hK => ?_) AllReadyH.nil
              go_simp
              refine Calls.mono (HTW.out _ _ _ HVD.out HLLz.out.1) ?_
              rintro ee WT ⟨vt, rfl, hot, hbt⟩
              have HRzT : Hid (Rb q18 (.slice (some ⟨g2, 0, none⟩) m cp2) WT) := HRzD.out.up hbt
              have HLNT : Hid (Ln N WT g2 cp2 L2) := HLND.out.up hbt
              have HET : Hid (WT.heap[N]? = some (.cells #[.int .i64 A, .int .i64 D, .string I] 24 (0, 0))) := (hbt.block _ (lt_of_heap HED.out)).trans HED.out
              have HBT : Hid (Below w.heap.size w WT) := below_trans HBD.out hbt
              have HVT : Hid (Lv WT vt L2) := row_rw hot (by decide)
              obtain ⟨vat, vct, rfl⟩ := row_shape hot
              clear hot hbt
              refine hK.out _ _ ?_ (fun hHeld => ?_)
              · first | exact trivial | (exact ⟨HRzT.out.cs.2.2.2.1, rcell HET.out 0 _ rfl, rcell HET.out 1 _ rfl, rcell HET.out 2 _ rfl⟩)
              clear hK K
              try simp only [Act.put, List.setIfInBounds_toArray, List.set_cons_zero, List.set_cons_succ]
              refine wpAnyH_ready (rs := [5]) (by kernel_rfl) (by simp) ?_
              refine AllReadyH.cons (o := { dst := _, op := _, type := _, pos := _, after := _, guard := _ }) rfl (fun K hK => ?_) AllReadyH.nil
              go_simp
              refine Calls.mono (HRN.out _ _ _ HVT.out HLLz.out.1) ?_
              rintro ee WM ⟨pmz, vmz, rfl, hmz, hbz⟩
              have HMM : Hid (Mo WT.heap.size WM pmz vmz (mL n L2) (mA n A L2) (mD n A D L2) (mI n I.size L2)) := hmz
              have HRzM : Hid (Rb q18 (.slice (some ⟨g2, 0, none⟩) m cp2) WM) := HRzT.out.up hbz
              have HLNM : Hid (Ln N WM g2 cp2 L2) := HLNT.out.up hbz
              have HEM : Hid (WM.heap[N]? = some (.cells #[.int .i64 A, .int .i64 D, .string I] 24 (0, 0))) := (hbz.block _ (lt_of_heap HET.out)).trans HET.out
              have HBM : Hid (Below w.heap.size w WM) := below_trans HBT.out hbz
              clear hmz hbz
              refine hK.out _ _ ?_ (fun hHeld => ?_)
              · first | exact trivial | (exact ⟨HRzM.out.cs.2.2.2.1, rcell HEM.out 0 _ rfl, rcell HEM.out 1 _ rfl, rcell HEM.out 2 _ rfl⟩)
              clear hK K
              try simp only [Act.put, List.setIfInBounds_toArray, List.set_cons_zero, List.set_cons_succ]
              refine wpAnyH_take (i := 6) (oi := { dst := _, op := _, type := _, pos := _, after := _, guard := _ }) (v := ?_) rfl (by kernel_rfl) (by kernel_rfl) (by kernel_rfl) (fun _ _ _ h => h) (Or.inl ⟨by rfl, ?_⟩) (by assumption) ?_
              rotate_left
              · intro W hSw
                (try dsimp only at hSw)
                obtain ⟨t3, t0, t1, t2⟩ := hSw
                go_simp
                (try with_reducible rfl)
              try simp only [Act.put, List.setIfInBounds_toArray, List.set_cons_zero, List.set_cons_succ]
              refine wpAnyH_done (by kernel_rfl) ?_ _
              refine NoPanic.normal ?_
              clear hHeld HVD HVT HRzD HLND HED HBD HRzT HLNT HET HBT
              obtain ⟨r0, r1, r2, r3, r4, r5⟩ := HRzM.out.cs
              have d0 := rcell HEM.out 0 _ rfl; have d1 := rcell HEM.out 1 _ rfl; have d2 := rcell HEM.out 2 _ rfl
              have HVM : Hid (Lv WM (.slice (some ⟨g2, 0, none⟩) m cp2) L2) := by have h8 := HLNM.out.lv; rw [HLLz.out.1] at h8; exact h8
              go_upto_region 31 with (go_at_call 6; refine Calls.mono (HNW.out _ _ _ HVM.out HLLz.out.1 HLLz.out.2) ?_; rintro ee WO ⟨poz, boz, koz, foz, rfl, hoz, hbz⟩; have HQO : Hid (Qs WO 0 poz boz koz foz WM.heap.size pmz vmz WT.heap.size n A D I.size L2) := ⟨hoz, HMM.out.up hbz⟩; have HBO : Hid (Below w.heap.size w WO) := below_trans HBM.out hbz; clear hoz hbz)
              clear r0 r1 r2 r3 r4 r5 d0 d1 d2 HVM HRzM HLNM HEM HBM HMM
              obtain ⟨B1z, hB1z⟩ : ∃ B1z, WM.heap.size = B1z := ⟨_, rfl⟩
              obtain ⟨B2z, hB2z⟩ : ∃ B2z, WT.heap.size = B2z := ⟨_, rfl⟩
              rw [hB1z, hB2z] at HQO
              clear hB1z hB2z
              obtain ⟨CT, hCT⟩ : ∃ CT, cnz n A D L2 = CT := ⟨_, rfl⟩
              have HSO : Hid (∀ W, Qs W 0 poz boz koz foz B1z pmz vmz B2z n A D I.size L2 → Calls Try.prog 9 #[.pointer (some ⟨poz, 0, none⟩)] W fun e w' => e = .returned (.int .i64 CT) ∧ W = w') := fun W h7 => by rw [← hCT]; exact h7.stand
              have HSM : Hid (∀ W, Qs W 0 poz boz koz foz B1z pmz vmz B2z n A D I.size L2 → Calls Try.prog 13 #[.pointer (some ⟨pmz, 0, none⟩)] W fun e w' => e = .returned (.int .i64 CT) ∧ Below W.heap.size W w') := fun W h7 => by rw [← hCT]; exact h7.mstand (by have := HLLz.out.1; have := HL.out; omega) HIS.out
              clear hCT
              go_upto_region 34 with first | (go_at_call 9; refine Calls.mono (HSO.out _ HQO.out) ?_; rintro ee ww ⟨rfl, rfl⟩) | (go_at_call 13; refine Calls.mono (HSM.out _ HQO.out) ?_; rintro ee WS ⟨rfl, hbs⟩; have HQs : Hid (Qs WS 0 poz boz koz foz B1z pmz vmz B2z n A D I.size L2) := HQO.out.up hbs; have HBs : Hid (Below w.heap.size w WS) := below_trans HBO.out hbs; clear hbs)
              clear HQO HBO HSO HSM
              go_loopg [22] mq (fun gm v22 wr => ∃ (i : Nat), v22 = .int .i64 (i : Int) ∧ Hid (i ≤ mq ∧ gm = mq - i) ∧ Hid (Qs wr 0 poz boz koz foz B1z pmz vmz B2z n A D I.size L2) ∧ Hid (Below w.heap.size w wr))
              case atStart => exact ⟨0, rfl, ⟨Nat.zero_le _, rfl⟩, HQs, HBs⟩
              case round =>
                obtain ⟨i, rfl, HIX, HQ, HB⟩ := hrel
                clear HQs HBs
                by_cases hi : i < mq
                · have e1 : decide ((i : Int) < (mq : Int)) = true := by rw [decide_eq_true_eq]; omega
                  have e2 : decide (i < mq) = true := by rw [decide_eq_true_eq]; omega
                  have b1 : (i : Int) < (mq : Int) := by omega
                  have b2 : i < mq := hi
                  have HIM : Hid (i < mq) := hi
                  have hwi := w64n i (by have := HQL.out; omega)
                  obtain ⟨gq, og, rfl, hc⟩ := Rw.ask HAQ.out HMQ.out i hi
                  have hkx := HK.out (q.getD i akd) (by rw [List.getD_eq_getElem?_getD, List.getElem?_eq_getElem (by have := HMQ.out; omega)]; exact List.getElem_mem _)
                  obtain ⟨x, hx⟩ : ∃ x, q.getD i akd = x := ⟨_, rfl⟩
                  rw [hx] at hc hkx
                  obtain ⟨R, hR⟩ : ∃ R, fnd (lst (stz n A D I.size L2) x.1) x.2.1 x.2.2 = R := ⟨_, rfl⟩
                  obtain ⟨y, hy⟩ : ∃ y, fdl R = y := ⟨_, rfl⟩
                  obtain ⟨bb, hbb⟩ : ∃ bb, R.isSome = bb := ⟨_, rfl⟩
                  have HF1 : Hid (∀ W, Qs W 0 poz boz koz foz B1z pmz vmz B2z n A D I.size L2 → Calls Try.prog 8 #[.pointer (some ⟨poz, 0, none⟩), .int .i64 x.1, .string x.2.1, .int .u64 x.2.2] W fun e w' => e = .returned (.tuple #[.agg #[.int .i64 y.t, .int .i64 y.p, .int .i64 y.l, .int .i64 y.k, .int .u64 y.v, .string y.a], .bool bb]) ∧ Below W.heap.size W w') := fun W h7 => by
                    have h8 := h7.find (by have := HLLz.out.1; have := HL.out; omega) HLLz.out.2 x.1 hkx x.2.1 x.2.2
                    rw [hR, fdv_is, hy, hbb] at h8
                    exact h8
                  have HF2 : Hid (∀ W, Qs W 0 poz boz koz foz B1z pmz vmz B2z n A D I.size L2 → Calls Try.prog 14 #[.pointer (some ⟨pmz, 0, none⟩), .int .i64 x.1, .string x.2.1, .int .u64 x.2.2] W fun e w' => e = .returned (.tuple #[.agg #[.int .i64 y.t, .int .i64 y.p, .int .i64 y.l, .int .i64 y.k, .int .u64 y.v, .string y.a], .bool bb]) ∧ Below W.heap.size W w') := fun W h7 => by
                    have h8 := h7.mfind (by have := HLLz.out.1; have := HL.out; omega) HIS.out x.1 x.2.1 x.2.2
                    rw [hR, fdv_is, hy, hbb] at h8
                    exact h8
                  obtain ⟨oq, hoq⟩ : ∃ oq, og + i * 3 = oq := ⟨_, rfl⟩
                  have HAC : Hid (∀ W', Below w.heap.size w W' → Ac gq (og + i * 3) x W') := hc
                  clear hi hc hx hkx hR hy hbb hoq oq
                  obtain ⟨wb, hwb⟩ : ∃ wb, wb = wr := ⟨_, rfl⟩
                  have HBb : Hid (Below w.heap.size w wb) := by rw [hwb]; exact HB.out
                  have HQb : Hid (Qs wb 0 poz boz koz foz B1z pmz vmz B2z n A D I.size L2) := by rw [hwb]; exact HQ.out
                  have HUb : Hid (Below wr.heap.size wr wb) := by rw [hwb]; exact Below.refl _ _
                  go_upto_region 36 with fail
                  rw [← hwb]
                  clear hwb
                  go_cut [23, 24] from 183 to 236 (fun v23 v24 wx => ∃ r : Nat, v23 = .pointer (some ⟨r, 0, none⟩) ∧ v24 = .bool bb ∧ Hid (wx.heap[r]? = some (.cells #[.int .i64 y.t, .int .i64 y.p, .int .i64 y.l, .int .i64 y.k, .int .u64 y.v, .string y.a] 36 (0, 0))) ∧ Hid (Below wb.heap.size wb wx))
                  case first =>
                    refine wp_region_noPanic ?_
                    refine wp_region_held_drew (S := Ac gq (og + i * 3) x) (by kernel_rfl) (HAC.out _ (Below.drew HBb.out)) (fun hHeld => ?_)
                    obtain ⟨WD, hWD⟩ : ∃ WD, wb.drew = WD := ⟨_, rfl⟩
                    have HUD : Hid (Below wb.heap.size wb WD) := by rw [← hWD]; exact Below.drew (Below.refl _ _)
                    rw [hWD] at hHeld ⊢
                    clear hWD
                    refine wpAnyH_take (i := 0) (oi := { dst := _, op := _, type := _, pos := _, after := _, guard := _ }) (v := ?_) rfl (by kernel_rfl) (by kernel_rfl) (by kernel_rfl) (fun _ _ _ h => h) (Or.inl ⟨by rfl, ?_⟩) (by assumption) ?_
                    rotate_left
                    · intro W hSw
                      (try dsimp only at hSw)
                      obtain ⟨t0, t1, t2⟩ := hSw
                      go_simp
                      (try with_reducible rfl)
                    try simp only [Act.put, List.setIfInBounds_toArray, List.set_cons_zero, List.set_cons_succ]
                    refine wpAnyH_take (i := 1) (oi := { dst := _, op := _, type := _, pos := _, after := _, guard := _ }) (v := ?_) rfl (by kernel_rfl) (by kernel_rfl) (by kernel_rfl) (fun _ _ _ h => h) (Or.inl ⟨by rfl, ?_⟩) (by assumption) ?_
                    rotate_left
                    · intro W hSw
                      (try dsimp only at hSw)
                      obtain ⟨t0, t1, t2⟩ := hSw
                      go_simp
                      (try with_reducible rfl)
                    try simp only [Act.put, List.setIfInBounds_toArray, List.set_cons_zero, List.set_cons_succ]
                    refine wpAnyH_take (i := 2) (oi := { dst := _, op := _, type := _, pos := _, after := _, guard := _ }) (v := ?_) rfl (by kernel_rfl) (by kernel_rfl) (by kernel_rfl) (fun _ _ _ h => h) (Or.inl ⟨by rfl, ?_⟩) (by assumption) ?_
                    rotate_left
                    · intro W hSw
                      (try dsimp only at hSw)
                      obtain ⟨t0, t1, t2⟩ := hSw
                      go_simp
                      (try with_reducible rfl)
                    try simp only [Act.put, List.setIfInBounds_toArray, List.set_cons_zero, List.set_cons_succ]
                    refine wpAnyH_take (i := 3) (oi := { dst := _, op := _, type := _, pos := _, after := _, guard := _ }) (v := ?_) rfl (by kernel_rfl) (by kernel_rfl) (by kernel_rfl) (fun _ _ _ h => h) (Or.inl ⟨by rfl, ?_⟩) (by assumption) ?_
                    rotate_left
                    · intro W hSw
                      (try dsimp only at hSw)
                      obtain ⟨t0, t1, t2⟩ := hSw
                      go_simp
                      (try with_reducible rfl)
                    try simp only [Act.put, List.setIfInBounds_toArray, List.set_cons_zero, List.set_cons_succ]
                    refine wpAnyH_take (i := 4) (oi := { dst := _, op := _, type := _, pos := _, after := _, guard := _ }) (v := ?_) rfl (by kernel_rfl) (by kernel_rfl) (by kernel_rfl) (fun _ _ _ h => h) (Or.inl ⟨by rfl, ?_⟩) (by assumption) ?_
                    rotate_left
                    · intro W hSw
                      (try dsimp only at hSw)
                      obtain ⟨t0, t1, t2⟩ := hSw
                      go_simp
                      (try with_reducible rfl)
                    try simp only [Act.put, List.setIfInBounds_toArray, List.set_cons_zero, List.set_cons_succ]
                    refine wpAnyH_take (i := 5) (oi := { dst := _, op := _, type := _, pos := _, after := _, guard := _ }) (v := ?_) rfl (by kernel_rfl) (by kernel_rfl) (by kernel_rfl) (fun _ _ _ h => h) (Or.inl ⟨by rfl, ?_⟩) (by assumption) ?_
                    rotate_left
                    · intro W hSw
                      (try dsimp only at hSw)
                      obtain ⟨t0, t1, t2⟩ := hSw
                      go_simp
                      (try with_reducible rfl)
                    try simp only [Act.put, List.setIfInBounds_toArray, List.set_cons_zero, List.set_cons_succ]
                    refine wpAnyH_take (i := 6) (oi := { dst := _, op := _, type := _, pos := _, after := _, guard := _ }) (v := ?_) rfl (by kernel_rfl) (by kernel_rfl) (by kernel_rfl) (fun _ _ _ h => h) (Or.inl ⟨by rfl, ?_⟩) (by assumption) ?_
                    rotate_left
                    · intro W hSw
                      (try dsimp only at hSw)
                      obtain ⟨t0, t1, t2⟩ := hSw
                      go_simp
                      (try with_reducible rfl)
                    try simp only [Act.put, List.setIfInBounds_toArray, List.set_cons_zero, List.set_cons_succ]
                    refine wpAnyH_take (i := 7) (oi := { dst := _, op := _, type := _, pos := _, after := _, guard := _ }) (v := ?_) rfl (by kernel_rfl) (by kernel_rfl) (by kernel_rfl) (fun _ _ _ h => h) (Or.inl ⟨by rfl, ?_⟩) (by assumption) ?_
                    rotate_left
                    · intro W hSw
                      (try dsimp only at hSw)
                      obtain ⟨t0, t1, t2⟩ := hSw
                      go_simp
                      (try with_reducible rfl)
                    try simp only [Act.put, List.setIfInBounds_toArray, List.set_cons_zero, List.set_cons_succ]
                    refine wpAnyH_take (i := 8) (oi := { dst := _, op := _, type := _, pos := _, after := _, guard := _ }) (v := ?_) rfl (by kernel_rfl) (by kernel_rfl) (by kernel_rfl) (fun _ _ _ h => h) (Or.inl ⟨by rfl, ?_⟩) (by assumption) ?_
                    rotate_left
                    · intro W hSw
                      (try dsimp only at hSw)
                      obtain ⟨t0, t1, t2⟩ := hSw
                      go_simp
                      (try with_reducible rfl)
                    try simp only [Act.put, List.setIfInBounds_toArray, List.set_cons_zero, List.set_cons_succ]
                    refine wpAnyH_take (i := 9) (oi := { dst := _, op := _, type := _, pos := _, after := _, guard := _ }) (v := ?_) rfl (by kernel_rfl) (by kernel_rfl) (by kernel_rfl) (fun _ _ _ h => h) (Or.inl ⟨by rfl, ?_⟩) (by assumption) ?_
                    rotate_left
                    · intro W hSw
                      (try dsimp only at hSw)
                      obtain ⟨t0, t1, t2⟩ := hSw
                      go_simp
                      (try with_reducible rfl)
                    try simp only [Act.put, List.setIfInBounds_toArray, List.set_cons_zero, List.set_cons_succ]
                    refine wpAnyH_take (i := 10) (oi := { dst := _, op := _, type := _, pos := _, after := _, guard := _ }) (v := ?_) rfl (by kernel_rfl) (by kernel_rfl) (by kernel_rfl) (fun _ _ _ h => h) (Or.inl ⟨by rfl, ?_⟩) (by assumption) ?_
                    rotate_left
                    · intro W hSw
                      (try dsimp only at hSw)
                      obtain ⟨t0, t1, t2⟩ := hSw
                      go_simp
                      (try with_reducible rfl)
                    try simp only [Act.put, List.setIfInBounds_toArray, List.set_cons_zero, List.set_cons_succ]
                    refine wpAnyH_take (i := 11) (oi := { dst := _, op := _, type := _, pos := _, after := _, guard := _ }) (v := ?_) rfl (by kernel_rfl) (by kernel_rfl) (by kernel_rfl) (fun _ _ _ h => h) (Or.inl ⟨by rfl, ?_⟩) (by assumption) ?_
                    rotate_left
                    · intro W hSw
                      (try dsimp only at hSw)
                      obtain ⟨t0, t1, t2⟩ := hSw
                      go_simp
                      (try with_reducible rfl)
                    try simp only [Act.put, List.setIfInBounds_toArray, List.set_cons_zero, List.set_cons_succ]
                    refine wpAnyH_take (i := 12) (oi := { dst := _, op := _, type := _, pos := _, after := _, guard := _ }) (v := ?_) rfl (by kernel_rfl) (by kernel_rfl) (by kernel_rfl) (fun _ _ _ h => h) (Or.inl ⟨by rfl, ?_⟩) (by assumption) ?_
                    rotate_left
                    · intro W hSw
                      (try dsimp only at hSw)
                      obtain ⟨t0, t1, t2⟩ := hSw
                      go_simp
                      (try with_reducible rfl)
                    try simp only [Act.put, List.setIfInBounds_toArray, List.set_cons_zero, List.set_cons_succ]
                    refine wpAnyH_take (i := 13) (oi := { dst := _, op := _, type := _, pos := _, after := _, guard := _ }) (v := ?_) rfl (by kernel_rfl) (by kernel_rfl) (by kernel_rfl) (fun _ _ _ h => h) (Or.inl ⟨by rfl, ?_⟩) (by assumption) ?_
                    rotate_left
                    · intro W hSw
                      (try dsimp only at hSw)
                      obtain ⟨t0, t1, t2⟩ := hSw
                      go_simp
                      (try with_reducible rfl)
                    try simp only [Act.put, List.setIfInBounds_toArray, List.set_cons_zero, List.set_cons_succ]
                    refine wpAnyH_take (i := 14) (oi := { dst := _, op := _, type := _, pos := _, after := _, guard := _ }) (v := ?_) rfl (by kernel_rfl) (by kernel_rfl) (by kernel_rfl) (fun _ _ _ h => h) (Or.inl ⟨by rfl, ?_⟩) (by assumption) ?_
                    rotate_left
                    · intro W hSw
                      (try dsimp only at hSw)
                      obtain ⟨t0, t1, t2⟩ := hSw
                      go_simp
                      (try with_reducible rfl)
                    try simp only [Act.put, List.setIfInBounds_toArray, List.set_cons_zero, List.set_cons_succ]
                    refine wpAnyH_take (i := 15) (oi := { dst := _, op := _, type := _, pos := _, after := _, guard := _ }) (v := ?_) rfl (by kernel_rfl) (by kernel_rfl) (by kernel_rfl) (fun _ _ _ h => h) (Or.inl ⟨by rfl, ?_⟩) (by assumption) ?_
                    rotate_left
                    · intro W hSw
                      (try dsimp only at hSw)
                      obtain ⟨t0, t1, t2⟩ := hSw
                      go_simp
                      (try with_reducible rfl)
                    try simp only [Act.put, List.setIfInBounds_toArray, List.set_cons_zero, List.set_cons_succ]
                    clear hHeld
                    refine wpAnyH_ready (rs := [16, 20]) (by kernel_rfl) (by simp) ?_
                    refine AllReadyH.cons (o := { dst := _, op := _, type := _, pos := _, after := _, guard := _ }) rfl (fun K hK => ?_) (AllReadyH.cons (o := { dst := _, op := _, type := _, pos := _, after := _, guard := _ }) rfl (fun K hK => ?_) AllReadyH.nil)
                    · go_simp
                      refine Calls.mono (HF1.out WD (HQb.out.up HUD.out)) ?_
                      rintro ee WE ⟨rfl, hbe⟩
                      have HUE : Hid (Below wb.heap.size wb WE) := below_trans HUD.out hbe
                      clear hbe
                      refine hK.out _ _ ?_ (fun hHeld => ?_)
                      · exact HAC.out _ (below_trans HBb.out HUE.out)
                      clear hK K
                      try simp only [Act.put, List.setIfInBounds_toArray, List.set_cons_zero, List.set_cons_succ]
                      refine wpAnyH_take (i := 17) (oi := { dst := _, op := _, type := _, pos := _, after := _, guard := _ }) (v := ?_) rfl (by kernel_rfl) (by kernel_rfl) (by kernel_rfl) (fun _ _ _ h => h) (Or.inl ⟨by rfl, ?_⟩) (by assumption) ?_
                      rotate_left
                      · intro W hSw
                        (try dsimp only at hSw)
                        obtain ⟨t0, t1, t2⟩ := hSw
                        go_simp
                        (try with_reducible rfl)
                      try simp only [Act.put, List.setIfInBounds_toArray, List.set_cons_zero, List.set_cons_succ]
                      refine wpAnyH_take (i := 18) (oi := { dst := _, op := _, type := _, pos := _, after := _, guard := _ }) (v := ?_) rfl (by kernel_rfl) (by kernel_rfl) (by kernel_rfl) (fun _ _ _ h => h) (Or.inl ⟨by rfl, ?_⟩) (by assumption) ?_
                      rotate_left
                      · intro W hSw
                        (try dsimp only at hSw)
                        obtain ⟨t0, t1, t2⟩ := hSw
                        go_simp
                        (try with_reducible rfl)
                      try simp only [Act.put, List.setIfInBounds_toArray, List.set_cons_zero, List.set_cons_succ]
                      refine wpAnyH_take (i := 19) (oi := { dst := _, op := _, type := _, pos := _, after := _, guard := _ }) (v := ?_) rfl (by kernel_rfl) (by kernel_rfl) (by kernel_rfl) (fun _ _ _ h => h) (Or.inl ⟨by rfl, ?_⟩) (by assumption) ?_
                      rotate_left
                      · intro W hSw
                        (try dsimp only at hSw)
                        obtain ⟨t0, t1, t2⟩ := hSw
                        go_simp
                        (try with_reducible rfl)
                      try simp only [Act.put, List.setIfInBounds_toArray, List.set_cons_zero, List.set_cons_succ]
                      clear hHeld
                      refine wpAnyH_ready (rs := [20]) (by kernel_rfl) (by simp) ?_
                      refine AllReadyH.cons (o := { dst := _, op := _, type := _, pos := _, after := _, guard := _ }) rfl (fun K hK => ?_) AllReadyH.nil
                      go_simp
                      refine hK.out _ _ ?_ (fun hHeld => ?_)
                      · exact HAC.out _ (below_trans (below_trans HBb.out HUE.out) (bel_up _ _))
                      clear hK K hHeld
                      try simp only [Act.put, List.setIfInBounds_toArray, List.set_cons_zero, List.set_cons_succ]
                      refine wpAnyH_ready (rs := [21]) (by kernel_rfl) (by simp) ?_
                      refine AllReadyH.cons (o := { dst := _, op := _, type := _, pos := _, after := _, guard := _ }) rfl (fun K hK => ?_) AllReadyH.nil
                      go_simp
                      have HXE : Hid ((WE.alloc (.cells #[.int .i64 y.t, .int .i64 y.p, .int .i64 y.l, .int .i64 y.k, .int .u64 y.v, .string y.a] 36)).heap[WE.heap.size]? = some (.cells #[.int .i64 y.t, .int .i64 y.p, .int .i64 y.l, .int .i64 y.k, .int .u64 y.v, .string y.a] 36 (0, 0))) := heap_new WE _
                      have HUF : Hid (Below wb.heap.size wb (WE.alloc (.cells #[.int .i64 y.t, .int .i64 y.p, .int .i64 y.l, .int .i64 y.k, .int .u64 y.v, .string y.a] 36))) := below_trans HUE.out (bel_up _ _)
                      refine hK.out _ _ ?_ (fun hHeld => ?_)
                      · exact HAC.out _ (below_trans HBb.out HUF.out)
                      clear hK K
                      try simp only [Act.put]
                      refine wpAnyH_take (i := 22) (oi := { dst := _, op := _, type := _, pos := _, after := _, guard := _ }) (v := ?_) rfl (by kernel_rfl) (by kernel_rfl) (by kernel_rfl) (fun _ _ _ h => h) (Or.inl ⟨by rfl, ?_⟩) (by assumption) ?_
                      rotate_left
                      · intro W hSw
                        (try dsimp only at hSw)
                        obtain ⟨t0, t1, t2⟩ := hSw
                        go_simp
                        (try with_reducible rfl)
                      try simp only [Act.put, List.setIfInBounds_toArray, List.set_cons_zero, List.set_cons_succ]
                      refine wpAnyH_done (by kernel_rfl) ?_ _
                      refine NoPanic.normal ?_
                      clear hHeld
                      go_wp2_with fail
                      go_meet
                      exact ⟨_, rfl, rfl, HXE, HUF⟩
                    · go_simp
                      obtain ⟨WE, hWE⟩ : ∃ WE, WE = WD.alloc (.cells #[.int .i64 0, .int .i64 0, .int .i64 0, .int .i64 0, .int .u64 0, .string ⟨#[]⟩] 36) := ⟨_, rfl⟩
                      have HXE : Hid (WE.heap[WD.heap.size]? = some (.cells #[.int .i64 0, .int .i64 0, .int .i64 0, .int .i64 0, .int .u64 0, .string ⟨#[]⟩] 36 (0, 0))) := by rw [hWE]; exact heap_new WD _
                      have HUE : Hid (Below wb.heap.size wb WE) := by rw [hWE]; exact below_trans HUD.out (bel_up _ _)
                      rw [← hWE]
                      obtain ⟨r, hr⟩ : ∃ r, WD.heap.size = r := ⟨_, rfl⟩
                      rw [hr] at HXE ⊢
                      have HRR : Hid (wb.heap.size ≤ r) := by rw [← hr]; exact HUD.out.size
                      clear hWE hr
                      refine hK.out _ _ ?_ (fun hHeld => ?_)
                      · exact HAC.out _ (below_trans HBb.out HUE.out)
                      clear hK K hHeld
                      try simp only [Act.put, List.setIfInBounds_toArray, List.set_cons_zero, List.set_cons_succ]
                      refine wpAnyH_ready (rs := [16]) (by kernel_rfl) (by simp) ?_
                      refine AllReadyH.cons (o := { dst := _, op := _, type := _, pos := _, after := _, guard := _ }) rfl (fun K hK => ?_) AllReadyH.nil
                      go_simp
                      refine Calls.mono (HF1.out WE (HQb.out.up HUE.out)) ?_
                      rintro ee WF ⟨rfl, hbf⟩
                      have HUF : Hid (Below wb.heap.size wb WF) := below_trans HUE.out hbf
                      have HXF : Hid (WF.heap[r]? = some (.cells #[.int .i64 0, .int .i64 0, .int .i64 0, .int .i64 0, .int .u64 0, .string ⟨#[]⟩] 36 (0, 0))) := (hbf.block _ (lt_of_heap HXE.out)).trans HXE.out
                      clear hbf HXE
                      refine hK.out _ _ ?_ (fun hHeld => ?_)
                      · exact HAC.out _ (below_trans HBb.out HUF.out)
                      clear hK K
                      try simp only [Act.put, List.setIfInBounds_toArray, List.set_cons_zero, List.set_cons_succ]
                      refine wpAnyH_take (i := 17) (oi := { dst := _, op := _, type := _, pos := _, after := _, guard := _ }) (v := ?_) rfl (by kernel_rfl) (by kernel_rfl) (by kernel_rfl) (fun _ _ _ h => h) (Or.inl ⟨by rfl, ?_⟩) (by assumption) ?_
                      rotate_left
                      · intro W hSw
                        (try dsimp only at hSw)
                        obtain ⟨t0, t1, t2⟩ := hSw
                        go_simp
                        (try with_reducible rfl)
                      try simp only [Act.put, List.setIfInBounds_toArray, List.set_cons_zero, List.set_cons_succ]
                      refine wpAnyH_take (i := 18) (oi := { dst := _, op := _, type := _, pos := _, after := _, guard := _ }) (v := ?_) rfl (by kernel_rfl) (by kernel_rfl) (by kernel_rfl) (fun _ _ _ h => h) (Or.inl ⟨by rfl, ?_⟩) (by assumption) ?_
                      rotate_left
                      · intro W hSw
                        (try dsimp only at hSw)
                        obtain ⟨t0, t1, t2⟩ := hSw
                        go_simp
                        (try with_reducible rfl)
                      try simp only [Act.put, List.setIfInBounds_toArray, List.set_cons_zero, List.set_cons_succ]
                      refine wpAnyH_take (i := 19) (oi := { dst := _, op := _, type := _, pos := _, after := _, guard := _ }) (v := ?_) rfl (by kernel_rfl) (by kernel_rfl) (by kernel_rfl) (fun _ _ _ h => h) (Or.inl ⟨by rfl, ?_⟩) (by assumption) ?_
                      rotate_left
                      · intro W hSw
                        (try dsimp only at hSw)
                        obtain ⟨t0, t1, t2⟩ := hSw
                        go_simp
                        (try with_reducible rfl)
                      try simp only [Act.put, List.setIfInBounds_toArray, List.set_cons_zero, List.set_cons_succ]
                      clear hHeld
                      have y0 := rcell HXF.out 0 _ rfl; have y1 := rcell HXF.out 1 _ rfl; have y2 := rcell HXF.out 2 _ rfl; have y3 := rcell HXF.out 3 _ rfl; have y4 := rcell HXF.out 4 _ rfl; have y5 := rcell HXF.out 5 _ rfl
                      have z0 := Lib.frozen_of_heap HXF.out 0; have z1 := Lib.frozen_of_heap HXF.out 1; have z2 := Lib.frozen_of_heap HXF.out 2; have z3 := Lib.frozen_of_heap HXF.out 3; have z4 := Lib.frozen_of_heap HXF.out 4; have z5 := Lib.frozen_of_heap HXF.out 5
                      refine wpAnyH_ready (rs := [21]) (by kernel_rfl) (by simp) ?_
                      refine AllReadyH.cons (o := { dst := _, op := _, type := _, pos := _, after := _, guard := _ }) rfl (fun K hK => ?_) AllReadyH.nil
                      go_simp
                      obtain ⟨WG, hWG⟩ : ∃ WG, WG = ((((((WF.setCell ⟨r, 0, none⟩ (.int .i64 y.t)).setCell ⟨r, 1, none⟩ (.int .i64 y.p)).setCell ⟨r, 2, none⟩ (.int .i64 y.l)).setCell ⟨r, 3, none⟩ (.int .i64 y.k)).setCell ⟨r, 4, none⟩ (.int .u64 y.v)).setCell ⟨r, 5, none⟩ (.string y.a)) := ⟨_, rfl⟩
                      have HXG : Hid (WG.heap[r]? = some (.cells #[.int .i64 y.t, .int .i64 y.p, .int .i64 y.l, .int .i64 y.k, .int .u64 y.v, .string y.a] 36 (0, 0))) := by rw [hWG]; exact put6_heap _ _ _ _ _ _ HXF.out
                      have HUG : Hid (Below wb.heap.size wb WG) := by rw [hWG]; exact HUF.out.trans (put6_bel HRR.out)
                      rw [← hWG]
                      clear hWG y0 y1 y2 y3 y4 y5 z0 z1 z2 z3 z4 z5
                      refine hK.out _ _ ?_ (fun hHeld => ?_)
                      · exact HAC.out _ (below_trans HBb.out HUG.out)
                      clear hK K
                      try simp only [Act.put]
                      refine wpAnyH_take (i := 22) (oi := { dst := _, op := _, type := _, pos := _, after := _, guard := _ }) (v := ?_) rfl (by kernel_rfl) (by kernel_rfl) (by kernel_rfl) (fun _ _ _ h => h) (Or.inl ⟨by rfl, ?_⟩) (by assumption) ?_
                      rotate_left
                      · intro W hSw
                        (try dsimp only at hSw)
                        obtain ⟨t0, t1, t2⟩ := hSw
                        go_simp
                        (try with_reducible rfl)
                      try simp only [Act.put, List.setIfInBounds_toArray, List.set_cons_zero, List.set_cons_succ]
                      refine wpAnyH_done (by kernel_rfl) ?_ _
                      refine NoPanic.normal ?_
                      clear hHeld
                      go_wp2_with fail
                      go_meet
                      exact ⟨_, rfl, rfl, HXG, HUG⟩
                  case rest =>
                    obtain ⟨r1, rfl, rfl, HY1, HU1⟩ := hcut
                    have HBc : Hid (Below w.heap.size w wc) := below_trans HBb.out HU1.out
                    have HQc : Hid (Qs wc 0 poz boz koz foz B1z pmz vmz B2z n A D I.size L2) := HQb.out.up HU1.out
                    have HUc : Hid (Below wr.heap.size wr wc) := below_trans HUb.out HU1.out
                    clear HBb HQb HUb HU1 HF1
                    obtain ⟨wb, hwb⟩ : ∃ wb, wb = wc := ⟨_, rfl⟩
                    have HBb : Hid (Below w.heap.size w wb) := by rw [hwb]; exact HBc.out
                    have HQb : Hid (Qs wb 0 poz boz koz foz B1z pmz vmz B2z n A D I.size L2) := by rw [hwb]; exact HQc.out
                    have HUb : Hid (Below wr.heap.size wr wb) := by rw [hwb]; exact HUc.out
                    have HYb : Hid (wb.heap[r1]? = some (.cells #[.int .i64 y.t, .int .i64 y.p, .int .i64 y.l, .int .i64 y.k, .int .u64 y.v, .string y.a] 36 (0, 0))) := by rw [hwb]; exact HY1.out
                    go_upto_region 37 with fail
                    rw [← hwb]
                    clear hwb HBc HQc HUc HY1
                    go_cut [25, 26] from 183 to 236 (fun v25 v26 wx => ∃ r : Nat, v25 = .pointer (some ⟨r, 0, none⟩) ∧ v26 = .bool bb ∧ Hid (wx.heap[r]? = some (.cells #[.int .i64 y.t, .int .i64 y.p, .int .i64 y.l, .int .i64 y.k, .int .u64 y.v, .string y.a] 36 (0, 0))) ∧ Hid (Below wb.heap.size wb wx))
                    case first =>
                      refine wp_region_noPanic ?_
                      refine wp_region_held_drew (S := Ac gq (og + i * 3) x) (by kernel_rfl) (HAC.out _ (Below.drew HBb.out)) (fun hHeld => ?_)
                      obtain ⟨WD, hWD⟩ : ∃ WD, wb.drew = WD := ⟨_, rfl⟩
                      have HUD : Hid (Below wb.heap.size wb WD) := by rw [← hWD]; exact Below.drew (Below.refl _ _)
                      rw [hWD] at hHeld ⊢
                      clear hWD
                      refine wpAnyH_take (i := 0) (oi := { dst := _, op := _, type := _, pos := _, after := _, guard := _ }) (v := ?_) rfl (by kernel_rfl) (by kernel_rfl) (by kernel_rfl) (fun _ _ _ h => h) (Or.inl ⟨by rfl, ?_⟩) (by assumption) ?_
                      rotate_left
                      · intro W hSw
                        (try dsimp only at hSw)
                        obtain ⟨t0, t1, t2⟩ := hSw
                        go_simp
                        (try with_reducible rfl)
                      try simp only [Act.put, List.setIfInBounds_toArray, List.set_cons_zero, List.set_cons_succ]
                      refine wpAnyH_take (i := 1) (oi := { dst := _, op := _, type := _, pos := _, after := _, guard := _ }) (v := ?_) rfl (by kernel_rfl) (by kernel_rfl) (by kernel_rfl) (fun _ _ _ h => h) (Or.inl ⟨by rfl, ?_⟩) (by assumption) ?_
                      rotate_left
                      · intro W hSw
                        (try dsimp only at hSw)
                        obtain ⟨t0, t1, t2⟩ := hSw
                        go_simp
                        (try with_reducible rfl)
                      try simp only [Act.put, List.setIfInBounds_toArray, List.set_cons_zero, List.set_cons_succ]
                      refine wpAnyH_take (i := 2) (oi := { dst := _, op := _, type := _, pos := _, after := _, guard := _ }) (v := ?_) rfl (by kernel_rfl) (by kernel_rfl) (by kernel_rfl) (fun _ _ _ h => h) (Or.inl ⟨by rfl, ?_⟩) (by assumption) ?_
                      rotate_left
                      · intro W hSw
                        (try dsimp only at hSw)
                        obtain ⟨t0, t1, t2⟩ := hSw
                        go_simp
                        (try with_reducible rfl)
                      try simp only [Act.put, List.setIfInBounds_toArray, List.set_cons_zero, List.set_cons_succ]
                      refine wpAnyH_take (i := 3) (oi := { dst := _, op := _, type := _, pos := _, after := _, guard := _ }) (v := ?_) rfl (by kernel_rfl) (by kernel_rfl) (by kernel_rfl) (fun _ _ _ h => h) (Or.inl ⟨by rfl, ?_⟩) (by assumption) ?_
                      rotate_left
                      · intro W hSw
                        (try dsimp only at hSw)
                        obtain ⟨t0, t1, t2⟩ := hSw
                        go_simp
                        (try with_reducible rfl)
                      try simp only [Act.put, List.setIfInBounds_toArray, List.set_cons_zero, List.set_cons_succ]
                      refine wpAnyH_take (i := 4) (oi := { dst := _, op := _, type := _, pos := _, after := _, guard := _ }) (v := ?_) rfl (by kernel_rfl) (by kernel_rfl) (by kernel_rfl) (fun _ _ _ h => h) (Or.inl ⟨by rfl, ?_⟩) (by assumption) ?_
                      rotate_left
                      · intro W hSw
                        (try dsimp only at hSw)
                        obtain ⟨t0, t1, t2⟩ := hSw
                        go_simp
                        (try with_reducible rfl)
                      try simp only [Act.put, List.setIfInBounds_toArray, List.set_cons_zero, List.set_cons_succ]
                      refine wpAnyH_take (i := 5) (oi := { dst := _, op := _, type := _, pos := _, after := _, guard := _ }) (v := ?_) rfl (by kernel_rfl) (by kernel_rfl) (by kernel_rfl) (fun _ _ _ h => h) (Or.inl ⟨by rfl, ?_⟩) (by assumption) ?_
                      rotate_left
                      · intro W hSw
                        (try dsimp only at hSw)
                        obtain ⟨t0, t1, t2⟩ := hSw
                        go_simp
                        (try with_reducible rfl)
                      try simp only [Act.put, List.setIfInBounds_toArray, List.set_cons_zero, List.set_cons_succ]
                      refine wpAnyH_take (i := 6) (oi := { dst := _, op := _, type := _, pos := _, after := _, guard := _ }) (v := ?_) rfl (by kernel_rfl) (by kernel_rfl) (by kernel_rfl) (fun _ _ _ h => h) (Or.inl ⟨by rfl, ?_⟩) (by assumption) ?_
                      rotate_left
                      · intro W hSw
                        (try dsimp only at hSw)
                        obtain ⟨t0, t1, t2⟩ := hSw
                        go_simp
                        (try with_reducible rfl)
                      try simp only [Act.put, List.setIfInBounds_toArray, List.set_cons_zero, List.set_cons_succ]
                      refine wpAnyH_take (i := 7) (oi := { dst := _, op := _, type := _, pos := _, after := _, guard := _ }) (v := ?_) rfl (by kernel_rfl) (by kernel_rfl) (by kernel_rfl) (fun _ _ _ h => h) (Or.inl ⟨by rfl, ?_⟩) (by assumption) ?_
                      rotate_left
                      · intro W hSw
                        (try dsimp only at hSw)
                        obtain ⟨t0, t1, t2⟩ := hSw
                        go_simp
                        (try with_reducible rfl)
                      try simp only [Act.put, List.setIfInBounds_toArray, List.set_cons_zero, List.set_cons_succ]
                      refine wpAnyH_take (i := 8) (oi := { dst := _, op := _, type := _, pos := _, after := _, guard := _ }) (v := ?_) rfl (by kernel_rfl) (by kernel_rfl) (by kernel_rfl) (fun _ _ _ h => h) (Or.inl ⟨by rfl, ?_⟩) (by assumption) ?_
                      rotate_left
                      · intro W hSw
                        (try dsimp only at hSw)
                        obtain ⟨t0, t1, t2⟩ := hSw
                        go_simp
                        (try with_reducible rfl)
                      try simp only [Act.put, List.setIfInBounds_toArray, List.set_cons_zero, List.set_cons_succ]
                      refine wpAnyH_take (i := 9) (oi := { dst := _, op := _, type := _, pos := _, after := _, guard := _ }) (v := ?_) rfl (by kernel_rfl) (by kernel_rfl) (by kernel_rfl) (fun _ _ _ h => h) (Or.inl ⟨by rfl, ?_⟩) (by assumption) ?_
                      rotate_left
                      · intro W hSw
                        (try dsimp only at hSw)
                        obtain ⟨t0, t1, t2⟩ := hSw
                        go_simp
                        (try with_reducible rfl)
                      try simp only [Act.put, List.setIfInBounds_toArray, List.set_cons_zero, List.set_cons_succ]
                      refine wpAnyH_take (i := 10) (oi := { dst := _, op := _, type := _, pos := _, after := _, guard := _ }) (v := ?_) rfl (by kernel_rfl) (by kernel_rfl) (by kernel_rfl) (fun _ _ _ h => h) (Or.inl ⟨by rfl, ?_⟩) (by assumption) ?_
                      rotate_left
                      · intro W hSw
                        (try dsimp only at hSw)
                        obtain ⟨t0, t1, t2⟩ := hSw
                        go_simp
                        (try with_reducible rfl)
                      try simp only [Act.put, List.setIfInBounds_toArray, List.set_cons_zero, List.set_cons_succ]
                      refine wpAnyH_take (i := 11) (oi := { dst := _, op := _, type := _, pos := _, after := _, guard := _ }) (v := ?_) rfl (by kernel_rfl) (by kernel_rfl) (by kernel_rfl) (fun _ _ _ h => h) (Or.inl ⟨by rfl, ?_⟩) (by assumption) ?_
                      rotate_left
                      · intro W hSw
                        (try dsimp only at hSw)
                        obtain ⟨t0, t1, t2⟩ := hSw
                        go_simp
                        (try with_reducible rfl)
                      try simp only [Act.put, List.setIfInBounds_toArray, List.set_cons_zero, List.set_cons_succ]
                      refine wpAnyH_take (i := 12) (oi := { dst := _, op := _, type := _, pos := _, after := _, guard := _ }) (v := ?_) rfl (by kernel_rfl) (by kernel_rfl) (by kernel_rfl) (fun _ _ _ h => h) (Or.inl ⟨by rfl, ?_⟩) (by assumption) ?_
                      rotate_left
                      · intro W hSw
                        (try dsimp only at hSw)
                        obtain ⟨t0, t1, t2⟩ := hSw
                        go_simp
                        (try with_reducible rfl)
                      try simp only [Act.put, List.setIfInBounds_toArray, List.set_cons_zero, List.set_cons_succ]
                      refine wpAnyH_take (i := 13) (oi := { dst := _, op := _, type := _, pos := _, after := _, guard := _ }) (v := ?_) rfl (by kernel_rfl) (by kernel_rfl) (by kernel_rfl) (fun _ _ _ h => h) (Or.inl ⟨by rfl, ?_⟩) (by assumption) ?_
                      rotate_left
                      · intro W hSw
                        (try dsimp only at hSw)
                        obtain ⟨t0, t1, t2⟩ := hSw
                        go_simp
                        (try with_reducible rfl)
                      try simp only [Act.put, List.setIfInBounds_toArray, List.set_cons_zero, List.set_cons_succ]
                      refine wpAnyH_take (i := 14) (oi := { dst := _, op := _, type := _, pos := _, after := _, guard := _ }) (v := ?_) rfl (by kernel_rfl) (by kernel_rfl) (by kernel_rfl) (fun _ _ _ h => h) (Or.inl ⟨by rfl, ?_⟩) (by assumption) ?_
                      rotate_left
                      · intro W hSw
                        (try dsimp only at hSw)
                        obtain ⟨t0, t1, t2⟩ := hSw
                        go_simp
                        (try with_reducible rfl)
                      try simp only [Act.put, List.setIfInBounds_toArray, List.set_cons_zero, List.set_cons_succ]
                      refine wpAnyH_take (i := 15) (oi := { dst := _, op := _, type := _, pos := _, after := _, guard := _ }) (v := ?_) rfl (by kernel_rfl) (by kernel_rfl) (by kernel_rfl) (fun _ _ _ h => h) (Or.inl ⟨by rfl, ?_⟩) (by assumption) ?_
                      rotate_left
                      · intro W hSw
                        (try dsimp only at hSw)
                        obtain ⟨t0, t1, t2⟩ := hSw
                        go_simp
                        (try with_reducible rfl)
                      try simp only [Act.put, List.setIfInBounds_toArray, List.set_cons_zero, List.set_cons_succ]
                      clear hHeld
                      refine wpAnyH_ready (rs := [16, 20]) (by kernel_rfl) (by simp) ?_
                      refine AllReadyH.cons (o := { dst := _, op := _, type := _, pos := _, after := _, guard := _ }) rfl (fun K hK => ?_) (AllReadyH.cons (o := { dst := _, op := _, type := _, pos := _, after := _, guard := _ }) rfl (fun K hK => ?_) AllReadyH.nil)
                      · go_simp
                        refine Calls.mono (HF2.out WD (HQb.out.up HUD.out)) ?_
                        rintro ee WE ⟨rfl, hbe⟩
                        have HUE : Hid (Below wb.heap.size wb WE) := below_trans HUD.out hbe
                        clear hbe
                        refine hK.out _ _ ?_ (fun hHeld => ?_)
                        · exact HAC.out _ (below_trans HBb.out HUE.out)
                        clear hK K
                        try simp only [Act.put, List.setIfInBounds_toArray, List.set_cons_zero, List.set_cons_succ]
                        refine wpAnyH_take (i := 17) (oi := { dst := _, op := _, type := _, pos := _, after := _, guard := _ }) (v := ?_) rfl (by kernel_rfl) (by kernel_rfl) (by kernel_rfl) (fun _ _ _ h => h) (Or.inl ⟨by rfl, ?_⟩) (by assumption) ?_
                        rotate_left
                        · intro W hSw
                          (try dsimp only at hSw)
                          obtain ⟨t0, t1, t2⟩ := hSw
                          go_simp
                          (try with_reducible rfl)
                        try simp only [Act.put, List.setIfInBounds_toArray, List.set_cons_zero, List.set_cons_succ]
                        refine wpAnyH_take (i := 18) (oi := { dst := _, op := _, type := _, pos := _, after := _, guard := _ }) (v := ?_) rfl (by kernel_rfl) (by kernel_rfl) (by kernel_rfl) (fun _ _ _ h => h) (Or.inl ⟨by rfl, ?_⟩) (by assumption) ?_
                        rotate_left
                        · intro W hSw
                          (try dsimp only at hSw)
                          obtain ⟨t0, t1, t2⟩ := hSw
                          go_simp
                          (try with_reducible rfl)
                        try simp only [Act.put, List.setIfInBounds_toArray, List.set_cons_zero, List.set_cons_succ]
                        refine wpAnyH_take (i := 19) (oi := { dst := _, op := _, type := _, pos := _, after := _, guard := _ }) (v := ?_) rfl (by kernel_rfl) (by kernel_rfl) (by kernel_rfl) (fun _ _ _ h => h) (Or.inl ⟨by rfl, ?_⟩) (by assumption) ?_
                        rotate_left
                        · intro W hSw
                          (try dsimp only at hSw)
                          obtain ⟨t0, t1, t2⟩ := hSw
                          go_simp
                          (try with_reducible rfl)
                        try simp only [Act.put, List.setIfInBounds_toArray, List.set_cons_zero, List.set_cons_succ]
                        clear hHeld
                        refine wpAnyH_ready (rs := [20]) (by kernel_rfl) (by simp) ?_
                        refine AllReadyH.cons (o := { dst := _, op := _, type := _, pos := _, after := _, guard := _ }) rfl (fun K hK => ?_) AllReadyH.nil
                        go_simp
                        refine hK.out _ _ ?_ (fun hHeld => ?_)
                        · exact HAC.out _ (below_trans (below_trans HBb.out HUE.out) (bel_up _ _))
                        clear hK K hHeld
                        try simp only [Act.put, List.setIfInBounds_toArray, List.set_cons_zero, List.set_cons_succ]
                        refine wpAnyH_ready (rs := [21]) (by kernel_rfl) (by simp) ?_
                        refine AllReadyH.cons (o := { dst := _, op := _, type := _, pos := _, after := _, guard := _ }) rfl (fun K hK => ?_) AllReadyH.nil
                        go_simp
                        have HXE : Hid ((WE.alloc (.cells #[.int .i64 y.t, .int .i64 y.p, .int .i64 y.l, .int .i64 y.k, .int .u64 y.v, .string y.a] 36)).heap[WE.heap.size]? = some (.cells #[.int .i64 y.t, .int .i64 y.p, .int .i64 y.l, .int .i64 y.k, .int .u64 y.v, .string y.a] 36 (0, 0))) := heap_new WE _
                        have HUF : Hid (Below wb.heap.size wb (WE.alloc (.cells #[.int .i64 y.t, .int .i64 y.p, .int .i64 y.l, .int .i64 y.k, .int .u64 y.v, .string y.a] 36))) := below_trans HUE.out (bel_up _ _)
                        refine hK.out _ _ ?_ (fun hHeld => ?_)
                        · exact HAC.out _ (below_trans HBb.out HUF.out)
                        clear hK K
                        try simp only [Act.put]
                        refine wpAnyH_take (i := 22) (oi := { dst := _, op := _, type := _, pos := _, after := _, guard := _ }) (v := ?_) rfl (by kernel_rfl) (by kernel_rfl) (by kernel_rfl) (fun _ _ _ h => h) (Or.inl ⟨by rfl, ?_⟩) (by assumption) ?_
                        rotate_left
                        · intro W hSw
                          (try dsimp only at hSw)
                          obtain ⟨t0, t1, t2⟩ := hSw
                          go_simp
                          (try with_reducible rfl)
                        try simp only [Act.put, List.setIfInBounds_toArray, List.set_cons_zero, List.set_cons_succ]
                        refine wpAnyH_done (by kernel_rfl) ?_ _
                        refine NoPanic.normal ?_
                        clear hHeld
                        go_wp2_with fail
                        go_meet
                        exact ⟨_, rfl, rfl, HXE, HUF⟩
                      · go_simp
                        obtain ⟨WE, hWE⟩ : ∃ WE, WE = WD.alloc (.cells #[.int .i64 0, .int .i64 0, .int .i64 0, .int .i64 0, .int .u64 0, .string ⟨#[]⟩] 36) := ⟨_, rfl⟩
                        have HXE : Hid (WE.heap[WD.heap.size]? = some (.cells #[.int .i64 0, .int .i64 0, .int .i64 0, .int .i64 0, .int .u64 0, .string ⟨#[]⟩] 36 (0, 0))) := by rw [hWE]; exact heap_new WD _
                        have HUE : Hid (Below wb.heap.size wb WE) := by rw [hWE]; exact below_trans HUD.out (bel_up _ _)
                        rw [← hWE]
                        obtain ⟨r, hr⟩ : ∃ r, WD.heap.size = r := ⟨_, rfl⟩
                        rw [hr] at HXE ⊢
                        have HRR : Hid (wb.heap.size ≤ r) := by rw [← hr]; exact HUD.out.size
                        clear hWE hr
                        refine hK.out _ _ ?_ (fun hHeld => ?_)
                        · exact HAC.out _ (below_trans HBb.out HUE.out)
                        clear hK K hHeld
                        try simp only [Act.put, List.setIfInBounds_toArray, List.set_cons_zero, List.set_cons_succ]
                        refine wpAnyH_ready (rs := [16]) (by kernel_rfl) (by simp) ?_
                        refine AllReadyH.cons (o := { dst := _, op := _, type := _, pos := _, after := _, guard := _ }) rfl (fun K hK => ?_) AllReadyH.nil
                        go_simp
                        refine Calls.mono (HF2.out WE (HQb.out.up HUE.out)) ?_
                        rintro ee WF ⟨rfl, hbf⟩
                        have HUF : Hid (Below wb.heap.size wb WF) := below_trans HUE.out hbf
                        have HXF : Hid (WF.heap[r]? = some (.cells #[.int .i64 0, .int .i64 0, .int .i64 0, .int .i64 0, .int .u64 0, .string ⟨#[]⟩] 36 (0, 0))) := (hbf.block _ (lt_of_heap HXE.out)).trans HXE.out
                        clear hbf HXE
                        refine hK.out _ _ ?_ (fun hHeld => ?_)
                        · exact HAC.out _ (below_trans HBb.out HUF.out)
                        clear hK K
                        try simp only [Act.put, List.setIfInBounds_toArray, List.set_cons_zero, List.set_cons_succ]
                        refine wpAnyH_take (i := 17) (oi := { dst := _, op := _, type := _, pos := _, after := _, guard := _ }) (v := ?_) rfl (by kernel_rfl) (by kernel_rfl) (by kernel_rfl) (fun _ _ _ h => h) (Or.inl ⟨by rfl, ?_⟩) (by assumption) ?_
                        rotate_left
                        · intro W hSw
                          (try dsimp only at hSw)
                          obtain ⟨t0, t1, t2⟩ := hSw
                          go_simp
                          (try with_reducible rfl)
                        try simp only [Act.put, List.setIfInBounds_toArray, List.set_cons_zero, List.set_cons_succ]
                        refine wpAnyH_take (i := 18) (oi := { dst := _, op := _, type := _, pos := _, after := _, guard := _ }) (v := ?_) rfl (by kernel_rfl) (by kernel_rfl) (by kernel_rfl) (fun _ _ _ h => h) (Or.inl ⟨by rfl, ?_⟩) (by assumption) ?_
                        rotate_left
                        · intro W hSw
                          (try dsimp only at hSw)
                          obtain ⟨t0, t1, t2⟩ := hSw
                          go_simp
                          (try with_reducible rfl)
                        try simp only [Act.put, List.setIfInBounds_toArray, List.set_cons_zero, List.set_cons_succ]
                        refine wpAnyH_take (i := 19) (oi := { dst := _, op := _, type := _, pos := _, after := _, guard := _ }) (v := ?_) rfl (by kernel_rfl) (by kernel_rfl) (by kernel_rfl) (fun _ _ _ h => h) (Or.inl ⟨by rfl, ?_⟩) (by assumption) ?_
                        rotate_left
                        · intro W hSw
                          (try dsimp only at hSw)
                          obtain ⟨t0, t1, t2⟩ := hSw
                          go_simp
                          (try with_reducible rfl)
                        try simp only [Act.put, List.setIfInBounds_toArray, List.set_cons_zero, List.set_cons_succ]
                        clear hHeld
                        have y0 := rcell HXF.out 0 _ rfl; have y1 := rcell HXF.out 1 _ rfl; have y2 := rcell HXF.out 2 _ rfl; have y3 := rcell HXF.out 3 _ rfl; have y4 := rcell HXF.out 4 _ rfl; have y5 := rcell HXF.out 5 _ rfl
                        have z0 := Lib.frozen_of_heap HXF.out 0; have z1 := Lib.frozen_of_heap HXF.out 1; have z2 := Lib.frozen_of_heap HXF.out 2; have z3 := Lib.frozen_of_heap HXF.out 3; have z4 := Lib.frozen_of_heap HXF.out 4; have z5 := Lib.frozen_of_heap HXF.out 5
                        refine wpAnyH_ready (rs := [21]) (by kernel_rfl) (by simp) ?_
                        refine AllReadyH.cons (o := { dst := _, op := _, type := _, pos := _, after := _, guard := _ }) rfl (fun K hK => ?_) AllReadyH.nil
                        go_simp
                        obtain ⟨WG, hWG⟩ : ∃ WG, WG = ((((((WF.setCell ⟨r, 0, none⟩ (.int .i64 y.t)).setCell ⟨r, 1, none⟩ (.int .i64 y.p)).setCell ⟨r, 2, none⟩ (.int .i64 y.l)).setCell ⟨r, 3, none⟩ (.int .i64 y.k)).setCell ⟨r, 4, none⟩ (.int .u64 y.v)).setCell ⟨r, 5, none⟩ (.string y.a)) := ⟨_, rfl⟩
                        have HXG : Hid (WG.heap[r]? = some (.cells #[.int .i64 y.t, .int .i64 y.p, .int .i64 y.l, .int .i64 y.k, .int .u64 y.v, .string y.a] 36 (0, 0))) := by rw [hWG]; exact put6_heap _ _ _ _ _ _ HXF.out
                        have HUG : Hid (Below wb.heap.size wb WG) := by rw [hWG]; exact HUF.out.trans (put6_bel HRR.out)
                        rw [← hWG]
                        clear hWG y0 y1 y2 y3 y4 y5 z0 z1 z2 z3 z4 z5
                        refine hK.out _ _ ?_ (fun hHeld => ?_)
                        · exact HAC.out _ (below_trans HBb.out HUG.out)
                        clear hK K
                        try simp only [Act.put]
                        refine wpAnyH_take (i := 22) (oi := { dst := _, op := _, type := _, pos := _, after := _, guard := _ }) (v := ?_) rfl (by kernel_rfl) (by kernel_rfl) (by kernel_rfl) (fun _ _ _ h => h) (Or.inl ⟨by rfl, ?_⟩) (by assumption) ?_
                        rotate_left
                        · intro W hSw
                          (try dsimp only at hSw)
                          obtain ⟨t0, t1, t2⟩ := hSw
                          go_simp
                          (try with_reducible rfl)
                        try simp only [Act.put, List.setIfInBounds_toArray, List.set_cons_zero, List.set_cons_succ]
                        refine wpAnyH_done (by kernel_rfl) ?_ _
                        refine NoPanic.normal ?_
                        clear hHeld
                        go_wp2_with fail
                        go_meet
                        exact ⟨_, rfl, rfl, HXG, HUG⟩
                    case rest =>
                      obtain ⟨r2, rfl, rfl, HY2, HU2⟩ := hcut
                      have HY1 : Hid (wc.heap[r1]? = some (.cells #[.int .i64 y.t, .int .i64 y.p, .int .i64 y.l, .int .i64 y.k, .int .u64 y.v, .string y.a] 36 (0, 0))) := (HU2.out.block _ (lt_of_heap HYb.out)).trans HYb.out
                      have HUW : Hid (Below wr.heap.size wr wc) := below_trans HUb.out HU2.out
                      have u0' := rcell HY1.out 0 _ rfl; have u1' := rcell HY1.out 1 _ rfl; have u2' := rcell HY1.out 2 _ rfl; have u3' := rcell HY1.out 3 _ rfl; have u4' := rcell HY1.out 4 _ rfl; have u5' := rcell HY1.out 5 _ rfl
                      have v0' := rcell HY2.out 0 _ rfl; have v1' := rcell HY2.out 1 _ rfl; have v2' := rcell HY2.out 2 _ rfl; have v3' := rcell HY2.out 3 _ rfl; have v4' := rcell HY2.out 4 _ rfl; have v5' := rcell HY2.out 5 _ rfl
                      have HQn : Hid (Qs wc 0 poz boz koz foz B1z pmz vmz B2z n A D I.size L2) := HQ.out.up HUW.out
                      have HBn : Hid (Below w.heap.size w wc) := below_trans HB.out HUW.out
                      cases bb with
                      | true =>
                        go_wp2_with fail
                        go_roundg (mq - (i + 1))
                        case measure => have := HIX.out; have := HIM.out; omega
                        case rel => exact ⟨i + 1, by first | rfl | (rw [show (i : Int) + 1 = ((i + 1 : Nat) : Int) by omega]), ⟨HIM.out, rfl⟩, HQn, HBn⟩
                      | false =>
                        go_wp2_with fail
                        go_roundg (mq - (i + 1))
                        case measure => have := HIX.out; have := HIM.out; omega
                        case rel => exact ⟨i + 1, by first | rfl | (rw [show (i : Int) + 1 = ((i + 1 : Nat) : Int) by omega]), ⟨HIM.out, rfl⟩, HQn, HBn⟩
                · have e1 : decide ((i : Int) < (mq : Int)) = false := by rw [decide_eq_false_iff_not]; omega
                  have e2 : decide (i < mq) = false := by rw [decide_eq_false_iff_not]; omega
                  clear hi
                  go_wp2_with fail
                  go_ret
                  exact ⟨rfl, HB.out⟩
end Go.Proofs.Ytockmlaaefbfkaa
