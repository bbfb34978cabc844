import Derived.Test.YtkjljnneghnpiaaZitn
namespace Go.Proofs.Ytkjljnneghnpiaa.Rg
open Go.RowKit
/-- The items behind the first one, up to the bracket. -/
def pit (s : ByteArray) : Nat → Nat → (Nat → Bool) → Except (Int × Nat) ((Nat → Bool) × Nat)
  | 0, j, _ => .error (40, j)
  | n + 1, j, m => if pk s j = 93 then .ok (m, j + 1) else match pitem s j with
    | .error e => .error e
    | .ok (m', k) => pit s n k (fun b => m b || m' b)
theorem pesc_next {s : ByteArray} {i v j : Nat} (h : pesc s i = .ok (v, j)) : i < j ∧ j ≤ s.size := by
  unfold pesc at h
  split at h
  · rename_i h1
    injection h with h; injection h with h2 h3
    have := pk_in (s := s) (i := i) (by rw [h1]; decide)
    omega
  · split at h
    · rename_i h1
      injection h with h; injection h with h2 h3
      have := pk_in (s := s) (i := i) (by rw [h1]; decide)
      omega
    · split at h
      · rename_i h1
        injection h with h; injection h with h2 h3
        have := pk_in (s := s) (i := i) (by rw [h1]; decide)
        omega
      · split at h
        · split at h
          · cases h
          · split at h
            · cases h
            · rename_i l hl
              injection h with h; injection h with h2 h3
              have := hexd_in hl
              omega
        · split at h
          · rename_i h1
            injection h with h; injection h with h2 h3
            have : pk s i ≠ 0 := by
              intro h0
              rw [h0] at h1
              revert h1
              decide
            have := pk_in this
            omega
          · cases h
theorem pone_next {s : ByteArray} {i v j : Nat} {nt : List UInt8} (h : pone s i nt = .ok (v, j)) : i < j ∧ j ≤ s.size := by
  unfold pone at h
  split at h
  · have := pesc_next h
    omega
  · split at h
    · rename_i h1
      injection h with h; injection h with h2 h3
      have : pk s i ≠ 0 := by
        intro h0
        rw [h0] at h1
        simp at h1
      have := pk_in this
      omega
    · cases h
theorem pitem_next {s : ByteArray} {i k : Nat} {m : Nat → Bool} (h : pitem s i = .ok (m, k)) : i < k ∧ k ≤ s.size := by
  unfold pitem at h
  split at h
  · rename_i m' hm
    injection h with h; injection h with h2 h3
    unfold psets at hm
    split at hm
    · rename_i h92
      have : pk s (i + 1) ≠ 0 := by
        intro h0
        rw [h0] at hm
        simp at hm
      have := pk_in this
      omega
    · cases hm
  · split at h
    · cases h
    · rename_i f j hj
      have h1 := pone_next hj
      split at h
      · split at h
        · cases h
        · rename_i l q hl
          have h2 := pone_next hl
          split at h
          · cases h
          · injection h with h; injection h with h3 h4
            omega
      · injection h with h; injection h with h3 h4
        omega
theorem pit_more (s : ByteArray) : ∀ n j m, j ≤ s.size → s.size + 1 - j ≤ n → pit s n j m = pit s (n + 1) j m := by
  intro n
  induction n with
  | zero => intro j m h1 h2; omega
  | succ n ih =>
    intro j m h1 h2
    rw [pit]
    conv => rhs; rw [pit]
    split
    · rfl
    · split
      · rfl
      · rename_i m' k hk
        have := pitem_next hk
        exact ih k _ (by omega) (by omega)
/-- .. with as much time as it takes. -/
def pitF (s : ByteArray) (j : Nat) (m : Nat → Bool) : Except (Int × Nat) ((Nat → Bool) × Nat) := pit s (s.size + 1) j m
theorem pit_any (s : ByteArray) : ∀ d n j m, j ≤ s.size → s.size + 1 - j ≤ n → pit s n j m = pit s (n + d) j m := by
  intro d
  induction d with
  | zero => intro n j m _ _; rfl
  | succ d ih =>
    intro n j m h1 h2
    rw [ih n j m h1 h2, show n + (d + 1) = (n + d) + 1 by omega]
    exact pit_more s (n + d) j m h1 (by omega)
theorem pitF_end (s : ByteArray) (j : Nat) (m : Nat → Bool) (h : pk s j = 93) : pitF s j m = .ok (m, j + 1) := by
  unfold pitF pit
  rw [if_pos h]
theorem pitF_err (s : ByteArray) (j : Nat) (m : Nat → Bool) (h : ¬ pk s j = 93) {e : Int × Nat} (he : pitem s j = .error e) : pitF s j m = .error e := by
  unfold pitF pit
  rw [if_neg h, he]
theorem pitF_step (s : ByteArray) (j : Nat) (m : Nat → Bool) (h : ¬ pk s j = 93) {m' : Nat → Bool} {k : Nat} (he : pitem s j = .ok (m', k)) : pitF s j m = pitF s k (fun b => m b || m' b) := by
  have hk := pitem_next he
  unfold pitF
  conv => lhs; rw [pit]
  rw [if_neg h, he]
  dsimp only
  exact pit_any s 1 s.size k _ hk.2 (by omega)
/-- A class whose opening bracket stands at a place. -/
def pclass (s : ByteArray) (i : Nat) : Except (Int × Nat) ((Nat → Bool) × Nat) :=
  match pitem s (if pk s (i + 1) = 94 then i + 2 else i + 1) with
  | .error e => .error e
  | .ok (m, k) => match pitF s k m with
    | .error e => .error e
    | .ok (m2, l) => if bl (if pk s (i + 1) = 94 then fun b => !m2 b else m2) = true then .error (41, i) else .ok (if pk s (i + 1) = 94 then fun b => !m2 b else m2, l)
set_option maxRecDepth 100000 in
set_option maxHeartbeats 8000000 in
theorem class_any (B b : Nat) (s : ByteArray) (i opn : Nat) (nds : List Nd) (lg : Bool) (w : World) (h : IsP B b s i opn nds lg w) (hi : i < s.size) (hs : s.size < 1000000000000000) :
    Calls Try.prog 65 #[.pointer (some ⟨b, 0, none⟩)] w fun e w' => ClsRes B b s opn nds lg w (pclass s i) e w' := by
  have P0 : Hid (IsP B b s i opn nds lg (w.alloc (.cells #[.int .u64 0, .int .u64 0, .int .u64 0, .int .u64 0] 40))) := h.mono (bel_up _ _)
  have A0 : Hid _ := one_box w
  have F0 : Hid (FP B b w (w.alloc (.cells #[.int .u64 0, .int .u64 0, .int .u64 0, .int .u64 0] 40))) := FP.of (bel_up _ _) h.sz
  have HSZ : Hid _ := h.sz
  have HLE : Hid _ := h.le
  have HBL : Hid _ := h.lt
  have HS : Hid _ := hs
  have HI : Hid _ := hi
  obtain ⟨c0, c1, c2, c4, cf⟩ := P0.out.cells
  have hw := w64 i (by omega)
  have n3 : ¬ b = w.heap.size := by have := h.lt; omega
  clear h hs hi
  go_enter Try.func65, Try.ntmps65
  go_wp2_with fail
  have P1 : Hid _ := P0.out.at_ (i + 1)
  have A1 : Hid (AtC ((w.alloc (.cells #[.int .u64 0, .int .u64 0, .int .u64 0, .int .u64 0] 40)).setCell ⟨b, 1, none⟩ (.int .i64 ((i + 1 : Nat) : Int))) w.heap.size (fun _ => false)) := ⟨by rw [Below.heap_setCell _ _ _ _ (fun e => n3 e.symm)]; exact A0.out.h⟩
  have F1 : Hid _ := F0.out.trans (FP.set (w.alloc (.cells #[.int .u64 0, .int .u64 0, .int .u64 0, .int .u64 0] 40)) 1 (.int .i64 ((i + 1 : Nat) : Int)) HLE.out)
  have T := take_any B b s (i + 1) opn nds lg 94 _ P1.out HI.out HS.out
  refine T.mono ?_
  clear T
  rintro e w1 ⟨rfl, p1, f1⟩
  have A2 : Hid _ := A1.out.fp f1 (fun e => n3 e.symm)
  have F2 : Hid _ := F1.out.trans f1
  obtain ⟨j0, hj0⟩ : ∃ j0, (if pk s (i + 1) = 94 then i + 1 + 1 else i + 1) = j0 := ⟨_, rfl⟩
  rw [hj0] at p1
  have P2 : Hid _ := p1
  have HJ0 : Hid _ := hj0
  obtain ⟨hat, hhat⟩ : ∃ hat, (pk s (i + 1) == 94) = hat := ⟨_, rfl⟩
  rw [hhat]
  have HHAT : Hid _ := hhat
  have HJ0L : Hid (j0 ≤ s.size) := by
    rw [← hj0]
    split
    · rename_i h94
      exact pk_in (s := s) (i := i + 1) (by rw [h94]; decide)
    · exact HI.out
  clear f1 p1 hj0 hhat c0 c1 c2 c4 cf P0 A0 F0 P1 A1 F1
  go_wp2_with fail
  have I1 := item_any B b s j0 opn nds lg _ P2.out HJ0L.out HS.out
  refine I1.mono ?_
  clear I1
  intro e w2 hr2
  unfold ClsRes at hr2
  have hcl : pclass s i = (match pitem s j0 with
    | .error e => .error e
    | .ok (m, k) => match pitF s k m with
      | .error e => .error e
      | .ok (m2, l) => if bl (if pk s (i + 1) = 94 then fun b => !m2 b else m2) = true then .error (41, i) else .ok (if pk s (i + 1) = 94 then fun b => !m2 b else m2, l)) := by
    unfold pclass
    rw [← HJ0.out]
  cases hit : pitem s j0 with
  | error cp =>
    obtain ⟨cc, pp⟩ := cp
    rw [hit] at hr2 hcl
    obtain ⟨rfl, f2⟩ := hr2
    have F3 : Hid _ := F2.out.trans f2
    have HR : Hid (pclass s i = .error (cc, pp)) := hcl
    clear f2 hit hcl
    go_wp2_with fail
    refine ⟨rfl, ?_⟩
    rw [HR.out]
    exact ⟨rfl, F3.out⟩
  | ok mk' =>
    obtain ⟨m, k⟩ := mk'
    rw [hit] at hr2 hcl
    obtain ⟨rfl, p2, f2, hk⟩ := hr2
    have F3 : Hid (FP B b w (w2.alloc (.cells #[.int .u64 (wd m 0 : Nat), .int .u64 (wd m 1 : Nat), .int .u64 (wd m 2 : Nat), .int .u64 (wd m 3 : Nat)] 40))) := (F2.out.trans f2).trans (FP.of (bel_up _ _) p2.sz)
    have A3 : Hid (AtC (w2.alloc (.cells #[.int .u64 (wd m 0 : Nat), .int .u64 (wd m 1 : Nat), .int .u64 (wd m 2 : Nat), .int .u64 (wd m 3 : Nat)] 40)) w.heap.size (fun _ => false)) := (A2.out.fp f2 (fun e => n3 e.symm)).mono (bel_up _ _)
    have C3 : Hid _ := AtC.new w2 m
    have P3 : Hid (IsP B b s k opn nds lg (w2.alloc (.cells #[.int .u64 (wd m 0 : Nat), .int .u64 (wd m 1 : Nat), .int .u64 (wd m 2 : Nat), .int .u64 (wd m 3 : Nat)] 40))) := p2.mono (bel_up _ _)
    have HK : Hid _ := hk
    have HCL : Hid _ := hcl
    have hq1 : w.heap.size < w2.heap.size := (A2.out.fp f2 (fun e => n3 e.symm)).lt
    have hq2 : b < w2.heap.size := p2.lt
    obtain ⟨q, hq⟩ : ∃ q, w2.heap.size = q := ⟨_, rfl⟩
    have C3' : Hid (AtC (w2.alloc (.cells #[.int .u64 (wd m 0 : Nat), .int .u64 (wd m 1 : Nat), .int .u64 (wd m 2 : Nat), .int .u64 (wd m 3 : Nat)] 40)) q m) := by rw [← hq]; exact C3.out
    clear f2 p2 hk hit hcl P2 A2 F2 C3
    go_wp2_with fail
    rw [hq] at hq1 hq2
    clear hq
    go_loopg [] (s.size + 1 - k) (fun gh wr => ∃ (j : Nat) (mm : Nat → Bool), gh = s.size + 1 - j ∧ j ≤ s.size ∧ pitF s j mm = pitF s k m ∧ AtC wr q mm ∧ AtC wr w.heap.size (fun _ => false) ∧ IsP B b s j opn nds lg wr ∧ FP B b w wr)
    case atStart => exact ⟨k, m, rfl, HK.out, rfl, C3'.out, A3.out, P3.out, F3.out⟩
    case round =>
      clear C3' A3 P3 F3
      obtain ⟨j, mm, hgm, hj, hpf, hc, ha, hp, hf⟩ := hrel
      have HGM : Hid _ := hgm
      have HJ : Hid _ := hj
      have HPF : Hid _ := hpf
      have HC : Hid _ := hc
      have HA : Hid _ := ha
      have HPP : Hid _ := hp
      have HFF : Hid _ := hf
      clear hgm hj hpf hc ha hp hf
      go_wp2_with fail
      have T := take_any B b s j opn nds lg 93 _ HPP.out HJ.out HS.out
      refine T.mono ?_
      clear T
      rintro e w3 ⟨rfl, p3, f3⟩
      have F4 : Hid _ := HFF.out.trans f3
      have C4 : Hid _ := HC.out.fp f3 (by omega)
      have A4 : Hid _ := HA.out.fp f3 (fun e => n3 e.symm)
      by_cases h93 : pk s j = 93
      · rw [if_pos h93] at p3
        rw [show (pk s j == 93) = true by simpa using h93]
        have P4 : Hid _ := p3
        have hend := pitF_end s j mm h93
        rw [HPF.out] at hend
        have HJ1 : Hid (j + 1 ≤ s.size) := pk_in (s := s) (i := j) (by rw [h93]; decide)
        have hcl := HCL.out
        rw [hend] at hcl
        dsimp only at hcl
        clear p3 f3 h93 hend HC HA HPP HFF
        have fin : ∀ (m2 : Nat → Bool), True := fun _ => trivial
        clear fin
        cases hat with
        | true =>
          have h94 : pk s (i + 1) = 94 := by have := HHAT.out; simpa using this
          rw [if_pos h94] at hcl
          have HCL2 : Hid _ := hcl
          clear hcl h94
          obtain ⟨d0, d1, d2, d3, df⟩ := C4.out.box
          go_wp2_with fail
          refine (rest_any mm _).mono ?_
          rintro e w4 ⟨rfl, hb4⟩
          have P5 : Hid _ := P4.out.mono hb4
          have C5 : Hid _ := C4.out.mono hb4
          have A5 : Hid _ := A4.out.mono hb4
          have F5 : Hid _ := F4.out.trans (FP.of hb4 P4.out.sz)
          clear hb4 d0 d1 d2 d3 df
          obtain ⟨m3, hm3⟩ : ∃ m3 : Nat → Bool, (fun b => !mm b) = m3 := ⟨_, rfl⟩
          rw [hm3] at HCL2 ⊢
          clear hm3
          have P6 : Hid _ := P5.out.aside4 q mm m3 C5.out
          have C6 : Hid _ := C5.out.set4 m3
          have F6 : Hid _ := fp_set4 F5.out q (.int .u64 (wd m3 0 : Nat)) (.int .u64 (wd m3 1 : Nat)) (.int .u64 (wd m3 2 : Nat)) (.int .u64 (wd m3 3 : Nat)) (by omega) HSZ.out
          have A6 : Hid (AtC ((((w4.setCell ⟨q, 0, none⟩ (.int .u64 (wd m3 0 : Nat))).setCell ⟨q, 1, none⟩ (.int .u64 (wd m3 1 : Nat))).setCell ⟨q, 2, none⟩ (.int .u64 (wd m3 2 : Nat))).setCell ⟨q, 3, none⟩ (.int .u64 (wd m3 3 : Nat))) w.heap.size (fun _ => false)) := by
            refine ⟨?_⟩
            have hne : w.heap.size ≠ q := by omega
            rw [Below.heap_setCell _ _ _ _ hne, Below.heap_setCell _ _ _ _ hne, Below.heap_setCell _ _ _ _ hne, Below.heap_setCell _ _ _ _ hne]
            exact A5.out.h
          obtain ⟨d0, d1, d2, d3, df⟩ := C5.out.box
          go_upto_region 9 with fail
          obtain ⟨wb, hwb⟩ : ∃ wb, (((w4.setCell ⟨q, 0, none⟩ (.int .u64 (wd m3 0 : Nat))).setCell ⟨q, 1, none⟩ (.int .u64 (wd m3 1 : Nat))).setCell ⟨q, 2, none⟩ (.int .u64 (wd m3 2 : Nat))).setCell ⟨q, 3, none⟩ (.int .u64 (wd m3 3 : Nat)) = wb := ⟨_, rfl⟩
          rw [hwb] at P6 C6 F6 A6 ⊢
          clear hwb d0 d1 d2 d3 df P5 C5 A5 F5
          obtain ⟨d0, d1, d2, d3, df⟩ := C6.out.box
          obtain ⟨e0, e1, e2, e3, ef⟩ := A6.out.box
          have hbq := cv_bare m3
          obtain ⟨dd, hdd⟩ : ∃ dd, bl m3 = dd := ⟨_, rfl⟩
          rw [hdd] at hbq HCL2
          clear hdd
          cases dd with
          | true =>
            go_wp2_with fail
            refine (giveUp_any 41 (i : Int) _).mono ?_
            rintro e w5 ⟨rfl, rfl⟩
            go_wp2_with fail
            refine ⟨rfl, ?_⟩
            rw [HCL2.out]
            exact ⟨rfl, F6.out⟩
          | false =>
            go_wp2_with fail
            rw [HCL2.out]
            refine bodyPost_ret (v := CV m3) ?_ rfl ⟨rfl, ?_, ?_, HJ1.out⟩
            · rw [results_cell1 rfl]; go_simp
            · exact P6.out.aside4 w.heap.size _ m3 A6.out
            · exact fp_set4 F6.out w.heap.size _ _ _ _ (Nat.le_refl _) HSZ.out
        | false =>
          have h94 : ¬ pk s (i + 1) = 94 := by have := HHAT.out; simpa using this
          rw [if_neg h94] at hcl
          have HCL2 : Hid _ := hcl
          clear hcl h94
          have P6 : Hid _ := P4.out
          have C6 : Hid _ := C4.out
          have A6 : Hid _ := A4.out
          have F6 : Hid _ := F4.out
          clear P4 C4 A4 F4
          obtain ⟨m3, hm3⟩ : ∃ m3 : Nat → Bool, mm = m3 := ⟨_, rfl⟩
          rw [hm3] at HCL2 C6
          clear hm3
          obtain ⟨d0, d1, d2, d3, df⟩ := C6.out.box
          obtain ⟨e0, e1, e2, e3, ef⟩ := A6.out.box
          have hbq := cv_bare m3
          obtain ⟨dd, hdd⟩ : ∃ dd, bl m3 = dd := ⟨_, rfl⟩
          rw [hdd] at hbq HCL2
          clear hdd
          cases dd with
          | true =>
            go_wp2_with fail
            refine (giveUp_any 41 (i : Int) _).mono ?_
            rintro e w5 ⟨rfl, rfl⟩
            go_wp2_with fail
            refine ⟨rfl, ?_⟩
            rw [HCL2.out]
            exact ⟨rfl, F6.out⟩
          | false =>
            go_wp2_with fail
            rw [HCL2.out]
            refine bodyPost_ret (v := CV m3) ?_ rfl ⟨rfl, ?_, ?_, HJ1.out⟩
            · rw [results_cell1 rfl]; go_simp
            · exact P6.out.aside4 w.heap.size _ m3 A6.out
            · exact fp_set4 F6.out w.heap.size _ _ _ _ (Nat.le_refl _) HSZ.out
      · rw [if_neg h93] at p3
        rw [show (pk s j == 93) = false by simpa using h93]
        have P4 : Hid _ := p3
        have H93 : Hid _ := h93
        clear p3 f3 h93 HC HA HPP HFF
        go_wp2_with fail
        refine wp_region_held_drew (S := fun _ => True) (by kernel_rfl) trivial (fun hHeld => ?_)
        refine wpAnyH_take (i := 1) (oi := { dst := _, op := _, type := _, pos := _, after := _, guard := _ }) (v := ?_) rfl (by kernel_rfl) (by kernel_rfl) (by kernel_rfl) (fun _ _ _ h => h) (Or.inl ⟨by rfl, ?_⟩) (by assumption) ?_
        rotate_left
        · intro W hSw
          (try dsimp only at hSw)
          go_simp
          (try with_reducible rfl)
        try simp only [Act.put, List.setIfInBounds_toArray, List.set_cons_zero, List.set_cons_succ]
        refine wpAnyH_ready (rs := [0, 2]) (by kernel_rfl) (by simp) ?_
        refine AllReadyH.cons (o := { dst := _, op := _, type := _, pos := _, after := _, guard := _ }) rfl (fun K hK => ?_) (AllReadyH.cons (o := { dst := _, op := _, type := _, pos := _, after := _, guard := _ }) rfl (fun K hK => ?_) (AllReadyH.nil))
        · obtain ⟨d0, d1, d2, d3, df⟩ := (⟨C4.out.h⟩ : AtC w3.drew q mm).box
          go_simp
          refine hK.out _ _ ?_ (fun hHeld => ?_)
          · exact trivial
          clear hK K d0 d1 d2 d3 df
          try simp only [Act.put, List.setIfInBounds_toArray, List.set_cons_zero, List.set_cons_succ]
          refine wpAnyH_ready (rs := [2]) (by kernel_rfl) (by simp) ?_
          refine AllReadyH.cons (o := { dst := _, op := _, type := _, pos := _, after := _, guard := _ }) rfl (fun K hK => ?_) AllReadyH.nil
          go_simp
          have I2 := item_any B b s j opn nds lg _ P4.out.drew HJ.out HS.out
          refine I2.mono ?_
          clear I2
          intro e w4 hr4
          unfold ClsRes at hr4
          cases hit2 : pitem s j with
          | error cp =>
            obtain ⟨cc, pp⟩ := cp
            rw [hit2] at hr4
            obtain ⟨rfl, f4⟩ := hr4
            have F5 : Hid _ := (F4.out.trans FP.dr).trans f4
            have hcl := HCL.out
            have he := pitF_err s j mm H93.out hit2
            rw [HPF.out] at he
            rw [he] at hcl
            have HR : Hid (pclass s i = .error (cc, pp)) := hcl
            clear f4 hit2 hcl he
            go_wp2_with fail
            refine ⟨rfl, ?_⟩
            rw [HR.out]
            exact ⟨rfl, F5.out⟩
          | ok mk2 =>
            obtain ⟨m', k'⟩ := mk2
            rw [hit2] at hr4
            obtain ⟨rfl, p4, f4, hk4⟩ := hr4
            have F5 : Hid _ := (F4.out.trans FP.dr).trans f4
            have C5 : Hid _ := (⟨C4.out.h⟩ : AtC w3.drew q mm).fp f4 (by omega)
            have A5 : Hid _ := (⟨A4.out.h⟩ : AtC w3.drew w.heap.size (fun _ => false)).fp f4 (fun e => n3 e.symm)
            have P5 : Hid _ := p4
            have HK4 : Hid _ := hk4
            have HIT : Hid _ := hit2
            have HNX : Hid _ := pitem_next hit2
            clear p4 f4 hk4 hit2
            go_wp2_with fail
            refine hK.out _ _ ?_ (fun hHeld => ?_)
            · exact trivial
            clear hK K
            try simp only [Act.put, List.setIfInBounds_toArray, List.set_cons_zero, List.set_cons_succ]
            refine wpAnyH_ready (rs := [3]) (by kernel_rfl) (by simp) ?_
            refine AllReadyH.cons (o := { dst := _, op := _, type := _, pos := _, after := _, guard := _ }) rfl (fun K hK => ?_) AllReadyH.nil
            go_simp
            refine (join_any mm m' _).mono ?_
            rintro e w5 ⟨rfl, hb5⟩
            have P6 : Hid _ := P5.out.mono hb5
            have C6 : Hid _ := C5.out.mono hb5
            have A6 : Hid _ := A5.out.mono hb5
            have F6 : Hid _ := F5.out.trans (FP.of hb5 P5.out.sz)
            clear hb5
            go_wp2_with fail
            refine hK.out _ _ ?_ (fun hHeld => ?_)
            · exact trivial
            clear hK K
            try simp only [Act.put, List.setIfInBounds_toArray, List.set_cons_zero, List.set_cons_succ]
            obtain ⟨d0, d1, d2, d3, df⟩ := C6.out.box
            obtain ⟨m3, hm3⟩ : ∃ m3 : Nat → Bool, (fun b => mm b || m' b) = m3 := ⟨_, rfl⟩
            rw [hm3]
            refine wpAnyH_ready (rs := [4]) (by kernel_rfl) (by simp) ?_
            refine AllReadyH.cons (o := { dst := _, op := _, type := _, pos := _, after := _, guard := _ }) rfl (fun K hK => ?_) AllReadyH.nil
            go_simp
            refine hK.out _ _ ?_ (fun hHeld => ?_)
            · exact trivial
            clear hK K
            try simp only [Act.put, List.setIfInBounds_toArray, List.set_cons_zero, List.set_cons_succ]
            refine wpAnyH_done (by kernel_rfl) ?_ _
            clear hHeld
            go_wp2_with fail
            go_roundg (s.size + 1 - k')
            case measure => have := HGM.out; have := HNX.out; have := HK4.out; omega
            case rel =>
              refine ⟨k', m3, rfl, HK4.out, ?_, C6.out.set4 m3, ?_, P6.out.aside4 q mm m3 C6.out, fp_set4 F6.out q _ _ _ _ (by omega) HSZ.out⟩
              · rw [← HPF.out, pitF_step s j mm H93.out HIT.out, hm3]
              · refine ⟨?_⟩
                have hne : w.heap.size ≠ q := by omega
                rw [Below.heap_setCell _ _ _ _ hne, Below.heap_setCell _ _ _ _ hne, Below.heap_setCell _ _ _ _ hne, Below.heap_setCell _ _ _ _ hne]
                exact A6.out.h
        · go_simp
          have I2 := item_any B b s j opn nds lg _ P4.out.drew HJ.out HS.out
          refine I2.mono ?_
          clear I2
          intro e w4 hr4
          unfold ClsRes at hr4
          cases hit2 : pitem s j with
          | error cp =>
            obtain ⟨cc, pp⟩ := cp
            rw [hit2] at hr4
            obtain ⟨rfl, f4⟩ := hr4
            have F5 : Hid _ := (F4.out.trans FP.dr).trans f4
            have hcl := HCL.out
            have he := pitF_err s j mm H93.out hit2
            rw [HPF.out] at he
            rw [he] at hcl
            have HR : Hid (pclass s i = .error (cc, pp)) := hcl
            clear f4 hit2 hcl he
            go_wp2_with fail
            refine ⟨rfl, ?_⟩
            rw [HR.out]
            exact ⟨rfl, F5.out⟩
          | ok mk2 =>
            obtain ⟨m', k'⟩ := mk2
            rw [hit2] at hr4
            obtain ⟨rfl, p4, f4, hk4⟩ := hr4
            have F5 : Hid _ := (F4.out.trans FP.dr).trans f4
            have C5 : Hid _ := (⟨C4.out.h⟩ : AtC w3.drew q mm).fp f4 (by omega)
            have A5 : Hid _ := (⟨A4.out.h⟩ : AtC w3.drew w.heap.size (fun _ => false)).fp f4 (fun e => n3 e.symm)
            have P5 : Hid _ := p4
            have HK4 : Hid _ := hk4
            have HIT : Hid _ := hit2
            have HNX : Hid _ := pitem_next hit2
            clear p4 f4 hk4 hit2
            go_wp2_with fail
            refine hK.out _ _ ?_ (fun hHeld => ?_)
            · exact trivial
            clear hK K
            try simp only [Act.put, List.setIfInBounds_toArray, List.set_cons_zero, List.set_cons_succ]
            refine wpAnyH_ready (rs := [0]) (by kernel_rfl) (by simp) ?_
            refine AllReadyH.cons (o := { dst := _, op := _, type := _, pos := _, after := _, guard := _ }) rfl (fun K hK => ?_) AllReadyH.nil
            obtain ⟨d0, d1, d2, d3, df⟩ := C5.out.box
            go_simp
            refine hK.out _ _ ?_ (fun hHeld => ?_)
            · exact trivial
            clear hK K d0 d1 d2 d3 df
            try simp only [Act.put, List.setIfInBounds_toArray, List.set_cons_zero, List.set_cons_succ]
            refine wpAnyH_ready (rs := [3]) (by kernel_rfl) (by simp) ?_
            refine AllReadyH.cons (o := { dst := _, op := _, type := _, pos := _, after := _, guard := _ }) rfl (fun K hK => ?_) AllReadyH.nil
            go_simp
            refine (join_any mm m' _).mono ?_
            rintro e w5 ⟨rfl, hb5⟩
            have P6 : Hid _ := P5.out.mono hb5
            have C6 : Hid _ := C5.out.mono hb5
            have A6 : Hid _ := A5.out.mono hb5
            have F6 : Hid _ := F5.out.trans (FP.of hb5 P5.out.sz)
            clear hb5
            go_wp2_with fail
            refine hK.out _ _ ?_ (fun hHeld => ?_)
            · exact trivial
            clear hK K
            try simp only [Act.put, List.setIfInBounds_toArray, List.set_cons_zero, List.set_cons_succ]
            obtain ⟨d0, d1, d2, d3, df⟩ := C6.out.box
            obtain ⟨m3, hm3⟩ : ∃ m3 : Nat → Bool, (fun b => mm b || m' b) = m3 := ⟨_, rfl⟩
            rw [hm3]
            refine wpAnyH_ready (rs := [4]) (by kernel_rfl) (by simp) ?_
            refine AllReadyH.cons (o := { dst := _, op := _, type := _, pos := _, after := _, guard := _ }) rfl (fun K hK => ?_) AllReadyH.nil
            go_simp
            refine hK.out _ _ ?_ (fun hHeld => ?_)
            · exact trivial
            clear hK K
            try simp only [Act.put, List.setIfInBounds_toArray, List.set_cons_zero, List.set_cons_succ]
            refine wpAnyH_done (by kernel_rfl) ?_ _
            clear hHeld
            go_wp2_with fail
            go_roundg (s.size + 1 - k')
            case measure => have := HGM.out; have := HNX.out; have := HK4.out; omega
            case rel =>
              refine ⟨k', m3, rfl, HK4.out, ?_, C6.out.set4 m3, ?_, P6.out.aside4 q mm m3 C6.out, fp_set4 F6.out q _ _ _ _ (by omega) HSZ.out⟩
              · rw [← HPF.out, pitF_step s j mm H93.out HIT.out, hm3]
              · refine ⟨?_⟩
                have hne : w.heap.size ≠ q := by omega
                rw [Below.heap_setCell _ _ _ _ hne, Below.heap_setCell _ _ _ _ hne, Below.heap_setCell _ _ _ _ hne, Below.heap_setCell _ _ _ _ hne]
                exact A6.out.h
end Go.Proofs.Ytkjljnneghnpiaa.Rg
