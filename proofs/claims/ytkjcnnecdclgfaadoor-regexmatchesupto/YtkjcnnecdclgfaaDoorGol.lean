import Derived.Test.YtkjcnnecdclgfaaDoorGop
namespace Go.Proofs.YtkjcnnecdclgfaaDoor
open Go.RowKit Go.Shelf

theorem convN (L : List UInt8) (W : World) (n : Nat) (hn : n = L.length) : (convert 36 9 (.slice (some ⟨W.heap.size, 0, none⟩) n n)).run Tryd.prog (W.alloc (.cells (L.map fun x => Value.int .u8 (x.toNat : Int)).toArray 5)) = .ok (ST L) (W.alloc (.cells (L.map fun x => Value.int .u8 (x.toNat : Int)).toArray 5)) := by
  subst hn
  have := run_convert_bytes_arg (P := Tryd.prog) (W.alloc (.cells (L.map fun x => Value.int .u8 (x.toNat : Int)).toArray 5)) 36 5 Tryd.underlying36 Tryd.underlying5 W.heap.size 0 L.length L.length (L.map fun x => (x.toNat : Int)) (by simp) (fun i hi => by
    rw [Nat.zero_add, World.cell?_alloc_at _ _ _ _ (by simp)]
    simp [hi]) 9 Tryd.underlying9
  rw [this]
  have e : strOfNums (L.map fun x => (x.toNat : Int)) = ⟨L.toArray⟩ := by
    apply WideShapes.bytes_inj
    unfold strOfNums
    rw [List.map_map]
    conv => rhs; rw [← List.map_id L.toArray.toList]
    apply List.map_congr_left
    intro x _
    simp
  rw [e]
theorem conv1 (W : World) (x : UInt8) : (convert 36 9 (.slice (some ⟨W.heap.size, 0, none⟩) 1 1)).run Tryd.prog (W.alloc (.cells #[.int .u8 (x.toNat : Int)] 5)) = .ok (ST [x]) (W.alloc (.cells #[.int .u8 (x.toNat : Int)] 5)) := convN [x] W 1 rfl
theorem beyond_any (lp : Option Addr) (n cap : Nat) (w : World) : Calls Tryd.prog 7 #[.slice lp n cap] w fun e w' => e = .returned (.bool (decide (65536 < n))) ∧ w' = w := by
  go_enter Tryd.func7, Tryd.ntmps7
  go_wp2_with fail
  go_ret
  refine ⟨ret_bool ?_, rfl⟩
  rw [decide_eq_decide]
  omega

set_option maxRecDepth 100000 in
set_option maxHeartbeats 4000000 in
theorem opens_any (re : List Nd) (lp : Option Addr) (g o cap : Nat) (s more : ByteArray) (w : World) (h : Lst w lp g o cap re) (hD : Dbt w) (hs : s.size ≤ 140737488355328) (hm : more.size ≤ 140737488355328) :
    Calls Tryd.prog 4 #[.slice lp re.length cap, .string s, .string more] w fun e w' => e = .returned (.bool true) ∧ Below w.heap.size w w' := by
  obtain ⟨n, hn⟩ : ∃ n, re.length = n := ⟨_, rfl⟩
  have HN : Hid (re.length = n) := hn
  rw [hn]
  have HL : Hid (Lst w lp g o cap re) := h
  have HD : Hid (Dbt w) := hD
  have HS : Hid (s.size ≤ 140737488355328) := hs
  have HM : Hid (more.size ≤ 140737488355328) := hm
  clear h hD hs hm hn
  go_enter Tryd.func4, Tryd.ntmps4
  go_wp2_with fail
  refine (beyond_any lp n cap w).mono ?_
  rintro e w1 ⟨rfl, rfl⟩
  by_cases hb : 65536 < n
  · rw [decide_eq_true hb]
    clear hb
    go_wp2_with fail
    go_ret
    exact ⟨rfl, Below.refl _ _⟩
  rw [decide_eq_false hb]
  have HN2 : Hid (n ≤ 65536) := by show n ≤ 65536; omega
  clear hb
  go_wp2_with fail
  refine (awake_any w1 HD.out).mono ?_
  rintro e w2 ⟨rfl, hb2⟩
  have HB2 : Hid (Below w1.heap.size w1 w2) := hb2
  clear hb2
  have CB : Hid (∀ (x : ByteArray) (W : World), Below w1.heap.size w1 W → x.size < 1000000000000000 → Calls Tryd.prog 11 #[.slice lp n cap, .string x] W fun e w' => e = .returned (.tuple #[.bool ((RD re x.data.toList).1 || Opn re x.data.toList), .bool (Opn re x.data.toList)]) ∧ Below W.heap.size W w') := by
    intro x W hb hx
    have c := begins_any re x lp g o cap W (HL.out.up hb) (by have := HN.out; have := HN2.out; omega) (HD.out.up hb) hx
    rw [HN.out] at c
    exact c
  have CM : Hid (∀ (x : ByteArray) (W : World), Below w1.heap.size w1 W → x.size < 1000000000000000 → Calls Tryd.prog 10 #[.slice lp n cap, .string x] W fun e w' => e = .returned (.bool (RD re x.data.toList).1) ∧ Below W.heap.size W w') := by
    intro x W hb hx
    have c := matches_any re x lp g o cap W (HL.out.up hb) (by have := HN.out; have := HN2.out; omega) (HD.out.up hb) hx
    rw [HN.out] at c
    exact c
  go_wp2_with fail
  refine Calls.mono (CB.out s w2 HB2.out (by have := HS.out; omega)) ?_
  rintro e w3 ⟨rfl, hb3⟩
  obtain ⟨op, hop⟩ : ∃ op, Opn re s.data.toList = op := ⟨_, rfl⟩
  obtain ⟨wh, hwh⟩ : ∃ wh, (RD re s.data.toList).1 = wh := ⟨_, rfl⟩
  rw [hop, hwh]
  obtain ⟨bg, hbg⟩ : ∃ bg, (wh || op) = bg := ⟨_, rfl⟩
  rw [hbg]
  have HBG : Hid ((wh || op) = bg) := hbg
  have HOP : Hid (Opn re s.data.toList = op) := hop
  have HWH : Hid ((RD re s.data.toList).1 = wh) := hwh
  have HB3 : Hid (Below w1.heap.size w1 w3) := below_trans HB2.out hb3
  clear hb3 hop hwh hbg
  go_upto_region 6 with fail
  go_cut [31] from 24 to 31 (fun v wd => v = .bool false ∧ Below w1.heap.size w1 wd)
  case first =>
    cases op
    · go_wp2_with fail
      refine Calls.mono (CM.out s w3 HB3.out (by have := HS.out; omega)) ?_
      rintro e w4 ⟨rfl, hb4⟩
      rw [HWH.out]
      have HB4 : Hid (Below w1.heap.size w1 w4) := below_trans HB3.out hb4
      clear hb4
      go_wp2_with fail
      go_meet
      exact ⟨by rw [← HBG.out]; cases wh <;> rfl, HB4.out⟩
    · go_wp2_with fail
      go_meet
      exact ⟨by rw [← HBG.out]; cases wh <;> rfl, HB3.out⟩
  case rest =>
    obtain ⟨rfl, hb4⟩ := hcut
    have HB4 : Hid (Below w1.heap.size w1 wc) := hb4
    clear hb4
    go_wp2_with fail
    go_loopg [9, 10] 256 (fun gh sv bv wr => ∃ (k : Nat) (x : Bool), sv = .bool x ∧ bv = .int .i64 (k : Int) ∧ k ≤ 256 ∧ gh = 256 - k ∧ x = (List.range k).any (fun c => (RD re (s.data.toList ++ [UInt8.ofNat c])).1 || Opn re (s.data.toList ++ [UInt8.ofNat c])) ∧ Below w1.heap.size w1 wr)
    case atStart => exact ⟨0, false, rfl, rfl, by omega, rfl, rfl, HB4.out⟩
    case round =>
      obtain ⟨k, x, rfl, rfl, hk, hg, hx, hbel⟩ := hrel
      have HG : Hid (gk = 256 - k) := hg
      have HX : Hid (x = (List.range k).any (fun c => (RD re (s.data.toList ++ [UInt8.ofNat c])).1 || Opn re (s.data.toList ++ [UInt8.ofNat c]))) := hx
      have HB : Hid (Below w1.heap.size w1 wr) := hbel
      have HK : Hid (k ≤ 256) := hk
      clear hg hx hbel hk
      by_cases hk : k < 256
      · have hkI : decide ((k : Int) < 256) = true := by rw [decide_eq_true_eq]; omega
        have hw8 : IntKind.u8.wrap (k : Int) = (k : Int) := by simp [IntKind.wrap, IntKind.bits, IntKind.signed]; omega
        have HK2 : Hid (k < 256) := hk
        obtain ⟨x8, hx8⟩ : ∃ x8, UInt8.ofNat k = x8 := ⟨_, rfl⟩
        have hx8n : x8.toNat = k := by rw [← hx8, UInt8.toNat_ofNat']; omega
        have HX8 : Hid (UInt8.ofNat k = x8) := hx8
        have cv := conv1 wr x8
        rw [hx8n] at cv
        have hss : ¬ 9223372036854775807 < s.size + (ByteArray.mk #[x8]).size := by
          have := HS.out
          have e : (ByteArray.mk #[x8]).size = 1 := rfl
          omega
        have hss2 : ¬ 9223372036854775807 < s.size + 1 := by have := HS.out; omega
        have happ : (s ++ ByteArray.mk #[x8]).data.toList = s.data.toList ++ [UInt8.ofNat k] := by rw [hx8]; simp
        have hasz : (s ++ ByteArray.mk #[x8]).size = s.size + 1 := by rw [ByteArray.size_append]; rfl
        have HAP : Hid ((s ++ ByteArray.mk #[x8]).data.toList = s.data.toList ++ [UInt8.ofNat k]) := happ
        have HAS : Hid ((s ++ ByteArray.mk #[x8]).size = s.size + 1) := hasz
        clear hk hx8 hx8n happ hasz
        go_wp2_with fail
        refine Calls.mono (CB.out (s ++ ByteArray.mk #[x8]) _ (below_trans HB.out (bel_up _ _)) (by rw [HAS.out]; have := HS.out; omega)) ?_
        rintro e w5 ⟨rfl, hb5⟩
        rw [HAP.out]
        obtain ⟨y, hy⟩ : ∃ y, ((RD re (s.data.toList ++ [UInt8.ofNat k])).1 || Opn re (s.data.toList ++ [UInt8.ofNat k])) = y := ⟨_, rfl⟩
        rw [hy]
        have HY : Hid (((RD re (s.data.toList ++ [UInt8.ofNat k])).1 || Opn re (s.data.toList ++ [UInt8.ofNat k])) = y) := hy
        have HB5 : Hid (Below w1.heap.size w1 w5) := below_trans (below_trans HB.out (bel_up _ _)) hb5
        have HXY : Hid ((x || y) = (List.range (k + 1)).any (fun c => (RD re (s.data.toList ++ [UInt8.ofNat c])).1 || Opn re (s.data.toList ++ [UInt8.ofNat c]))) := by
          show (x || y) = _
          rw [List.range_succ, List.any_append, ← HX.out, List.any_cons, List.any_nil, HY.out, Bool.or_false]
        clear hb5 hy cv hss hss2
        cases x
        · go_wp2_with fail
          go_roundg (256 - (k + 1))
          case measure => have := HG.out; have := HK2.out; omega
          case rel => exact ⟨k + 1, y, rfl, by rw [w64 k (by have := HK2.out; omega)], HK2.out, rfl, by rw [← HXY.out]; rfl, HB5.out⟩
        · go_wp2_with fail
          go_roundg (256 - (k + 1))
          case measure => have := HG.out; have := HK2.out; omega
          case rel => exact ⟨k + 1, true, rfl, by rw [w64 k (by have := HK2.out; omega)], HK2.out, rfl, by rw [← HXY.out]; rfl, HB5.out⟩
      · obtain rfl : k = 256 := by have := HK.out; omega
        clear hk
        have hxo : x = op := by rw [HX.out, ← HOP.out, opn_some]
        subst hxo
        have hss : ¬ 9223372036854775807 < s.size + more.size := by have := HS.out; have := HM.out; omega
        have happ : (s ++ more).data.toList = s.data.toList ++ more.data.toList := by simp
        have hasz : (s ++ more).size = s.size + more.size := by rw [ByteArray.size_append]
        have HAP : Hid ((s ++ more).data.toList = s.data.toList ++ more.data.toList) := happ
        have HAS : Hid ((s ++ more).size = s.size + more.size) := hasz
        clear happ hasz
        have hxx : (x != x) = false := by cases x <;> rfl
        go_wp2_with fail
        refine Calls.mono (CM.out (s ++ more) _ HB.out (by rw [HAS.out]; have := HS.out; have := HM.out; omega)) ?_
        rintro e w5 ⟨rfl, hb5⟩
        rw [HAP.out]
        have HB5 : Hid (Below w1.heap.size w1 w5) := below_trans HB.out hb5
        obtain ⟨y, hy⟩ : ∃ y, (RD re (s.data.toList ++ more.data.toList)).1 = y := ⟨_, rfl⟩
        rw [hy]
        have HY : Hid ((RD re (s.data.toList ++ more.data.toList)).1 = y) := hy
        clear hb5 hy hss hxx
        cases y
        · go_wp2_with fail
          (try simp only [Exit.inBlock, Exit.then])
          go_ret
          exact ⟨rfl, HB5.out⟩
        · have hbg : bg = true := by
            rw [← HBG.out]
            cases hm : more.data.toList with
            | nil =>
              have h1 := HY.out
              rw [hm, List.append_nil, HWH.out] at h1
              rw [h1]; rfl
            | cons c r =>
              have h1 := HY.out
              rw [hm] at h1
              have h2 := opn_more re s.data.toList c r h1
              rw [HOP.out] at h2
              rw [h2, Bool.or_true]
          subst hbg
          cases x
          · have hmo : more = ⟨#[]⟩ := by
              cases hm : more.data.toList with
              | nil =>
                have h1 : more.data = #[] := by rw [← Array.toArray_toList (xs := more.data), hm]
                cases more
                simp only at h1
                rw [h1]
              | cons c r =>
                have h1 := HY.out
                rw [hm] at h1
                have h2 := opn_more re s.data.toList c r h1
                rw [HOP.out] at h2
                cases h2
            subst hmo
            go_wp2_with fail
            (try simp only [Exit.inBlock, Exit.then])
            go_ret
            exact ⟨rfl, HB5.out⟩
          · go_wp2_with fail
            (try simp only [Exit.inBlock, Exit.then])
            go_ret
            exact ⟨rfl, HB5.out⟩
end Go.Proofs.YtkjcnnecdclgfaaDoor
