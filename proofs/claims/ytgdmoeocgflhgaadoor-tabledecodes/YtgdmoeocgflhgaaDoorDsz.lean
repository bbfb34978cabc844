import Derived.Test.YtgdmoeocgflhgaaDoorDhd
namespace Go.Proofs.YtgdmoeocgflhgaaDoor
open Go.RowKit Go.Maps

/-- What the sizes' reading answers. -/
def Sz (r : Nat) (s : ByteArray) (sa : Addr) (x : Except Nat (Nat × Nat × Nat × Nat)) (e : Ending) (w' : World) : Prop := match x with
  | .ok (n, tk, sy, q) => e = .returned (.tuple #[.int .i64 (n : Int), .int .i64 (tk : Int), .int .i64 (sy : Int), .nilIface]) ∧ Rd w' r s q ∧ q ≤ s.size
  | .error b => ∃ (x1 x2 x3 : Int) (ev : Value) (q : Nat), e = .returned (.tuple #[.int .i64 x1, .int .i64 x2, .int .i64 x3, ev]) ∧ Er w' sa ev b ∧ Rd w' r s q ∧ q ≤ s.size
theorem num_hi {s : ByteArray} {lo hi p v q : Nat} (h : num s lo hi p = .ok (v, q)) : v ≤ hi := by
  unfold num at h
  cases hc : cr 0 0 (s.data.toList.drop p) with
  | none => rw [hc] at h; cases h
  | some y =>
    obtain ⟨v', z⟩ := y
    rw [hc] at h
    dsimp only at h
    by_cases hl : lo ≤ v' ∧ v' ≤ hi
    · rw [if_pos hl] at h; cases h; exact hl.2
    · rw [if_neg hl] at h; cases h
theorem szs_le {s : ByteArray} {n tk sy p : Nat} (h : szs s = .ok (n, tk, sy, p)) : n ≤ 2048 ∧ tk ≤ 64 ∧ sy ≤ 128 := by
  unfold szs at h
  cases h0 : hed s with
  | some b => rw [h0] at h; cases h
  | none =>
    rw [h0] at h
    dsimp only at h
    cases h1 : num s 1 2048 2 with
    | error b => rw [h1] at h; cases h
    | ok y1 =>
      obtain ⟨n', p'⟩ := y1
      rw [h1] at h
      dsimp only at h
      cases h2 : num s 1 64 p' with
      | error b => rw [h2] at h; cases h
      | ok y2 =>
        obtain ⟨t', q'⟩ := y2
        rw [h2] at h
        dsimp only at h
        cases h3 : num s 0 128 q' with
        | error b => rw [h3] at h; cases h
        | ok y3 =>
          obtain ⟨z', u'⟩ := y3
          rw [h3] at h
          cases h
          exact ⟨num_hi h1, num_hi h2, num_hi h3⟩
theorem szs_a {s : ByteArray} {b : Nat} (h : hed s = some b) : szs s = .error b := by rw [szs, h]
theorem szs_b {s : ByteArray} {b : Nat} (h : hed s = none) (h1 : num s 1 2048 2 = .error b) : szs s = .error b := by simp only [szs, h, h1]
theorem szs_c {s : ByteArray} {b n p : Nat} (h : hed s = none) (h1 : num s 1 2048 2 = .ok (n, p)) (h2 : num s 1 64 p = .error b) : szs s = .error b := by simp only [szs, h, h1, h2]
theorem szs_d {s : ByteArray} {b n p tk q : Nat} (h : hed s = none) (h1 : num s 1 2048 2 = .ok (n, p)) (h2 : num s 1 64 p = .ok (tk, q)) (h3 : num s 0 128 q = .error b) : szs s = .error b := by simp only [szs, h, h1, h2, h3]
theorem szs_e {s : ByteArray} {n p tk q sy u : Nat} (h : hed s = none) (h1 : num s 1 2048 2 = .ok (n, p)) (h2 : num s 1 64 p = .ok (tk, q)) (h3 : num s 0 128 q = .ok (sy, u)) : szs s = .ok (n, tk, sy, u) := by simp only [szs, h, h1, h2, h3]
set_option maxRecDepth 100000 in
set_option maxHeartbeats 16000000 in
theorem sizes_any {r : Nat} {s : ByteArray} {sa : Addr} (hs : s.size ≤ 140737488355328) (w : World) (hr : Rd w r s 0) (hn : Sn w sa) (h0 : r ≠ 0) :
    Calls Tryd.prog 15 #[.pointer (some ⟨r, 0, none⟩)] w fun e w' => Sz r s sa (szs s) e w' ∧ Fr w w' r ∧ Sn w' sa := by
  have HS : Hid (s.size ≤ 140737488355328 ∧ r ≠ 0) := ⟨hs, h0⟩
  have HHD : Hid (Calls Tryd.prog 29 #[.pointer (some ⟨r, 0, none⟩)] w fun e w' => Hd r s sa (hed s) e w' ∧ Fr w w' r ∧ Sn w' sa) := head_any hs w hr hn h0
  clear hs hr hn h0
  obtain ⟨Z, hZ⟩ : ∃ Z, szs s = Z := ⟨_, rfl⟩
  have HZ : Hid (szs s = Z) := hZ
  rw [hZ]
  clear hZ
  obtain ⟨H, hH⟩ : ∃ H, hed s = H := ⟨_, rfl⟩
  have HH : Hid (hed s = H) := hH
  rw [hH] at HHD
  clear hH
  go_enter Tryd.func15, Tryd.ntmps15
  cases H with
  | some b =>
    go_wp2_with (go_at_call 29; refine Calls.mono HHD.out ?_; rintro e W2 ⟨⟨ev, q, rfl, her, hrd, hq⟩, hfr, hsn⟩; have H2 : Hid (Er W2 sa ev b ∧ Rd W2 r s q ∧ q ≤ s.size ∧ Fr w W2 r ∧ Sn W2 sa) := ⟨her, hrd, hq, hfr, hsn⟩; obtain ⟨et, evv, rfl⟩ := her.form; clear her hrd hq hfr hsn)
    refine bodyPost_ret (v := .tuple #[.int .i64 0, .int .i64 0, .int .i64 0, .iface et evv]) (by simp [results, Tryd.results15, go_sem]) rfl ⟨?_, H2.out.2.2.2.1, H2.out.2.2.2.2⟩
    rw [← HZ.out, szs_a HH.out]
    exact ⟨_, _, _, _, q, rfl, H2.out.1, H2.out.2.1, H2.out.2.2.1⟩
  | none =>
    go_upto_region 3 with (go_at_call 29; refine Calls.mono HHD.out ?_; rintro e W2 ⟨⟨rfl, hrd, hq⟩, hfr, hsn⟩; have H2 : Hid (Rd W2 r s 2 ∧ 2 ≤ s.size ∧ Fr w W2 r ∧ Sn W2 sa) := ⟨hrd, hq, hfr, hsn⟩; clear hrd hq hfr hsn)
    have HC1 : Hid (Calls Tryd.prog 30 #[.pointer (some ⟨r, 0, none⟩), .int .i64 1, .int .i64 2048] W2 fun e w' => Cr r s sa (fun v : Nat => .int .i64 (v : Int)) (.int .i64 0) (num s 1 2048 2) e w' ∧ Fr W2 w' r ∧ Sn w' sa) := count_any (lo := 1) (hi := 2048) HS.out.1 H2.out.2.1 (by omega) (by omega) W2 H2.out.1 H2.out.2.2.2 HS.out.2
    have HL1 : Hid (∀ v q, num s 1 2048 2 = .ok (v, q) → q ≤ s.size) := fun v q h => (num_le h H2.out.2.1).1
    obtain ⟨N1, hN1⟩ : ∃ N, num s 1 2048 2 = N := ⟨_, rfl⟩
    have HN1 : Hid (num s 1 2048 2 = N1) := hN1
    rw [hN1] at HC1 HL1
    clear hN1
    cases N1 with
    | error b =>
      go_wp2_with (go_at_call 30; refine Calls.mono HC1.out ?_; rintro e W3 ⟨⟨ev, q, rfl, her, hrd, hq⟩, hfr, hsn⟩; have H3 : Hid (Er W3 sa ev b ∧ Rd W3 r s q ∧ q ≤ s.size ∧ Fr W2 W3 r ∧ Sn W3 sa) := ⟨her, hrd, hq, hfr, hsn⟩; obtain ⟨et, evv, rfl⟩ := her.form; clear her hrd hq hfr hsn)
      refine bodyPost_ret (v := .tuple #[.int .i64 0, .int .i64 0, .int .i64 0, .iface et evv]) (by simp [results, Tryd.results15, go_sem]) rfl ⟨?_, H2.out.2.2.1.trans H3.out.2.2.2.1, H3.out.2.2.2.2⟩
      rw [← HZ.out, szs_b HH.out HN1.out]
      exact ⟨_, _, _, _, q, rfl, H3.out.1, H3.out.2.1, H3.out.2.2.1⟩
    | ok y =>
      obtain ⟨n, p⟩ := y
      go_upto_region 5 with (go_at_call 30; refine Calls.mono HC1.out ?_; rintro e W3 ⟨⟨rfl, hrd⟩, hfr, hsn⟩; have H3 : Hid (Rd W3 r s p ∧ Fr W2 W3 r ∧ Sn W3 sa) := ⟨hrd, hfr, hsn⟩; clear hrd hfr hsn)
      have HP : Hid (p ≤ s.size) := HL1.out n p rfl
      have HC2 : Hid (Calls Tryd.prog 30 #[.pointer (some ⟨r, 0, none⟩), .int .i64 1, .int .i64 64] W3 fun e w' => Cr r s sa (fun v : Nat => .int .i64 (v : Int)) (.int .i64 0) (num s 1 64 p) e w' ∧ Fr W3 w' r ∧ Sn w' sa) := count_any (lo := 1) (hi := 64) HS.out.1 HP.out (by omega) (by omega) W3 H3.out.1 H3.out.2.2 HS.out.2
      have HL2 : Hid (∀ v q, num s 1 64 p = .ok (v, q) → q ≤ s.size) := fun v q h => (num_le h HP.out).1
      obtain ⟨N2, hN2⟩ : ∃ N, num s 1 64 p = N := ⟨_, rfl⟩
      have HN2 : Hid (num s 1 64 p = N2) := hN2
      rw [hN2] at HC2 HL2
      clear hN2
      cases N2 with
      | error b =>
        go_wp2_with (go_at_call 30; refine Calls.mono HC2.out ?_; rintro e W4 ⟨⟨ev, q, rfl, her, hrd, hq⟩, hfr, hsn⟩; have H4 : Hid (Er W4 sa ev b ∧ Rd W4 r s q ∧ q ≤ s.size ∧ Fr W3 W4 r ∧ Sn W4 sa) := ⟨her, hrd, hq, hfr, hsn⟩; obtain ⟨et, evv, rfl⟩ := her.form; clear her hrd hq hfr hsn)
        refine bodyPost_ret (v := .tuple #[.int .i64 (n : Int), .int .i64 0, .int .i64 0, .iface et evv]) (by simp [results, Tryd.results15, go_sem]) rfl ⟨?_, (H2.out.2.2.1.trans H3.out.2.1).trans H4.out.2.2.2.1, H4.out.2.2.2.2⟩
        rw [← HZ.out, szs_c HH.out HN1.out HN2.out]
        exact ⟨_, _, _, _, q, rfl, H4.out.1, H4.out.2.1, H4.out.2.2.1⟩
      | ok y =>
        obtain ⟨tk, q⟩ := y
        go_upto_region 7 with (go_at_call 30; refine Calls.mono HC2.out ?_; rintro e W4 ⟨⟨rfl, hrd⟩, hfr, hsn⟩; have H4 : Hid (Rd W4 r s q ∧ Fr W3 W4 r ∧ Sn W4 sa) := ⟨hrd, hfr, hsn⟩; clear hrd hfr hsn)
        have HQ : Hid (q ≤ s.size) := HL2.out tk q rfl
        have HC3 : Hid (Calls Tryd.prog 30 #[.pointer (some ⟨r, 0, none⟩), .int .i64 0, .int .i64 128] W4 fun e w' => Cr r s sa (fun v : Nat => .int .i64 (v : Int)) (.int .i64 0) (num s 0 128 q) e w' ∧ Fr W4 w' r ∧ Sn w' sa) := count_any (lo := 0) (hi := 128) HS.out.1 HQ.out (by omega) (by omega) W4 H4.out.1 H4.out.2.2 HS.out.2
        have HL3 : Hid (∀ v u, num s 0 128 q = .ok (v, u) → u ≤ s.size) := fun v u h => (num_le h HQ.out).1
        obtain ⟨N3, hN3⟩ : ∃ N, num s 0 128 q = N := ⟨_, rfl⟩
        have HN3 : Hid (num s 0 128 q = N3) := hN3
        rw [hN3] at HC3 HL3
        clear hN3
        cases N3 with
        | error b =>
          go_wp2_with (go_at_call 30; refine Calls.mono HC3.out ?_; rintro e W5 ⟨⟨ev, u, rfl, her, hrd, hq⟩, hfr, hsn⟩; have H5 : Hid (Er W5 sa ev b ∧ Rd W5 r s u ∧ u ≤ s.size ∧ Fr W4 W5 r ∧ Sn W5 sa) := ⟨her, hrd, hq, hfr, hsn⟩; obtain ⟨et, evv, rfl⟩ := her.form; clear her hrd hq hfr hsn)
          refine bodyPost_ret (v := .tuple #[.int .i64 (n : Int), .int .i64 (tk : Int), .int .i64 0, .iface et evv]) (by simp [results, Tryd.results15, go_sem]) rfl ⟨?_, ((H2.out.2.2.1.trans H3.out.2.1).trans H4.out.2.1).trans H5.out.2.2.2.1, H5.out.2.2.2.2⟩
          rw [← HZ.out, szs_d HH.out HN1.out HN2.out HN3.out]
          exact ⟨_, _, _, _, u, rfl, H5.out.1, H5.out.2.1, H5.out.2.2.1⟩
        | ok y =>
          obtain ⟨sy, u⟩ := y
          have HU : Hid (u ≤ s.size) := HL3.out sy u rfl
          go_wp2_with (go_at_call 30; refine Calls.mono HC3.out ?_; rintro e W5 ⟨⟨rfl, hrd⟩, hfr, hsn⟩; have H5 : Hid (Rd W5 r s u ∧ Fr W4 W5 r ∧ Sn W5 sa) := ⟨hrd, hfr, hsn⟩; clear hrd hfr hsn)
          refine bodyPost_ret (v := .tuple #[.int .i64 (n : Int), .int .i64 (tk : Int), .int .i64 (sy : Int), .nilIface]) (by simp [results, Tryd.results15, go_sem]) rfl ⟨?_, ((H2.out.2.2.1.trans H3.out.2.1).trans H4.out.2.1).trans H5.out.2.1, H5.out.2.2⟩
          rw [← HZ.out, szs_e HH.out HN1.out HN2.out HN3.out]
          exact ⟨rfl, H5.out.1, HU.out⟩
end Go.Proofs.YtgdmoeocgflhgaaDoor
