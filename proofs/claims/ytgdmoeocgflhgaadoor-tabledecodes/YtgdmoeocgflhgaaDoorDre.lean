import Derived.Test.YtgdmoeocgflhgaaDoorDsz
import Derived.Test.YtgdmoeocgflhgaaDoorDrw
import Derived.Test.YtgdmoeocgflhgaaDoorDrg
namespace Go.Proofs.YtgdmoeocgflhgaaDoor
open Go.RowKit Go.Maps

/-- What decoding answers. -/
def De (sa : Addr) (x : Except Nat (List (List Ak) × List (List Int))) (e : Ending) (w' : World) : Prop := match x with
  | .ok (T, U) => ∃ O1 n1 B1 O2 n2 B2 A G, e = .returned (.tuple #[.agg #[.slice (some ⟨O1, 0, none⟩) n1 n1, .slice (some ⟨O2, 0, none⟩) n2 n2], .nilIface]) ∧ Mk af 52 2 49 B1 w' O1 n1 n1 A ∧ Mk gf 3 1 54 B2 w' O2 n2 n2 G ∧ A.map Prod.snd = T ∧ G.map Prod.snd = U
  | .error b => ∃ ev, e = .returned (.tuple #[.agg #[.slice none 0 0, .slice none 0 0], ev]) ∧ Er w' sa ev b
theorem dec_a {s : ByteArray} {b : Nat} (h : szs s = .error b) : dec s = .error b := by rw [dec, h]
theorem dec_b {s : ByteArray} {b n tk sy p : Nat} (h : szs s = .ok (n, tk, sy, p)) (h1 : rds (rds (actR n s) tk) n p = .error b) : dec s = .error b := by simp only [dec, h, h1]
theorem dec_c {s : ByteArray} {b n tk sy p q : Nat} {T : List (List Ak)} (h : szs s = .ok (n, tk, sy, p)) (h1 : rds (rds (actR n s) tk) n p = .ok (T, q)) (h2 : rds (rds (entR n s) sy) n q = .error b) : dec s = .error b := by simp only [dec, h, h1, h2]
theorem dec_d {s : ByteArray} {n tk sy p q u : Nat} {T : List (List Ak)} {U : List (List Int)} (h : szs s = .ok (n, tk, sy, p)) (h1 : rds (rds (actR n s) tk) n p = .ok (T, q)) (h2 : rds (rds (entR n s) sy) n q = .ok (U, u)) (h3 : u < s.size) : dec s = .error u := by simp only [dec, h, h1, h2, if_pos h3]
theorem dec_e {s : ByteArray} {n tk sy p q u : Nat} {T : List (List Ak)} {U : List (List Int)} (h : szs s = .ok (n, tk, sy, p)) (h1 : rds (rds (actR n s) tk) n p = .ok (T, q)) (h2 : rds (rds (entR n s) sy) n q = .ok (U, u)) (h3 : ¬ u < s.size) : dec s = .ok (T, U) := by simp only [dec, h, h1, h2, if_neg h3]
theorem ans25 {W : World} {b : Nat} {x y u v : Value} (hb : W.heap[b]? = some (.cells #[u, v] 25 (0, 0))) : ((W.setCell ⟨b, 0, none⟩ x).setCell ⟨b, 1, none⟩ y).heap[b]? = some (.cells #[x, y] 25 (0, 0)) := by
  rw [blk_set y (blk_set x hb)]
  rfl
theorem fr_bel {w W W' : World} {r : Nat} (h : Below w.heap.size w W) (hf : Fr W W' r) (hr : w.heap.size ≤ r) : Below w.heap.size w W' := h.grown hf h.size (fun j e => by cases e; exact hr)
set_option maxRecDepth 100000 in
set_option maxHeartbeats 16000000 in
theorem read_any {s : ByteArray} {sa : Addr} (hs : s.size ≤ 140737488355328) (w : World) (hn : Sn w sa) :
    Calls Tryd.prog 8 #[.string s] w fun e w' => De sa (dec s) e w' ∧ Below w.heap.size w w' ∧ Sn w' sa := by
  have HS : Hid (s.size ≤ 140737488355328) := hs
  have HN : Hid (Sn w sa) := hn
  have HSNB : Hid (∀ W, Below w.heap.size w W → Sn W sa) := fun W hW => hn.up hW
  obtain ⟨D, hD⟩ : ∃ D, dec s = D := ⟨_, rfl⟩
  have HD : Hid (dec s = D) := hD
  have HW0 : Hid (0 < w.heap.size) := cell_lt hn
  rw [hD]
  clear hD hs hn
  obtain ⟨W3, hW3⟩ : ∃ W3, W3 = ((w.alloc (.cells #[.slice none 0 0, .slice none 0 0] 25)).alloc (.cells #[.string s, .int .i64 0] 61)).alloc (.cells #[.pointer (some ⟨w.heap.size + 1, 0, none⟩)] 59) := ⟨_, rfl⟩
  have HB3 : Hid (Below w.heap.size w W3) := by rw [hW3]; exact below_trans (bel_up _ _) (below_trans (bel_up _ _) (bel_up _ _))
  have HF : Hid (W3.heap[w.heap.size]? = some (.cells #[.slice none 0 0, .slice none 0 0] 25 (0, 0)) ∧ Rd W3 (w.heap.size + 1) s 0 ∧ W3.heap[w.heap.size + 1 + 1]? = some (.cells #[.pointer (some ⟨w.heap.size + 1, 0, none⟩)] 59 (0, 0))) := by
    have e1 := heap_new w (.cells #[.slice none 0 0, .slice none 0 0] 25)
    have e2 := heap_new (w.alloc (.cells #[.slice none 0 0, .slice none 0 0] 25)) (.cells #[.string s, .int .i64 0] 61)
    have e3 := heap_new ((w.alloc (.cells #[.slice none 0 0, .slice none 0 0] 25)).alloc (.cells #[.string s, .int .i64 0] 61)) (.cells #[.pointer (some ⟨w.heap.size + 1, 0, none⟩)] 59)
    rw [World.size_alloc] at e2
    rw [World.size_alloc, World.size_alloc] at e3
    rw [hW3]
    exact ⟨((below_trans (bel_up _ _) (bel_up _ _)).block _ (lt_of_heap e1)).trans e1, ((bel_up _ _).block _ (lt_of_heap e2)).trans e2, e3⟩
  go_enter Tryd.func8, Tryd.ntmps8
  go_upto_region 2 with fail
  rw [← hW3]
  clear hW3
  obtain ⟨rb, hrb⟩ : ∃ x, w.heap.size = x := ⟨_, rfl⟩
  rw [hrb] at HF ⊢
  obtain ⟨r, hr⟩ : ∃ x, rb + 1 = x := ⟨_, rfl⟩
  rw [hr] at HF ⊢
  obtain ⟨c1, hc1⟩ : ∃ x, r + 1 = x := ⟨_, rfl⟩
  rw [hc1] at HF ⊢
  have HNUM : Hid (w.heap.size ≤ rb ∧ w.heap.size ≤ r ∧ r ≠ 0 ∧ rb ≠ 0) := by have := HW0.out; show _ ∧ _; omega
  clear hrb hr hc1
  have HSZ : Hid (Calls Tryd.prog 15 #[.pointer (some ⟨r, 0, none⟩)] W3 fun e w' => Sz r s sa (szs s) e w' ∧ Fr W3 w' r ∧ Sn w' sa) := sizes_any HS.out W3 HF.out.2.1 (HSNB.out _ HB3.out) HNUM.out.2.2.1
  obtain ⟨Z, hZ⟩ : ∃ Z, szs s = Z := ⟨_, rfl⟩
  have HZ : Hid (szs s = Z) := hZ
  rw [hZ] at HSZ
  clear hZ
  have p1 := rcell HF.out.2.2 0 _ rfl
  cases Z with
  | error b =>
    have HDE : Hid (D = .error b) := by show _ = _; rw [← HD.out]; exact dec_a HZ.out
    go_upto_region 4 with (go_at_call 15; refine Calls.mono HSZ.out ?_; rintro e W4 ⟨⟨x1, x2, x3, ev, q, rfl, her, hrd, hq⟩, hfr, hsn⟩; have H4 : Hid (Er W4 sa ev b ∧ Rd W4 r s q ∧ q ≤ s.size ∧ Fr W3 W4 r ∧ Sn W4 sa) := ⟨her, hrd, hq, hfr, hsn⟩; obtain ⟨et, evv, rfl⟩ := her.form; clear her hrd hq hfr hsn p1)
    obtain ⟨W5, hW5⟩ : ∃ W5, W5 = W4.alloc (.cells #[.int .i64 x1] 3) := ⟨_, rfl⟩
    rw [← hW5]
    have U5 : Hid (Below W4.heap.size W4 W5) := by rw [hW5]; exact bel_up _ _
    clear hW5
    have RX : Hid (W5.heap[rb]? = some (.cells #[.slice none 0 0, .slice none 0 0] 25 (0, 0))) := (U5.out.block _ (lt_of_heap (H4.out.2.2.2.1.box HF.out.1 HF.out.2.1 (by decide)))).trans (H4.out.2.2.2.1.box HF.out.1 HF.out.2.1 (by decide))
    have BX : Hid (Below w.heap.size w W5) := below_trans (fr_bel HB3.out H4.out.2.2.2.1 HNUM.out.2.1) U5.out
    have HE5 : Hid (Er W5 sa (.iface et evv) b) := H4.out.1.up U5.out
    have r0 := rcell RX.out 0 _ rfl
    have r1 := rcell RX.out 1 _ rfl
    have z0 : W5.frozen? ⟨rb, 0, none⟩ = false := Lib.frozen_of_heap RX.out 0
    have z1 : W5.frozen? ⟨rb, 1, none⟩ = false := Lib.frozen_of_heap RX.out 1
    go_wp2_with fail
    have hf := ans25 (x := .slice none 0 0) (y := .slice none 0 0) RX.out
    have k0 := rcell hf 0 _ rfl
    have k1 := rcell hf 1 _ rfl
    have hb1 := blk_set (k := 0) (.slice none 0 0) RX.out
    refine bodyPost_ret (v := .tuple #[.agg #[.slice none 0 0, .slice none 0 0], .iface et evv]) (by simp [results, Tryd.results8, go_sem, k0, k1]) rfl ⟨?_, (BX.out.setCell (p := ⟨rb, 0, none⟩) HNUM.out.1 _).setCell (p := ⟨rb, 1, none⟩) HNUM.out.1 _, ((HSNB.out _ BX.out).off HNUM.out.2.2.2).off HNUM.out.2.2.2⟩
    rw [HDE.out]
    exact ⟨_, rfl, (HE5.out.off RX.out (by decide) (by decide)).off hb1 (by decide) (by decide)⟩
  | ok y =>
    obtain ⟨n, tk, sy, p⟩ := y
    have HLE : Hid (n ≤ 2048 ∧ tk ≤ 64 ∧ sy ≤ 128) := szs_le HZ.out
    go_upto_region 5 with (go_at_call 15; refine Calls.mono HSZ.out ?_; rintro e W4 ⟨⟨rfl, hrd, hq⟩, hfr, hsn⟩; have H4 : Hid (Rd W4 r s p ∧ p ≤ s.size ∧ Fr W3 W4 r ∧ Sn W4 sa) := ⟨hrd, hq, hfr, hsn⟩; clear hrd hq hfr hsn p1)
    obtain ⟨W5, hW5⟩ : ∃ W5, W5 = W4.alloc (.cells #[.int .i64 (n : Int)] 3) := ⟨_, rfl⟩
    rw [← hW5]
    have U5 : Hid (Below W4.heap.size W4 W5) := by rw [hW5]; exact bel_up _ _
    have C5 : Hid (W5.heap[W4.heap.size]? = some (.cells #[.int .i64 (n : Int)] 3 (0, 0))) := by rw [hW5]; exact heap_new _ _
    clear hW5
    obtain ⟨c2, hc2⟩ : ∃ x, W4.heap.size = x := ⟨_, rfl⟩
    rw [hc2] at C5 ⊢
    clear hc2
    have BX : Hid (Below w.heap.size w W5) := below_trans (fr_bel HB3.out H4.out.2.2.1 HNUM.out.2.1) U5.out
    have RX : Hid (W5.heap[rb]? = some (.cells #[.slice none 0 0, .slice none 0 0] 25 (0, 0))) := (U5.out.block _ (lt_of_heap (H4.out.2.2.1.box HF.out.1 HF.out.2.1 (by decide)))).trans (H4.out.2.2.1.box HF.out.1 HF.out.2.1 (by decide))
    have C1 : Hid (W5.heap[c1]? = some (.cells #[.pointer (some ⟨r, 0, none⟩)] 59 (0, 0))) := (U5.out.block _ (lt_of_heap (H4.out.2.2.1.box HF.out.2.2 HF.out.2.1 (by decide)))).trans (H4.out.2.2.1.box HF.out.2.2 HF.out.2.1 (by decide))
    have R5 : Hid (Rd W5 r s p) := H4.out.1.up U5.out
    have E5 : Hid (Env W5 c1 c2 r n) := ⟨C1.out, C5.out⟩
    have HRA : Hid (Calls Tryd.prog 16 #[.int .i64 (n : Int), .int .i64 (tk : Int), .func (.func 17) #[] #[.pointer (some ⟨c1, 0, none⟩), .pointer (some ⟨c2, 0, none⟩)]] W5 fun e w' => Rr af 52 2 49 r s sa (rds (rds (actR n s) tk) n p) e w' ∧ Fr W5 w' r ∧ Sn w' sa) := rowsA_any HS.out H4.out.2.1 HLE.out.1 (by have := HLE.out; omega) W5 E5.out R5.out (HSNB.out _ BX.out) HNUM.out.2.2.1
    obtain ⟨X1, hX1⟩ : ∃ X, rds (rds (actR n s) tk) n p = X := ⟨_, rfl⟩
    have HX1 : Hid (rds (rds (actR n s) tk) n p = X1) := hX1
    rw [hX1] at HRA
    clear hX1
    have d1 := rcell E5.out.b 0 _ rfl
    cases X1 with
    | error b =>
      have HDE : Hid (D = .error b) := by show _ = _; rw [← HD.out]; exact dec_b HZ.out HX1.out
      go_upto_region 7 with (go_at_call 16; refine Calls.mono HRA.out ?_; rintro e W6 ⟨⟨ev, q, rfl, her, hrd, hq⟩, hfr, hsn⟩; have H6 : Hid (Er W6 sa ev b ∧ Rd W6 r s q ∧ q ≤ s.size ∧ Fr W5 W6 r ∧ Sn W6 sa) := ⟨her, hrd, hq, hfr, hsn⟩; obtain ⟨et, evv, rfl⟩ := her.form; clear her hrd hq hfr hsn d1)
      have RX6 : Hid (W6.heap[rb]? = some (.cells #[.slice none 0 0, .slice none 0 0] 25 (0, 0))) := H6.out.2.2.2.1.box RX.out R5.out (by decide)
      have BX6 : Hid (Below w.heap.size w W6) := fr_bel BX.out H6.out.2.2.2.1 HNUM.out.2.1
      clear RX BX
      have RX : Hid _ := RX6.out
      have BX : Hid _ := BX6.out
      have r0 := rcell RX.out 0 _ rfl
      have r1 := rcell RX.out 1 _ rfl
      have z0 : W6.frozen? ⟨rb, 0, none⟩ = false := Lib.frozen_of_heap RX.out 0
      have z1 : W6.frozen? ⟨rb, 1, none⟩ = false := Lib.frozen_of_heap RX.out 1
      go_wp2_with fail
      have hf := ans25 (x := .slice none 0 0) (y := .slice none 0 0) RX.out
      have k0 := rcell hf 0 _ rfl
      have k1 := rcell hf 1 _ rfl
      have hb1 := blk_set (k := 0) (.slice none 0 0) RX.out
      refine bodyPost_ret (v := .tuple #[.agg #[.slice none 0 0, .slice none 0 0], .iface et evv]) (by simp [results, Tryd.results8, go_sem, k0, k1]) rfl ⟨?_, (BX.out.setCell (p := ⟨rb, 0, none⟩) HNUM.out.1 _).setCell (p := ⟨rb, 1, none⟩) HNUM.out.1 _, ((HSNB.out _ BX.out).off HNUM.out.2.2.2).off HNUM.out.2.2.2⟩
      rw [HDE.out]
      exact ⟨_, rfl, (H6.out.1.off RX.out (by decide) (by decide)).off hb1 (by decide) (by decide)⟩
    | ok y =>
      obtain ⟨T, q⟩ := y
      go_upto_region 8 with (go_at_call 16; refine Calls.mono HRA.out ?_; rintro e W6 ⟨⟨O1, n1, B1, LA, rfl, hmk, hlt, hrd, hq⟩, hfr, hsn⟩; have H6 : Hid (Rd W6 r s q ∧ q ≤ s.size ∧ Fr W5 W6 r ∧ Sn W6 sa) := ⟨hrd, hq, hfr, hsn⟩; have HMA : Hid (Mk af 52 2 49 B1 W6 O1 n1 n1 LA) := hmk; have HLT : Hid (LA.map Prod.snd = T) := hlt; clear hmk hlt hrd hq hfr hsn d1)
      have RX6 : Hid (W6.heap[rb]? = some (.cells #[.slice none 0 0, .slice none 0 0] 25 (0, 0))) := H6.out.2.2.1.box RX.out R5.out (by decide)
      have BX6 : Hid (Below w.heap.size w W6) := fr_bel BX.out H6.out.2.2.1 HNUM.out.2.1
      have E6 : Hid (Env W6 c1 c2 r n) := E5.out.fr H6.out.2.2.1 R5.out
      clear RX BX
      have HRG : Hid (Calls Tryd.prog 19 #[.int .i64 (n : Int), .int .i64 (sy : Int), .func (.func 20) #[] #[.pointer (some ⟨c1, 0, none⟩), .pointer (some ⟨c2, 0, none⟩)]] W6 fun e w' => Rr gf 3 1 54 r s sa (rds (rds (entR n s) sy) n q) e w' ∧ Fr W6 w' r ∧ Sn w' sa) := rowsG_any HS.out H6.out.2.1 HLE.out.1 (by have := HLE.out; omega) W6 E6.out H6.out.1 (HSNB.out _ BX6.out) HNUM.out.2.2.1
      obtain ⟨X2, hX2⟩ : ∃ X, rds (rds (entR n s) sy) n q = X := ⟨_, rfl⟩
      have HX2 : Hid (rds (rds (entR n s) sy) n q = X2) := hX2
      rw [hX2] at HRG
      clear hX2
      have d1 := rcell E6.out.b 0 _ rfl
      cases X2 with
      | error b =>
        have HDE : Hid (D = .error b) := by show _ = _; rw [← HD.out]; exact dec_c HZ.out HX1.out HX2.out
        go_upto_region 10 with (go_at_call 19; refine Calls.mono HRG.out ?_; rintro e W7 ⟨⟨ev, q7, rfl, her, hrd, hq⟩, hfr, hsn⟩; have H7 : Hid (Er W7 sa ev b ∧ Rd W7 r s q7 ∧ q7 ≤ s.size ∧ Fr W6 W7 r ∧ Sn W7 sa) := ⟨her, hrd, hq, hfr, hsn⟩; obtain ⟨et, evv, rfl⟩ := her.form; clear her hrd hq hfr hsn d1)
        have RX : Hid (W7.heap[rb]? = some (.cells #[.slice none 0 0, .slice none 0 0] 25 (0, 0))) := H7.out.2.2.2.1.box RX6.out H6.out.1 (by decide)
        have BX : Hid (Below w.heap.size w W7) := fr_bel BX6.out H7.out.2.2.2.1 HNUM.out.2.1
        have r0 := rcell RX.out 0 _ rfl
        have r1 := rcell RX.out 1 _ rfl
        have z0 : W7.frozen? ⟨rb, 0, none⟩ = false := Lib.frozen_of_heap RX.out 0
        have z1 : W7.frozen? ⟨rb, 1, none⟩ = false := Lib.frozen_of_heap RX.out 1
        go_wp2_with fail
        have hf := ans25 (x := .slice none 0 0) (y := .slice none 0 0) RX.out
        have k0 := rcell hf 0 _ rfl
        have k1 := rcell hf 1 _ rfl
        have hb1 := blk_set (k := 0) (.slice none 0 0) RX.out
        refine bodyPost_ret (v := .tuple #[.agg #[.slice none 0 0, .slice none 0 0], .iface et evv]) (by simp [results, Tryd.results8, go_sem, k0, k1]) rfl ⟨?_, (BX.out.setCell (p := ⟨rb, 0, none⟩) HNUM.out.1 _).setCell (p := ⟨rb, 1, none⟩) HNUM.out.1 _, ((HSNB.out _ BX.out).off HNUM.out.2.2.2).off HNUM.out.2.2.2⟩
        rw [HDE.out]
        exact ⟨_, rfl, (H7.out.1.off RX.out (by decide) (by decide)).off hb1 (by decide) (by decide)⟩
      | ok y =>
        obtain ⟨U, u⟩ := y
        go_upto_region 11 with (go_at_call 19; refine Calls.mono HRG.out ?_; rintro e W7 ⟨⟨O2, n2, B2, LG, rfl, hmk, hlt, hrd, hq⟩, hfr, hsn⟩; have H7 : Hid (Rd W7 r s u ∧ u ≤ s.size ∧ Fr W6 W7 r ∧ Sn W7 sa) := ⟨hrd, hq, hfr, hsn⟩; have HMG : Hid (Mk gf 3 1 54 B2 W7 O2 n2 n2 LG) := hmk; have HLU : Hid (LG.map Prod.snd = U) := hlt; clear hmk hlt hrd hq hfr hsn d1)
        have RX : Hid (W7.heap[rb]? = some (.cells #[.slice none 0 0, .slice none 0 0] 25 (0, 0))) := H7.out.2.2.1.box RX6.out H6.out.1 (by decide)
        have BX : Hid (Below w.heap.size w W7) := fr_bel BX6.out H7.out.2.2.1 HNUM.out.2.1
        have E7 : Hid (Env W7 c1 c2 r n) := E6.out.fr H7.out.2.2.1 H6.out.1
        have HMA7 : Hid (Mk af 52 2 49 B1 W7 O1 n1 n1 LA) := HMA.out.fr H7.out.2.2.1 H6.out.1 (by decide) (by decide)
        have d1 := rcell E7.out.a 0 _ rfl
        have d2 := rcell H7.out.1 1 _ rfl
        by_cases hu : u < s.size
        · have HDE : Hid (D = .error u) := by show _ = _; rw [← HD.out]; exact dec_d HZ.out HX1.out HX2.out hu
          have f1 : decide ((u : Int) < (s.size : Int)) = true := by rw [decide_eq_true_eq]; omega
          have f2 : decide (u < s.size) = true := by rw [decide_eq_true_eq]; omega
          clear hu
          go_wp2_with (go_at_call 11; refine (broken_any u sa W7).mono ?_; rintro e W8 ⟨ev, rfl, her, hb8⟩; have U8 : Hid (Below W7.heap.size W7 W8) := hb8; have HE8 : Hid (Er W8 sa ev u) := her; obtain ⟨et, evv, rfl⟩ := her.form; clear her hb8; have RX8 : Hid (W8.heap[rb]? = some (.cells #[.slice none 0 0, .slice none 0 0] 25 (0, 0))) := (U8.out.block _ (lt_of_heap RX.out)).trans RX.out; have r0 := rcell RX8.out 0 _ rfl; have r1 := rcell RX8.out 1 _ rfl; have z0 : W8.frozen? ⟨rb, 0, none⟩ = false := Lib.frozen_of_heap RX8.out 0; have z1 : W8.frozen? ⟨rb, 1, none⟩ = false := Lib.frozen_of_heap RX8.out 1)
          have BX8 : Hid (Below w.heap.size w W8) := below_trans BX.out U8.out
          have hf := ans25 (x := .slice none 0 0) (y := .slice none 0 0) RX8.out
          have k0 := rcell hf 0 _ rfl
          have k1 := rcell hf 1 _ rfl
          have hb1 := blk_set (k := 0) (.slice none 0 0) RX8.out
          refine bodyPost_ret (v := .tuple #[.agg #[.slice none 0 0, .slice none 0 0], .iface et evv]) (by simp [results, Tryd.results8, go_sem, k0, k1]) rfl ⟨?_, (BX8.out.setCell (p := ⟨rb, 0, none⟩) HNUM.out.1 _).setCell (p := ⟨rb, 1, none⟩) HNUM.out.1 _, ((HSNB.out _ BX8.out).off HNUM.out.2.2.2).off HNUM.out.2.2.2⟩
          rw [HDE.out]
          exact ⟨_, rfl, (HE8.out.off RX8.out (by decide) (by decide)).off hb1 (by decide) (by decide)⟩
        · have HDE : Hid (D = .ok (T, U)) := by show _ = _; rw [← HD.out]; exact dec_e HZ.out HX1.out HX2.out hu
          have f1 : decide ((u : Int) < (s.size : Int)) = false := by rw [decide_eq_false_iff_not]; omega
          have f2 : decide (u < s.size) = false := by rw [decide_eq_false_iff_not]; omega
          have r0 := rcell RX.out 0 _ rfl
          have r1 := rcell RX.out 1 _ rfl
          have z0 : W7.frozen? ⟨rb, 0, none⟩ = false := Lib.frozen_of_heap RX.out 0
          have z1 : W7.frozen? ⟨rb, 1, none⟩ = false := Lib.frozen_of_heap RX.out 1
          clear hu
          go_wp2_with fail
          have hf := ans25 (x := .slice (some ⟨O1, 0, none⟩) n1 n1) (y := .slice (some ⟨O2, 0, none⟩) n2 n2) RX.out
          have k0 := rcell hf 0 _ rfl
          have k1 := rcell hf 1 _ rfl
          have hb1 := blk_set (k := 0) (.slice (some ⟨O1, 0, none⟩) n1 n1) RX.out
          refine bodyPost_ret (v := .tuple #[.agg #[.slice (some ⟨O1, 0, none⟩) n1 n1, .slice (some ⟨O2, 0, none⟩) n2 n2], .nilIface]) (by simp [results, Tryd.results8, go_sem, k0, k1]) rfl ⟨?_, (BX.out.setCell (p := ⟨rb, 0, none⟩) HNUM.out.1 _).setCell (p := ⟨rb, 1, none⟩) HNUM.out.1 _, ((HSNB.out _ BX.out).off HNUM.out.2.2.2).off HNUM.out.2.2.2⟩
          rw [HDE.out]
          exact ⟨O1, n1, B1, O2, n2, B2, LA, LG, rfl, (HMA7.out.offt RX.out (by decide) (by decide)).offt hb1 (by decide) (by decide), (HMG.out.offt RX.out (by decide) (by decide)).offt hb1 (by decide) (by decide), HLT.out, HLU.out⟩
end Go.Proofs.YtgdmoeocgflhgaaDoor
