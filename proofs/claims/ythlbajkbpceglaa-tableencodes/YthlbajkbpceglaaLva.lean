import Derived.Test.YthlbajkbpceglaaTbp
import Derived.Test.YthlbajkbpceglaaTbt
import Derived.Test.YthlbajkbpceglaaTbv
namespace Go.Proofs.Ythlbajkbpceglaa
open Go.RowKit Go.Maps

theorem shp_snd {α : Type} {L L' : List (Value × List α)} (h : L'.map Prod.snd = L.map Prod.snd) : ∀ i, (L'.getD i nrd).2.length = (L.getD i nrd).2.length := fun i => by rw [snd_same h i]
theorem Ts.shp {A' C : List (Value × List Ak)} {G' D : List (Value × List Int)} (h : Ts A' G') (hC : Go.Proofs.Ythlbajkbpceglaa.shp C = Go.Proofs.Ythlbajkbpceglaa.shp A') (hD : Go.Proofs.Ythlbajkbpceglaa.shp D = Go.Proofs.Ythlbajkbpceglaa.shp G') : Ts C D :=
  ⟨by rw [shp_len hC]; exact h.a, by rw [shp_len hD]; exact h.g, shp_all (p := fun n => n * 16 + 4096 ≤ 140737488355328) hC h.ra, shp_all (p := fun n => n * 8 + 4096 ≤ 140737488355328) hD h.rg⟩
set_option maxRecDepth 100000 in
set_option maxHeartbeats 16000000 in
theorem tableValids_any {v0 v1 : Value} {A : List (Value × List Ak)} {G : List (Value × List Int)} (s : Int) (w : World) (h : Tb w v0 v1 A G) (hs : Ts A G) :
    Calls Try.prog 3 #[.agg #[v0, v1], .int .i64 s] w fun e w' => e = .returned (.bool true) ∧ Below w.heap.size w w' := by
  have HS : Hid (Ts A G) := hs
  have HT : Hid (Tb w v0 v1 A G) := h
  obtain ⟨W1, hW1⟩ : ∃ W1, W1 = w.alloc (.cells #[v0, v1] 25) := ⟨_, rfl⟩
  have HB1 : Hid (Below w.heap.size w W1) := by rw [hW1]; exact bel_up _ _
  have HX : Hid (W1.heap[w.heap.size]? = some (.cells #[v0, v1] 25 (0, 0))) := by rw [hW1]; exact heap_new _ _
  have HT1 : Hid (Tb W1 v0 v1 A G) := HT.out.up HB1.out
  obtain ⟨a0, c0, a1, c1, rfl, rfl⟩ := h.form
  clear h hs
  go_enter Try.func3, Try.ntmps3
  go_upto_region 1 with fail
  rw [← hW1]
  clear hW1
  have x0 := rcell HX.out 0 _ rfl
  have x1 := rcell HX.out 1 _ rfl
  obtain ⟨tb, htb⟩ : ∃ tb, w.heap.size = tb := ⟨_, rfl⟩
  rw [htb] at HX x0 x1 ⊢
  have HTB : Hid (tb < W1.heap.size) := lt_of_heap HX.out
  clear htb
  go_upto_region 2 with (go_at_call 5; refine (roomy_any W1 HT1.out HS.out).mono ?_; rintro e W2 ⟨g0, k0, b0, g1, k1, b1, A', G', rfl, n0, n1, hA, hG, hb2⟩; have N0 : Hid (NkA W1.heap.size W2 g0 k0 b0 A') := n0; have N1 : Hid (NkG W1.heap.size W2 g1 k1 b1 G') := n1; have HA : Hid (A'.map Prod.snd = A.map Prod.snd) := hA; have HG : Hid (G'.map Prod.snd = G.map Prod.snd) := hG; have B2 : Hid (Below W1.heap.size W1 W2) := hb2; clear n0 n1 hA hG hb2 x0 x1)
  obtain ⟨W3, hW3⟩ : ∃ W3, W3 = W2.alloc (.cells #[.slice (some ⟨g0, 0, none⟩) A.length k0, .slice (some ⟨g1, 0, none⟩) G.length k1] 25) := ⟨_, rfl⟩
  rw [← hW3]
  have U3 : Hid (Below W2.heap.size W2 W3) := by rw [hW3]; exact bel_up _ _
  have Y3 : Hid (W3.heap[W2.heap.size]? = some (.cells #[.slice (some ⟨g0, 0, none⟩) A.length k0, .slice (some ⟨g1, 0, none⟩) G.length k1] 25 (0, 0))) := by rw [hW3]; exact heap_new _ _
  clear hW3
  obtain ⟨mb, hmb⟩ : ∃ mb, W2.heap.size = mb := ⟨_, rfl⟩
  rw [hmb] at Y3 ⊢
  clear hmb
  have B3 : Hid (Below W1.heap.size W1 W3) := below_trans B2.out U3.out
  have M3 : Hid (Tb W3 (.slice (some ⟨g0, 0, none⟩) A.length k0) (.slice (some ⟨g1, 0, none⟩) G.length k1) A' G') := (show Tb W2 _ _ A' G' from ⟨by rw [← len_same HA.out]; exact N0.out.nr af_len (by decide), by rw [← len_same HG.out]; exact N1.out.nr gf_len (by decide)⟩).up U3.out
  have HS' : Hid (Ts A' G') := HS.out.same HA.out HG.out
  have y0 := rcell Y3.out 0 _ rfl
  have y1 := rcell Y3.out 1 _ rfl
  go_upto_region 3 with (go_at_call 6; refine (valid_any s W3 M3.out HS'.out).mono ?_; rintro e W4 ⟨rfl, hb4⟩; have B4 : Hid (Below W3.heap.size W3 W4) := hb4; clear hb4)
  clear y0 y1
  have HV : Hid (vld (A'.map Prod.snd) s = vld (A.map Prod.snd) s) := by show _ = _; rw [HA.out]
  rw [HV.out]
  obtain ⟨vv, hvv⟩ : ∃ x, vld (A.map Prod.snd) s = x := ⟨_, rfl⟩
  have HVV : Hid (vld (A.map Prod.snd) s = vv) := hvv
  rw [hvv]
  clear hvv
  have E4 : Hid (Below W1.heap.size W1 W4) := below_trans B3.out B4.out
  have x0 := below_cell E4.out (rcell HX.out 0 _ rfl)
  have x1 := below_cell E4.out (rcell HX.out 1 _ rfl)
  have y0 := below_cell B4.out (rcell Y3.out 0 _ rfl)
  have y1 := below_cell B4.out (rcell Y3.out 1 _ rfl)
  have hvn : ((vv : Int) != (vv : Int)) = false := by simp
  go_upto_region 5 with (first | (go_at_call 7; refine (rvalid_any s W4 (HT1.out.up E4.out) HS.out).mono ?_; rintro e W5 ⟨rfl, hb5⟩; have B5 : Hid (Below W4.heap.size W4 W5) := hb5; clear hb5; rw [HVV.out]; have x0 := below_cell B5.out x0; have x1 := below_cell B5.out x1; have y0 := below_cell B5.out y0; have y1 := below_cell B5.out y1) | (go_at_call 8; refine (spared_any W5 (N0.out.up (below_trans U3.out (below_trans B4.out B5.out))) (N1.out.up (below_trans U3.out (below_trans B4.out B5.out))) (HT1.out.up (below_trans E4.out B5.out)) HA.out HG.out HS.out).mono ?_; rintro e W6 ⟨rfl, hb6⟩; have B6 : Hid (Below W5.heap.size W5 W6) := hb6; clear hb6))
  clear x0 x1 y0 y1 hvn
  have E5 : Hid (Below W4.heap.size W4 W6) := below_trans B5.out B6.out
  have E6 : Hid (Below W1.heap.size W1 W6) := below_trans E4.out E5.out
  have Y6 : Hid (W6.heap[mb]? = some (.cells #[.slice (some ⟨g0, 0, none⟩) A.length k0, .slice (some ⟨g1, 0, none⟩) G.length k1] 25 (0, 0))) := ((below_trans B4.out E5.out).block _ (lt_of_heap Y3.out)).trans Y3.out
  have x0 := below_cell E6.out (rcell HX.out 0 _ rfl)
  have x1 := below_cell E6.out (rcell HX.out 1 _ rfl)
  have y0 := rcell Y6.out 0 _ rfl
  have y1 := rcell Y6.out 1 _ rfl
  have U6 : Hid (Below W2.heap.size W2 W6) := below_trans U3.out (below_trans B4.out E5.out)
  go_upto_region 6 with (go_at_call 9; refine (turned_any W6 E6.out HT1.out HS.out ((N0.out.up U6.out).cn af_len) ((N1.out.up U6.out).cn gf_len) (shp_snd HA.out) (shp_snd HG.out) (len_same HA.out) (len_same HG.out)).mono ?_; rintro e W7 ⟨rfl, C, D, hc7, hd7, hs7, ht7, hb7, hk7⟩; have C7 : Hid (CnA W1.heap.size W7 g0 k0 C) := hc7; have D7 : Hid (CnG W1.heap.size W7 g1 k1 D) := hd7; have S7 : Hid (shp C = shp A' ∧ shp D = shp G') := ⟨hs7, ht7⟩; have B7 : Hid (Below W1.heap.size W1 W7) := hb7; have K7 : Hid (Kt W6 W7) := hk7; clear hc7 hd7 hs7 ht7 hb7 hk7)
  clear x0 x1 y0 y1
  have M7 : Hid (Tb W7 (.slice (some ⟨g0, 0, none⟩) A.length k0) (.slice (some ⟨g1, 0, none⟩) G.length k1) C D) := ⟨by rw [← len_same HA.out, ← shp_len S7.out.1]; exact C7.out.nr (by decide), by rw [← len_same HG.out, ← shp_len S7.out.2]; exact D7.out.nr (by decide)⟩
  have S8 : Hid (Ts C D) := HS'.out.shp S7.out.1 S7.out.2
  have Y7 : Hid (W7.heap[mb]? = some (.cells #[.slice (some ⟨g0, 0, none⟩) A.length k0, .slice (some ⟨g1, 0, none⟩) G.length k1] 25 (0, 0))) := K7.out _ _ Y6.out
  have y0 := rcell Y7.out 0 _ rfl
  have y1 := rcell Y7.out 1 _ rfl
  go_upto_region 7 with (go_at_call 7; refine (rvalid_any s W7 M7.out S8.out).mono ?_; rintro e W8 ⟨rfl, hb8⟩; have B8 : Hid (Below W7.heap.size W7 W8) := hb8; clear hb8)
  clear y0 y1
  obtain ⟨uu, huu⟩ : ∃ x, vld (C.map Prod.snd) s = x := ⟨_, rfl⟩
  have HUU : Hid (vld (C.map Prod.snd) s = uu) := huu
  rw [huu]
  clear huu
  have y0 := below_cell B8.out (rcell Y7.out 0 _ rfl)
  have y1 := below_cell B8.out (rcell Y7.out 1 _ rfl)
  have hvn : ((uu : Int) == (uu : Int)) = true := by simp
  go_wp2_with (go_at_call 6; refine (valid_any s W8 (M7.out.up B8.out) S8.out).mono ?_; rintro e W9 ⟨rfl, hb9⟩; have B9 : Hid (Below W8.heap.size W8 W9) := hb9; clear hb9; rw [HUU.out])
  go_ret
  exact ⟨rfl, below_trans HB1.out (below_trans B7.out (below_trans B8.out B9.out))⟩
end Go.Proofs.Ythlbajkbpceglaa
