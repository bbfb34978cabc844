import Derived.Test.YtgdmoeocgflhgaaDoorDre
import Derived.Test.YtgdmoeocgflhgaaDoorEri
import Derived.Test.YtgdmoeocgflhgaaDoorEra
namespace Go.Proofs.YtgdmoeocgflhgaaDoor
open Go.RowKit Go.Maps

/-- The handle of the type of errors, in its variable. -/
def Gt (W : World) : Prop := W.cell? ⟨1, 0, none⟩ = some (.iface 95 (.agg #[.pointer (some ⟨2, 27, none⟩)]))
theorem Gt.up {W W' : World} (h : Gt W) (hb : Below W.heap.size W W') : Gt W' := below_cell hb h
/-- What Decode answers. -/
def Dq (x : Except Nat (List (List Ak) × List (List Int))) (e : Ending) (w' : World) : Prop := match x with
  | .ok (T, U) => ∃ v0 v1 A G, e = .returned (.tuple #[.agg #[v0, v1], .nilIface]) ∧ Tb w' v0 v1 A G ∧ A.map Prod.snd = T ∧ G.map Prod.snd = U
  | .error b => ∃ pb, e = .returned (.tuple #[.agg #[.slice none 0 0, .slice none 0 0], .iface 55 (.pointer (some ⟨pb, 0, none⟩))]) ∧ w'.heap[pb]? = some (.cells #[.int .i64 131, .int .i64 (b : Int)] 58 (0, 0))
theorem broken_at (p : Nat) (w : World) : Calls Tryd.prog 11 #[.int .i64 (p : Int)] w fun e w' => ∃ pb, e = .returned (.iface 55 (.pointer (some ⟨pb, 0, none⟩))) ∧ w'.heap[pb]? = some (.cells #[.int .i64 131, .int .i64 (p : Int)] 58 (0, 0)) ∧ Below w.heap.size w w' := by
  go_enter Tryd.func11, Tryd.ntmps11
  go_wp2_with fail
  go_ret
  exact ⟨w.heap.size, rfl, heap_new _ _, bel_up _ _⟩
set_option maxRecDepth 100000 in
set_option maxHeartbeats 16000000 in
theorem decode_any {s : ByteArray} {sa : Addr} (hs : s.size ≤ 140737488355328) (w : World) (hn : Sn w sa) (hg : Gt w) :
    Calls Tryd.prog 4 #[.string s] w fun e w' => Dq (dec s) e w' ∧ Below w.heap.size w w' := by
  have HS : Hid (s.size ≤ 140737488355328) := hs
  have HN : Hid (Sn w sa) := hn
  have HGT : Hid (Gt w) := hg
  clear hs hn hg
  obtain ⟨D, hD⟩ : ∃ D, dec s = D := ⟨_, rfl⟩
  have HD : Hid (dec s = D) := hD
  rw [hD]
  clear hD
  obtain ⟨W1, hW1⟩ : ∃ W1, W1 = w.alloc (.cells #[.slice none 0 0, .slice none 0 0] 25) := ⟨_, rfl⟩
  have HB1 : Hid (Below w.heap.size w W1) := by rw [hW1]; exact bel_up _ _
  have HX1 : Hid (W1.heap[w.heap.size]? = some (.cells #[.slice none 0 0, .slice none 0 0] 25 (0, 0))) := by rw [hW1]; exact heap_new _ _
  have HRD : Hid (Calls Tryd.prog 8 #[.string s] W1 fun e w' => De sa D e w' ∧ Below W1.heap.size W1 w' ∧ Sn w' sa) := by rw [← HD.out]; exact read_any HS.out W1 (HN.out.up HB1.out)
  go_enter Tryd.func4, Tryd.ntmps4
  go_upto_region 1 with fail
  rw [← hW1]
  clear hW1
  obtain ⟨rb, hrb⟩ : ∃ x, w.heap.size = x := ⟨_, rfl⟩
  have HRB : Hid (w.heap.size ≤ rb) := by show _ ≤ _; omega
  rw [hrb] at HX1 ⊢
  clear hrb
  cases D with
  | ok y =>
    obtain ⟨T, U⟩ := y
    go_upto_region 3 with (go_at_call 8; refine Calls.mono HRD.out ?_; rintro e W2 ⟨⟨O1, n1, B1, O2, n2, B2, A, G, rfl, hma, hmg, ht, hu⟩, hb2, hsn⟩; have H2 : Hid (A.map Prod.snd = T ∧ G.map Prod.snd = U ∧ Below W1.heap.size W1 W2) := ⟨ht, hu, hb2⟩; have MA : Hid (Mk af 52 2 49 B1 W2 O1 n1 n1 A) := hma; have MG : Hid (Mk gf 3 1 54 B2 W2 O2 n2 n2 G) := hmg; clear hma hmg ht hu hb2 hsn)
    obtain ⟨W3, hW3⟩ : ∃ W3, W3 = W2.alloc (.cells #[.slice (some ⟨O1, 0, none⟩) n1 n1, .slice (some ⟨O2, 0, none⟩) n2 n2] 25) := ⟨_, rfl⟩
    rw [← hW3]
    have U3 : Hid (Below W2.heap.size W2 W3) := by rw [hW3]; exact bel_up _ _
    have X3 : Hid (W3.heap[W2.heap.size]? = some (.cells #[.slice (some ⟨O1, 0, none⟩) n1 n1, .slice (some ⟨O2, 0, none⟩) n2 n2] 25 (0, 0))) := by rw [hW3]; exact heap_new _ _
    clear hW3
    obtain ⟨tb, htb⟩ : ∃ x, W2.heap.size = x := ⟨_, rfl⟩
    rw [htb] at X3 ⊢
    clear htb
    have B3 : Hid (Below W1.heap.size W1 W3) := below_trans H2.out.2.2 U3.out
    have RX : Hid (W3.heap[rb]? = some (.cells #[.slice none 0 0, .slice none 0 0] 25 (0, 0))) := (B3.out.block _ (lt_of_heap HX1.out)).trans HX1.out
    have t0 := rcell X3.out 0 _ rfl
    have t1 := rcell X3.out 1 _ rfl
    have r0 := rcell RX.out 0 _ rfl
    have r1 := rcell RX.out 1 _ rfl
    have z0 : W3.frozen? ⟨rb, 0, none⟩ = false := Lib.frozen_of_heap RX.out 0
    have z1 : W3.frozen? ⟨rb, 1, none⟩ = false := Lib.frozen_of_heap RX.out 1
    go_wp2_with fail
    have hf := ans25 (x := .slice (some ⟨O1, 0, none⟩) n1 n1) (y := .slice (some ⟨O2, 0, none⟩) n2 n2) RX.out
    have k0 := rcell hf 0 _ rfl
    have k1 := rcell hf 1 _ rfl
    have hb1 := blk_set (k := 0) (.slice (some ⟨O1, 0, none⟩) n1 n1) RX.out
    refine bodyPost_ret (v := .tuple #[.agg #[.slice (some ⟨O1, 0, none⟩) n1 n1, .slice (some ⟨O2, 0, none⟩) n2 n2], .nilIface]) (by simp [results, Tryd.results4, go_sem, k0, k1]) rfl ⟨⟨_, _, A, G, rfl, ⟨(((MA.out.up U3.out).offt RX.out (by decide) (by decide)).offt hb1 (by decide) (by decide)).nr (by decide), (((MG.out.up U3.out).offt RX.out (by decide) (by decide)).offt hb1 (by decide) (by decide)).nr (by decide)⟩, H2.out.1, H2.out.2.1⟩, ((below_trans HB1.out B3.out).setCell (p := ⟨rb, 0, none⟩) HRB.out _).setCell (p := ⟨rb, 1, none⟩) HRB.out _⟩
  | error b =>
    go_upto_region 5 with (go_at_call 8; refine Calls.mono HRD.out ?_; rintro e W2 ⟨⟨ev, rfl, her⟩, hb2, hsn⟩; have H2 : Hid (Er W2 sa ev b ∧ Below W1.heap.size W1 W2 ∧ Sn W2 sa) := ⟨her, hb2, hsn⟩; obtain ⟨et, evv, rfl⟩ := her.form; clear her hb2 hsn)
    obtain ⟨W3, hW3⟩ : ∃ W3, W3 = (W2.alloc (.cells #[.slice none 0 0, .slice none 0 0] 25)).alloc (.cells #[.pointer none] 37) := ⟨_, rfl⟩
    rw [← hW3]
    have U3 : Hid (Below W2.heap.size W2 W3) := by rw [hW3]; exact below_trans (bel_up _ _) (bel_up _ _)
    have X3 : Hid (W3.heap[W2.heap.size + 1]? = some (.cells #[.pointer none] 37 (0, 0))) := by
      have e2 := heap_new (W2.alloc (.cells #[.slice none 0 0, .slice none 0 0] 25)) (.cells #[.pointer none] 37)
      rw [World.size_alloc] at e2
      rw [hW3]
      exact e2
    clear hW3
    obtain ⟨wb, hwb⟩ : ∃ x, W2.heap.size + 1 = x := ⟨_, rfl⟩
    have HWB : Hid (w.heap.size ≤ wb) := by have h1 := H2.out.2.1.size; have h2 := HB1.out.size; show _ ≤ _; omega
    rw [hwb] at X3 ⊢
    clear hwb
    have B3 : Hid (Below W1.heap.size W1 W3) := below_trans H2.out.2.1 U3.out
    have BB : Hid (Below w.heap.size w W3) := below_trans HB1.out B3.out
    have RX : Hid (W3.heap[rb]? = some (.cells #[.slice none 0 0, .slice none 0 0] 25 (0, 0))) := (B3.out.block _ (lt_of_heap HX1.out)).trans HX1.out
    have E3 : Hid (Er W3 sa (.iface et evv) b) := H2.out.1.up U3.out
    have g0 : W3.cell? ⟨0, 0, none⟩ = some (.iface 111 (.pointer (some sa))) := below_cell BB.out HN.out
    rcases E3.out with ⟨pb, epb, hpb⟩ | ⟨pb, epb, hpb⟩
    · obtain ⟨rfl, rfl⟩ := Value.iface.inj epb
      have HPB : Hid (W3.heap[pb]? = some (.cells #[.int .i64 (b : Int), .iface 111 (.pointer (some sa))] 43 (0, 0))) := hpb
      clear epb hpb
      have HIS : Hid (Calls Tryd.prog 9 #[.iface 37 (.pointer (some ⟨pb, 0, none⟩)), .iface 111 (.pointer (some sa))] W3 fun e w' => e = .returned (.bool true) ∧ w' = W3) := is_placed pb sa W3 (rcell HPB.out 1 _ rfl)
      have HAS : Hid (Calls Tryd.prog 10 #[.iface 37 (.pointer (some ⟨pb, 0, none⟩)), .iface 40 (.pointer (some ⟨wb, 0, none⟩))] W3 fun e w' => e = .returned (.bool true) ∧ ∃ V, Below W3.heap.size W3 V ∧ w' = V.setCell ⟨wb, 0, none⟩ (.pointer (some ⟨pb, 0, none⟩))) := (as_hitP ⟨pb, 0, none⟩ ⟨wb, 0, none⟩ (.pointer none) W3 (HGT.out.up BB.out) (rcell X3.out 0 _ rfl) (Lib.frozen_of_heap X3.out 0)).mono fun e w' ⟨h1, h2⟩ => ⟨h1, _, below_trans (bel_up _ _) (below_trans (bel_up _ _) (below_trans (bel_up _ _) (bel_up _ _))), h2⟩
      go_upto_region 6 with (first | (go_at_call 9; refine Calls.mono HIS.out ?_; rintro e W9 ⟨rfl, hw9⟩; rw [hw9]; clear hw9 W9) | (go_at_call 10; refine Calls.mono HAS.out ?_; rintro e W6 ⟨rfl, V, hv, hw6⟩; have HV : Hid (Below W3.heap.size W3 V ∧ W6 = V.setCell ⟨wb, 0, none⟩ (.pointer (some ⟨pb, 0, none⟩))) := ⟨hv, hw6⟩; clear hv hw6))
      clear g0
      have XV : Hid (V.heap[wb]? = some (.cells #[.pointer none] 37 (0, 0))) := (HV.out.1.block _ (lt_of_heap X3.out)).trans X3.out
      have PV : Hid (V.heap[pb]? = some (.cells #[.int .i64 (b : Int), .iface 111 (.pointer (some sa))] 43 (0, 0))) := (HV.out.1.block _ (lt_of_heap HPB.out)).trans HPB.out
      have RV : Hid (V.heap[rb]? = some (.cells #[.slice none 0 0, .slice none 0 0] 25 (0, 0))) := (HV.out.1.block _ (lt_of_heap RX.out)).trans RX.out
      have X6 : Hid (W6.heap[wb]? = some (.cells #[.pointer (some ⟨pb, 0, none⟩)] 37 (0, 0))) := by show _ = _; rw [HV.out.2, blk_set _ XV.out]; rfl
      have P6 : Hid (W6.heap[pb]? = some (.cells #[.int .i64 (b : Int), .iface 111 (.pointer (some sa))] 43 (0, 0))) := by show _ = _; rw [HV.out.2]; exact blk_off PV.out XV.out (by decide)
      have R6 : Hid (W6.heap[rb]? = some (.cells #[.slice none 0 0, .slice none 0 0] 25 (0, 0))) := by show _ = _; rw [HV.out.2]; exact blk_off RV.out XV.out (by decide)
      have B6 : Hid (Below w.heap.size w W6) := by rw [HV.out.2]; exact (below_trans BB.out HV.out.1).setCell (p := ⟨wb, 0, none⟩) HWB.out _
      have x0 := rcell X6.out 0 _ rfl
      have x1 := rcell P6.out 0 _ rfl
      go_upto_region 7 with (go_at_call 11; refine (broken_at b W6).mono ?_; rintro e W7 ⟨pc, rfl, hpc, hb7⟩; have U7 : Hid (Below W6.heap.size W6 W7) := hb7; have PC : Hid (W7.heap[pc]? = some (.cells #[.int .i64 131, .int .i64 (b : Int)] 58 (0, 0))) := hpc; clear hpc hb7)
      clear x0 x1
      have R7 : Hid (W7.heap[rb]? = some (.cells #[.slice none 0 0, .slice none 0 0] 25 (0, 0))) := (U7.out.block _ (lt_of_heap R6.out)).trans R6.out
      have B7 : Hid (Below w.heap.size w W7) := below_trans B6.out U7.out
      have r0 := rcell R7.out 0 _ rfl
      have r1 := rcell R7.out 1 _ rfl
      have z0 : W7.frozen? ⟨rb, 0, none⟩ = false := Lib.frozen_of_heap R7.out 0
      have z1 : W7.frozen? ⟨rb, 1, none⟩ = false := Lib.frozen_of_heap R7.out 1
      go_wp2_with fail
      have hf := ans25 (x := .slice none 0 0) (y := .slice none 0 0) R7.out
      have k0 := rcell hf 0 _ rfl
      have k1 := rcell hf 1 _ rfl
      have hb1 := blk_set (k := 0) (.slice none 0 0) R7.out
      exact bodyPost_ret (v := .tuple #[.agg #[.slice none 0 0, .slice none 0 0], .iface 55 (.pointer (some ⟨pc, 0, none⟩))]) (by simp [results, Tryd.results4, go_sem, k0, k1]) rfl ⟨⟨pc, rfl, blk_off (blk_off PC.out R7.out (by decide)) hb1 (by decide)⟩, (B7.out.setCell (p := ⟨rb, 0, none⟩) HRB.out _).setCell (p := ⟨rb, 1, none⟩) HRB.out _⟩
    · obtain ⟨rfl, rfl⟩ := Value.iface.inj epb
      have HPB : Hid (W3.heap[pb]? = some (.cells #[.int .i64 131, .int .i64 (b : Int)] 58 (0, 0))) := hpb
      clear epb hpb
      have HIS : Hid (Calls Tryd.prog 9 #[.iface 55 (.pointer (some ⟨pb, 0, none⟩)), .iface 111 (.pointer (some sa))] W3 fun e w' => e = .returned (.bool false) ∧ w' = W3) := is_broken pb sa 131 W3 (rcell HPB.out 0 _ rfl)
      go_upto_region 7 with (go_at_call 9; refine Calls.mono HIS.out ?_; rintro e W9 ⟨rfl, hw9⟩; rw [hw9]; clear hw9 W9)
      clear g0
      have r0 := rcell RX.out 0 _ rfl
      have r1 := rcell RX.out 1 _ rfl
      have z0 : W3.frozen? ⟨rb, 0, none⟩ = false := Lib.frozen_of_heap RX.out 0
      have z1 : W3.frozen? ⟨rb, 1, none⟩ = false := Lib.frozen_of_heap RX.out 1
      go_wp2_with fail
      have hf := ans25 (x := .slice none 0 0) (y := .slice none 0 0) RX.out
      have k0 := rcell hf 0 _ rfl
      have k1 := rcell hf 1 _ rfl
      have hb1 := blk_set (k := 0) (.slice none 0 0) RX.out
      exact bodyPost_ret (v := .tuple #[.agg #[.slice none 0 0, .slice none 0 0], .iface 55 (.pointer (some ⟨pb, 0, none⟩))]) (by simp [results, Tryd.results4, go_sem, k0, k1]) rfl ⟨⟨pb, rfl, blk_off (blk_off HPB.out RX.out (by decide)) hb1 (by decide)⟩, (BB.out.setCell (p := ⟨rb, 0, none⟩) HRB.out _).setCell (p := ⟨rb, 1, none⟩) HRB.out _⟩
end Go.Proofs.YtgdmoeocgflhgaaDoor
