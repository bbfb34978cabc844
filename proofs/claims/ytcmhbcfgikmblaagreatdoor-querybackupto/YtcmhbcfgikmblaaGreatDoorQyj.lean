import Derived.Test.YtcmhbcfgikmblaaGreatDoorQyi
import Derived.Test.YtcmhbcfgikmblaaGreatDoorQrk
import Derived.Test.YtcmhbcfgikmblaaGreatDoorQwe
namespace Go.Proofs.YtcmhbcfgikmblaaGreatDoor.Qy
open Go.RowKit Go.Maps

def sx0 : ByteArray := ⟨#[40, 115, 32, 40, 97, 41, 32, 64, 120, 41, 32, 119, 104, 101, 110, 32, 64, 120, 32, 61, 32, 34, 121, 34]⟩
def sn0 : List Pn := [⟨⟨#[115]⟩, false, ⟨#[]⟩, ⟨#[]⟩, 1⟩, ⟨⟨#[97]⟩, false, ⟨#[]⟩, ⟨#[120]⟩, 0⟩]
def sc0 : List Cd := [⟨false, ⟨#[120]⟩, ⟨#[]⟩, ⟨#[121]⟩⟩]
def st0 : List Tr.Nd := [⟨⟨#[115]⟩, true, ⟨#[]⟩, 0, 2, 2, -1⟩, ⟨⟨#[97]⟩, true, ⟨#[]⟩, 0, 1, 0, 0⟩, ⟨⟨#[97]⟩, true, ⟨#[]⟩, 1, 2, 0, 1⟩]
theorem sx_psr : psr sx0 = (sn0, sc0, 0, 0) := by decide +kernel
theorem sx_all1 : allQ sn0 sc0 st0 ⟨#[121, 122]⟩ = [[0, 1]] := by decide +kernel
theorem sx_all2 : allQ sn0 sc0 st0 ⟨#[122, 121]⟩ = [] := by decide +kernel
theorem sx_prT : prT sn0 sc0 = ⟨#[40, 32, 115, 32, 40, 32, 97, 32, 41, 32, 64, 32, 120, 32, 41, 32, 119, 104, 101, 110, 32, 64, 32, 120, 32, 61, 32, 34, 121, 34]⟩ := by decide +kernel
theorem sx_prC : prC sn0 sc0 = 0 := by decide +kernel
theorem sx_sz : Sz sn0 sc0 := ⟨fun p hp => by
  simp only [sn0, List.mem_cons, List.not_mem_nil, or_false] at hp
  rcases hp with rfl | rfl <;> decide, fun c hc => by
  simp only [sc0, List.mem_cons, List.not_mem_nil, or_false] at hc
  subst hc
  decide⟩
set_option maxRecDepth 100000 in
set_option maxHeartbeats 8000000 in
theorem started_any (w : World) : Calls Tryz.prog 6 #[] w fun e w' => e = .returned (.bool true) ∧ Below w.heap.size w w' := by
  have HPR : Hid _ := parse_any sx0 w
  rw [sx_psr] at HPR
  unfold sx0 at HPR
  have hl1 : sn0.length = 2 := rfl
  have hl2 : sc0.length = 1 := rfl
  go_enter Tryz.func6, Tryz.ntmps6
  go_upto_region 2 with (go_at_call 7; refine Calls.mono HPR.out ?_; rintro e w1 ⟨⟨vn, vc, rfl, hn, hc⟩, hb⟩; rw [hl1] at hn; rw [hl2] at hc; obtain ⟨na, nc, rfl⟩ := row_shape hn; obtain ⟨ca, cc, rfl⟩ := row_shape hc; have HN1 : Hid (Ps w1 (.slice na 2 nc) sn0) := row_rw hn; have HC1 : Hid (Cs w1 (.slice ca 1 cc) sc0) := row_rw hc; have HB1 : Hid (Below w.heap.size w w1) := hb; clear hn hc hb)
  obtain ⟨W2, hW2⟩ : ∃ W2, W2 = w1.alloc (.cells #[.slice na 2 nc, .slice ca 1 cc] 26) := ⟨_, rfl⟩
  obtain ⟨qb, hqb⟩ : ∃ qb, w1.heap.size = qb := ⟨_, rfl⟩
  first | rw [← hW2, hqb] | rw [← hW2]
  have HB2 : Hid (Below w1.heap.size w1 W2) := by rw [hW2]; exact bel_up _ _
  have hq2 : W2.heap[qb]? = some (.cells #[.slice na 2 nc, .slice ca 1 cc] 26 (0, 0)) := by rw [hW2, ← hqb]; exact heap_new w1 _
  have HQ2 : Hid (∀ W, Below W2.heap.size W2 W → W.cell? ⟨qb, 0, none⟩ = some (.slice na 2 nc) ∧ W.cell? ⟨qb, 1, none⟩ = some (.slice ca 1 cc)) := fun W hW => ⟨below_cell hW (rcell hq2 0 _ rfl), below_cell hW (rcell hq2 1 _ rfl)⟩
  have HN2 : Hid (Ps W2 (.slice na 2 nc) sn0) := HN1.out.up HB2.out
  have HC2 : Hid (Cs W2 (.slice ca 1 cc) sc0) := HC1.out.up HB2.out
  have HW2 : Hid (Below w.heap.size w W2) := below_trans HB1.out HB2.out
  obtain ⟨k0, k1⟩ := HQ2.out W2 (Below.refl _ _)
  clear hW2 hqb hq2
  go_upto_region 4 with fail
  clear k0 k1
  obtain ⟨W3, hW3⟩ : ∃ W3, W3 = W2.alloc (.cells (flat Tr.nf st0).toArray 43) := ⟨_, rfl⟩
  have HB3 : Hid (Below W2.heap.size W2 W3) := by rw [hW3]; exact bel_up _ _
  have h3 : W3.heap[W2.heap.size]? = some (.cells (flat Tr.nf st0).toArray 43 (0, 0)) := by rw [hW3]; exact heap_new W2 _
  have HT3 : Hid (Tr.Ns W3 (.slice (some ⟨W2.heap.size, 0, none⟩) 3 3) st0) := ⟨_, W2.heap.size, 0, 3, rfl, Nat.le_refl _, (fun h => by cases h), (fun _ => rfl), (fun j u hu => by rw [Nat.zero_add, Lib.cell_of_heap h3]; simpa using hu)⟩
  have HSM : Hid (Tr.Sm st0) := by show _ ≤ _; decide
  simp only [st0, flat, Tr.nf, List.append_nil, List.cons_append, List.nil_append] at hW3
  obtain ⟨tb, htb⟩ : ∃ tb, W2.heap.size = tb := ⟨_, rfl⟩
  rw [htb] at HT3
  go_upto_region 5 with fail
  first | rw [← hW3, htb] | rw [← hW3]
  have HA1 : Hid _ := allq_any W3 (HN2.out.up HB3.out) (HC2.out.up HB3.out) HT3.out HSM.out ⟨#[121, 122]⟩
  rw [sx_all1] at HA1
  obtain ⟨k0, k1⟩ := HQ2.out W3 HB3.out
  clear hW3 h3 htb
  go_upto_region 6 with (go_at_call 12; refine Calls.mono HA1.out ?_; rintro e w4 ⟨v4, vs4, rfl, hf4, hb4⟩; have HF4 : Hid (Fa W3.heap.size w4 v4 vs4 [[0, 1]] 1) := hf4; have HB4 : Hid (Below W3.heap.size W3 w4) := hb4; obtain ⟨fa, fc, rfl⟩ := row_shape hf4.ow; clear hf4 hb4)
  clear k0 k1
  have HB24 : Hid (Below W2.heap.size W2 w4) := below_trans HB3.out HB4.out
  have HA2 : Hid _ := allq_any w4 (HN2.out.up HB24.out) (HC2.out.up HB24.out) (HT3.out.up HB4.out) HSM.out ⟨#[122, 121]⟩
  rw [sx_all2] at HA2
  obtain ⟨k0, k1⟩ := HQ2.out w4 HB24.out
  go_upto_region 7 with (go_at_call 12; refine Calls.mono HA2.out ?_; rintro e w5 ⟨v5, vs5, rfl, hf5, hb5⟩; have HF5 : Hid (Fa w4.heap.size w5 v5 vs5 [] 0) := hf5; have HB5 : Hid (Below w4.heap.size w4 w5) := hb5; obtain ⟨ga, gc, rfl⟩ := row_shape hf5.ow; clear hf5 hb5)
  clear k0 k1
  have HB25 : Hid (Below W2.heap.size W2 w5) := below_trans HB24.out HB5.out
  have HPT : Hid _ := print_any w5 (HN2.out.up HB25.out) (HC2.out.up HB25.out) sx_sz
  rw [sx_prT, sx_prC] at HPT
  obtain ⟨k0, k1⟩ := HQ2.out w5 HB25.out
  go_upto_region 8 with (go_at_call 8; refine Calls.mono HPT.out ?_; rintro e w6 ⟨rfl, hb6⟩; have HB6 : Hid (Below w5.heap.size w5 w6) := hb6; clear hb6)
  clear k0 k1
  have HB46 : Hid (Below w4.heap.size w4 w6) := below_trans HB5.out HB6.out
  have HF6 : Hid (Fa W3.heap.size w6 (.slice fa 1 fc) vs4 [[0, 1]] 1) := HF4.out.up HB46.out
  obtain ⟨x, hx⟩ : ∃ x, vs4[0]? = some x := ⟨_, List.getElem?_eq_getElem (by rw [HF4.out.ln.1]; decide)⟩
  have hr0 := HF6.out.at' 0 x hx
  have HX : Hid (w6.ownsRow W3.heap.size 3 1 x 2 (iC [0, 1])) := hr0
  obtain ⟨xa, xc, rfl⟩ := row_shape HX.out
  obtain ⟨fg, fo, fcap, hfe, hfc⟩ := (row_rw HF6.out.ow).place (by decide)
  obtain ⟨e4, -, -⟩ := Value.slice.inj hfe
  subst e4
  have c0 : w6.cell? ⟨fg, fo, none⟩ = some (.slice xa 2 xc) := hfc 0 _ hx
  have HSI : Hid (∀ W, Below w6.heap.size w6 W → ∀ v, Rw W v 2 (iC [0, 1]) → Calls Tryz.prog 14 #[.slice xa 2 xc, v] W fun e w' => e = .returned (.bool true) ∧ Below W.heap.size W w') := fun W hW v hv => same_intsC (l := [0, 1]) (by decide) W (row_rw (row_up HX.out hW)) hv
  have HW6 : Hid (Below w.heap.size w w6) := below_trans HW2.out (below_trans HB25.out HB6.out)
  have HLI : Hid (Rw (w6.alloc (.cells #[.int .i64 0, .int .i64 1] 3)) (.slice (some ⟨w6.heap.size, 0, none⟩) 2 2) 2 (iC [0, 1])) := ⟨_, w6.heap.size, 0, 2, rfl, Nat.le_refl _, (fun h => by cases h), (fun _ => rfl), (fun j u hu => by have h9 : ([Value.int .i64 0, .int .i64 1] : List Value)[j]? = some u := hu; rw [Nat.zero_add, Lib.cell_of_heap (heap_new w6 _)]; simpa using h9)⟩
  clear hr0 hfe hfc hx
  go_wp2_with (go_at_call 14; refine Calls.mono (HSI.out _ (bel_up _ _) _ HLI.out) ?_; rintro e w8 ⟨rfl, hb8⟩; have HB8 : Hid (Below w6.heap.size w6 w8) := below_trans (bel_up _ _) hb8; clear hb8)
  go_ret
  exact ⟨rfl, below_trans HW6.out HB8.out⟩
end Go.Proofs.YtcmhbcfgikmblaaGreatDoor.Qy
namespace Go.Proofs.YtcmhbcfgikmblaaGreatDoor.Qy
open Go.RowKit Go.Maps

/-- The one node that QueryHeads asks of. -/
def h1 (p : Pn) : Pn := ⟨p.nm, p.lit, p.fd, ⟨#[]⟩, 0⟩
theorem alls_pre (P : List Pn) (cs : List Cd) (T : List Tr.Nd) (s : ByteArray) (a : Nat) : ∀ b, a ≤ b → ∃ t, alls P cs T s b = alls P cs T s a ++ t
  | b, hb => by
    obtain ⟨d, rfl⟩ : ∃ d, b = a + d := ⟨b - a, by omega⟩
    clear hb
    induction d with
    | zero => exact ⟨[], by simp⟩
    | succ d ih =>
      obtain ⟨t, ht⟩ := ih
      rw [← Nat.add_assoc, alls_succ, ht]
      exact ⟨_, List.append_assoc _ _ _⟩
theorem gN_one (p : Pn) (T : List Tr.Nd) (hT : Tr.Fo (Tr.kds T)) (v : Nat) (hv : v < T.length) : gN [h1 p] T 0 v = if alk (h1 p) (T.getD v Tr.ndd) then some [(v : Int)] else none := by
  rw [gN_eq [h1 p] T hT 0 v hv]
  have hk : kN (pks [h1 p]) 0 = [] := rfl
  rw [hk, gK_nil]
  rfl
theorem mt1_one (p : Pn) (T : List Tr.Nd) (s : ByteArray) (hT : Tr.Fo (Tr.kds T)) (v : Nat) (hv : v < T.length) : mt1 [h1 p] [] T s v = if alk (h1 p) (T.getD v Tr.ndd) then some [(v : Int)] else none := by
  rw [mt1_eq [h1 p] [] T s hT v hv, gN_one p T hT v hv]
  cases alk (h1 p) (T.getD v Tr.ndd) <;> rfl
theorem alls_one (p : Pn) (T : List Tr.Nd) (s : ByteArray) (hT : Tr.Fo (Tr.kds T)) (v : Nat) (hv : v < T.length) : alls [h1 p] [] T s (v + 1) = alls [h1 p] [] T s v ++ (if alk (h1 p) (T.getD v Tr.ndd) then [[(v : Int)]] else []) := by
  rw [alls_succ, mt1_one p T s hT v hv]
  cases alk (h1 p) (T.getD v Tr.ndd) <;> rfl
/-- What the law asks of a node. -/
def hx (p : Pn) (y : Tr.Nd) : Bool := decide (p.nm = ⟨#[]⟩) || (decide (y.nm = p.nm) && (y.nd == !p.lit))
def hy (p : Pn) (y : Tr.Nd) : Bool := !decide (p.fd = ⟨#[]⟩) && !decide (y.fd = p.fd)
theorem alk_pure (nm vn fd vf : ByteArray) (lit vd : Bool) (h : lit = true → nm ≠ ⟨#[]⟩) : (if fd ≠ ⟨#[]⟩ ∧ fd ≠ vf then false else if lit then !vd && decide (nm = vn) else decide (nm = ⟨#[]⟩) || (vd && decide (nm = vn))) = ((decide (nm = ⟨#[]⟩) || (decide (vn = nm) && (vd == !lit))) && !(!decide (fd = ⟨#[]⟩) && !decide (vf = fd))) := by
  have e1 : decide (vn = nm) = decide (nm = vn) := by simp only [eq_comm]
  have e2 : decide (vf = fd) = decide (fd = vf) := by simp only [eq_comm]
  rw [e1, e2]
  have e3 : (if fd ≠ ⟨#[]⟩ ∧ fd ≠ vf then false else if lit then !vd && decide (nm = vn) else decide (nm = ⟨#[]⟩) || (vd && decide (nm = vn))) = (if (!decide (fd = ⟨#[]⟩) && !decide (fd = vf)) = true then false else if lit then !vd && decide (nm = vn) else decide (nm = ⟨#[]⟩) || (vd && decide (nm = vn))) := by
    congr 1
    simp
  rw [e3]
  have h2 : lit = true → decide (nm = ⟨#[]⟩) = false := fun hl => decide_eq_false (h hl)
  generalize decide (fd = ⟨#[]⟩) = c
  generalize decide (fd = vf) = d
  generalize decide (nm = vn) = b
  generalize decide (nm = ⟨#[]⟩) = a at h2 ⊢
  clear h e1 e2 e3
  cases lit <;> cases a <;> cases b <;> cases c <;> cases d <;> cases vd <;> first | rfl | (exact absurd (h2 rfl) (by decide))
theorem alk_hx (p : Pn) (y : Tr.Nd) (h : shp [h1 p] [] = true) : alk (h1 p) y = (hx p y && !hy p y) := by
  obtain ⟨_, _, _, a4, _⟩ := shp_ok h
  have h2 := a4 0 (Nat.zero_lt_one)
  unfold nat' at h2
  simp only [Bool.and_eq_true] at h2
  have h3 := h2.1
  have e0 : ([h1 p].getD 0 pz) = h1 p := rfl
  rw [e0] at h3
  unfold nsh at h3
  simp only [Bool.and_eq_true] at h3
  have h4 := h3.2.2
  refine alk_pure p.nm y.nm p.fd y.fd p.lit y.nd (fun hl hn => ?_)
  have h5 : (h1 p).lit = true := hl
  rw [if_pos h5] at h4
  have h6 : (h1 p).nm = ⟨#[]⟩ := hn
  rw [decide_eq_true h6] at h4
  cases h4
end Go.Proofs.YtcmhbcfgikmblaaGreatDoor.Qy
