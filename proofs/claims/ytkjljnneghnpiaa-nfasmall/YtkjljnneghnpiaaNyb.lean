import Derived.Test.YtkjljnneghnpiaaZyf
import Derived.Test.YtkjljnneghnpiaaNfp
import Derived.Test.YtkjljnneghnpiaaNcf
namespace Go.Proofs.Ytkjljnneghnpiaa
def abT : ByteArray := ⟨#[97, 43, 98]⟩
def re0 : List Rg.Nd := match Rg.V abT ⟨0, [], Rg.frG, []⟩ with | .ok o => o | .error _ => []
theorem re0_len : re0.length = 4 := by kernel_rfl
theorem re0_ok : Rg.V abT ⟨0, [], Rg.frG, []⟩ = .ok re0 := by kernel_rfl
theorem re0_sh : Rg.Sh re0 = true := by kernel_rfl
def ma : Nat → Bool := fun b => decide (97 ≤ b) && decide (b ≤ 97)
def mb : Nat → Bool := fun b => decide (98 ≤ b) && decide (b ≤ 98)
theorem re0_eq : re0 = [⟨1, ma, -1, -1⟩, ⟨6, fun _ => false, 0, -1⟩, ⟨1, mb, -1, -1⟩, ⟨3, fun _ => false, 1, 2⟩] := by rfl
end Go.Proofs.Ytkjljnneghnpiaa
namespace Go.Proofs.Ytkjljnneghnpiaa
open Go.RowKit

/-- The machine of a+b. -/
def N0 : Mc := ⟨[nob, mb, nob, ma], [-1, 0, -1, 2], [[], [], [3, 1], []], 3, 0⟩
theorem mc0 : mcOf re0 = N0 := by
  unfold mcOf
  rw [re0_eq]
  rfl
theorem small0 : Small N0 := ⟨by decide, by decide, by decide, by decide⟩
theorem to3 : N0.toOf 3 = some 2 := by kernel_rfl
theorem to1 : N0.toOf 1 = some 0 := by kernel_rfl
theorem to0 : N0.toOf 0 = none := by kernel_rfl
theorem to2 : N0.toOf 2 = none := by kernel_rfl
theorem sfin : N0.isS N0.fin = true := by kernel_rfl
theorem sst : N0.isS N0.start = true := by kernel_rfl
def allA (s : List Nat) : Prop := s ≠ [] ∧ ∀ x ∈ s, x = 97
theorem allA_snoc {s : List Nat} (h : s = [] ∨ allA s) : allA (s ++ [97]) := by
  refine ⟨by simp, fun x hx => ?_⟩
  rcases List.mem_append.1 hx with h1 | h1
  · rcases h with rfl | h
    · cases h1
    · exact h.2 x h1
  · simpa using h1
/-- Where what is read leads. -/
theorem at0 {s : List Nat} {q : Nat} (h : N0.At s q) : (q = 3 ∧ s = []) ∨ ((q = 1 ∨ q = 2 ∨ q = 3) ∧ allA s) ∨ (q = 0 ∧ ∃ s', s = s' ++ [98] ∧ allA s') := by
  induction h with
  | start _ => exact .inl ⟨rfl, rfl⟩
  | @free s p x hp hx his ih =>
    have hp4 : p < 4 := Mc.At.lt hp
    have hp2 : p = 2 := by
      rcases (by omega : p = 0 ∨ p = 1 ∨ p = 2 ∨ p = 3) with rfl | rfl | rfl | rfl
      · simp [Mc.frees, N0] at hx
      · simp [Mc.frees, N0] at hx
      · rfl
      · simp [Mc.frees, N0] at hx
    subst hp2
    have hx2 : x = 3 ∨ x = 1 := by simpa [Mc.frees, N0] using hx
    have ha : allA s := by
      rcases ih with ⟨e, _⟩ | ⟨_, h⟩ | ⟨e, _⟩
      · cases e
      · exact h
      · cases e
    rcases hx2 with rfl | rfl
    · exact .inr (.inl ⟨.inr (.inr rfl), ha⟩)
    · exact .inr (.inl ⟨.inl rfl, ha⟩)
  | @byte s p q b hp ht hc ih =>
    have hp4 : p < 4 := Mc.At.lt hp
    rcases (by omega : p = 0 ∨ p = 1 ∨ p = 2 ∨ p = 3) with rfl | rfl | rfl | rfl
    · rw [to0] at ht; cases ht
    · rw [to1] at ht
      cases ht
      have hb : b = 98 := by
        have : (decide (98 ≤ b) && decide (b ≤ 98)) = true := hc
        simp at this; omega
      subst hb
      rcases ih with ⟨e, _⟩ | ⟨_, h⟩ | ⟨e, _⟩
      · cases e
      · exact .inr (.inr ⟨rfl, s, rfl, h⟩)
      · cases e
    · rw [to2] at ht; cases ht
    · rw [to3] at ht
      cases ht
      have hb : b = 97 := by
        have : (decide (97 ≤ b) && decide (b ≤ 97)) = true := hc
        simp at this; omega
      subst hb
      refine .inr (.inl ⟨.inr (.inl rfl), allA_snoc ?_⟩)
      rcases ih with ⟨_, e⟩ | ⟨_, h⟩ | ⟨e, _⟩
      · exact .inl e
      · exact .inr h
      · cases e
theorem live0 : N0.Live 0 := Mc.Live.fin sfin
theorem live1 : N0.Live 1 := .step (by decide) (toOf_nxt to1) live0
theorem live2 : N0.Live 2 := by
  refine .step (t := 1) (by decide) ?_ live1
  exact free_nxt (N := N0) (p := 2) (q := 1) (by simp [Mc.frees, N0]) (by kernel_rfl)
theorem at_e : N0.At [] 3 := Mc.At.start sst
theorem at_a {s : List Nat} (h : N0.At s 3) : N0.At (s ++ [97]) 2 ∧ N0.At (s ++ [97]) 3 ∧ N0.At (s ++ [97]) 1 := by
  have h2 : N0.At (s ++ [97]) 2 := .byte h to3 (by kernel_rfl)
  exact ⟨h2, .free (q := 3) h2 (by simp [Mc.frees, N0]) (by kernel_rfl), .free (q := 1) h2 (by simp [Mc.frees, N0]) (by kernel_rfl)⟩
theorem at_b {s : List Nat} (h : N0.At s 1) : N0.At (s ++ [98]) 0 := .byte h to1 (by kernel_rfl)
theorem op3 {s : List Nat} (h : N0.At s 3) : N0.Op s := ⟨3, 2, h, to3, live2⟩
theorem a1 : N0.At [97] 3 := (at_a at_e).2.1
theorem a2 : N0.At [97, 97] 3 := (at_a a1).2.1
theorem a3 : N0.At [97, 97, 98] 0 := at_b (at_a a1).2.2
theorem ntk {s : List Nat} (h : ∀ s', s ≠ s' ++ [98]) : ¬ N0.Tk s := by
  rintro ⟨_, ha⟩
  rcases at0 ha with ⟨e, _⟩ | ⟨e, _⟩ | ⟨_, s', e, _⟩
  · cases e
  · rcases e with e | e | e <;> cases e
  · exact h s' e
theorem nsn {s' : List Nat} {l : List Nat} {x : Nat} (hx : x ≠ 98) : l ++ [x] ≠ s' ++ [98] := fun e => by
  obtain ⟨_, e2⟩ := List.append_inj' e rfl
  cases e2; exact hx rfl
theorem tk3 : N0.Tk [97, 97, 98] := ⟨sfin, a3⟩
theorem ntk0 : ¬ N0.Tk [] := ntk (fun s' e => by cases s' <;> cases e)
theorem ntk1 : ¬ N0.Tk [97] := ntk (fun _ => nsn (l := []) (by decide))
theorem ntk2 : ¬ N0.Tk [97, 97] := ntk (fun _ => nsn (l := [97]) (by decide))
theorem nop3 : ¬ N0.Op [97, 97, 98] := by
  rintro ⟨p, q, ha, ht, _⟩
  rcases at0 ha with ⟨_, e⟩ | ⟨_, e⟩ | ⟨rfl, _⟩
  · cases e
  · have := e.2 98 (by simp); omega
  · rw [to0] at ht; cases ht
theorem ansX : N0.Ans [97, 97, 98, 122] 3 3 := by
  refine ⟨by decide, fun i hi => ?_, fun _ => nop3, .inr ⟨3, rfl, Nat.le_refl _, by decide, tk3, fun i h1 h2 _ => by omega⟩⟩
  rcases (by omega : i = 0 ∨ i = 1 ∨ i = 2) with rfl | rfl | rfl
  · exact op3 at_e
  · exact op3 a1
  · exact op3 a2
theorem ansA : N0.Ans [97, 97] (-1) 3 := by
  refine ⟨by decide, fun i hi => ?_, fun h => by simp at h, .inl ⟨rfl, fun i h1 h2 => ?_⟩⟩
  · rcases (by omega : i = 0 ∨ i = 1 ∨ i = 2) with rfl | rfl | rfl
    · exact op3 at_e
    · exact op3 a1
    · exact op3 a2
  · rcases (by simp at h2; omega : i = 0 ∨ i = 1 ∨ i = 2) with rfl | rfl | rfl
    · exact ntk0
    · exact ntk1
    · exact ntk2
/-- part at the nodes of a+b. -/
def z0 : List Nat := [1, 2, 1, 4]
theorem part0 (cap gr oo B bk : Nat) (hgr : gr < B) : PartOk B bk gr oo cap re0 z0 3 := by
  have h0 : PartOk B bk gr oo cap re0 z0 0 := part_class (m := ma) (na := -1) (nb := -1) ⟨[], [⟨6, fun _ => false, 0, -1⟩, ⟨1, mb, -1, -1⟩, ⟨3, fun _ => false, 1, 2⟩], re0_eq, rfl⟩
  have h2 : PartOk B bk gr oo cap re0 z0 2 := part_class (m := mb) (na := -1) (nb := -1) ⟨[⟨1, ma, -1, -1⟩, ⟨6, fun _ => false, 0, -1⟩], [⟨3, fun _ => false, 1, 2⟩], re0_eq, rfl⟩
  have h1 : PartOk B bk gr oo cap re0 z0 1 := part_ring6 (m := fun _ => false) (na := 0) (nb := -1) hgr ⟨[⟨1, ma, -1, -1⟩], [⟨1, mb, -1, -1⟩, ⟨3, fun _ => false, 1, 2⟩], re0_eq, rfl⟩ (by omega) (by decide) h0
  refine part_cat (m := fun _ => false) (na := 1) (nb := 2) hgr ⟨[⟨1, ma, -1, -1⟩, ⟨6, fun _ => false, 0, -1⟩, ⟨1, mb, -1, -1⟩], [], re0_eq, rfl⟩ (by omega) (by omega) (by decide) (fun f bh M hf => ?_) h1 h2
  obtain ⟨f', rfl⟩ : ∃ f', f = f' + 1 := ⟨f - 1, by omega⟩
  rw [prt, re0_eq]
  simp [Ms.add, z0]
end Go.Proofs.Ytkjljnneghnpiaa
namespace Go.Proofs.Ytkjljnneghnpiaa
open Go.RowKit

theorem runs_one {N : Mc} {t : ByteArray} {a : Nat} {x y : Int} {e : Int} {f : Nat} (h : RunS N t (a : Int) x y) (ha : a ≤ t.size) (hA : N.Ans ((bts t).drop a) e f) : x = (if e = -1 then -1 else (a : Int) + e) ∧ y = (a : Int) + f := by
  rcases h with ⟨h, _⟩ | ⟨a', e0, _, e1, f1, h1, h2, h3⟩
  · omega
  · have ea : a' = a := by omega
    subst ea
    obtain ⟨rfl, rfl⟩ := h1.one hA
    exact ⟨h2, h3⟩

set_option maxRecDepth 100000 in
set_option maxHeartbeats 4000000 in
theorem started_any (w : World) : Calls Try.prog 14 #[] w fun e w' => e = .returned (.bool true) ∧ Below w.heap.size w w' := by
  go_enter Try.func14, Try.ntmps14
  go_wp2_with fail
  refine (Rg.parse_any abT (by decide) w).mono ?_
  rintro e w1 h
  unfold Rg.ParRes at h
  rw [re0_ok] at h
  obtain ⟨⟨⟨v, rfl, hv⟩, _⟩, hb1⟩ := h
  have hv0 := hv
  rcases hv.2 with ⟨_, h0⟩ | ⟨gr, cap, cur, rfl, hgr, hh, _⟩
  · rw [re0_len] at h0; cases h0
  have hN : Rg.NdsAt w1 gr 0 re0 := Rg.NdsAt.of (fun j u hj => by
    have h1 := hv0.cells (g := gr) rfl j u hj
    have e0 : (⟨gr, 0, none⟩ : Addr).add j = ⟨gr, j, none⟩ := by cases j <;> simp [Addr.add]
    rw [e0] at h1
    rw [Nat.zero_add]; exact h1)
  have hgw : gr < w1.heap.size := lt_of_heap hh
  have HN : Hid (Rg.NdsAt w1 gr 0 re0) := hN
  have HGW : Hid (gr < w1.heap.size) := hgw
  have HB1 : Hid (Below w.heap.size w w1) := hb1
  clear hv hv0 hgr hh hN hgw hb1
  go_wp2_with fail
  refine (compile_ok (z := z0) (by intro e; have := re0_len; rw [e] at this; cases this) (by rw [re0_len]; decide) re0_sh (by rw [re0_len]; decide) w1 HN.out HGW.out (fun B bk hg => by rw [re0_len]; exact part0 cap gr 0 B bk hg)).mono ?_
  rintro e w2 ⟨⟨vo, vt, vf, rfl, hp⟩, hb2⟩
  rw [mc0] at hp ⊢
  obtain ⟨a1, c1, a2, c2, a3, c3, rfl, rfl, rfl⟩ := hp.shape
  obtain ⟨W3, hW3⟩ : ∃ W3, W3 = w2.alloc (.cells #[.slice a1 N0.on.length c1, .slice a2 N0.tos.length c2, .slice a3 N0.free.length c3, .int .i64 N0.start, .int .i64 N0.fin] 26) := ⟨_, rfl⟩
  have hh3 : W3.heap[w2.heap.size]? = some (.cells #[.slice a1 N0.on.length c1, .slice a2 N0.tos.length c2, .slice a3 N0.free.length c3, .int .i64 N0.start, .int .i64 N0.fin] 26 (0, 0)) := by rw [hW3]; exact World.alloc_heap_new w2 _
  have HP3 : Hid (Parts W3.heap.size W3 (.slice a1 N0.on.length c1) (.slice a2 N0.tos.length c2) (.slice a3 N0.free.length c3) N0) := by rw [hW3]; exact hp.mono (bel_up _ _) (by simp)
  have HB3 : Hid (Below w.heap.size w W3) := by rw [hW3]; exact below_trans (below_trans HB1.out hb2) (bel_up _ _)
  have W3c0 : W3.cell? ⟨w2.heap.size, 0, none⟩ = some (.slice a1 N0.on.length c1) := by rw [Lib.cell_of_heap hh3]; rfl
  have W3c1 : W3.cell? ⟨w2.heap.size, 1, none⟩ = some (.slice a2 N0.tos.length c2) := by rw [Lib.cell_of_heap hh3]; rfl
  have W3c2 : W3.cell? ⟨w2.heap.size, 2, none⟩ = some (.slice a3 N0.free.length c3) := by rw [Lib.cell_of_heap hh3]; rfl
  have W3c3 : W3.cell? ⟨w2.heap.size, 3, none⟩ = some (.int .i64 N0.start) := by rw [Lib.cell_of_heap hh3]; rfl
  have W3c4 : W3.cell? ⟨w2.heap.size, 4, none⟩ = some (.int .i64 N0.fin) := by rw [Lib.cell_of_heap hh3]; rfl
  have HW3 : Hid (W3 = w2.alloc (.cells #[.slice a1 N0.on.length c1, .slice a2 N0.tos.length c2, .slice a3 N0.free.length c3, .int .i64 N0.start, .int .i64 N0.fin] 26)) := hW3
  clear hh3 hp hb2 hW3
  go_upto_region 3 with fail
  rw [← HW3.out]
  go_wp2_with fail
  refine (run_any small0 ⟨#[120, 97, 97, 98, 122]⟩ (by decide) 1 W3 HP3.out).mono ?_
  rintro e w4 ⟨⟨x, y, rfl, hr⟩, hb4⟩
  obtain ⟨rfl, rfl⟩ := runs_one (a := 1) hr (by decide) ansX
  have HP4 : Hid (Parts w4.heap.size w4 (.slice a1 N0.on.length c1) (.slice a2 N0.tos.length c2) (.slice a3 N0.free.length c3) N0) := HP3.out.mono hb4 hb4.size
  have HB4 : Hid (Below w.heap.size w w4) := below_trans HB3.out hb4
  have w4c0 : w4.cell? ⟨w2.heap.size, 0, none⟩ = some (.slice a1 N0.on.length c1) := below_cell hb4 W3c0
  have w4c1 : w4.cell? ⟨w2.heap.size, 1, none⟩ = some (.slice a2 N0.tos.length c2) := below_cell hb4 W3c1
  have w4c2 : w4.cell? ⟨w2.heap.size, 2, none⟩ = some (.slice a3 N0.free.length c3) := below_cell hb4 W3c2
  have w4c3 : w4.cell? ⟨w2.heap.size, 3, none⟩ = some (.int .i64 N0.start) := below_cell hb4 W3c3
  have w4c4 : w4.cell? ⟨w2.heap.size, 4, none⟩ = some (.int .i64 N0.fin) := below_cell hb4 W3c4
  clear hb4 hr
  clear W3c0 W3c1 W3c2 W3c3 W3c4
  go_wp2_with fail
  refine (run_any small0 ⟨#[97, 97]⟩ (by decide) 0 w4 HP4.out).mono ?_
  rintro e w5 ⟨⟨x, y, rfl, hr⟩, hb5⟩
  obtain ⟨rfl, rfl⟩ := runs_one (a := 0) hr (by decide) ansA
  have HP5 : Hid (Parts w5.heap.size w5 (.slice a1 N0.on.length c1) (.slice a2 N0.tos.length c2) (.slice a3 N0.free.length c3) N0) := HP4.out.mono hb5 hb5.size
  have HB5 : Hid (Below w.heap.size w w5) := below_trans HB4.out hb5
  have w5c0 : w5.cell? ⟨w2.heap.size, 0, none⟩ = some (.slice a1 N0.on.length c1) := below_cell hb5 w4c0
  have w5c1 : w5.cell? ⟨w2.heap.size, 1, none⟩ = some (.slice a2 N0.tos.length c2) := below_cell hb5 w4c1
  have w5c2 : w5.cell? ⟨w2.heap.size, 2, none⟩ = some (.slice a3 N0.free.length c3) := below_cell hb5 w4c2
  have w5c3 : w5.cell? ⟨w2.heap.size, 3, none⟩ = some (.int .i64 N0.start) := below_cell hb5 w4c3
  have w5c4 : w5.cell? ⟨w2.heap.size, 4, none⟩ = some (.int .i64 N0.fin) := below_cell hb5 w4c4
  clear hb5 hr
  clear w4c0 w4c1 w4c2 w4c3 w4c4
  go_wp2_with fail
  refine (accepts_any small0 ⟨#[97, 97, 98]⟩ (by decide) w5 HP5.out).mono ?_
  rintro e w6 ⟨⟨d, rfl, hd⟩, hb6⟩
  obtain rfl : d = true := hd.2 tk3
  have HP6 : Hid (Parts w6.heap.size w6 (.slice a1 N0.on.length c1) (.slice a2 N0.tos.length c2) (.slice a3 N0.free.length c3) N0) := HP5.out.mono hb6 hb6.size
  have HB6 : Hid (Below w.heap.size w w6) := below_trans HB5.out hb6
  have w6c0 : w6.cell? ⟨w2.heap.size, 0, none⟩ = some (.slice a1 N0.on.length c1) := below_cell hb6 w5c0
  have w6c1 : w6.cell? ⟨w2.heap.size, 1, none⟩ = some (.slice a2 N0.tos.length c2) := below_cell hb6 w5c1
  have w6c2 : w6.cell? ⟨w2.heap.size, 2, none⟩ = some (.slice a3 N0.free.length c3) := below_cell hb6 w5c2
  have w6c3 : w6.cell? ⟨w2.heap.size, 3, none⟩ = some (.int .i64 N0.start) := below_cell hb6 w5c3
  have w6c4 : w6.cell? ⟨w2.heap.size, 4, none⟩ = some (.int .i64 N0.fin) := below_cell hb6 w5c4
  clear hb6 hd
  clear w5c0 w5c1 w5c2 w5c3 w5c4
  go_wp2_with fail
  refine (accepts_any small0 ⟨#[97, 97]⟩ (by decide) w6 HP6.out).mono ?_
  rintro e w7 ⟨⟨d, rfl, hd⟩, hb7⟩
  obtain rfl : d = false := by
    cases d
    · rfl
    · exact absurd (hd.1 rfl) ntk2
  have HB7 : Hid (Below w.heap.size w w7) := below_trans HB6.out hb7
  clear hb7 hd
  clear w6c0 w6c1 w6c2 w6c3 w6c4
  go_wp2_with fail
  go_ret
  exact ⟨rfl, HB7.out⟩
end Go.Proofs.Ytkjljnneghnpiaa
