import Derived.Test.YtgdmoeocgflhgaaDoorDcn
namespace Go.Proofs.YtgdmoeocgflhgaaDoor
open Go.RowKit Go.Maps

def akV (x : Ak) : Value := .agg #[.int .i64 x.1, .int .i64 x.2]
set_option maxRecDepth 100000 in
set_option maxHeartbeats 8000000 in
theorem actionOf_any (k : Nat) (hk : k < 9223372036854775808) (w : World) :
    Calls Tryd.prog 31 #[.int .i64 (k : Int)] w fun e w' => e = .returned (.agg #[.int .i64 (aco k).1, .int .i64 (aco k).2]) ∧ Below w.heap.size w w' := by
  have HK : Hid (k < 9223372036854775808) := hk
  have HA : Hid (aco k = if k = 0 then ((0, 0) : Ak) else if k = 1 then (3, 0) else if k % 2 = 0 then (1, (((k - 2) / 2 : Nat) : Int)) else (2, (((k - 3) / 2 : Nat) : Int))) := rfl
  obtain ⟨x, hx⟩ : ∃ x, aco k = x := ⟨_, rfl⟩
  rw [hx] at HA ⊢
  clear hx hk
  obtain ⟨xa, xb⟩ := x
  dsimp only
  by_cases h0 : k = 0
  · rw [if_pos h0] at HA
    obtain ⟨rfl, rfl⟩ := Prod.mk.inj HA.out
    subst h0
    go_enter Tryd.func31, Tryd.ntmps31
    go_wp2_with fail
    refine bodyPost_ret (v := .agg #[.int .i64 0, .int .i64 0]) ?_ rfl ⟨rfl, ?_⟩
    · rw [results_cell1 rfl]; go_simp
    · first | exact bel_up _ _ | exact ((bel_up _ _).setCell (p := ⟨w.heap.size, 0, none⟩) (Nat.le_refl _) _).setCell (p := ⟨w.heap.size, 1, none⟩) (Nat.le_refl _) _
  have e0 : ((k : Int) == 0) = false := by rw [beq_eq_false_iff_ne]; omega
  rw [if_neg h0] at HA
  by_cases h1 : k = 1
  · rw [if_pos h1] at HA
    obtain ⟨rfl, rfl⟩ := Prod.mk.inj HA.out
    subst h1
    go_enter Tryd.func31, Tryd.ntmps31
    go_wp2_with fail
    refine bodyPost_ret (v := .agg #[.int .i64 3, .int .i64 0]) ?_ rfl ⟨rfl, ?_⟩
    · rw [results_cell1 rfl]; go_simp
    · first | exact bel_up _ _ | exact ((bel_up _ _).setCell (p := ⟨w.heap.size, 0, none⟩) (Nat.le_refl _) _).setCell (p := ⟨w.heap.size, 1, none⟩) (Nat.le_refl _) _
  have e1 : ((k : Int) == 1) = false := by rw [beq_eq_false_iff_ne]; omega
  rw [if_neg h1] at HA
  have l1 : (2 : Int) ≤ (k : Int) := by omega
  by_cases h2 : k % 2 = 0
  · rw [if_pos h2] at HA
    obtain ⟨rfl, rfl⟩ := Prod.mk.inj HA.out
    have e2 : ((k : Int) % 2 == 0) = true := by rw [beq_iff_eq]; omega
    have e3 : (k : Int) % 2 = 0 := by omega
    have w1 : IntKind.i64.wrap ((k : Int) - 2) = ((k - 2 : Nat) : Int) := by have := HK.out; rw [IntKind.wrap_i64]; omega
    obtain ⟨d, hd⟩ : ∃ d, k - 2 = d := ⟨_, rfl⟩
    have HD : Hid (d < 9223372036854775808) := by have := HK.out; show _ < _; omega
    rw [hd] at w1 ⊢
    have w2 : IntKind.i64.wrap ((d : Int) / 2) = ((d / 2 : Nat) : Int) := by have := HD.out; rw [IntKind.wrap_i64]; omega
    clear h2 hd h0 h1
    go_enter Tryd.func31, Tryd.ntmps31
    go_wp2_with fail
    refine bodyPost_ret (v := .agg #[.int .i64 1, .int .i64 ((d / 2 : Nat) : Int)]) ?_ rfl ⟨rfl, ?_⟩
    · rw [results_cell1 rfl]; go_simp
    · first | exact bel_up _ _ | exact ((bel_up _ _).setCell (p := ⟨w.heap.size, 0, none⟩) (Nat.le_refl _) _).setCell (p := ⟨w.heap.size, 1, none⟩) (Nat.le_refl _) _
  · rw [if_neg h2] at HA
    obtain ⟨rfl, rfl⟩ := Prod.mk.inj HA.out
    have e2 : ((k : Int) % 2 == 0) = false := by rw [beq_eq_false_iff_ne]; omega
    have e3 : (k : Int) % 2 = 1 := by omega
    have w1 : IntKind.i64.wrap ((k : Int) - 3) = ((k - 3 : Nat) : Int) := by have := HK.out; rw [IntKind.wrap_i64]; omega
    obtain ⟨d, hd⟩ : ∃ d, k - 3 = d := ⟨_, rfl⟩
    have HD : Hid (d < 9223372036854775808) := by have := HK.out; show _ < _; omega
    rw [hd] at w1 ⊢
    have w2 : IntKind.i64.wrap ((d : Int) / 2) = ((d / 2 : Nat) : Int) := by have := HD.out; rw [IntKind.wrap_i64]; omega
    clear h2 hd h0 h1
    go_enter Tryd.func31, Tryd.ntmps31
    go_wp2_with fail
    refine bodyPost_ret (v := .agg #[.int .i64 2, .int .i64 ((d / 2 : Nat) : Int)]) ?_ rfl ⟨rfl, ?_⟩
    · rw [results_cell1 rfl]; go_simp
    · first | exact bel_up _ _ | exact ((bel_up _ _).setCell (p := ⟨w.heap.size, 0, none⟩) (Nat.le_refl _) _).setCell (p := ⟨w.heap.size, 1, none⟩) (Nat.le_refl _) _
/-- A block that is not the reader's stays. -/
theorem Fr.box {W W' : World} {r b : Nat} {cs cr : Array Value} {t : TypeId} (h : Fr W W' r) (hb : W.heap[b]? = some (.cells cs t (0, 0))) (hr : W.heap[r]? = some (.cells cr 61 (0, 0))) (ht : t ≠ 61) : W'.heap[b]? = some (.cells cs t (0, 0)) :=
  h.blk hb (fun q => by rw [q, hr] at hb; cases hb; exact ht rfl)
set_option maxRecDepth 100000 in
set_option maxHeartbeats 16000000 in
theorem entry_any {r p n : Nat} {s : ByteArray} {sa : Addr} (hs : s.size ≤ 140737488355328) (hp : p ≤ s.size) (hn2 : n ≤ 2048) (w : World) (hr : Rd w r s p) (hn : Sn w sa) (h0 : r ≠ 0) :
    Calls Tryd.prog 21 #[.pointer (some ⟨r, 0, none⟩), .int .i64 (n : Int)] w fun e w' => Cr r s sa (fun v : Int => .int .i64 v) (.int .i64 0) (entR n s p) e w' ∧ Fr w w' r ∧ Sn w' sa := by
  have HCT : Hid (Calls Tryd.prog 30 #[.pointer (some ⟨r, 0, none⟩), .int .i64 0, .int .i64 (n : Int)] w fun e w' => Cr r s sa (fun v : Nat => .int .i64 (v : Int)) (.int .i64 0) (num s 0 n p) e w' ∧ Fr w w' r ∧ Sn w' sa) := count_any (lo := 0) hs hp (by omega) (by omega) w hr hn h0
  have HLE : Hid (∀ v q, num s 0 n p = .ok (v, q) → v ≤ n) := fun v q h => (num_le h hp).2.2.1
  have HE : Hid (entR n s p = match num s 0 n p with
    | .error b => .error b
    | .ok (k, q) => .ok ((k : Int) - 1, q)) := rfl
  have HN2 : Hid (n ≤ 2048) := hn2
  obtain ⟨N, hN⟩ : ∃ N, num s 0 n p = N := ⟨_, rfl⟩
  obtain ⟨E, hE⟩ : ∃ E, entR n s p = E := ⟨_, rfl⟩
  rw [hN] at HCT HLE HE
  rw [hE] at HE ⊢
  clear hN hE hs hp hr hn h0 hn2
  cases N with
  | error b =>
    obtain rfl : E = .error b := HE.out
    go_enter Tryd.func21, Tryd.ntmps21
    go_wp2_with (go_at_call 30; refine Calls.mono HCT.out ?_; rintro e W2 ⟨⟨ev, q, rfl, her, hrd, hq⟩, hfr, hsn⟩; have H2 : Hid (Er W2 sa ev b ∧ Rd W2 r s q ∧ q ≤ s.size ∧ Fr w W2 r ∧ Sn W2 sa) := ⟨her, hrd, hq, hfr, hsn⟩; obtain ⟨et, evv, rfl⟩ := her.form; clear her hrd hq hfr hsn)
    go_ret2
    exact ⟨⟨_, q, rfl, H2.out.1, H2.out.2.1, H2.out.2.2.1⟩, H2.out.2.2.2.1, H2.out.2.2.2.2⟩
  | ok y =>
    obtain ⟨v, q⟩ := y
    obtain rfl : E = .ok ((v : Int) - 1, q) := HE.out
    have hv := HLE.out v q rfl
    have hwv : IntKind.i64.wrap ((v : Int) - 1) = (v : Int) - 1 := by have := HN2.out; rw [IntKind.wrap_i64]; omega
    clear hv
    go_enter Tryd.func21, Tryd.ntmps21
    go_wp2_with (go_at_call 30; refine Calls.mono HCT.out ?_; rintro e W2 ⟨⟨rfl, hrd⟩, hfr, hsn⟩; have H2 : Hid (Rd W2 r s q ∧ Fr w W2 r ∧ Sn W2 sa) := ⟨hrd, hfr, hsn⟩; clear hrd hfr hsn)
    go_ret2
    exact ⟨⟨rfl, H2.out.1⟩, H2.out.2.1, H2.out.2.2⟩
end Go.Proofs.YtgdmoeocgflhgaaDoor
