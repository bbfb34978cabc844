import Derived.Test.YtjpmmihcnfedgabRapp
import Derived.Test.YtjpmmihcnfedgabRclam
import Derived.Test.YtjpmmihcnfedgabInvert
namespace Go.Proofs.Ytjpmmihcnfedgab
open Go.RowKit

set_option maxRecDepth 100000 in
set_option maxHeartbeats 1000000 in
theorem rinvert_bad (s : ByteArray) (p q : Int) (ins : ByteArray) (w : World) (hs : s.size ≤ 1048576) (hi : ins.size ≤ 1048576) (hok : ¬ okE s p q ins) :
    Calls Try.prog 16 #[.string s, ed p q ins] w fun e w' => e = .returned (ed 0 0 ⟨#[]⟩) ∧ Below w.heap.size w w' := by
  have C0 : Hid _ := fun W : World => rapply_big s p q ins W hs hi hok
  clear hs hi hok
  go_enter Try.func16, Try.ntmps16
  go_wp2_with fail
  refine (C0.out _).mono ?_
  rintro e' w2 ⟨rfl, hb⟩
  obtain ⟨h1, h2, h3⟩ := box2 hb
  have H3 : Hid _ := h3
  obtain ⟨r0, r1, r2, rf⟩ := h2
  clear hb C0 h1 h3
  go_wp2_with fail
  (try simp only [Exit.inBlock, Exit.then])
  refine bodyPost_ret (v := ed 0 0 ⟨#[]⟩) ?_ rfl ⟨rfl, ?_⟩
  · rw [results_cell1 rfl]; go_simp
  · exact bel_set3 H3.out (by omega) _ _ _

set_option maxRecDepth 100000 in
set_option maxHeartbeats 1000000 in
theorem rinvert_any (s : ByteArray) (p q : Int) (ins : ByteArray) (w : World) (hi : ins.size ≤ 1048576) (hok : okE s p q ins) :
    Calls Try.prog 16 #[.string s, ed p q ins] w fun e w' => e = .returned (ed (ca s.size p) ins.size (s.extract (ca s.size p) (ca s.size p + cd s.size p q))) ∧ Below w.heap.size w w' := by
  have hle := cd_le s.size p q
  have hs := hok.1
  have C0 : Hid _ := fun W : World => rapply_any s p q ins _ W hi hok rfl
  have C1 : Hid _ := fun W : World => rclamp_any s.size p q ins W hs
  obtain ⟨a, ha⟩ : ∃ a, a = ca s.size p := ⟨_, rfl⟩
  obtain ⟨d, hd⟩ : ∃ d, d = cd s.size p q := ⟨_, rfl⟩
  rw [← hd] at C1 hle ⊢
  rw [← ha] at C1 hle ⊢
  clear ha hd
  obtain ⟨z, hz'⟩ : ∃ z, z = a + d := ⟨_, rfl⟩
  have wr : IntKind.i64.wrap ((a : Int) + (d : Int)) = (z : Int) := by rw [IntKind.wrap_i64]; omega
  rw [← hz'] at hle ⊢
  have g1 : (0 : Int) ≤ (a : Int) := by omega
  have g2 : (a : Int) ≤ (z : Int) := by omega
  have g3 : (0 : Int) ≤ (z : Int) := by omega
  have g4 : (z : Int) ≤ (s.size : Int) := by omega
  generalize beh s p q ins = nx at C0
  clear hs hle hok hz' hi
  go_enter Try.func16, Try.ntmps16
  go_wp2_with fail
  refine (C0.out _).mono ?_
  rintro e' w2 ⟨rfl, hb⟩
  obtain ⟨h1, h2, h3⟩ := box2 hb
  have H2 : Hid _ := h2
  have H3 : Hid _ := h3
  obtain ⟨a0, a1, a2, af⟩ := h1
  clear hb C0 h2 h3
  go_wp2_with fail
  refine (C1.out _).mono ?_
  rintro e' w3 ⟨rfl, hb⟩
  have K2 : Hid _ := (H2.out.up hb).up (bel_up _ (.cells #[.int .i64 (a : Int), .int .i64 (d : Int), .string ins] 23))
  have K3 : Hid _ := below_trans (below_trans H3.out hb) (bel_up _ (.cells #[.int .i64 (a : Int), .int .i64 (d : Int), .string ins] 23))
  have KC : Hid _ := box1 (Below.refl (w3.alloc (.cells #[.int .i64 (a : Int), .int .i64 (d : Int), .string ins] 23)).heap.size (w3.alloc (.cells #[.int .i64 (a : Int), .int .i64 (d : Int), .string ins] 23)))
  have hcb : w.heap.size + 1 < w3.heap.size := cell_lt (H2.out.up hb).c0
  clear hb C1 a0 a1 a2 af H2 H3
  go_upto_region 5 with fail
  obtain ⟨W0, hW0⟩ : ∃ W0, W0 = w3.alloc (.cells #[.int .i64 (a : Int), .int .i64 (d : Int), .string ins] 23) := ⟨_, rfl⟩
  rw [← hW0] at K2 K3 KC
  rw [← hW0]
  obtain ⟨cb, hcb'⟩ : ∃ cb, cb = w3.heap.size := ⟨_, rfl⟩
  rw [← hcb'] at KC hcb
  rw [← hcb']
  have HCB : Hid _ := hcb
  clear hW0 hcb hcb'
  have HP : Hid (∀ W, Below W0.heap.size W0 W → W.cell? ⟨cb, 0, none⟩ = some (.int .i64 (a : Int)) ∧ W.cell? ⟨cb, 1, none⟩ = some (.int .i64 (d : Int)) ∧ W.cell? ⟨cb, 2, none⟩ = some (.string ins)) := fun W hW => ⟨below_cell hW KC.out.c0, below_cell hW KC.out.c1, below_cell hW KC.out.c2⟩
  have HK : Hid (∀ (W : World) (x y v : Value), (W.cell? ⟨cb, 0, none⟩ = some (.int .i64 (a : Int)) ∧ W.cell? ⟨cb, 1, none⟩ = some (.int .i64 (d : Int)) ∧ W.cell? ⟨cb, 2, none⟩ = some (.string ins)) → (((W.setCell ⟨w.heap.size + 1, 0, none⟩ x).setCell ⟨w.heap.size + 1, 1, none⟩ y).setCell ⟨w.heap.size + 1, 2, none⟩ v).cell? ⟨cb, 0, none⟩ = some (.int .i64 (a : Int)) ∧ (((W.setCell ⟨w.heap.size + 1, 0, none⟩ x).setCell ⟨w.heap.size + 1, 1, none⟩ y).setCell ⟨w.heap.size + 1, 2, none⟩ v).cell? ⟨cb, 1, none⟩ = some (.int .i64 (d : Int)) ∧ (((W.setCell ⟨w.heap.size + 1, 0, none⟩ x).setCell ⟨w.heap.size + 1, 1, none⟩ y).setCell ⟨w.heap.size + 1, 2, none⟩ v).cell? ⟨cb, 2, none⟩ = some (.string ins)) := fun W x y v h => by
    have hne := HCB.out
    exact ⟨cell_set3 _ _ _ h.1 (by simp; omega), cell_set3 _ _ _ h.2.1 (by simp; omega), cell_set3 _ _ _ h.2.2 (by simp; omega)⟩
  obtain ⟨r0, r1, r2, rf⟩ := K2.out
  refine wp_region_noPanic ?_
  refine wp_region_held_drew (S := fun W => W.cell? ⟨cb, 0, none⟩ = some (.int .i64 (a : Int)) ∧ W.cell? ⟨cb, 1, none⟩ = some (.int .i64 (d : Int)) ∧ W.cell? ⟨cb, 2, none⟩ = some (.string ins)) (by kernel_rfl) (HP.out _ (Below.drew (Below.refl _ _))) (fun hHeld => ?_)
  refine wpAnyH_take (i := 0) (oi := { dst := _, op := _, type := _, pos := _, after := _, guard := _ }) (v := ?_) rfl (by kernel_rfl) (by kernel_rfl) (by kernel_rfl) (fun _ _ _ h => h) (Or.inl ⟨by rfl, ?_⟩) (by assumption) ?_
  rotate_left
  · intro W hSw
    (try dsimp only at hSw)
    go_simp
    (try with_reducible rfl)
  try simp only [Act.put, List.setIfInBounds_toArray, List.set_cons_zero, List.set_cons_succ]
  refine wpAnyH_take (i := 1) (oi := { dst := _, op := _, type := _, pos := _, after := _, guard := _ }) (v := ?_) rfl (by kernel_rfl) (by kernel_rfl) (by kernel_rfl) (fun _ _ _ h => h) (Or.inl ⟨by rfl, ?_⟩) (by assumption) ?_
  rotate_left
  · intro W hSw
    (try dsimp only at hSw)
    go_simp
    (try with_reducible rfl)
  try simp only [Act.put, List.setIfInBounds_toArray, List.set_cons_zero, List.set_cons_succ]
  refine wpAnyH_take (i := 2) (oi := { dst := _, op := _, type := _, pos := _, after := _, guard := _ }) (v := ?_) rfl (by kernel_rfl) (by kernel_rfl) (by kernel_rfl) (fun _ _ _ h => h) (Or.inl ⟨by rfl, ?_⟩) (by assumption) ?_
  rotate_left
  · intro W hSw
    (try dsimp only at hSw)
    go_simp
    (try with_reducible rfl)
  try simp only [Act.put, List.setIfInBounds_toArray, List.set_cons_zero, List.set_cons_succ]
  refine wpAnyH_take (i := 3) (oi := { dst := _, op := _, type := _, pos := _, after := _, guard := _ }) (v := ?_) rfl (by kernel_rfl) (by kernel_rfl) (by kernel_rfl) (fun _ _ _ h => h) (Or.inl ⟨by rfl, ?_⟩) (by assumption) ?_
  rotate_left
  · intro W hSw
    (try dsimp only at hSw)
    go_simp
    (try with_reducible rfl)
  try simp only [Act.put, List.setIfInBounds_toArray, List.set_cons_zero, List.set_cons_succ]
  refine wpAnyH_take (i := 4) (oi := { dst := _, op := _, type := _, pos := _, after := _, guard := _ }) (v := ?_) rfl (by kernel_rfl) (by kernel_rfl) (by kernel_rfl) (fun _ _ _ h => h) (Or.inl ⟨by rfl, ?_⟩) (by assumption) ?_
  rotate_left
  · intro W hSw
    (try dsimp only at hSw)
    go_simp
    (try with_reducible rfl)
  try simp only [Act.put, List.setIfInBounds_toArray, List.set_cons_zero, List.set_cons_succ]
  refine wpAnyH_take (i := 5) (oi := { dst := _, op := _, type := _, pos := _, after := _, guard := _ }) (v := ?_) rfl (by kernel_rfl) (by kernel_rfl) (by kernel_rfl) (fun _ _ _ h => h) (Or.inl ⟨by rfl, ?_⟩) (by assumption) ?_
  rotate_left
  · intro W hSw
    (try dsimp only at hSw)
    go_simp
    (try with_reducible rfl)
  try simp only [Act.put, List.setIfInBounds_toArray, List.set_cons_zero, List.set_cons_succ]
  refine wpAnyH_take (i := 6) (oi := { dst := _, op := _, type := _, pos := _, after := _, guard := _ }) (v := ?_) rfl (by kernel_rfl) (by kernel_rfl) (by kernel_rfl) (fun _ _ _ h => h) (Or.inl ⟨by rfl, ?_⟩) (by assumption) ?_
  rotate_left
  · intro W hSw
    (try dsimp only at hSw)
    go_simp
    (try with_reducible rfl)
  try simp only [Act.put, List.setIfInBounds_toArray, List.set_cons_zero, List.set_cons_succ]
  refine wpAnyH_take (i := 7) (oi := { dst := _, op := _, type := _, pos := _, after := _, guard := _ }) (v := ?_) rfl (by kernel_rfl) (by kernel_rfl) (by kernel_rfl) (fun _ _ _ h => h) (Or.inl ⟨by rfl, ?_⟩) (by assumption) ?_
  rotate_left
  · intro W hSw
    (try dsimp only at hSw)
    go_simp
    (try with_reducible rfl)
  try simp only [Act.put, List.setIfInBounds_toArray, List.set_cons_zero, List.set_cons_succ]
  refine wpAnyH_take (i := 8) (oi := { dst := _, op := _, type := _, pos := _, after := _, guard := _ }) (v := ?_) rfl (by kernel_rfl) (by kernel_rfl) (by kernel_rfl) (fun _ _ _ h => h) (Or.inl ⟨by rfl, ?_⟩) (by assumption) ?_
  rotate_left
  · intro W hSw
    (try dsimp only at hSw)
    go_simp
    (try with_reducible rfl)
  try simp only [Act.put, List.setIfInBounds_toArray, List.set_cons_zero, List.set_cons_succ]
  refine wpAnyH_take (i := 9) (oi := { dst := _, op := _, type := _, pos := _, after := _, guard := _ }) (v := ?_) rfl (by kernel_rfl) (by kernel_rfl) (by kernel_rfl) (fun _ _ _ h => h) (Or.inl ⟨by rfl, ?_⟩) (by assumption) ?_
  rotate_left
  · intro W hSw
    (try dsimp only at hSw)
    go_simp
    (try with_reducible rfl)
  try simp only [Act.put, List.setIfInBounds_toArray, List.set_cons_zero, List.set_cons_succ]
  refine wpAnyH_take (i := 10) (oi := { dst := _, op := _, type := _, pos := _, after := _, guard := _ }) (v := ?_) rfl (by kernel_rfl) (by kernel_rfl) (by kernel_rfl) (fun _ _ _ h => h) (Or.inl ⟨by rfl, ?_⟩) (by assumption) ?_
  rotate_left
  · intro W hSw
    (try dsimp only at hSw)
    go_simp
    (try with_reducible rfl)
  try simp only [Act.put, List.setIfInBounds_toArray, List.set_cons_zero, List.set_cons_succ]
  refine wpAnyH_take (i := 11) (oi := { dst := _, op := _, type := _, pos := _, after := _, guard := _ }) (v := ?_) rfl (by kernel_rfl) (by kernel_rfl) (by kernel_rfl) (fun _ _ _ h => h) (Or.inl ⟨by rfl, ?_⟩) (by assumption) ?_
  rotate_left
  · intro W hSw
    (try dsimp only at hSw)
    go_simp
    (try with_reducible rfl)
  try simp only [Act.put, List.setIfInBounds_toArray, List.set_cons_zero, List.set_cons_succ]
  refine wpAnyH_take (i := 12) (oi := { dst := _, op := _, type := _, pos := _, after := _, guard := _ }) (v := ?_) rfl (by kernel_rfl) (by kernel_rfl) (by kernel_rfl) (fun _ _ _ h => h) (Or.inl ⟨by rfl, ?_⟩) (by assumption) ?_
  rotate_left
  · intro W hSw
    (try dsimp only at hSw)
    go_simp
    (try with_reducible rfl)
  try simp only [Act.put, List.setIfInBounds_toArray, List.set_cons_zero, List.set_cons_succ]
  refine wpAnyH_take (i := 13) (oi := { dst := _, op := _, type := _, pos := _, after := _, guard := _ }) (v := ?_) rfl (by kernel_rfl) (by kernel_rfl) (by kernel_rfl) (fun _ _ _ h => h) (Or.inl ⟨by rfl, ?_⟩) (by assumption) ?_
  rotate_left
  · intro W hSw
    (try dsimp only at hSw)
    go_simp
    (try with_reducible rfl)
  try simp only [Act.put, List.setIfInBounds_toArray, List.set_cons_zero, List.set_cons_succ]
  refine wpAnyH_take (i := 14) (oi := { dst := _, op := _, type := _, pos := _, after := _, guard := _ }) (v := ?_) rfl (by kernel_rfl) (by kernel_rfl) (by kernel_rfl) (fun _ _ _ h => h) (Or.inl ⟨by rfl, ?_⟩) (by assumption) ?_
  rotate_left
  · intro W hSw
    (try dsimp only at hSw)
    go_simp
    (try with_reducible rfl)
  try simp only [Act.put, List.setIfInBounds_toArray, List.set_cons_zero, List.set_cons_succ]
  refine wpAnyH_ready (rs := [15]) (by kernel_rfl) (by simp) ?_
  refine AllReadyH.cons (o := { dst := _, op := _, type := _, pos := _, after := _, guard := _ }) rfl (fun K hK => ?_) AllReadyH.nil
  go_simp
  refine hK.out _ _ ?_ (fun hHeld => ?_)
  · (try dsimp only)
    exact HK.out _ _ _ _ (by assumption)
  clear hK K
  try simp only [Act.put, List.setIfInBounds_toArray, List.set_cons_zero, List.set_cons_succ]
  refine wpAnyH_done (by kernel_rfl) ?_ _
  refine NoPanic.normal ?_
  clear hHeld HP HK wr
  go_wp2_with fail
  (try simp only [Exit.inBlock, Exit.then])
  refine bodyPost_ret (v := ed a ins.size (s.extract a z)) ?_ rfl ⟨rfl, ?_⟩
  · rw [results_cell1 rfl]; go_simp
  · exact Below.drew (bel_set3 K3.out (by omega) _ _ _)

/-- edits one behind the other -/
def allE : ByteArray → List (Int × Int × ByteArray) → Nat → ByteArray × Int × Nat
  | s, [], i => (s, 0, i)
  | s, e :: E, i => if okE s e.1 e.2.1 e.2.2 then allE (beh s e.1 e.2.1 e.2.2) E (i + 1) else (s, 10, i)
theorem drop_cons {E : List (Int × Int × ByteArray)} {i : Nat} {e : Int × Int × ByteArray} (h : E[i]? = some e) : E.drop i = e :: E.drop (i + 1) := by
  obtain ⟨hl, he⟩ := List.getElem?_eq_some_iff.1 h
  rw [List.drop_eq_getElem_cons hl, he]
theorem tup3 {a b : ByteArray × Int × Nat} (h : a = b) : Ending.returned (.tuple #[.string a.1, .int .i64 a.2.1, .int .i64 (a.2.2 : Int)]) = .returned (.tuple #[.string b.1, .int .i64 b.2.1, .int .i64 (b.2.2 : Int)]) := by rw [h]

set_option maxRecDepth 1000000 in
set_option maxHeartbeats 2000000 in
theorem all_any (s : ByteArray) (E : List (Int × Int × ByteArray)) (lp : Option Addr) (blk off cap : Nat) (w : World) (hs : s.size ≤ 1048576) (hlp : 0 < E.length → lp = some ⟨blk, off, none⟩) (hE : EditsAt w blk off E) (hI : ∀ e ∈ E, e.2.2.size ≤ 1048576) (hlen : E.length ≤ 1048576) :
    Calls Try.prog 10 #[.string s, .slice lp E.length cap] w fun x w' => x = .returned (.tuple #[.string (allE s E 0).1, .int .i64 (allE s E 0).2.1, .int .i64 ((allE s E 0).2.2 : Int)]) ∧ Below w.heap.size w w' := by
  have C21 : Hid _ := fun W : World => right_any s.size W
  rw [decide_eq_true (show 0 ≤ (s.size : Int) ∧ (s.size : Int) ≤ 1048576 by omega)] at C21
  have HLP : Hid _ := hlp
  have HE : Hid (EditsAt w blk off E) := hE
  have HI : Hid _ := hI
  have HS : Hid _ := hs
  clear hlp hE hI hs
  go_enter Try.func10, Try.ntmps10
  go_wp2_with fail
  refine (C21.out _).mono ?_
  rintro e' w1 ⟨rfl, rfl⟩
  clear C21
  go_wp2_with fail
  go_loopg [0, 17] E.length (fun g vt vi wr => ∃ (now : ByteArray) (i : Nat), vt = .string now ∧ vi = .int .i64 (i : Int) ∧ i ≤ E.length ∧ g = E.length - i ∧ now.size ≤ 1048576 ∧ allE now (E.drop i) i = allE s E 0 ∧ Below w.heap.size w wr)
  case atStart => exact ⟨s, 0, rfl, rfl, by omega, rfl, HS.out, rfl, Below.refl _ _⟩
  case round =>
    obtain ⟨now, i, rfl, rfl, hin, hg, hnow, hall, hbel⟩ := hrel
    have HG : Hid _ := hg
    have HA : Hid _ := hall
    have HB : Hid _ := hbel
    clear hg hall hbel
    by_cases hi : i < E.length
    · have hiI : (i : Int) < (E.length : Int) := by omega
      have hil : i ≤ 1048576 := by omega
      obtain ⟨ed0, hed⟩ : ∃ ed, E[i]? = some ed := ⟨E[i], List.getElem?_eq_getElem hi⟩
      have hme : ed0 ∈ E := by rw [List.getElem?_eq_some_iff] at hed; obtain ⟨_, rfl⟩ := hed; exact List.getElem_mem _
      have hinz := HI.out ed0 hme
      obtain ⟨m0, m1, m2⟩ := (EditsAt.up HE.out HB.out) i ed0 hed
      have hlpE := HLP.out (by omega)
      subst hlpE
      have hA := HA.out
      rw [drop_cons hed] at hA
      obtain ⟨p, q, ins⟩ := ed0
      simp only at m0 m1 m2 hinz
      have hI0 : (0 : Int) ≤ (i : Int) := by omega
      by_cases hok : okE now p q ins
      · have C13 : Hid (∀ W : World, Calls Try.prog 13 #[.string now, ed p q ins] W fun e W' => e = .returned (.tuple #[.string (beh now p q ins), .int .i64 0]) ∧ Below W.heap.size W W') := fun W => apply_any now p q ins W hok
        have hbz : (beh now p q ins).size ≤ 1048576 := by rw [beh_size]; exact hok.2
        have hA2 : allE (beh now p q ins) (E.drop (i + 1)) (i + 1) = allE s E 0 := by
          rw [← hA]
          show _ = if okE now p q ins then _ else _
          rw [if_pos hok]
        obtain ⟨nx, hnx⟩ : ∃ nx, beh now p q ins = nx := ⟨_, rfl⟩
        rw [hnx] at C13 hbz hA2
        have NX : Hid (nx.size ≤ 1048576 ∧ allE nx (E.drop (i + 1)) (i + 1) = allE s E 0 ∧ i < E.length) := ⟨hbz, hA2, hi⟩
        clear hok hbz hA hA2 hnx hed hme hi hin hnow
        go_wp2_with fail
        refine (C13.out _).mono ?_
        rintro e' w2 ⟨rfl, hb⟩
        have B2 : Hid _ := below_trans (below_trans HB.out (bel_up _ _)) hb
        clear hb C13 m0 m1 m2
        go_wp2_with fail
        go_roundg (E.length - (i + 1))
        case measure =>
          have := HG.out
          have := NX.out.2.2
          omega
        case rel =>
          obtain ⟨n1, n2, n3⟩ := NX.out
          exact ⟨nx, i + 1, rfl, by simp, by omega, rfl, n1, n2, B2.out⟩
      · have C13 : Hid _ := fun W : World => apply_big now p q ins W (by omega) (by omega) hok
        have RES : Hid ((now, (10 : Int), i) = allE s E 0) := by
          rw [← hA]
          show _ = if okE now p q ins then _ else _
          rw [if_neg hok]
        clear hok hA hed hme hi hin hnow
        go_wp2_with fail
        refine (C13.out _).mono ?_
        rintro e' w2 ⟨rfl, hb⟩
        have B2 : Hid _ := below_trans (below_trans HB.out (bel_up _ _)) hb
        clear hb C13 m0 m1 m2
        go_wp2_with fail
        go_ret3
        exact ⟨tup3 RES.out, B2.out⟩
    · have hiI : ¬ (i : Int) < (E.length : Int) := by omega
      have RES : Hid ((now, (0 : Int), E.length) = allE s E 0) := by
        have hA := HA.out
        have hie : i = E.length := by omega
        subst hie
        rw [List.drop_length] at hA
        exact hA
      clear hi hin hnow
      go_wp2_with fail
      go_ret3
      exact ⟨tup3 RES.out, HB.out⟩

set_option maxRecDepth 1000000 in
set_option maxHeartbeats 2000000 in
theorem rall_any (s : ByteArray) (E : List (Int × Int × ByteArray)) (lp : Option Addr) (blk off cap : Nat) (w : World) (hs : s.size ≤ 1048576) (hlp : 0 < E.length → lp = some ⟨blk, off, none⟩) (hE : EditsAt w blk off E) (hI : ∀ e ∈ E, e.2.2.size ≤ 1048576) (hlen : E.length ≤ 1048576) :
    Calls Try.prog 11 #[.string s, .slice lp E.length cap] w fun x w' => x = .returned (.tuple #[.string (allE s E 0).1, .int .i64 (allE s E 0).2.1, .int .i64 ((allE s E 0).2.2 : Int)]) ∧ Below w.heap.size w w' := by
  have HLP : Hid _ := hlp
  have HE : Hid (EditsAt w blk off E) := hE
  have HI : Hid _ := hI
  have HS : Hid _ := hs
  have hs2 : ¬ (1048576 : Int) < (s.size : Int) := by omega
  clear hlp hE hI hs
  go_enter Try.func11, Try.ntmps11
  go_wp2_with fail
  clear hs2
  go_loopg [0, 7] E.length (fun g vt vi wr => ∃ (now : ByteArray) (i : Nat), vt = .string now ∧ vi = .int .i64 (i : Int) ∧ i ≤ E.length ∧ g = E.length - i ∧ now.size ≤ 1048576 ∧ allE now (E.drop i) i = allE s E 0 ∧ Below w.heap.size w wr)
  case atStart => exact ⟨s, 0, rfl, rfl, by omega, rfl, HS.out, rfl, Below.refl _ _⟩
  case round =>
    obtain ⟨now, i, rfl, rfl, hin, hg, hnow, hall, hbel⟩ := hrel
    have HG : Hid _ := hg
    have HA : Hid _ := hall
    have HB : Hid _ := hbel
    clear hg hall hbel
    by_cases hi : i < E.length
    · have hiI : (i : Int) < (E.length : Int) := by omega
      have hil : i ≤ 1048576 := by omega
      obtain ⟨ed0, hed⟩ : ∃ ed, E[i]? = some ed := ⟨E[i], List.getElem?_eq_getElem hi⟩
      have hme : ed0 ∈ E := by rw [List.getElem?_eq_some_iff] at hed; obtain ⟨_, rfl⟩ := hed; exact List.getElem_mem _
      have hinz := HI.out ed0 hme
      obtain ⟨m0, m1, m2⟩ := (EditsAt.up HE.out HB.out) i ed0 hed
      have hlpE := HLP.out (by omega)
      subst hlpE
      have hA := HA.out
      rw [drop_cons hed] at hA
      obtain ⟨p, q, ins⟩ := ed0
      simp only at m0 m1 m2 hinz
      have hI0 : (0 : Int) ≤ (i : Int) := by omega
      by_cases hok : okE now p q ins
      · have C13 : Hid _ := fun W : World => rapply_any now p q ins _ W hinz hok rfl
        have hbz : (beh now p q ins).size ≤ 1048576 := by rw [beh_size]; exact hok.2
        have hA2 : allE (beh now p q ins) (E.drop (i + 1)) (i + 1) = allE s E 0 := by
          rw [← hA]
          show _ = if okE now p q ins then _ else _
          rw [if_pos hok]
        obtain ⟨nx, hnx⟩ : ∃ nx, beh now p q ins = nx := ⟨_, rfl⟩
        rw [hnx] at C13 hbz hA2
        have NX : Hid (nx.size ≤ 1048576 ∧ allE nx (E.drop (i + 1)) (i + 1) = allE s E 0 ∧ i < E.length) := ⟨hbz, hA2, hi⟩
        clear hok hbz hA hA2 hnx hed hme hi hin hnow
        go_wp2_with fail
        refine (C13.out _).mono ?_
        rintro e' w2 ⟨rfl, hb⟩
        have B2 : Hid _ := below_trans HB.out hb
        clear hb C13 m0 m1 m2
        go_wp2_with fail
        go_roundg (E.length - (i + 1))
        case measure =>
          have := HG.out
          have := NX.out.2.2
          omega
        case rel =>
          obtain ⟨n1, n2, n3⟩ := NX.out
          exact ⟨nx, i + 1, rfl, by simp, by omega, rfl, n1, n2, B2.out⟩
      · have C13 : Hid _ := fun W : World => rapply_big now p q ins W hnow hinz hok
        have RES : Hid ((now, (10 : Int), i) = allE s E 0) := by
          rw [← hA]
          show _ = if okE now p q ins then _ else _
          rw [if_neg hok]
        clear hok hA hed hme hi hin hnow
        go_wp2_with fail
        refine (C13.out _).mono ?_
        rintro e' w2 ⟨rfl, hb⟩
        have B2 : Hid _ := below_trans HB.out hb
        clear hb C13 m0 m1 m2
        go_wp2_with fail
        go_ret3
        exact ⟨tup3 RES.out, B2.out⟩
    · have hiI : ¬ (i : Int) < (E.length : Int) := by omega
      have RES : Hid ((now, (0 : Int), E.length) = allE s E 0) := by
        have hA := HA.out
        have hie : i = E.length := by omega
        subst hie
        rw [List.drop_length] at hA
        exact hA
      clear hi hin hnow
      go_wp2_with fail
      go_ret3
      exact ⟨tup3 RES.out, HB.out⟩

set_option maxRecDepth 1000000 in
set_option maxHeartbeats 2000000 in
theorem same_any (E : List (Int × Int × ByteArray)) (lp1 lp2 : Option Addr) (b1 o1 c1 b2 o2 c2 : Nat) (w : World) (hlp1 : 0 < E.length → lp1 = some ⟨b1, o1, none⟩) (hlp2 : 0 < E.length → lp2 = some ⟨b2, o2, none⟩) (hE1 : EditsAt w b1 o1 E) (hE2 : EditsAt w b2 o2 E) (hlen : E.length ≤ 1048576) :
    Calls Try.prog 12 #[.slice lp1 E.length c1, .slice lp2 E.length c2] w fun x w' => x = .returned (.bool true) ∧ Below w.heap.size w w' := by
  have HLP1 : Hid _ := hlp1
  have HLP2 : Hid _ := hlp2
  have HE1 : Hid (EditsAt w b1 o1 E) := hE1
  have HE2 : Hid (EditsAt w b2 o2 E) := hE2
  clear hlp1 hlp2 hE1 hE2
  go_enter Try.func12, Try.ntmps12
  go_wp2_with fail
  go_loopg [5] E.length (fun g vi wr => ∃ i : Nat, vi = .int .i64 (i : Int) ∧ i ≤ E.length ∧ g = E.length - i ∧ Below w.heap.size w wr)
  case atStart => exact ⟨0, rfl, by omega, rfl, Below.refl _ _⟩
  case round =>
    obtain ⟨i, rfl, hin, hg, hbel⟩ := hrel
    have HG : Hid _ := hg
    have HB : Hid _ := hbel
    clear hg hbel
    by_cases hi : i < E.length
    · have hiI : (i : Int) < (E.length : Int) := by omega
      have hil : i ≤ 1048576 := by omega
      obtain ⟨ed0, hed⟩ : ∃ ed, E[i]? = some ed := ⟨E[i], List.getElem?_eq_getElem hi⟩
      have e1 := HLP1.out (by omega)
      have e2 := HLP2.out (by omega)
      subst e1
      subst e2
      obtain ⟨p, q, ins⟩ := ed0
      have HP : Hid (∀ W, Below wr.heap.size wr W → W.cell? ⟨b1, o1 + i * 3, none⟩ = some (.int .i64 p) ∧ W.cell? ⟨b1, o1 + i * 3 + 1, none⟩ = some (.int .i64 q) ∧ W.cell? ⟨b1, o1 + i * 3 + 2, none⟩ = some (.string ins) ∧ W.cell? ⟨b2, o2 + i * 3, none⟩ = some (.int .i64 p) ∧ W.cell? ⟨b2, o2 + i * 3 + 1, none⟩ = some (.int .i64 q) ∧ W.cell? ⟨b2, o2 + i * 3 + 2, none⟩ = some (.string ins)) := fun W hW => by
        obtain ⟨m0, m1, m2⟩ := (EditsAt.up HE1.out (below_trans HB.out hW)) i _ hed
        obtain ⟨n0, n1, n2⟩ := (EditsAt.up HE2.out (below_trans HB.out hW)) i _ hed
        exact ⟨m0, m1, m2, n0, n1, n2⟩
      have hI0 : (0 : Int) ≤ (i : Int) := by omega
      have HI : Hid _ := hi
      clear hed hi hin
      go_upto_region 6 with fail
      refine wp_region_noPanic ?_
      refine wp_region_held_drew (S := fun W => W.cell? ⟨b1, o1 + i * 3, none⟩ = some (.int .i64 p) ∧ W.cell? ⟨b1, o1 + i * 3 + 1, none⟩ = some (.int .i64 q) ∧ W.cell? ⟨b1, o1 + i * 3 + 2, none⟩ = some (.string ins) ∧ W.cell? ⟨b2, o2 + i * 3, none⟩ = some (.int .i64 p) ∧ W.cell? ⟨b2, o2 + i * 3 + 1, none⟩ = some (.int .i64 q) ∧ W.cell? ⟨b2, o2 + i * 3 + 2, none⟩ = some (.string ins)) (by kernel_rfl) (HP.out _ (Below.drew (Below.refl _ _))) (fun hHeld => ?_)
      refine wpAnyH_take (i := 0) (oi := { dst := _, op := _, type := _, pos := _, after := _, guard := _ }) (v := ?_) rfl (by kernel_rfl) (by kernel_rfl) (by kernel_rfl) (fun _ _ _ h => h) (Or.inl ⟨by rfl, ?_⟩) (by assumption) ?_
      rotate_left
      · intro W hSw
        (try dsimp only at hSw)
        go_simp
        (try with_reducible rfl)
      try simp only [Act.put, List.setIfInBounds_toArray, List.set_cons_zero, List.set_cons_succ]
      refine wpAnyH_take (i := 1) (oi := { dst := _, op := _, type := _, pos := _, after := _, guard := _ }) (v := ?_) rfl (by kernel_rfl) (by kernel_rfl) (by kernel_rfl) (fun _ _ _ h => h) (Or.inl ⟨by rfl, ?_⟩) (by assumption) ?_
      rotate_left
      · intro W hSw
        (try dsimp only at hSw)
        go_simp
        (try with_reducible rfl)
      try simp only [Act.put, List.setIfInBounds_toArray, List.set_cons_zero, List.set_cons_succ]
      refine wpAnyH_take (i := 2) (oi := { dst := _, op := _, type := _, pos := _, after := _, guard := _ }) (v := ?_) rfl (by kernel_rfl) (by kernel_rfl) (by kernel_rfl) (fun _ _ _ h => h) (Or.inl ⟨by rfl, ?_⟩) (by assumption) ?_
      rotate_left
      · intro W hSw
        (try dsimp only at hSw)
        go_simp
        (try with_reducible rfl)
      try simp only [Act.put, List.setIfInBounds_toArray, List.set_cons_zero, List.set_cons_succ]
      refine wpAnyH_take (i := 3) (oi := { dst := _, op := _, type := _, pos := _, after := _, guard := _ }) (v := ?_) rfl (by kernel_rfl) (by kernel_rfl) (by kernel_rfl) (fun _ _ _ h => h) (Or.inl ⟨by rfl, ?_⟩) (by assumption) ?_
      rotate_left
      · intro W hSw
        (try dsimp only at hSw)
        go_simp
        (try with_reducible rfl)
      try simp only [Act.put, List.setIfInBounds_toArray, List.set_cons_zero, List.set_cons_succ]
      refine wpAnyH_take (i := 4) (oi := { dst := _, op := _, type := _, pos := _, after := _, guard := _ }) (v := ?_) rfl (by kernel_rfl) (by kernel_rfl) (by kernel_rfl) (fun _ _ _ h => h) (Or.inl ⟨by rfl, ?_⟩) (by assumption) ?_
      rotate_left
      · intro W hSw
        (try dsimp only at hSw)
        go_simp
        (try with_reducible rfl)
      try simp only [Act.put, List.setIfInBounds_toArray, List.set_cons_zero, List.set_cons_succ]
      refine wpAnyH_take (i := 5) (oi := { dst := _, op := _, type := _, pos := _, after := _, guard := _ }) (v := ?_) rfl (by kernel_rfl) (by kernel_rfl) (by kernel_rfl) (fun _ _ _ h => h) (Or.inl ⟨by rfl, ?_⟩) (by assumption) ?_
      rotate_left
      · intro W hSw
        (try dsimp only at hSw)
        go_simp
        (try with_reducible rfl)
      try simp only [Act.put, List.setIfInBounds_toArray, List.set_cons_zero, List.set_cons_succ]
      refine wpAnyH_take (i := 6) (oi := { dst := _, op := _, type := _, pos := _, after := _, guard := _ }) (v := ?_) rfl (by kernel_rfl) (by kernel_rfl) (by kernel_rfl) (fun _ _ _ h => h) (Or.inl ⟨by rfl, ?_⟩) (by assumption) ?_
      rotate_left
      · intro W hSw
        (try dsimp only at hSw)
        go_simp
        (try with_reducible rfl)
      try simp only [Act.put, List.setIfInBounds_toArray, List.set_cons_zero, List.set_cons_succ]
      refine wpAnyH_take (i := 7) (oi := { dst := _, op := _, type := _, pos := _, after := _, guard := _ }) (v := ?_) rfl (by kernel_rfl) (by kernel_rfl) (by kernel_rfl) (fun _ _ _ h => h) (Or.inl ⟨by rfl, ?_⟩) (by assumption) ?_
      rotate_left
      · intro W hSw
        (try dsimp only at hSw)
        go_simp
        (try with_reducible rfl)
      try simp only [Act.put, List.setIfInBounds_toArray, List.set_cons_zero, List.set_cons_succ]
      refine wpAnyH_take (i := 8) (oi := { dst := _, op := _, type := _, pos := _, after := _, guard := _ }) (v := ?_) rfl (by kernel_rfl) (by kernel_rfl) (by kernel_rfl) (fun _ _ _ h => h) (Or.inl ⟨by rfl, ?_⟩) (by assumption) ?_
      rotate_left
      · intro W hSw
        (try dsimp only at hSw)
        go_simp
        (try with_reducible rfl)
      try simp only [Act.put, List.setIfInBounds_toArray, List.set_cons_zero, List.set_cons_succ]
      refine wpAnyH_done (by kernel_rfl) ?_ _
      refine NoPanic.normal ?_
      have B1 : Hid (Below wr.heap.size wr wr.drew) := Below.drew (Below.refl _ _)
      clear hHeld HP
      generalize wr.drew = W1 at B1
      go_wp2_with fail
      go_roundg (E.length - (i + 1))
      case measure =>
        have := HG.out
        have := HI.out
        omega
      case rel =>
        have := HI.out
        exact ⟨i + 1, by simp, by omega, rfl, below_trans HB.out B1.out⟩
    · have hiI : ¬ (i : Int) < (E.length : Int) := by omega
      clear hi hin
      go_wp2_with fail
      go_ret
      exact ⟨rfl, HB.out⟩

end Go.Proofs.Ytjpmmihcnfedgab
