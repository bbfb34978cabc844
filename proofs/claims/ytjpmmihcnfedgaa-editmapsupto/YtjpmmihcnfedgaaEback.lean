import Derived.Test.YtjpmmihcnfedgaaAlive
import Derived.Test.YtjpmmihcnfedgaaCover
import Derived.Lib.OthersKept
import Derived.OwnWalk
import Derived.Maps.AppendAt
import Derived.Laws.OwnMore
import Derived.Deep.CutBlock
namespace Go.Proofs.Ytjpmmihcnfedgaa
open Go.RowKit

theorem grown_none {w w' : World} (h : Below w.heap.size w w') : w.grownBy w' none := ⟨h.os, h.tape, h.output, h.size, fun k hk _ => h.block k hk⟩
theorem own_mono {w w' : World} {base : Nat} {e : TypeId} {z : Nat} {v : Value} {n : Nat} {xs : List Value} (h : w.ownsRow base e z v n xs) (hb : Below w.heap.size w w') : w'.ownsRow base e z v n xs :=
  h.kept (grown_none hb) (by cases hv : v.ownBlock <;> simp)
theorem own_form {w : World} {base e z : Nat} {v : Value} {n : Nat} {xs : List Value} (h : w.ownsRow base e z v n xs) (hn : 0 < n) :
    ∃ g cap, v = .slice (some ⟨g, 0, none⟩) n cap ∧ n ≤ cap ∧ base ≤ g ∧ g < w.heap.size := by
  obtain ⟨h1, h2⟩ := h
  rcases h2 with ⟨_, h2⟩ | ⟨g, cap, cur, rfl, hg, hh, hcap, _⟩
  · omega
  · exact ⟨g, cap, rfl, hcap, hg, lt_of_heap hh⟩
theorem own_slice {w : World} {base e z : Nat} {v : Value} {n : Nat} {xs : List Value} (h : w.ownsRow base e z v n xs) : ∃ a cap, v = .slice a n cap := by
  obtain ⟨h1, h2⟩ := h
  rcases h2 with ⟨rfl, h2⟩ | ⟨g, cap, cur, rfl, hg, hh, hcap, _⟩
  · subst h2
    exact ⟨_, _, rfl⟩
  · exact ⟨_, _, rfl⟩

/-- edits in memory -/
def EditsAt (w : World) (blk off : Nat) (E : List (Int × Int × ByteArray)) : Prop :=
  ∀ (i : Nat) (e : Int × Int × ByteArray), E[i]? = some e → w.cell? ⟨blk, off + i * 3, none⟩ = some (.int .i64 e.1) ∧ w.cell? ⟨blk, off + i * 3 + 1, none⟩ = some (.int .i64 e.2.1) ∧ w.cell? ⟨blk, off + i * 3 + 2, none⟩ = some (.string e.2.2)
theorem EditsAt.up {w w' : World} {blk off : Nat} {E : List (Int × Int × ByteArray)} (h : EditsAt w blk off E) (hb : Below w.heap.size w w') : EditsAt w' blk off E := fun i e he => by
  obtain ⟨h0, h1, h2⟩ := h i e he
  exact ⟨below_cell hb h0, below_cell hb h1, below_cell hb h2⟩
/-- the cells of edits -/
def ecells (V : List (Int × Int × ByteArray)) : List Value := V.flatMap fun v => [.int .i64 v.1, .int .i64 v.2.1, .string v.2.2]
theorem ecells_app (V U : List (Int × Int × ByteArray)) : ecells (V ++ U) = ecells V ++ ecells U := by simp [ecells]
theorem ecells_at (V : List (Int × Int × ByteArray)) (i : Nat) (x : Int × Int × ByteArray) (h : V[i]? = some x) :
    (ecells V)[i * 3]? = some (.int .i64 x.1) ∧ (ecells V)[i * 3 + 1]? = some (.int .i64 x.2.1) ∧ (ecells V)[i * 3 + 2]? = some (.string x.2.2) := by
  induction V generalizing i with
  | nil => simp at h
  | cons a T ih =>
    cases i with
    | zero =>
      simp at h
      subst h
      simp [ecells]
    | succ i =>
      have := ih i (by simpa using h)
      rw [show (i + 1) * 3 = i * 3 + 1 + 1 + 1 by omega]
      simpa [ecells] using this
theorem info23 : (Try.prog.info? 23).map (fun i => (i.zero, i.size, i.bytes)) = some (some (.agg #[.int .i64 0, .int .i64 0, .string ⟨#[]⟩]), 3, 32) := by kernel_rfl
theorem cell_three_new (w : World) (a b c : Value) (t : TypeId) : ∀ (j : Nat) (u : Value), [a, b, c][j]? = some u → (w.alloc (.cells #[a, b, c] t)).cell? ((⟨w.heap.size, 0, none⟩ : Addr).add j) = some u := by
  intro j u hu
  obtain ⟨h0, h1, h2⟩ := cells3 w a b c t
  match j, hu with
  | 0, hu => simp at hu; subst hu; exact h0
  | 1, hu => simp at hu; subst hu; simp [Addr.add, h1]
  | 2, hu => simp at hu; subst hu; simp [Addr.add, h2]
  | n + 3, hu => simp at hu

/-- the first j inverses, the last one first, take the text back -/
def UnAt (s : ByteArray) (V : List (Int × Int × ByteArray)) : Nat → ByteArray → Prop
  | 0, now => now = s
  | j + 1, now => ∃ v, V[j]? = some v ∧ okE now v.1 v.2.1 v.2.2 ∧ UnAt s V j (beh now v.1 v.2.1 v.2.2)
theorem UnAt.app {s : ByteArray} {V : List (Int × Int × ByteArray)} (x : Int × Int × ByteArray) : ∀ (j : Nat) (now : ByteArray), j ≤ V.length → UnAt s V j now → UnAt s (V ++ [x]) j now
  | 0, _, _, h => h
  | j + 1, now, hj, h => by
    obtain ⟨v, h1, h2, h3⟩ := h
    exact ⟨v, by rw [List.getElem?_append_left (by omega)]; exact h1, h2, UnAt.app x j _ (by omega) h3⟩
/-- there and back -/
theorem undo (now : ByteArray) (p q : Int) (ins : ByteArray) (hok : okE now p q ins) : okE (beh now p q ins) (ca now.size p) ins.size (now.extract (ca now.size p) (ca now.size p + cd now.size p q)) ∧ beh (beh now p q ins) (ca now.size p) ins.size (now.extract (ca now.size p) (ca now.size p + cd now.size p q)) = now ∧
    ca (beh now p q ins).size (ca now.size p : Int) = ca now.size p ∧ (now.extract (ca now.size p) (ca now.size p + cd now.size p q)).size = cd now.size p q ∧ (beh now p q ins).extract (ca now.size p) (ca now.size p + cd (beh now p q ins).size (ca now.size p : Int) (ins.size : Int)) = ins := by
  have hs := beh_size now p q ins
  have hc := cd_le now.size p q
  have ka : ca (beh now p q ins).size (ca now.size p : Int) = ca now.size p := ca_nat (by omega)
  have kd : cd (beh now p q ins).size (ca now.size p : Int) (ins.size : Int) = ins.size := cd_nat (by omega)
  have he : (now.extract (ca now.size p) (ca now.size p + cd now.size p q)).size = cd now.size p q := by rw [ext_size now _ _ (by omega) hc]; omega
  have h1 := hok.1
  have h2 := hok.2
  refine ⟨⟨by omega, ?_⟩, ?_, ka, he, ?_⟩
  · rw [kd, he, hs]
    omega
  · have e : ∀ x, beh (beh now p q ins) (ca now.size p) ins.size x = spl (beh now p q ins) (ca now.size p) (ca now.size p + ins.size) x := fun x => by
      show spl _ _ _ _ = _
      rw [ka, kd]
    rw [e]
    exact spl_back now _ _ ins (by omega) hc
  · rw [kd]
    exact spl_ins now _ _ ins (by omega) hc

/-- what the loop holds -/
def Fwd (w : World) (s : ByteArray) (gk n : Nat) (bk nw iv : Value) (wr : World) : Prop :=
  ∃ (V : List (Int × Int × ByteArray)) (now : ByteArray) (i : Nat), nw = .string now ∧ iv = .int .i64 (i : Int) ∧ wr.ownsRow w.heap.size 23 3 bk V.length (ecells V) ∧ UnAt s V V.length now ∧ (now = s ∨ now.size ≤ 1048576) ∧ V.length ≤ i ∧ i ≤ n ∧ gk = n - i ∧ Below w.heap.size w wr

set_option maxRecDepth 1000000 in
set_option maxHeartbeats 4000000 in
theorem editBack_any (s : ByteArray) (blk off cap : Nat) (E : List (Int × Int × ByteArray)) (lp : Option Addr) (w : World) (hs : s.size ≤ 140737488355328) (hlp : 0 < E.length → lp = some ⟨blk, off, none⟩) (hE : EditsAt w blk off E) (hI : ∀ e ∈ E, e.2.2.size ≤ 140737488355328) (hlen : E.length * 32 ≤ 140737488355328) :
    Calls Try.prog 4 #[.string s, .slice lp E.length cap] w fun x w' => x = .returned (.bool true) ∧ Below w.heap.size w w' := by
  have CA : Hid _ := fun W : World => alive_any W
  have HS : Hid _ := hs
  have HLP : Hid _ := hlp
  have HE : Hid _ := hE
  have HI : Hid _ := hI
  have HL : Hid _ := hlen
  clear hs hlp hE hI hlen
  go_enter Try.func4, Try.ntmps4
  go_wp2_with fail
  refine (CA.out _).mono ?_
  rintro e' w1 ⟨rfl, hb⟩
  have B1 : Hid _ := hb
  clear hb CA
  have ST : Hid (Fwd w s (E.length - 0) E.length (.slice none 0 0) (.string s) (.int .i64 0) w1) := ⟨[], s, 0, rfl, rfl, World.ownsRow_nil _ _ _ _, rfl, Or.inl rfl, by simp, by omega, rfl, B1.out⟩
  clear B1
  go_wp2_with fail
  go_loopg [5, 6, 7] E.length (fun gk b nw iv wr => Fwd w s gk E.length b nw iv wr)
  case atStart => exact ST.out
  case round =>
    obtain ⟨V, now, i, rfl, rfl, hown, hun, hnow, hVi, hin, hgk, hbel⟩ := hrel
    have hL := HL.out
    have hsz := HS.out
    have F : Hid (wr.ownsRow w.heap.size 23 3 u5 V.length (ecells V) ∧ UnAt s V V.length now ∧ V.length ≤ i ∧ gk = E.length - i ∧ Below w.heap.size w wr) := ⟨hown, hun, hVi, hgk, hbel⟩
    have HN : Hid _ := hnow
    have hnz : now.size ≤ 140737488355328 := by
      rcases hnow with h | h
      · rw [h]; exact hsz
      · omega
    have hil : i ≤ 4398046511104 := by omega
    clear hown hun hnow hVi hgk hbel ST
    by_cases hi : i < E.length
    · obtain ⟨ed0, hed⟩ : ∃ ed, E[i]? = some ed := ⟨E[i], List.getElem?_eq_getElem hi⟩
      have hme : ed0 ∈ E := by rw [List.getElem?_eq_some_iff] at hed; obtain ⟨_, rfl⟩ := hed; exact List.getElem_mem _
      have hinz := HI.out ed0 hme
      obtain ⟨m0, m1, m2⟩ := (EditsAt.up HE.out F.out.2.2.2.2) i ed0 hed
      have hlpE := HLP.out (by omega)
      subst hlpE
      have hiI : (i : Int) < (E.length : Int) := by omega
      obtain ⟨p, q, ins⟩ := ed0
      simp only at m0 m1 m2 hinz
      clear hme hed hin hL hsz
      by_cases hok : okE now p q ins
      · have hok1 := hok.1
        obtain ⟨t1, t2, t3, t4, t5⟩ := undo now p q ins hok
        have C16 : Hid (∀ W : World, Calls Try.prog 16 #[.string now, ed p q ins] W fun e W' => e = .returned (.tuple #[.string (beh now p q ins), .int .i64 0]) ∧ Below W.heap.size W W') := fun W => apply_any now p q ins W hok
        have C17 : Hid _ := fun W : World => invert_any now p q ins W hok
        have C17b : Hid _ := fun W : World => invert_any (beh now p q ins) (ca now.size p) ins.size (now.extract (ca now.size p) (ca now.size p + cd now.size p q)) W t1
        rw [t3, t4, t5] at C17b
        have C9 : Hid _ := fun W : World => cclamp_any now.size p q ins W hok1 hinz
        obtain ⟨a, ha⟩ : ∃ a, ca now.size p = a := ⟨_, rfl⟩
        obtain ⟨d, hd⟩ : ∃ d, cd now.size p q = d := ⟨_, rfl⟩
        rw [ha, hd] at C17 C17b C9 t1 t2
        obtain ⟨x, hx⟩ : ∃ x, now.extract a (a + d) = x := ⟨_, rfl⟩
        rw [hx] at C17 t1 t2
        rw [hx] at C17b
        obtain ⟨nx, hnx⟩ : ∃ nx, beh now p q ins = nx := ⟨_, rfl⟩
        rw [hnx] at C16 C17b t1 t2
        have U : Hid (okE nx a ins.size x ∧ beh nx a ins.size x = now ∧ nx.size ≤ 1048576) := ⟨t1, t2, t1.1⟩
        have M : Hid (∀ W, Below wr.heap.size wr W → W.cell? ⟨blk, off + i * 3, none⟩ = some (.int .i64 p) ∧ W.cell? ⟨blk, off + i * 3 + 1, none⟩ = some (.int .i64 q) ∧ W.cell? ⟨blk, off + i * 3 + 2, none⟩ = some (.string ins)) := fun W hW => ⟨below_cell hW m0, below_cell hW m1, below_cell hW m2⟩
        clear t1 t2 t3 t4 t5 ha hd hx hnx hok hok1
        go_wp2_with fail
        refine (C16.out _).mono ?_
        rintro e' w2 ⟨rfl, hb⟩
        have B2 : Hid _ := hb
        clear hb C16 m0 m1 m2
        obtain ⟨m0, m1, m2⟩ := M.out _ B2.out
        go_wp2_with fail
        refine (C17.out _).mono ?_
        rintro e' w3 ⟨rfl, hb⟩
        have B3 : Hid (Below wr.heap.size wr w3) := below_trans B2.out hb
        clear hb C17 B2 m0 m1 m2
        go_upto_region 11 with fail
        obtain ⟨wv, hwv⟩ : ∃ wv, wv = w3.heap.size := ⟨_, rfl⟩
        have hbox := box1 (Below.refl (w3.alloc (.cells #[.int .i64 (a : Int), .int .i64 (ins.size : Int), .string x] 23)).heap.size (w3.alloc (.cells #[.int .i64 (a : Int), .int .i64 (ins.size : Int), .string x] 23)))
        have B5' := below_trans B3.out (bel_up w3 (.cells #[.int .i64 (a : Int), .int .i64 (ins.size : Int), .string x] 23))
        obtain ⟨W5, hW5⟩ : ∃ W5, W5 = w3.alloc (.cells #[.int .i64 (a : Int), .int .i64 (ins.size : Int), .string x] 23) := ⟨_, rfl⟩
        rw [← hW5] at hbox B5'
        rw [← hwv] at hbox
        rw [← hW5, ← hwv]
        have B5 : Hid (Below wr.heap.size wr W5) := B5'
        have HX : Hid (Box w3 W5 wv (.int .i64 (a : Int)) (.int .i64 (ins.size : Int)) (.string x)) := hbox
        clear hW5 hwv hbox B5' B3
        have HP : Hid (∀ W, Below W5.heap.size W5 W → W.cell? ⟨wv, 0, none⟩ = some (.int .i64 (a : Int)) ∧ W.cell? ⟨wv, 1, none⟩ = some (.int .i64 (ins.size : Int)) ∧ W.cell? ⟨wv, 2, none⟩ = some (.string x) ∧ W.cell? ⟨blk, off + i * 3, none⟩ = some (.int .i64 p) ∧ W.cell? ⟨blk, off + i * 3 + 1, none⟩ = some (.int .i64 q) ∧ W.cell? ⟨blk, off + i * 3 + 2, none⟩ = some (.string ins)) := fun W hW => by
          obtain ⟨m0, m1, m2⟩ := M.out W (below_trans B5.out hW)
          exact ⟨below_cell hW HX.out.c0, below_cell hW HX.out.c1, below_cell hW HX.out.c2, m0, m1, m2⟩
        have hi0 : (0 : Int) ≤ (i : Int) := by omega
        refine wp_region_noPanic ?_
        refine wp_region_held_drew (S := fun W => W.cell? ⟨wv, 0, none⟩ = some (.int .i64 (a : Int)) ∧ W.cell? ⟨wv, 1, none⟩ = some (.int .i64 (ins.size : Int)) ∧ W.cell? ⟨wv, 2, none⟩ = some (.string x) ∧ W.cell? ⟨blk, off + i * 3, none⟩ = some (.int .i64 p) ∧ W.cell? ⟨blk, off + i * 3 + 1, none⟩ = some (.int .i64 q) ∧ W.cell? ⟨blk, off + i * 3 + 2, none⟩ = some (.string ins)) (by kernel_rfl) (HP.out _ (Below.drew (Below.refl _ _))) (fun hHeld => ?_)
        refine wpAnyH_take (i := 0) (oi := { dst := _, op := _, type := _, pos := _, after := _, guard := _ }) (v := ?_) rfl (by kernel_rfl) (by kernel_rfl) (by kernel_rfl) (fun _ _ _ h => h) (Or.inl ⟨by rfl, ?_⟩) (by assumption) ?_
        rotate_left
        · intro W hSw
          (try dsimp only at hSw)
          go_simp
          (try with_reducible rfl)
        try simp only [Act.put, List.setIfInBounds_toArray, List.set_cons_zero, List.set_cons_succ]
        refine wpAnyH_take (i := 1) (oi := { dst := _, op := _, type := _, pos := _, after := _, guard := _ }) (v := ?_) rfl (by kernel_rfl) (by kernel_rfl) (by kernel_rfl) (fun _ _ _ h => h) (Or.inl ⟨by rfl, ?_⟩) (by assumption) ?_
        rotate_left
        · intro W hSw
          (try dsimp only at hSw)
          go_simp
          (try with_reducible rfl)
        try simp only [Act.put, List.setIfInBounds_toArray, List.set_cons_zero, List.set_cons_succ]
        refine wpAnyH_take (i := 3) (oi := { dst := _, op := _, type := _, pos := _, after := _, guard := _ }) (v := ?_) rfl (by kernel_rfl) (by kernel_rfl) (by kernel_rfl) (fun _ _ _ h => h) (Or.inl ⟨by rfl, ?_⟩) (by assumption) ?_
        rotate_left
        · intro W hSw
          (try dsimp only at hSw)
          go_simp
          (try with_reducible rfl)
        try simp only [Act.put, List.setIfInBounds_toArray, List.set_cons_zero, List.set_cons_succ]
        refine wpAnyH_take (i := 4) (oi := { dst := _, op := _, type := _, pos := _, after := _, guard := _ }) (v := ?_) rfl (by kernel_rfl) (by kernel_rfl) (by kernel_rfl) (fun _ _ _ h => h) (Or.inl ⟨by rfl, ?_⟩) (by assumption) ?_
        rotate_left
        · intro W hSw
          (try dsimp only at hSw)
          go_simp
          (try with_reducible rfl)
        try simp only [Act.put, List.setIfInBounds_toArray, List.set_cons_zero, List.set_cons_succ]
        refine wpAnyH_take (i := 5) (oi := { dst := _, op := _, type := _, pos := _, after := _, guard := _ }) (v := ?_) rfl (by kernel_rfl) (by kernel_rfl) (by kernel_rfl) (fun _ _ _ h => h) (Or.inl ⟨by rfl, ?_⟩) (by assumption) ?_
        rotate_left
        · intro W hSw
          (try dsimp only at hSw)
          go_simp
          (try with_reducible rfl)
        try simp only [Act.put, List.setIfInBounds_toArray, List.set_cons_zero, List.set_cons_succ]
        refine wpAnyH_take (i := 6) (oi := { dst := _, op := _, type := _, pos := _, after := _, guard := _ }) (v := ?_) rfl (by kernel_rfl) (by kernel_rfl) (by kernel_rfl) (fun _ _ _ h => h) (Or.inl ⟨by rfl, ?_⟩) (by assumption) ?_
        rotate_left
        · intro W hSw
          (try dsimp only at hSw)
          go_simp
          (try with_reducible rfl)
        try simp only [Act.put, List.setIfInBounds_toArray, List.set_cons_zero, List.set_cons_succ]
        refine wpAnyH_take (i := 7) (oi := { dst := _, op := _, type := _, pos := _, after := _, guard := _ }) (v := ?_) rfl (by kernel_rfl) (by kernel_rfl) (by kernel_rfl) (fun _ _ _ h => h) (Or.inl ⟨by rfl, ?_⟩) (by assumption) ?_
        rotate_left
        · intro W hSw
          (try dsimp only at hSw)
          go_simp
          (try with_reducible rfl)
        try simp only [Act.put, List.setIfInBounds_toArray, List.set_cons_zero, List.set_cons_succ]
        refine wpAnyH_take (i := 8) (oi := { dst := _, op := _, type := _, pos := _, after := _, guard := _ }) (v := ?_) rfl (by kernel_rfl) (by kernel_rfl) (by kernel_rfl) (fun _ _ _ h => h) (Or.inl ⟨by rfl, ?_⟩) (by assumption) ?_
        rotate_left
        · intro W hSw
          (try dsimp only at hSw)
          go_simp
          (try with_reducible rfl)
        try simp only [Act.put, List.setIfInBounds_toArray, List.set_cons_zero, List.set_cons_succ]
        refine wpAnyH_ready (rs := [2]) (by kernel_rfl) (by simp) ?_
        refine AllReadyH.cons (o := { dst := _, op := _, type := _, pos := _, after := _, guard := _ }) rfl (fun K hK => ?_) AllReadyH.nil
        go_simp
        refine (C17b.out _).mono ?_
        rintro e' w6 ⟨rfl, hb⟩
        have B6 : Hid (Below W5.heap.size W5 w6) := below_trans (Below.drew (Below.refl _ _)) hb
        clear hb
        go_wp2_with fail
        refine hK.out _ _ ?_ (fun hHeld => ?_)
        · (try dsimp only)
          exact HP.out _ B6.out
        clear hK K
        try simp only [Act.put, List.setIfInBounds_toArray, List.set_cons_zero, List.set_cons_succ]
        refine wpAnyH_ready (rs := [9]) (by kernel_rfl) (by simp) ?_
        refine AllReadyH.cons (o := { dst := _, op := _, type := _, pos := _, after := _, guard := _ }) rfl (fun K hK => ?_) AllReadyH.nil
        go_simp
        refine (C9.out _).mono ?_
        rintro e' w7 ⟨rfl, hb⟩
        have B7 : Hid (Below W5.heap.size W5 w7) := below_trans B6.out hb
        clear hb
        go_wp2_with fail
        refine hK.out _ _ ?_ (fun hHeld => ?_)
        · (try dsimp only)
          exact HP.out _ B7.out
        clear hK K
        try simp only [Act.put, List.setIfInBounds_toArray, List.set_cons_zero, List.set_cons_succ]
        refine wpAnyH_take (i := 10) (oi := { dst := _, op := _, type := _, pos := _, after := _, guard := _ }) (v := ?_) rfl (by kernel_rfl) (by kernel_rfl) (by kernel_rfl) (fun _ _ _ h => h) (Or.inl ⟨by rfl, ?_⟩) (by assumption) ?_
        rotate_left
        · intro W hSw
          (try dsimp only at hSw)
          go_simp
          (try with_reducible rfl)
        try simp only [Act.put, List.setIfInBounds_toArray, List.set_cons_zero, List.set_cons_succ]
        refine wpAnyH_done (by kernel_rfl) ?_ _
        refine NoPanic.normal ?_
        have B7w : Hid (Below wr.heap.size wr w7) := below_trans B5.out B7.out
        obtain ⟨c0, c1, c2, cf⟩ := HX.out.up B7.out
        clear hHeld HP C9 C17b HX B5 B7 B6 M
        have hVl : V.length ≤ 4398046511104 := by have := F.out.2.2.1; omega
        have hV32 : (V.length + 1) * 32 ≤ 140737488355328 := by have := F.out.2.2.1; have := HL.out; omega
        obtain ⟨i23, hi23, hz23, hs23, hy23⟩ := info_parts info23
        have hO : Hid ((w7.alloc (.cells #[.int .i64 (a : Int), .int .i64 (ins.size : Int), .string x] 23)).ownsRow w.heap.size 23 3 u5 V.length (ecells V)) := (own_mono F.out.1 B7w.out).alloc _
        have hbase : w.heap.size ≤ (w7.alloc (.cells #[.int .i64 (a : Int), .int .i64 (ins.size : Int), .string x] 23)).heap.size := by
          have := F.out.2.2.2.2.size
          have := B7w.out.size
          simp
          omega
        go_wp2_with (at_builtin; refine wpList_append_own _ rfl (.tmp 51) (.tmp 53) 28 rfl w.heap.size 23 i23 (.agg #[.int .i64 0, .int .i64 0, .string ⟨#[]⟩]) 3 32 Try.underlying28 hi23 hz23 hs23 hy23 rfl (by decide) _ _ _ rfl hO.out ⟨w7.heap.size, 0, none⟩ 1 1 [.int .i64 (a : Int), .int .i64 (ins.size : Int), .string x] rfl rfl ?c1 ?c2 ?c3 ?c4 ?c5 ?_)
        case c1 => exact cell_three_new _ _ _ _ _
        case c2 => intro y hy; simp at hy; rcases hy with rfl | rfl | rfl <;> rfl
        case c3 => unfold maxLen; omega
        case c4 => omega
        case c5 => exact hbase
        intro v1 w8 hown1 hgrow1 _
        have OW : Hid _ := hown1
        have GR : Hid _ := hgrow1
        clear hown1 hgrow1 hO hbase hi23 hz23 hs23 hy23
        go_wp2_with fail
        go_roundg (E.length - (i + 1))
        case measure =>
          have := F.out.2.2.2.1
          omega
        case rel =>
          obtain ⟨f1, f2, f3, f4, f5⟩ := F.out
          obtain ⟨g1, g2, g3⟩ := U.out
          refine ⟨V ++ [((a : Int), (ins.size : Int), x)], nx, i + 1, rfl, by simp, ?_, ?_, Or.inr g3, by simp; omega, by omega, rfl, ?_⟩
          · rw [ecells_app, List.length_append]
            exact OW.out
          · rw [List.length_append]
            refine ⟨((a : Int), (ins.size : Int), x), by simp, g1, ?_⟩
            show UnAt s _ V.length (beh nx a ins.size x)
            rw [g2]
            exact f2.app _ _ _ (Nat.le_refl _)
          · exact (below_trans f5 (below_trans B7w.out (bel_up _ _))).grown GR.out (by have := f5.size; have := B7w.out.size; simp; omega) (fun q hq => by have := (f1.lt q hq).1; omega)
      · have C16 : Hid _ := fun W : World => apply_big now p q ins W hnz hinz hok
        clear hok
        go_wp2_with fail
        refine (C16.out _).mono ?_
        rintro e' w2 ⟨rfl, hb⟩
        have B2 : Hid _ := hb
        clear hb C16 m0 m1 m2
        go_wp2_with fail
        go_roundg (E.length - (i + 1))
        case measure =>
          have := F.out.2.2.2.1
          omega
        case rel =>
          obtain ⟨f1, f2, f3, f4, f5⟩ := F.out
          exact ⟨V, now, i + 1, rfl, by simp, own_mono f1 B2.out, f2, HN.out, by omega, by omega, rfl, below_trans f5 B2.out⟩
    · have hiI : ¬ (i : Int) < (E.length : Int) := by omega
      obtain ⟨bp, bc, rfl⟩ := own_slice F.out.1
      have hVl : V.length ≤ 4398046511104 := by have := F.out.2.2.1; omega
      clear hi hL hsz
      go_wp2_with fail
      go_loopg [6, 11] V.length (fun g nw jv wq => ∃ (j : Nat) (nw' : ByteArray), nw = .string nw' ∧ jv = .int .i64 ((j : Int) - 1) ∧ j ≤ V.length ∧ UnAt s V j nw' ∧ g = j ∧ Below wr.heap.size wr wq)
      case atStart => exact ⟨V.length, now, rfl, rfl, Nat.le_refl _, F.out.2.1, rfl, Below.refl _ _⟩
      case round =>
        obtain ⟨j, nw', rfl, rfl, hj, hun, hg, hbq⟩ := hrel
        have HB : Hid _ := hbq
        have HG : Hid _ := hg
        have HUN : Hid _ := hun
        clear hbq hun hg
        cases j with
        | zero =>
          have he : nw' = s := HUN.out
          subst he
          go_wp2_with fail
          go_ret
          exact ⟨by simp, below_trans F.out.2.2.2.2 HB.out⟩
        | succ j =>
          obtain ⟨v, hv, hok, hrest⟩ := HUN.out
          obtain ⟨g, cap', hform, hcap, hbg, hgl⟩ := own_form F.out.1 (by omega)
          obtain ⟨rfl, _, rfl⟩ : bp = some ⟨g, 0, none⟩ ∧ True ∧ bc = cap' := by
            injection hform with h1 h2 h3
            exact ⟨h1, trivial, h3⟩
          have own2 := own_mono F.out.1 HB.out
          obtain ⟨e0, e1, e2⟩ := ecells_at V j v hv
          have k0 : wr.cell? ⟨g, j * 3, none⟩ = some (.int .i64 v.1) := by rw [own2.cellAt _ (by omega)]; exact e0
          have k1 : wr.cell? ⟨g, j * 3 + 1, none⟩ = some (.int .i64 v.2.1) := by rw [own2.cellAt _ (by omega)]; exact e1
          have k2 : wr.cell? ⟨g, j * 3 + 2, none⟩ = some (.string v.2.2) := by rw [own2.cellAt _ (by omega)]; exact e2
          have C16 : Hid (∀ W : World, Calls Try.prog 16 #[.string nw', ed v.1 v.2.1 v.2.2] W fun e W' => e = .returned (.tuple #[.string (beh nw' v.1 v.2.1 v.2.2), .int .i64 0]) ∧ Below W.heap.size W W') := fun W => apply_any nw' v.1 v.2.1 v.2.2 W hok
          have HRR : Hid _ := hrest
          obtain ⟨nb, hnb⟩ : ∃ nb, beh nw' v.1 v.2.1 v.2.2 = nb := ⟨_, rfl⟩
          rw [hnb] at C16 HRR
          obtain ⟨p, q, ins⟩ := v
          simp only at k0 k1 k2 C16
          have hjj : ((j + 1 : Nat) : Int) - 1 = (j : Int) := by omega
          have hjl : (j : Int) < (V.length : Int) := by omega
          have hj2 : j + 1 ≤ V.length := hj
          clear hok hrest hv own2 e0 e1 e2 hnb hform HUN hj
          go_wp2_with fail
          refine (C16.out _).mono ?_
          rintro e' w2 ⟨rfl, hb⟩
          have B2 : Hid _ := hb
          clear hb C16 k0 k1 k2
          go_wp2_with fail
          go_roundg j
          case measure =>
            have := HG.out
            omega
          case rel =>
            exact ⟨j, nb, rfl, by simp, by omega, HRR.out, rfl, below_trans HB.out B2.out⟩

end Go.Proofs.Ytjpmmihcnfedgaa
