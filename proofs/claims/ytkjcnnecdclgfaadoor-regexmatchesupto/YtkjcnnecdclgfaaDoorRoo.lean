import Derived.Test.YtkjcnnecdclgfaaDoorBeg
namespace Go.Proofs.YtkjcnnecdclgfaaDoor
open Go.RowKit
theorem addPlain (b o i : Nat) : (⟨b, o, none⟩ : Addr).add i = ⟨b, o + i, none⟩ := by unfold Addr.add; split <;> simp_all
/-- A node's cells, a list's. -/
def nc (n : Nd) : List Value := [.int .i64 n.op, .int .u64 (wd n.m 0 : Nat), .int .u64 (wd n.m 1 : Nat), .int .u64 (wd n.m 2 : Nat), .int .u64 (wd n.m 3 : Nat), .int .i64 n.a, .int .i64 n.b]
def ncs (l : List Nd) : List Value := l.flatMap nc
theorem ncs_len (l : List Nd) : (ncs l).length = l.length * 7 := by
  induction l with
  | nil => rfl
  | cons n l ih =>
    unfold ncs at *
    rw [List.flatMap_cons, List.length_append, ih, List.length_cons]
    show 7 + _ = _
    omega
theorem ncs_app (l k : List Nd) : ncs (l ++ k) = ncs l ++ ncs k := by unfold ncs; rw [List.flatMap_append]
theorem ncs_at (p : List Nd) (n : Nd) (s : List Nd) (i : Nat) (hi : i < 7) : (ncs (p ++ n :: s))[p.length * 7 + i]? = (nc n)[i]? := by
  have e : ncs (p ++ n :: s) = ncs p ++ (nc n ++ ncs s) := by rw [ncs_app]; rfl
  rw [e, List.getElem?_append_right (by rw [ncs_len]; omega), ncs_len, show p.length * 7 + i - p.length * 7 = i by omega, List.getElem?_append_left (by show i < 7; exact hi)]
theorem NdsAt.of {W : World} {g o : Nat} {re : List Nd} (h : ∀ j u, (ncs re)[j]? = some u → W.cell? ⟨g, o + j, none⟩ = some u) : NdsAt W g o re := by
  refine ⟨fun p n s e => ?_⟩
  subst e
  have k : ∀ i u, i < 7 → (nc n)[i]? = some u → W.cell? ⟨g, o + (p.length * 7 + i), none⟩ = some u := fun i u hi hu => h _ u (by rw [ncs_at p n s i hi]; exact hu)
  refine ⟨?_, ?_, ?_, ?_, ?_, ?_, ?_⟩
  · exact k 0 _ (by omega) rfl
  · exact k 1 _ (by omega) rfl
  · exact k 2 _ (by omega) rfl
  · exact k 3 _ (by omega) rfl
  · exact k 4 _ (by omega) rfl
  · exact k 5 _ (by omega) rfl
  · exact k 6 _ (by omega) rfl
theorem NdsAt.row {W : World} {g o : Nat} {re : List Nd} (h : NdsAt W g o re) (j : Nat) (u : Value) (hu : (ncs re)[j]? = some u) : W.cell? ⟨g, o + j, none⟩ = some u := by
  have hl : j < (ncs re).length := (List.getElem?_eq_some_iff.1 hu).1
  rw [ncs_len] at hl
  obtain ⟨p, n, s, hre, hp, _⟩ := split_at re (j / 7) (by omega)
  obtain ⟨c0, c1, c2, c3, c4, c5, c6⟩ := h.nd p n s hre
  have e : j = p.length * 7 + j % 7 := by omega
  have hr : j % 7 < 7 := Nat.mod_lt _ (by omega)
  rw [hre] at hu
  rw [e, ncs_at p n s _ hr] at hu
  rw [e]
  generalize j % 7 = r at *
  match r, hr, hu with
  | 0, _, hu => injection hu with hu; rw [← hu]; exact c0
  | 1, _, hu => injection hu with hu; rw [← hu]; exact c1
  | 2, _, hu => injection hu with hu; rw [← hu]; exact c2
  | 3, _, hu => injection hu with hu; rw [← hu]; exact c3
  | 4, _, hu => injection hu with hu; rw [← hu]; exact c4
  | 5, _, hu => injection hu with hu; rw [← hu]; exact c5
  | 6, _, hu => injection hu with hu; rw [← hu]; exact c6
theorem own_nds {w : World} {base g cap n : Nat} {V : List Nd} (h : w.ownsRow base 34 7 (.slice (some ⟨g, 0, none⟩) n cap) n (ncs V)) (hn : n = V.length) : NdsAt w g 0 V := by
  refine NdsAt.of (fun j u hu => ?_)
  have hl : j < (ncs V).length := (List.getElem?_eq_some_iff.1 hu).1
  rw [ncs_len] at hl
  rw [Nat.zero_add, h.cellAt j (by omega)]
  exact hu
theorem info34 : (Tryd.prog.info? 34).map (fun i => (i.zero, i.size, i.bytes)) = some (some (.agg #[.int .i64 0, .int .u64 0, .int .u64 0, .int .u64 0, .int .u64 0, .int .i64 0, .int .i64 0]), 7, 56) := by kernel_rfl
/-- A list of nodes, as it is handed over. -/
structure Lst (w : World) (lp : Option Addr) (g o cap : Nat) (re : List Nd) : Prop where
  ptr : re ≠ [] → lp = some ⟨g, o, none⟩
  lt : re ≠ [] → g < w.heap.size
  at_ : NdsAt w g o re
theorem Lst.up {w w' : World} {lp : Option Addr} {g o cap : Nat} {re : List Nd} (h : Lst w lp g o cap re) (hb : Below w.heap.size w w') : Lst w' lp g o cap re := by
  refine ⟨h.ptr, fun hn => Nat.lt_of_lt_of_le (h.lt hn) hb.size, ?_⟩
  by_cases hn : re = []
  · subst hn
    exact ⟨fun p n s e => by cases p <;> cases e⟩
  · exact h.at_.below hb (h.lt hn)
theorem own_empty (w : World) : (w.alloc (.cells #[] 34)).ownsRow w.heap.size 34 7 (.slice (some ⟨w.heap.size, 0, none⟩) 0 0) 0 [] := by
  refine ⟨rfl, .inr ⟨w.heap.size, 0, #[], rfl, Nat.le_refl _, ?_, Nat.le_refl _, by unfold maxLen; omega, rfl, rfl⟩⟩
  unfold World.alloc
  simp
set_option maxRecDepth 1000000 in
set_option maxHeartbeats 2000000 in
theorem twin_any (re : List Nd) (ad : Addr) (cap : Nat) (w : World) (hE : ∀ j u, (ncs re)[j]? = some u → w.cell? (ad.add j) = some u) (hlen : re.length ≤ 100000) :
    Calls Tryd.prog 21 #[.slice (some ad) re.length cap] w fun x w' => ∃ v, x = .returned v ∧ w'.ownsRow w.heap.size 34 7 v re.length (ncs re) ∧ Below w.heap.size w w' := by
  have HE : Hid (∀ j u, (ncs re)[j]? = some u → (w.alloc (.cells #[] 34)).cell? (ad.add j) = some u) := fun j u hu => cell_up _ (hE j u hu)
  clear hE
  obtain ⟨i34, hi34, hz34, hs34, hy34⟩ := info_parts info34
  have hO : Hid _ := own_empty w
  go_enter Tryd.func21, Tryd.ntmps21
  go_wp2_with (at_builtin; refine wpList_append_own _ rfl (.tmp 3) (.tmp 4) 22 rfl w.heap.size 34 i34 (.agg #[.int .i64 0, .int .u64 0, .int .u64 0, .int .u64 0, .int .u64 0, .int .i64 0, .int .i64 0]) 7 56 Tryd.underlying22 hi34 hz34 hs34 hy34 rfl (by decide) _ _ _ rfl hO.out ad re.length cap (ncs re) rfl (ncs_len re) ?c1 ?c2 ?c3 ?c4 ?c5 ?_)
  case c1 => exact HE.out
  case c2 =>
    intro y hy
    unfold ncs at hy
    rw [List.mem_flatMap] at hy
    obtain ⟨e, _, hy⟩ := hy
    unfold nc at hy
    simp at hy
    rcases hy with rfl | rfl | rfl | rfl | rfl | rfl | rfl <;> rfl
  case c3 => unfold maxLen; omega
  case c4 => omega
  intro v1 w8 hown1 hgrow1 _
  have OW : Hid _ := hown1
  have GR : Hid _ := hgrow1
  clear hown1 hgrow1 hi34 hz34 hs34 hy34
  go_wp2_with fail
  go_ret
  refine ⟨_, rfl, ?_, ?_⟩
  · exact OW.out
  · exact (bel_up w _).grown GR.out (by simp) (fun q hq => by simp [Value.ownBlock] at hq; omega)
set_option maxRecDepth 1000000 in
set_option maxHeartbeats 2000000 in
theorem twin_nil (w : World) (cap : Nat) : Calls Tryd.prog 21 #[.slice none 0 cap] w fun x w' => ∃ v, x = .returned v ∧ w'.ownsRow w.heap.size 34 7 v 0 (ncs []) ∧ Below w.heap.size w w' := by
  go_enter Tryd.func21, Tryd.ntmps21
  go_wp2_with fail
  go_ret
  exact ⟨_, rfl, own_empty w, bel_up _ _⟩
theorem twin_lst (re : List Nd) (lp : Option Addr) (g o cap : Nat) (w : World) (h : Lst w lp g o cap re) (hlen : re.length ≤ 100000) :
    Calls Tryd.prog 21 #[.slice lp re.length cap] w fun x w' => ∃ v, x = .returned v ∧ w'.ownsRow w.heap.size 34 7 v re.length (ncs re) ∧ Below w.heap.size w w' := by
  by_cases hn : re = []
  · subst hn
    cases lp with
    | none => exact twin_nil w cap
    | some ad => exact twin_any [] ad cap w (fun j u hu => by simp [ncs] at hu) (by simp)
  · rw [h.ptr hn]
    refine twin_any re ⟨g, o, none⟩ cap w (fun j u hu => ?_) hlen
    rw [addPlain]
    exact h.at_.row j u hu
/-- The marked nodes. -/
def mk (i : Nat) : Nd := ⟨77, fun _ => false, (i : Int), 0⟩
def mks (k : Nat) : List Nd := (List.range k).map mk
theorem mks_succ (k : Nat) : mks (k + 1) = mks k ++ [mk k] := by simp [mks, List.range_succ]
theorem cell_seven_new (w : World) (a b c d e f h : Value) (t : TypeId) : ∀ (j : Nat) (u : Value), [a, b, c, d, e, f, h][j]? = some u → (w.alloc (.cells #[a, b, c, d, e, f, h] t)).cell? ((⟨w.heap.size, 0, none⟩ : Addr).add j) = some u := by
  intro j u hu
  rw [addPlain, Nat.zero_add]
  have hj : j < 7 := (List.getElem?_eq_some_iff.1 hu).1
  rw [World.cell?_alloc_at _ _ _ _ rfl]
  match j, hj, hu with
  | 0, _, hu => simpa using hu
  | 1, _, hu => simpa using hu
  | 2, _, hu => simpa using hu
  | 3, _, hu => simpa using hu
  | 4, _, hu => simpa using hu
  | 5, _, hu => simpa using hu
  | 6, _, hu => simpa using hu
set_option maxRecDepth 1000000 in
set_option maxHeartbeats 2000000 in
theorem roomy_any (re : List Nd) (lp : Option Addr) (g o cap : Nat) (w : World) (h : Lst w lp g o cap re) (hlen : re.length ≤ 65536) :
    Calls Tryd.prog 8 #[.slice lp re.length cap] w fun x w' => ∃ v, x = .returned v ∧ w'.ownsRow w.heap.size 34 7 v (re.length + 20) (ncs (re ++ mks 20)) ∧ Below w.heap.size w w' := by
  have T := twin_lst re lp g o cap w h (by omega)
  obtain ⟨n, hnn⟩ : ∃ n, re.length = n := ⟨_, rfl⟩
  rw [hnn] at T hlen ⊢
  have HL : Hid _ := hlen
  clear h hlen hnn
  go_enter Tryd.func8, Tryd.ntmps8
  go_wp2_with fail
  refine T.mono ?_
  rintro e w1 ⟨v, rfl, hown, hb1⟩
  have HO1 : Hid (w1.ownsRow w.heap.size 34 7 v n (ncs re)) := hown
  have HB1 : Hid _ := hb1
  obtain ⟨av, cv, rfl⟩ := own_slice hown
  clear hown hb1 T
  go_wp2_with fail
  go_loopg [3, 4] 20 (fun gh vo vi wr => ∃ k : Nat, vi = .int .i64 (k : Int) ∧ k ≤ 20 ∧ gh = 20 - k ∧ wr.ownsRow w.heap.size 34 7 vo (n + k) (ncs (re ++ mks k)) ∧ Below w.heap.size w wr)
  case atStart => exact ⟨0, rfl, by omega, rfl, by simpa [mks] using HO1.out, HB1.out⟩
  case round =>
    clear HO1 HB1
    obtain ⟨k, rfl, hk, hg, hown, hbel⟩ := hrel
    have HK : Hid _ := hk
    have HG : Hid _ := hg
    have HO : Hid (wr.ownsRow w.heap.size 34 7 u3 (n + k) (ncs (re ++ mks k))) := hown
    have HB : Hid _ := hbel
    obtain ⟨a3, c3, hu3⟩ := own_slice hown
    subst hu3
    clear hk hg hown hbel
    by_cases hk : k < 20
    · have hkI : decide ((k : Int) < 20) = true := by rw [decide_eq_true_eq]; omega
      have HK2 : Hid _ := hk
      clear hk
      obtain ⟨i34, hi34, hz34, hs34, hy34⟩ := info_parts info34
      have hO : Hid ((wr.alloc (.cells #[.int .i64 77, .int .u64 0, .int .u64 0, .int .u64 0, .int .u64 0, .int .i64 (k : Int), .int .i64 0] 34)).ownsRow w.heap.size 34 7 (.slice a3 (n + k) c3) (n + k) (ncs (re ++ mks k))) := HO.out.alloc _
      have hbase : w.heap.size ≤ (wr.alloc (.cells #[.int .i64 77, .int .u64 0, .int .u64 0, .int .u64 0, .int .u64 0, .int .i64 (k : Int), .int .i64 0] 34)).heap.size := by
        have := HB.out.size
        rw [World.size_alloc]
        omega
      go_wp2_with (at_builtin; refine wpList_append_own _ rfl (.tmp 11) (.tmp 14) 22 rfl w.heap.size 34 i34 (.agg #[.int .i64 0, .int .u64 0, .int .u64 0, .int .u64 0, .int .u64 0, .int .i64 0, .int .i64 0]) 7 56 Tryd.underlying22 hi34 hz34 hs34 hy34 rfl (by decide) _ _ _ rfl hO.out ⟨wr.heap.size, 0, none⟩ 1 1 [.int .i64 77, .int .u64 0, .int .u64 0, .int .u64 0, .int .u64 0, .int .i64 (k : Int), .int .i64 0] rfl rfl ?c1 ?c2 ?c3 ?c4 ?c5 ?_)
      case c1 => exact cell_seven_new _ _ _ _ _ _ _ _ _
      case c2 => intro y hy; simp at hy; rcases hy with rfl | rfl | rfl | rfl <;> rfl
      case c3 => unfold maxLen; have := HL.out; have := HK2.out; omega
      case c4 => have := HL.out; have := HK2.out; omega
      case c5 => first | exact hbase | simpa using hbase
      intro v1 w8 hown1 hgrow1 _
      have OW : Hid (w8.ownsRow w.heap.size 34 7 v1 (n + k + 1) (ncs (re ++ mks k) ++ [.int .i64 77, .int .u64 0, .int .u64 0, .int .u64 0, .int .u64 0, .int .i64 (k : Int), .int .i64 0])) := hown1
      have GR : Hid (Below w.heap.size w w8) := (Below.alloc HB.out (Nat.le_trans HB.out.size (Nat.le_refl _)) _).grown hgrow1 hbase (fun q hq => by have := (hO.out.lt q hq).1; omega)
      clear hown1 hgrow1 hO hbase hi34 hz34 hs34 hy34
      go_wp2_with fail
      go_roundg (20 - (k + 1))
      case measure => have := HG.out; have := HK2.out; omega
      case rel =>
        refine ⟨k + 1, by first | (simp; done) | (rw [w64 k (by have := HK2.out; omega)]), HK2.out, rfl, ?_, GR.out⟩
        rw [mks_succ, ← List.append_assoc, ncs_app (re ++ mks k)]
        have e : ncs [mk k] = [.int .i64 77, .int .u64 0, .int .u64 0, .int .u64 0, .int .u64 0, .int .i64 (k : Int), .int .i64 0] := by
          simp [ncs, nc, mk, wd_none]
        rw [e]
        exact OW.out
    · obtain rfl : k = 20 := by have := HK.out; omega
      clear hk
      go_wp2_with fail
      (try simp only [Exit.inBlock, Exit.then])
      go_ret
      exact ⟨_, rfl, HO.out, HB.out⟩

set_option maxRecDepth 100000 in
set_option maxHeartbeats 2000000 in
theorem sameTree_any (re : List Nd) (lp lq : Option Addr) (g o cap g' o' cap' : Nat) (w : World) (h : Lst w lp g o cap re) (h' : Lst w lq g' o' cap' re) (hlen : re.length ≤ 100000) :
    Calls Tryd.prog 20 #[.slice lp re.length cap, .slice lq re.length cap'] w fun x w' => x = .returned (.bool true) ∧ Below w.heap.size w w' := by
  obtain ⟨n, hnn⟩ : ∃ n, re.length = n := ⟨_, rfl⟩
  rw [hnn] at hlen ⊢
  have HL : Hid _ := hlen
  have HNN : Hid _ := hnn
  have H : Hid _ := h
  have H' : Hid _ := h'
  clear h h' hlen hnn
  go_enter Tryd.func20, Tryd.ntmps20
  go_wp2_with fail
  go_loopg [5] n (fun gh vi wr => ∃ k : Nat, vi = .int .i64 (k : Int) ∧ k ≤ n ∧ gh = n - k ∧ Below w.heap.size w wr)
  case atStart => exact ⟨0, rfl, by omega, rfl, Below.refl _ _⟩
  case round =>
    obtain ⟨k, rfl, hk, hg, hbel⟩ := hrel
    have HK : Hid _ := hk
    have HG : Hid _ := hg
    have HB : Hid _ := hbel
    clear hk hg hbel
    by_cases hk : k < n
    · have hne : re ≠ [] := by
        intro h
        have := HNN.out
        rw [h] at this
        simp only [List.length_nil] at this
        omega
      have e1 := H.out.ptr hne
      have e2 := H'.out.ptr hne
      subst e1
      subst e2
      obtain ⟨p, nd, s, hre, hp, hrk⟩ := split_at re k (by rw [HNN.out]; exact hk)
      clear hrk
      have a := (H.out.at_.below HB.out (H.out.lt hne)).nd p nd s hre
      have b := (H'.out.at_.below HB.out (H'.out.lt hne)).nd p nd s hre
      rw [hp] at a b
      obtain ⟨a0, a1, a2, a3, a4, a5, a6⟩ := a
      obtain ⟨b0, b1, b2, b3, b4, b5, b6⟩ := b
      have hq := fun W : World => nd_neq nd.op nd.m nd.a nd.b W
      clear hne hre hp
      go_wp2_with fail
      go_region
      go_wp2_with fail
      go_roundg (n - (k + 1))
      case measure => have := HG.out; omega
      case rel => exact ⟨k + 1, by first | (simp; done) | (rw [w64 k (by have := HL.out; omega)]), hk, rfl, Below.drew HB.out⟩
    · go_wp2_with fail
      (try simp only [Exit.inBlock, Exit.then])
      go_ret
      exact ⟨rfl, HB.out⟩
end Go.Proofs.YtkjcnnecdclgfaaDoor
