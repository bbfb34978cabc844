import Derived.Test.YtjpmmihcnfedgabOrig
import Derived.Test.YtjpmmihcnfedgabCover
import Derived.Laws.BytesArg
namespace Go.Proofs.Ytjpmmihcnfedgab
open Go.RowKit

/-- the first bytes of a text as cells -/
def bcs (L : ByteArray) (n : Nat) : List Value := (List.range n).map fun i => Value.int .u8 ((L.get! i).toNat : Int)
theorem bcs_succ (L : ByteArray) (n : Nat) : bcs L (n + 1) = bcs L n ++ [.int .u8 ((L.get! n).toNat : Int)] := by
  unfold bcs
  rw [List.range_succ, List.map_append]
  rfl
theorem bcs_at (L : ByteArray) (n i : Nat) (h : i < n) : (bcs L n)[i]? = some (.int .u8 ((L.get! i).toNat : Int)) := by
  unfold bcs
  rw [List.getElem?_map, List.getElem?_range h]
  rfl
theorem nums_back (L : ByteArray) : strOfNums (L.data.toList.map fun x => (x.toNat : Int)) = L := by
  apply WideShapes.bytes_inj
  unfold strOfNums
  rw [List.map_map]
  conv => rhs; rw [← List.map_id L.data.toList]
  apply List.map_congr_left
  intro x _
  simp
theorem conv_own {w : World} {base : Nat} {v : Value} {L : ByteArray} (h : w.ownsRow base 5 1 v L.size (bcs L L.size)) : (convert 47 9 v).run Try.prog w = .ok (.string L) w := by
  have hc : ∀ i, ∀ g cap, v = .slice (some ⟨g, 0, none⟩) L.size cap → i < L.size → w.cell? ⟨g, 0 + i, none⟩ = some (.int .u8 ((L.data.toList.map fun x => (x.toNat : Int)).getD i 0)) := by
    intro i g cap hv hi
    subst hv
    have h1 : w.cell? ⟨g, i, none⟩ = some (.int .u8 ((L.get! i).toNat : Int)) := by rw [h.cellAt _ (by omega)]; exact bcs_at L L.size i hi
    rw [Nat.zero_add, h1]
    have h2 := get_list L i hi
    simp [List.getD, List.getElem?_map, h2]
  obtain ⟨h1, h2⟩ := h
  rcases h2 with ⟨rfl, h2⟩ | ⟨g, cap, cur, rfl, hg, hh, hcap, _⟩
  · have e : L = ByteArray.empty := ba_ext (by rw [h2]; rfl) (fun i hi => by omega)
    have := run_convert_bytes_nil (P := Try.prog) w 47 5 Try.underlying47 Try.underlying5 0 0 9 Try.underlying9
    rw [this, e]
  · have := run_convert_bytes_arg (P := Try.prog) w 47 5 Try.underlying47 Try.underlying5 g 0 L.size cap (L.data.toList.map fun x => (x.toNat : Int)) (by rw [List.length_map, Array.length_toList]; rfl) (fun i hi => hc i g cap rfl hi) 9 Try.underlying9
    rw [this, nums_back]
theorem info5 : (Try.prog.info? 5).map (fun i => (i.zero, i.size, i.bytes)) = some (some (.int .u8 0), 1, 1) := by kernel_rfl

/-- how many bytes have come -/
def frI (a c i : Nat) : Nat := if i ≤ a then 0 else if i ≤ a + c then i - a else c

set_option maxRecDepth 1000000 in
set_option maxHeartbeats 2000000 in
theorem rapply_big (s : ByteArray) (p q : Int) (ins : ByteArray) (w : World) (hs : s.size ≤ 1048576) (hi : ins.size ≤ 1048576) (hok : ¬ okE s p q ins) :
    Calls Try.prog 14 #[.string s, ed p q ins] w fun e w' => e = .returned (.tuple #[.string ⟨#[]⟩, .int .i64 10]) ∧ Below w.heap.size w w' := by
  have C24 : Hid _ := fun W : World => origins_any s.size p q ins _ _ W hs hi rfl rfl
  have hN : (1048576 : Int) < ((s.size - cd s.size p q + ins.size : Nat) : Int) := by
    have : ¬ (s.size - cd s.size p q + ins.size ≤ 1048576) := fun h => hok ⟨hs, h⟩
    omega
  obtain ⟨N, hNe⟩ : ∃ N, s.size - cd s.size p q + ins.size = N := ⟨_, rfl⟩
  rw [hNe] at C24 hN
  have hs2 : ¬ (1048576 : Int) < (s.size : Int) := by omega
  clear hNe hi hok hs
  go_enter Try.func14, Try.ntmps14
  go_wp2_with fail
  refine (C24.out _).mono ?_
  rintro e' w1 ⟨v, rfl, hown, hb⟩
  have B1 : Hid (Below w.heap.size w w1) := below_trans (bel_up _ _) hb
  obtain ⟨vp, vc, rfl⟩ := own_slice hown
  clear hb C24 hown
  go_wp2_with fail
  go_ret2
  exact ⟨rfl, B1.out⟩

set_option maxRecDepth 1000000 in
set_option maxHeartbeats 4000000 in
theorem rapply_any (s : ByteArray) (p q : Int) (ins L : ByteArray) (w : World) (hi : ins.size ≤ 1048576) (hok : okE s p q ins) (hL : beh s p q ins = L) :
    Calls Try.prog 14 #[.string s, ed p q ins] w fun e w' => e = .returned (.tuple #[.string L, .int .i64 0]) ∧ Below w.heap.size w w' := by
  have hs := hok.1
  obtain ⟨a, ha⟩ : ∃ a, ca s.size p = a := ⟨_, rfl⟩
  obtain ⟨d, hd⟩ : ∃ d, cd s.size p q = d := ⟨_, rfl⟩
  have C24 : Hid _ := fun W : World => origins_any s.size p q ins a d W hs hi ha hd
  have hle := cd_le s.size p q
  have hLs := beh_size s p q ins
  have hz := hok.2
  rw [hL] at hLs
  rw [ha, hd] at hle
  rw [hd] at hLs hz
  rw [← hLs] at C24
  have hspl : L = spl s a (a + d) ins := by rw [← hL]; unfold beh; rw [ha, hd]
  have Bh : Hid (∀ j, j < a → L.get! j = s.get! j) := fun j hj => by rw [hspl]; exact spl_head s a (a + d) ins (by omega) hle j hj
  have Bm : Hid (∀ j, j < ins.size → L.get! (a + j) = ins.get! j) := fun j hj => by rw [hspl]; exact spl_mid s a (a + d) ins (by omega) hle j hj
  have Bt : Hid (∀ j, a + d ≤ j → j < s.size → L.get! (j - d + ins.size) = s.get! j) := fun j h1 h2 => by
    have := spl_tail s a (a + d) ins (by omega) hle j h1 h2
    rw [show a + d - a = d by omega] at this
    rw [hspl]
    exact this
  have HZ : Hid (s.size ≤ 1048576 ∧ L.size = s.size - d + ins.size ∧ a + d ≤ s.size ∧ L.size ≤ 1048576) := ⟨hs, hLs, hle, by omega⟩
  have hs2 : ¬ (1048576 : Int) < (s.size : Int) := by omega
  have hL2 : ¬ (1048576 : Int) < (L.size : Int) := by omega
  clear hok hL ha hd hle hLs hs hz hspl hi
  go_enter Try.func14, Try.ntmps14
  go_wp2_with fail
  refine (C24.out _).mono ?_
  rintro e' w1 ⟨v, rfl, hown, hb⟩
  have KE : Hid _ := box1 hb
  have B1 : Hid (Below w.heap.size w w1) := below_trans (bel_up _ _) hb
  have HR : Hid (w1.ownsRow (w.alloc (.cells #[.int .i64 p, .int .i64 q, .string ins] 23)).heap.size 3 1 v L.size (ogs a d ins.size L.size)) := hown
  obtain ⟨vp, vc, rfl⟩ := own_slice hown
  clear hb C24 hown
  go_wp2_with fail
  clear hs2 hL2
  go_loopg [7, 8, 9] L.size (fun g vo vf vi wr => ∃ i : Nat, vf = .int .i64 (frI a ins.size i : Int) ∧ vi = .int .i64 (i : Int) ∧ i ≤ L.size ∧ g = L.size - i ∧ wr.ownsRow w1.heap.size 5 1 vo i (bcs L i) ∧ Below w1.heap.size w1 wr)
  case atStart => exact ⟨0, by unfold frI; simp, rfl, by omega, rfl, World.ownsRow_nil _ _ _ _, Below.refl _ _⟩
  case round =>
    obtain ⟨i, rfl, rfl, hin, hg, hown, hbel⟩ := hrel
    have hZZ := HZ.out
    have hfb : frI a ins.size i ≤ 1048576 := by unfold frI; split <;> (try split) <;> omega
    obtain ⟨f, hf⟩ : ∃ f, frI a ins.size i = f := ⟨_, rfl⟩
    rw [hf]
    rw [hf] at hfb
    have HF : Hid _ := hf
    have HO : Hid (wr.ownsRow w1.heap.size 5 1 u7 i (bcs L i)) := hown
    have HB : Hid _ := hbel
    have HG : Hid _ := hg
    clear hf hown hbel hg
    by_cases hi : i < L.size
    · have hiI : (i : Int) < (L.size : Int) := by omega
      have hil : i ≤ 1048576 := by omega
      obtain ⟨g, cap', hform, _, _, _⟩ := own_form HR.out (by omega)
      obtain ⟨rfl, rfl⟩ : vp = some ⟨g, 0, none⟩ ∧ vc = cap' := by
        injection hform with h1 h2 h3
        exact ⟨h1, h3⟩
      have k0 : wr.cell? ⟨g, i, none⟩ = some (.int .i64 (og a d ins.size i)) := by rw [(own_mono HR.out HB.out).cellAt _ (by omega)]; exact ogs_at a d ins.size L.size i hi
      obtain ⟨a0, a1, a2, af⟩ := KE.out.up HB.out
      obtain ⟨i5, hi5, hz5, hs5, hy5⟩ := info_parts info5
      by_cases hm : a ≤ i ∧ i < a + ins.size
      · have hog : og a d ins.size i = -1 := by unfold og; rw [if_neg (by omega), if_pos (by omega)]
        rw [hog] at k0
        have hfi : f = i - a := by
          have h2 := HF.out
          unfold frI at h2
          split at h2
          · omega
          · rw [if_pos (by omega)] at h2; omega
        have hf1 : f < ins.size := by omega
        have hbyte : L.get! i = ins.get! f := by
          have := Bm.out f hf1
          rwa [show a + f = i by omega] at this
        have hx := idx_fact ins f hf1
        rw [← hbyte] at hx
        have NX : Hid (frI a ins.size (i + 1) = f + 1) := by
          show frI a ins.size (i + 1) = f + 1
          unfold frI
          rw [if_neg (by omega), if_pos (by omega)]
          omega
        obtain ⟨y, hy⟩ : ∃ y : Int, y = ((L.get! i).toNat : Int) := ⟨_, rfl⟩
        rw [← hy] at hx
        have HY : Hid _ := hy
        have hO : Hid ((wr.alloc (.cells #[.int .u8 y] 5)).ownsRow w1.heap.size 5 1 u7 i (bcs L i)) := HO.out.alloc _
        have hbase : w1.heap.size ≤ (wr.alloc (.cells #[.int .u8 y] 5)).heap.size := by
          have := HB.out.size
          simp
          omega
        have HI : Hid (i < L.size) := hi
        clear hbyte hfi hf1 hm hog hform hZZ hin hi hy
        go_wp2_with (at_builtin; refine wpList_append_own _ rfl (.tmp 31) (.tmp 36) 47 rfl w1.heap.size 5 i5 (.int .u8 0) 1 1 Try.underlying47 hi5 hz5 hs5 hy5 rfl (by decide) _ _ _ rfl hO.out ⟨wr.heap.size, 0, none⟩ 1 1 [.int .u8 y] rfl rfl ?c1 ?c2 ?c3 ?c4 ?c5 ?_)
        case c1 => exact cell_one_new _ _ _
        case c2 => intro y hy; simp at hy; subst hy; rfl
        case c3 => unfold maxLen; omega
        case c4 => omega
        case c5 => exact hbase
        intro v1 w8 hown1 hgrow1 _
        have OW : Hid _ := hown1
        have GR : Hid _ := hgrow1
        clear hown1 hgrow1 hO hbase hi5 hz5 hs5 hy5 hx k0 a0 a1 a2 af
        go_wp2_with fail
        go_roundg (L.size - (i + 1))
        case measure =>
          have := HG.out
          have := HI.out
          omega
        case rel =>
          have hI := HI.out
          have hb8 := (below_trans HB.out (bel_up _ _)).grown GR.out (by have := HB.out.size; simp; omega) (fun q hq => by have := (HO.out.lt q hq).1; omega)
          refine ⟨i + 1, by rw [NX.out]; simp, by simp, by omega, rfl, ?_, hb8⟩
          rw [bcs_succ, ← HY.out]
          exact OW.out
      · obtain ⟨k, hk1, hk2, hk3⟩ : ∃ k : Nat, og a d ins.size i = (k : Int) ∧ k < s.size ∧ L.get! i = s.get! k := by
          by_cases h1 : i < a
          · exact ⟨i, by unfold og; rw [if_pos h1], by omega, Bh.out i h1⟩
          · refine ⟨i - ins.size + d, by unfold og; rw [if_neg h1, if_neg (by omega)]; omega, by omega, ?_⟩
            have := Bt.out (i - ins.size + d) (by omega) (by omega)
            rwa [show i - ins.size + d - d + ins.size = i by omega] at this
        rw [hk1] at k0
        have hx := idx_fact s k hk2
        rw [← hk3] at hx
        have hk0 : ¬ (k : Int) < 0 := by omega
        have NX : Hid (frI a ins.size (i + 1) = f) := by
          have h2 := HF.out
          show frI a ins.size (i + 1) = f
          unfold frI at h2 ⊢
          by_cases h1 : i < a
          · rw [if_pos (by omega)] at h2 ⊢; exact h2
          · rw [if_neg (by omega), if_neg (by omega)]
            split at h2
            · omega
            · split at h2 <;> omega
        obtain ⟨y, hy⟩ : ∃ y : Int, y = ((L.get! i).toNat : Int) := ⟨_, rfl⟩
        rw [← hy] at hx
        have HY : Hid _ := hy
        have hO : Hid ((wr.alloc (.cells #[.int .u8 y] 5)).ownsRow w1.heap.size 5 1 u7 i (bcs L i)) := HO.out.alloc _
        have hbase : w1.heap.size ≤ (wr.alloc (.cells #[.int .u8 y] 5)).heap.size := by
          have := HB.out.size
          simp
          omega
        have HI : Hid (i < L.size) := hi
        clear hk1 hk2 hk3 hm hform hZZ hin hi hy
        go_wp2_with (at_builtin; refine wpList_append_own _ rfl (.tmp 40) (.tmp 47) 47 rfl w1.heap.size 5 i5 (.int .u8 0) 1 1 Try.underlying47 hi5 hz5 hs5 hy5 rfl (by decide) _ _ _ rfl hO.out ⟨wr.heap.size, 0, none⟩ 1 1 [.int .u8 y] rfl rfl ?c1 ?c2 ?c3 ?c4 ?c5 ?_)
        case c2 => first | rfl | (intro y hy; simp at hy; subst hy; rfl)

        case c3 => unfold maxLen; omega
        case c4 => omega
        case c5 => simpa using hbase
        intro v1 w8 hown1 hgrow1 _
        have OW : Hid _ := hown1
        have GR : Hid _ := hgrow1
        clear hown1 hgrow1 hO hbase hi5 hz5 hs5 hy5 hx k0 a0 a1 a2 af
        go_wp2_with fail
        go_roundg (L.size - (i + 1))
        case measure =>
          have := HG.out
          have := HI.out
          omega
        case rel =>
          have hI := HI.out
          have hb8 := (below_trans HB.out (bel_up _ _)).grown GR.out (by have := HB.out.size; simp; omega) (fun q hq => by have := (HO.out.lt q hq).1; omega)
          refine ⟨i + 1, by rw [NX.out], by simp, by omega, rfl, ?_, hb8⟩
          rw [bcs_succ, ← HY.out]
          exact OW.out
    · have hiI : ¬ (i : Int) < (L.size : Int) := by omega
      have hie : i = L.size := by omega
      subst hie
      have hcv := conv_own HO.out
      clear hi hZZ hin
      go_wp2_with fail
      go_ret2
      exact ⟨rfl, below_trans B1.out HB.out⟩

end Go.Proofs.Ytjpmmihcnfedgab
