import Derived.Test.YtcfmpmhdjkchjaaTty
namespace Go.Proofs.Ytcfmpmhdjkchjaa
open Go.RowKit Go.Maps

def aTe : List Td := [(⟨#[]⟩, false), (⟨#[97]⟩, false)]
def aSy : List Sd := [(⟨#[115]⟩, 1)]
def aP (v u : Value) : List Pd := [(-1, v, [(2, ⟨#[]⟩, ⟨#[]⟩)]), (0, u, [(1, ⟨#[102]⟩, ⟨#[]⟩)])]
def aA : List Nd := [⟨⟨#[97]⟩, true, ⟨#[]⟩, 2, 5, 0, 0⟩]
def aT : List Nd := [⟨⟨#[115]⟩, true, ⟨#[]⟩, 2, 5, 1, -1⟩, ⟨⟨#[97]⟩, true, ⟨#[102]⟩, 2, 5, 0, 0⟩]
theorem a_tok : tkn aTe 1 0 2 5 = aA := by kernel_rfl
theorem a_red (v u : Value) : rdc aTe aSy (aP v u) 1 [aA] [0, 5] = aT := by kernel_rfl
theorem a_kls : kls aT 0 = [1] := by kernel_rfl
theorem a_rts : rts aT = 1 := by kernel_rfl
theorem a_fo : Fo (kds aT) := ⟨1, by kernel_rfl⟩
theorem a_txt : txO aT (kns aT) 5 5 0 [] = some [40, 115, 32, 102, 58, 32, 40, 97, 41, 41] := by kernel_rfl
theorem rw_blk {W : World} {b n : Nat} {A : Array Value} {e : TypeId} {cs : List Value} (h : W.heap[b]? = some (.cells A e (0, 0))) (hA : A.toList = cs) : Rw W (.slice (some ⟨b, 0, none⟩) n n) n cs :=
  ⟨_, b, 0, n, rfl, Nat.le_refl _, (fun h => by cases h), fun _ => rfl, fun j u hu => by rw [Nat.zero_add]; exact rcell h j u (by rw [← Array.getElem?_toList, hA]; exact hu)⟩
theorem sz_up (w : World) (o : Obj) : (w.alloc o).heap.size = w.heap.size + 1 := by simp
theorem heap6 (w : World) (o1 o2 o3 o4 o5 o6 : Obj) : ∃ W, W = (((((w.alloc o1).alloc o2).alloc o3).alloc o4).alloc o5).alloc o6 ∧ W.heap[w.heap.size]? = some o1 ∧ W.heap[w.heap.size + 1]? = some o2 ∧ W.heap[w.heap.size + 1 + 1]? = some o3 ∧ W.heap[w.heap.size + 1 + 1 + 1]? = some o4 ∧ W.heap[w.heap.size + 1 + 1 + 1 + 1]? = some o5 ∧ W.heap[w.heap.size + 1 + 1 + 1 + 1 + 1]? = some o6 ∧ Below w.heap.size w W := by
  obtain ⟨W1, hW1⟩ : ∃ W1, W1 = w.alloc o1 := ⟨_, rfl⟩
  obtain ⟨W2, hW2⟩ : ∃ W2, W2 = W1.alloc o2 := ⟨_, rfl⟩
  obtain ⟨W3, hW3⟩ : ∃ W3, W3 = W2.alloc o3 := ⟨_, rfl⟩
  obtain ⟨W4, hW4⟩ : ∃ W4, W4 = W3.alloc o4 := ⟨_, rfl⟩
  obtain ⟨W5, hW5⟩ : ∃ W5, W5 = W4.alloc o5 := ⟨_, rfl⟩
  obtain ⟨W6, hW6⟩ : ∃ W6, W6 = W5.alloc o6 := ⟨_, rfl⟩
  have s1 : W1.heap.size = w.heap.size + 1 := by rw [hW1]; exact sz_up _ _
  have s2 : W2.heap.size = W1.heap.size + 1 := by rw [hW2]; exact sz_up _ _
  have s3 : W3.heap.size = W2.heap.size + 1 := by rw [hW3]; exact sz_up _ _
  have s4 : W4.heap.size = W3.heap.size + 1 := by rw [hW4]; exact sz_up _ _
  have s5 : W5.heap.size = W4.heap.size + 1 := by rw [hW5]; exact sz_up _ _
  have b1 : Below w.heap.size w W1 := by rw [hW1]; exact bel_up _ _
  have b2 : Below W1.heap.size W1 W2 := by rw [hW2]; exact bel_up _ _
  have b3 : Below W2.heap.size W2 W3 := by rw [hW3]; exact bel_up _ _
  have b4 : Below W3.heap.size W3 W4 := by rw [hW4]; exact bel_up _ _
  have b5 : Below W4.heap.size W4 W5 := by rw [hW5]; exact bel_up _ _
  have b6 : Below W5.heap.size W5 W6 := by rw [hW6]; exact bel_up _ _
  have c5 := b6
  have c4 := below_trans b5 c5
  have c3 := below_trans b4 c4
  have c2 := below_trans b3 c3
  have c1 := below_trans b2 c2
  have h1 : W1.heap[w.heap.size]? = some o1 := by rw [hW1]; exact heap_new _ _
  have h2 : W2.heap[W1.heap.size]? = some o2 := by rw [hW2]; exact heap_new _ _
  have h3 : W3.heap[W2.heap.size]? = some o3 := by rw [hW3]; exact heap_new _ _
  have h4 : W4.heap[W3.heap.size]? = some o4 := by rw [hW4]; exact heap_new _ _
  have h5 : W5.heap[W4.heap.size]? = some o5 := by rw [hW5]; exact heap_new _ _
  have h6 : W6.heap[W5.heap.size]? = some o6 := by rw [hW6]; exact heap_new _ _
  refine ⟨W6, by rw [hW6, hW5, hW4, hW3, hW2, hW1], (c1.block _ (by omega)).trans h1, ?_, ?_, ?_, ?_, ?_, below_trans b1 c1⟩
  · rw [← s1]; exact (c2.block _ (by omega)).trans h2
  · rw [← s1, ← s2]; exact (c3.block _ (by omega)).trans h3
  · rw [← s1, ← s2, ← s3]; exact (c4.block _ (by omega)).trans h4
  · rw [← s1, ← s2, ← s3, ← s4]; exact (c5.block _ (by omega)).trans h5
  · rw [← s1, ← s2, ← s3, ← s4, ← s5]; exact h6
def aU (i : Nat) : Value := if i = 0 then .string ⟨#[]⟩ else .slice none 0 0
theorem a_gs (v u : Value) : Gs aTe aSy (aP v u) := ⟨by decide, by decide, by show 2 * 32 + 4096 ≤ 140737488355328; decide, fun x hx => by
  simp only [aP, List.mem_cons, List.not_mem_nil, or_false] at hx
  rcases hx with rfl | rfl <;> (show 1 * 40 + 4096 ≤ 140737488355328; decide)⟩
theorem a_ri (v u : Value) : ∀ x ∈ aP v u, ∀ r ∈ x.2.2, r.1 ≤ 9223372036854775807 := fun x hx r hr => by
  simp only [aP, List.mem_cons, List.not_mem_nil, or_false] at hx
  rcases hx with rfl | rfl
  · simp only [List.mem_cons, List.not_mem_nil, or_false] at hr; subst hr; decide
  · simp only [List.mem_cons, List.not_mem_nil, or_false] at hr; subst hr; decide
theorem a_sm : Sm aT := by show 2 * 72 + 4096 ≤ 140737488355328; decide
theorem a_nd : ∀ x ∈ aT, x.nd = true := fun x hx => by
  simp only [aT, List.mem_cons, List.not_mem_nil, or_false] at hx
  rcases hx with rfl | rfl <;> rfl
set_option maxRecDepth 100000 in
set_option maxHeartbeats 16000000 in
theorem alive_any (w : World) : Calls Try.prog 23 #[] w fun e w' => e = .returned (.bool true) ∧ Below w.heap.size w w' := by
  obtain ⟨W6, hW6, k0, k1, k2, k3, k4, k5, hb6⟩ := heap6 w (.cells #[.string ⟨#[]⟩, .bool false, .string ⟨#[97]⟩, .bool false] 95) (.cells #[.string ⟨#[115]⟩, .int .i64 1] 56) (.cells #[.int .i64 2, .string ⟨#[]⟩, .string ⟨#[]⟩] 97) (.cells #[.int .i64 1, .string ⟨#[102]⟩, .string ⟨#[]⟩] 97) (.cells #[.int .i64 (-1), .slice (some ⟨w.heap.size + 1 + 1, 0, none⟩) 1 1, .int .i64 0, .slice (some ⟨w.heap.size + 1 + 1 + 1, 0, none⟩) 1 1] 100) (.cells #[.string ⟨#[]⟩, .slice none 0 0, .slice (some ⟨w.heap.size, 0, none⟩) 2 2, .slice (some ⟨w.heap.size + 1, 0, none⟩) 1 1, .slice (some ⟨w.heap.size + 1 + 1 + 1 + 1, 0, none⟩) 2 2, .slice none 0 0, .slice none 0 0, .slice none 0 0, .slice none 0 0, .slice none 0 0, .slice none 0 0, .slice none 0 0] 52)
  have K0 : Hid _ := k0
  have K1 : Hid _ := k1
  have K2 : Hid _ := k2
  have K3 : Hid _ := k3
  have K4 : Hid _ := k4
  have K5 : Hid _ := k5
  have HB6 : Hid (Below w.heap.size w W6) := hb6
  clear k0 k1 k2 k3 k4 k5 hb6
  go_enter Try.func23, Try.ntmps23
  go_upto_region 2 with fail
  rw [← hW6]
  clear hW6
  obtain ⟨b0, hb0⟩ : ∃ b, w.heap.size = b := ⟨_, rfl⟩
  have HB0 : Hid (w.heap.size = b0) := hb0
  rw [hb0] at K0 K1 K2 K3 K4 K5 ⊢
  obtain ⟨b1, hb1⟩ : ∃ b, b0 + 1 = b := ⟨_, rfl⟩
  rw [hb1] at K1 K2 K3 K4 K5 ⊢
  obtain ⟨b2, hb2⟩ : ∃ b, b1 + 1 = b := ⟨_, rfl⟩
  rw [hb2] at K2 K3 K4 K5 ⊢
  obtain ⟨b3, hb3⟩ : ∃ b, b2 + 1 = b := ⟨_, rfl⟩
  rw [hb3] at K3 K4 K5 ⊢
  obtain ⟨b4, hb4⟩ : ∃ b, b3 + 1 = b := ⟨_, rfl⟩
  rw [hb4] at K4 K5 ⊢
  obtain ⟨b5, hb5⟩ : ∃ b, b4 + 1 = b := ⟨_, rfl⟩
  rw [hb5] at K5 ⊢
  clear hb0 hb1 hb2 hb3 hb4 hb5
  have HG : Hid (Gx W6 (.slice (some ⟨b0, 0, none⟩) 2 2) (.slice (some ⟨b1, 0, none⟩) 1 1) (.slice (some ⟨b4, 0, none⟩) 2 2) aTe aSy (aP (.slice (some ⟨b2, 0, none⟩) 1 1) (.slice (some ⟨b3, 0, none⟩) 1 1))) := ⟨rw_blk K0.out rfl, rw_blk K1.out rfl, rw_blk K4.out rfl, fun x hx => by
    simp only [aP, List.mem_cons, List.not_mem_nil, or_false] at hx
    rcases hx with rfl | rfl
    · exact rw_blk K2.out rfl
    · exact rw_blk K3.out rfl⟩
  have HX6 : Hid (W6.heap[b5]? = some (.cells #[.string ⟨#[]⟩, .slice none 0 0, .slice (some ⟨b0, 0, none⟩) 2 2, .slice (some ⟨b1, 0, none⟩) 1 1, .slice (some ⟨b4, 0, none⟩) 2 2, .slice none 0 0, .slice none 0 0, .slice none 0 0, .slice none 0 0, .slice none 0 0, .slice none 0 0, .slice none 0 0] 52 (0, 0))) := K5.out
  clear K0 K1 K2 K3 K4 K5
  have HTK : Hid (Calls Try.prog 33 #[(.agg #[.string ⟨#[]⟩, .slice none 0 0, .slice (some ⟨b0, 0, none⟩) 2 2, .slice (some ⟨b1, 0, none⟩) 1 1, .slice (some ⟨b4, 0, none⟩) 2 2, .slice none 0 0, .slice none 0 0, .slice none 0 0, .slice none 0 0, .slice none 0 0, .slice none 0 0, .slice none 0 0]), .int .i64 1, .int .i64 0, .int .i64 2, .int .i64 5] W6 fun e w' => ∃ v', e = .returned v' ∧ w'.ownsRow W6.heap.size 33 7 v' 1 (flat nf aA) ∧ Below W6.heap.size W6 w') := by
    have h7 := token_any aU W6 HG.out 1 0 2 5
    rw [a_tok] at h7
    exact h7
  have x0 := rcell HX6.out 0 _ rfl
  have x1 := rcell HX6.out 1 _ rfl
  have x2 := rcell HX6.out 2 _ rfl
  have x3 := rcell HX6.out 3 _ rfl
  have x4 := rcell HX6.out 4 _ rfl
  have x5 := rcell HX6.out 5 _ rfl
  have x6 := rcell HX6.out 6 _ rfl
  have x7 := rcell HX6.out 7 _ rfl
  have x8 := rcell HX6.out 8 _ rfl
  have x9 := rcell HX6.out 9 _ rfl
  have x10 := rcell HX6.out 10 _ rfl
  have x11 := rcell HX6.out 11 _ rfl
  go_upto_region 3 with (go_at_call 33; refine Calls.mono HTK.out ?_; rintro ee W7 ⟨v7, rfl, ho7, hb7⟩; have HO7 : Hid (W7.ownsRow W6.heap.size 33 7 v7 1 (flat nf aA)) := ho7; have HB7 : Hid (Below W6.heap.size W6 W7) := hb7; clear ho7 hb7)
  clear x0 x1 x2 x3 x4 x5 x6 x7 x8 x9 x10 x11
  obtain ⟨ga, ca, hv7, _⟩ := row_form HO7.out (by decide)
  subst hv7
  have HX7 : Hid (W7.heap[b5]? = some (.cells #[.string ⟨#[]⟩, .slice none 0 0, .slice (some ⟨b0, 0, none⟩) 2 2, .slice (some ⟨b1, 0, none⟩) 1 1, .slice (some ⟨b4, 0, none⟩) 2 2, .slice none 0 0, .slice none 0 0, .slice none 0 0, .slice none 0 0, .slice none 0 0, .slice none 0 0, .slice none 0 0] 52 (0, 0))) := (HB7.out.block b5 (lt_of_heap HX6.out)).trans HX6.out
  have x0 := rcell HX7.out 0 _ rfl
  have x1 := rcell HX7.out 1 _ rfl
  have x2 := rcell HX7.out 2 _ rfl
  have x3 := rcell HX7.out 3 _ rfl
  have x4 := rcell HX7.out 4 _ rfl
  have x5 := rcell HX7.out 5 _ rfl
  have x6 := rcell HX7.out 6 _ rfl
  have x7 := rcell HX7.out 7 _ rfl
  have x8 := rcell HX7.out 8 _ rfl
  have x9 := rcell HX7.out 9 _ rfl
  have x10 := rcell HX7.out 10 _ rfl
  have x11 := rcell HX7.out 11 _ rfl
  obtain ⟨W8, hW8⟩ : ∃ W8, W8 = (W7.alloc (.cells #[.slice (some ⟨ga, 0, none⟩) 1 ca] 22)).alloc (.cells #[.int .i64 0, .int .i64 5] 3) := ⟨_, rfl⟩
  have HB8 : Hid (Below W7.heap.size W7 W8) := by rw [hW8]; exact below_trans (bel_up _ _) (bel_up _ _)
  have HY8 : Hid (W8.heap[W7.heap.size]? = some (.cells #[.slice (some ⟨ga, 0, none⟩) 1 ca] 22 (0, 0))) := by rw [hW8]; exact ((bel_up (W7.alloc _) _).block W7.heap.size (by simp)).trans (heap_new _ _)
  have HZ8 : Hid (W8.heap[W7.heap.size + 1]? = some (.cells #[.int .i64 0, .int .i64 5] 3 (0, 0))) := by rw [hW8]; exact heap_new2 _ _ _
  have HRD : Hid (Calls Try.prog 47 #[(.agg #[.string ⟨#[]⟩, .slice none 0 0, .slice (some ⟨b0, 0, none⟩) 2 2, .slice (some ⟨b1, 0, none⟩) 1 1, .slice (some ⟨b4, 0, none⟩) 2 2, .slice none 0 0, .slice none 0 0, .slice none 0 0, .slice none 0 0, .slice none 0 0, .slice none 0 0, .slice none 0 0]), .int .i64 1, .slice (some ⟨W7.heap.size, 0, none⟩) 1 1, .slice (some ⟨W7.heap.size + 1, 0, none⟩) 2 2] W8 fun e w' => ∃ v', e = .returned v' ∧ w'.ownsRow W8.heap.size 33 7 v' 2 (flat nf aT) ∧ Below W8.heap.size W8 w') := by
    have h7 := reduce_any (L := [(.slice (some ⟨ga, 0, none⟩) 1 ca, aA)]) (es := [0, 5]) aU 1 W8 (HG.out.up (below_trans HB7.out HB8.out)) (a_gs _ _) (a_ri _ _) (vk := .slice (some ⟨W7.heap.size, 0, none⟩) 1 1) (ve := .slice (some ⟨W7.heap.size + 1, 0, none⟩) 2 2) ⟨rw_blk HY8.out rfl, fun x hx => by
      simp only [List.mem_cons, List.not_mem_nil, or_false] at hx
      subst hx
      exact row_rw (row_up HO7.out HB8.out) (by decide)⟩ (rw_blk HZ8.out rfl) (by show 3 * 72 + 4096 ≤ 140737488355328; decide)
    rw [show ([(.slice (some ⟨ga, 0, none⟩) 1 ca, aA)] : List (Value × List Nd)).map Prod.snd = [aA] from rfl, a_red] at h7
    exact h7
  go_upto_region 4 with (go_at_call 47; (try rw [← hW8]); refine Calls.mono HRD.out ?_; rintro ee W9 ⟨v9, rfl, ho9, hb9⟩; have HO9 : Hid (W9.ownsRow W8.heap.size 33 7 v9 2 (flat nf aT)) := ho9; have HB9 : Hid (Below W8.heap.size W8 W9) := hb9; clear ho9 hb9)
  clear x0 x1 x2 x3 x4 x5 x6 x7 x8 x9 x10 x11 hW8
  obtain ⟨gt, ct, hv9, _⟩ := row_form HO9.out (by decide)
  subst hv9
  have HN9 : Hid (Ns W9 (.slice (some ⟨gt, 0, none⟩) 2 ct) aT) := row_rw HO9.out (by decide)
  have HB9' : Hid (Below w.heap.size w W9) := below_trans HB6.out (below_trans HB7.out (below_trans HB8.out HB9.out))
  have HKD : Hid (Calls Try.prog 30 #[.slice (some ⟨gt, 0, none⟩) 2 ct, .int .i64 0] W9 fun e w' => ∃ v', e = .returned v' ∧ w'.ownsRow W9.heap.size 3 1 v' 1 (iC [1]) ∧ Below W9.heap.size W9 w') := by
    have h7 := kids_any W9 HN9.out a_sm 0
    rw [a_kls] at h7
    exact h7
  go_upto_region 5 with (go_at_call 30; refine Calls.mono HKD.out ?_; rintro ee W10 ⟨v10, rfl, ho10, hb10⟩; have HO10 : Hid (W10.ownsRow W9.heap.size 3 1 v10 1 (iC [1])) := ho10; have HB10 : Hid (Below W9.heap.size W9 W10) := hb10; clear ho10 hb10)
  obtain ⟨gk, ck, hv10, _⟩ := row_form HO10.out (by decide)
  subst hv10
  have HTX : Hid (Calls Try.prog 48 #[.slice (some ⟨gt, 0, none⟩) 2 ct] W10 fun e w' => e = .returned (.string ⟨#[40, 115, 32, 102, 58, 32, 40, 97, 41, 41]⟩) ∧ Below W10.heap.size W10 w') := text_any W10 (HN9.out.up HB10.out) a_sm a_fo (by decide) a_nd 5 5 _ a_txt (by decide)
  go_upto_region 6 with (go_at_call 48; refine Calls.mono HTX.out ?_; rintro ee W11 ⟨rfl, hb11⟩; have HB11 : Hid (Below W10.heap.size W10 W11) := hb11; clear hb11)
  have HN11 : Hid (Ns W11 (.slice (some ⟨gt, 0, none⟩) 2 ct) aT) := HN9.out.up (below_trans HB10.out HB11.out)
  have HO11 : Hid (W11.ownsRow W8.heap.size 33 7 (.slice (some ⟨gt, 0, none⟩) 2 ct) 2 (flat nf aT)) := row_up HO9.out (below_trans HB10.out HB11.out)
  have t3 : W11.cell? ⟨gt, 3, none⟩ = some (.int .i64 2) := row_at HO11.out 3 _ rfl
  have t4 : W11.cell? ⟨gt, 4, none⟩ = some (.int .i64 5) := row_at HO11.out 4 _ rfl
  have t5 : W11.cell? ⟨gt, 5, none⟩ = some (.int .i64 1) := row_at HO11.out 5 _ rfl
  have t6 : W11.cell? ⟨gt, 6, none⟩ = some (.int .i64 (-1)) := row_at HO11.out 6 _ rfl
  have kk : W11.cell? ⟨gk, 0, none⟩ = some (.int .i64 1) := row_at (row_up HO10.out HB11.out) 0 _ rfl
  have HRT : Hid (Calls Try.prog 25 #[.slice (some ⟨gt, 0, none⟩) 2 ct] W11 fun e w' => e = .returned (.int .i64 1) ∧ W11 = w') := by
    have h7 := roots_any W11 HN11.out a_sm
    rw [a_rts] at h7
    exact h7
  go_wp2_with (go_at_call 25; refine Calls.mono HRT.out ?_; rintro ee ww ⟨rfl, rfl⟩)
  go_ret
  exact ⟨rfl, below_trans HB9'.out (below_trans HB10.out HB11.out)⟩
end Go.Proofs.Ytcfmpmhdjkchjaa
