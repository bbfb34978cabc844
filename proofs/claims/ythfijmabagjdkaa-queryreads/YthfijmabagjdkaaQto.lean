import Derived.Test.YthfijmabagjdkaaQtn
namespace Go.Proofs.Ythfijmabagjdkaa.Qy
open Go.RowKit Go.Maps

/-- A query in a box, its lists in blocks between two places. -/
structure Qb (W : World) (B N b : Nat) (vn vc : Value) (l : List Pn) (cs : List Cd) : Prop where
  blk : W.heap[b]? = some (.cells #[vn, vc] 25 (0, 0))
  ns : W.ownsRow B 46 5 vn l.length (flat pf l)
  cs : W.ownsRow B 48 4 vc cs.length (flat cf cs)
  lt : ∀ g, Bo vn vc g → g < N
theorem Qb.up {W W' : World} {B N b : Nat} {vn vc : Value} {l : List Pn} {cs : List Cd} (h : Qb W B N b vn vc l cs) (hb : Below W.heap.size W W') : Qb W' B N b vn vc l cs :=
  ⟨(hb.block _ (lt_of_heap h.blk)).trans h.blk, row_up h.ns hb, row_up h.cs hb, h.lt⟩
theorem Qb.ge {W : World} {B N b : Nat} {vn vc : Value} {l : List Pn} {cs : List Cd} (h : Qb W B N b vn vc l cs) {g : Nat} (hg : Bo vn vc g) : B ≤ g := by
  rcases hg with h1 | h1
  · exact (row_tag h.ns g h1).1
  · exact (row_tag h.cs g h1).1
theorem Kr.row {W W' : World} {S : Nat → Prop} {B : Nat} {e : TypeId} {s n : Nat} {u : Value} {xs : List Value} (k : Kr W W' S) (hu : W.ownsRow B e s u n xs) (hne : ∀ g, u.ownBlock = some g → ¬S g) : W'.ownsRow B e s u n xs := by
  refine ⟨hu.1, ?_⟩
  rcases hu.2 with h1 | ⟨g, cap, cur, e0, h1, h2, h3⟩
  · exact .inl h1
  · refine .inr ⟨g, cap, cur, e0, h1, ?_, h3⟩
    rw [k.block g (lt_of_heap h2) (hne g (by rw [e0]; rfl))]
    exact h2
theorem Qb.keep {W W' : World} {B N b B' N' b' : Nat} {vn vc un uc : Value} {l l' : List Pn} {cs cs' : List Cd} (h : Qb W B N b vn vc l cs) (h' : Qb W B' N' b' un uc l' cs') (hd : N ≤ B' ∨ N' ≤ B) (k : Kr W W' (Bo un uc)) : Qb W' B N b vn vc l cs := by
  have key : ∀ g, Bo vn vc g → ¬Bo un uc g := fun g hg hg' => by
    have h1 := h.lt g hg
    have h2 := h.ge hg
    have h3 := h'.lt g hg'
    have h4 := h'.ge hg'
    omega
  refine ⟨(k.block b (lt_of_heap h.blk) (fun e => ?_)).trans h.blk, k.row h.ns (fun g e => key g (.inl e)), k.row h.cs (fun g e => key g (.inr e)), h.lt⟩
  rcases e with e | e
  · exact tag_ne_blk h'.ns h.blk (by decide) e
  · exact tag_ne_blk h'.cs h.blk (by decide) e
theorem qb_new {W : World} {B : Nat} {vn vc : Value} {l : List Pn} {cs : List Cd} (hn : W.ownsRow B 46 5 vn l.length (flat pf l)) (hc : W.ownsRow B 48 4 vc cs.length (flat cf cs)) : Qb (W.alloc (.cells #[vn, vc] 25)) B W.heap.size W.heap.size vn vc l cs := by
  have hb : Below W.heap.size W (W.alloc (.cells #[vn, vc] 25)) := bel_up _ _
  refine ⟨heap_new W _, row_up hn hb, row_up hc hb, fun g hg => ?_⟩
  rcases hg with h1 | h1
  · exact (hn.lt g h1).2
  · exact (hc.lt g h1).2
theorem Qb.cells {W : World} {B N b : Nat} {vn vc : Value} {l : List Pn} {cs : List Cd} (h : Qb W B N b vn vc l cs) : W.cell? ⟨b, 0, none⟩ = some vn ∧ W.cell? ⟨b, 1, none⟩ = some vc := ⟨rcell h.blk 0 _ rfl, rcell h.blk 1 _ rfl⟩
/-- What Parse answers: its lists are short. -/
theorem psd_small {s : ByteArray} {l : List Pn} {cs : List Cd} (hl : (psr s).1 = l) (hc : (psr s).2.1 = cs) : l.length ≤ 32 ∧ cs.length ≤ 16 := by rw [← hl, ← hc]; exact psr_small s
set_option maxRecDepth 100000 in
set_option maxHeartbeats 16000000 in
/-- QueryReads. -/
theorem queryReads_any (s : ByteArray) (w : World) : Calls Try.prog 3 #[.string s] w fun e w' => e = .returned (.bool true) ∧ Below w.heap.size w w' := by
  have HRP : Hid (∀ W, Calls Try.prog 4 #[.string s] W fun e w' => Psd W.heap.size W w' e (psr s).1 (psr s).2.1 (psr s).2.2.1 (psr s).2.2.2) := fun W => rparse_any s W
  have HPA : Hid (∀ W, Calls Try.prog 5 #[.string s] W fun e w' => Psd W.heap.size W w' e (psr s).1 (psr s).2.1 (psr s).2.2.1 (psr s).2.2.2) := fun W => parse_any s W
  obtain ⟨ns, hns⟩ : ∃ ns, (psr s).1 = ns := ⟨_, rfl⟩
  obtain ⟨cs, hcs⟩ : ∃ cs, (psr s).2.1 = cs := ⟨_, rfl⟩
  obtain ⟨co, hco⟩ : ∃ co, (psr s).2.2.1 = co := ⟨_, rfl⟩
  obtain ⟨at', hat⟩ : ∃ at', (psr s).2.2.2 = at' := ⟨_, rfl⟩
  have HSM : Hid (ns.length ≤ 32 ∧ cs.length ≤ 16) := psd_small hns hcs
  rw [hns, hcs, hco, hat] at HRP HPA
  obtain ⟨sx, hsx⟩ : ∃ sx : ByteArray, (⟨#[40, 120, 32, 40, 121, 41, 32, 64, 97, 32, 34, 122, 34, 41, 32, 119, 104, 101, 110, 32, 64, 97, 32, 61, 32, 34, 113, 34]⟩ : ByteArray) = sx := ⟨_, rfl⟩
  have HOP : Hid (∀ W, Calls Try.prog 5 #[.string sx] W fun e w' => Psd W.heap.size W w' e (psr sx).1 (psr sx).2.1 (psr sx).2.2.1 (psr sx).2.2.2) := fun W => parse_any sx W
  obtain ⟨no, hno⟩ : ∃ ns, (psr sx).1 = ns := ⟨_, rfl⟩
  obtain ⟨cq, hcq⟩ : ∃ cs, (psr sx).2.1 = cs := ⟨_, rfl⟩
  obtain ⟨oo, hoo⟩ : ∃ co, (psr sx).2.2.1 = co := ⟨_, rfl⟩
  obtain ⟨oa, hoa⟩ : ∃ at', (psr sx).2.2.2 = at' := ⟨_, rfl⟩
  have HSO : Hid (no.length ≤ 32 ∧ cq.length ≤ 16) := psd_small hno hcq
  rw [hno, hcq, hoo, hoa] at HOP
  have HSX : Hid ((⟨#[40, 120, 32, 40, 121, 41, 32, 64, 97, 32, 34, 122, 34, 41, 32, 119, 104, 101, 110, 32, 64, 97, 32, 61, 32, 34, 113, 34]⟩ : ByteArray) = sx) := hsx
  have f1 : (co != co) = false := by simp
  have f2 : (at' != at') = false := by simp
  clear hns hcs hco hat hno hcq hoo hoa hsx
  have HSAME : Hid (∀ (W : World) (va ca vb cb : Value) (l : List Pn) (c : List Cd), l.length ≤ 32 → c.length ≤ 16 → Ps W va l → Cs W ca c → Ps W vb l → Cs W cb c → Calls Try.prog 7 #[.agg #[va, ca], .agg #[vb, cb]] W fun e w' => e = .returned (.bool true) ∧ Below W.heap.size W w') := fun W va ca vb cb l c h1 h2 h3 h4 h5 h6 => same_q W h3 h4 h5 h6 (by omega) (by omega)
  go_enter Try.func3, Try.ntmps3
  go_upto_region 2 with (go_at_call 4; refine Calls.mono (HRP.out _) ?_; rintro e w1 ⟨⟨rn, rc, rfl, hn, hc⟩, hb⟩; obtain ⟨a1, a2, rfl⟩ := row_shape hn; obtain ⟨a3, a4, rfl⟩ := row_shape hc; have HN1 : Hid _ := hn; have HC1 : Hid _ := hc; have HB1 : Hid (Below w.heap.size w w1) := hb; clear hn hc hb)
  obtain ⟨rn, hrn⟩ : ∃ rn, Value.slice a1 ns.length a2 = rn := ⟨_, rfl⟩
  obtain ⟨rc, hrc⟩ : ∃ rc, Value.slice a3 cs.length a4 = rc := ⟨_, rfl⟩
  rw [hrn] at HN1 ⊢
  rw [hrc] at HC1 ⊢
  clear hrn hrc a1 a2 a3 a4
  obtain ⟨W1, hW1⟩ : ∃ W1, w1.alloc (.cells #[rn, rc] 25) = W1 := ⟨_, rfl⟩
  obtain ⟨b1, hb1⟩ : ∃ b1, w1.heap.size = b1 := ⟨_, rfl⟩
  have HR1 : Hid (Qb W1 w.heap.size b1 b1 rn rc ns cs) := by rw [← hW1, ← hb1]; exact qb_new HN1.out HC1.out
  have HW1 : Hid (w.heap.size ≤ b1) := by rw [← hb1]; exact HB1.out.size
  have HZ1 : Hid (Below w.heap.size w W1 ∧ W1.heap.size = b1 + 1) := by rw [← hW1, ← hb1]; exact ⟨below_trans HB1.out (bel_up _ _), by simp⟩
  rw [hW1, hb1]
  clear hW1 hb1 HN1 HC1 HB1
  rw [HSX.out]
  go_upto_region 3 with (go_at_call 5; refine Calls.mono (HOP.out _) ?_; rintro e w2 ⟨⟨on, oc, rfl, hn, hc⟩, hb⟩; obtain ⟨a1, a2, rfl⟩ := row_shape hn; obtain ⟨a3, a4, rfl⟩ := row_shape hc; have HN1 : Hid _ := hn; have HC1 : Hid _ := hc; have HB1 : Hid (Below W1.heap.size W1 w2) := hb; clear hn hc hb)
  obtain ⟨on, hrn⟩ : ∃ on, Value.slice a1 no.length a2 = on := ⟨_, rfl⟩
  obtain ⟨oc, hrc⟩ : ∃ oc, Value.slice a3 cq.length a4 = oc := ⟨_, rfl⟩
  rw [hrn] at HN1 ⊢
  rw [hrc] at HC1 ⊢
  clear hrn hrc a1 a2 a3 a4
  obtain ⟨W2, hW2⟩ : ∃ W2, w2.alloc (.cells #[on, oc] 25) = W2 := ⟨_, rfl⟩
  obtain ⟨b2, hb2⟩ : ∃ b2, w2.heap.size = b2 := ⟨_, rfl⟩
  have HZ2 : Hid (Below w.heap.size w W2 ∧ W2.heap.size = b2 + 1 ∧ b1 < W1.heap.size ∧ W1.heap.size ≤ b2) := by
    have h1 := HB1.out.size
    rw [hb2] at h1
    exact ⟨below_trans HZ1.out.1 (below_trans HB1.out (by rw [← hW2]; exact bel_up _ _)), by rw [← hW2, ← hb2]; simp, lt_of_heap HR1.out.blk, h1⟩
  have HR2 : Hid (Qb W2 w.heap.size b1 b1 rn rc ns cs) := HR1.out.up (below_trans HB1.out (by rw [← hW2]; exact bel_up _ _))
  have HO2 : Hid (Qb W2 W1.heap.size b2 b2 on oc no cq) := by rw [← hW2, ← hb2]; exact qb_new HN1.out HC1.out
  rw [hW2, hb2]
  clear hW2 hb2 HN1 HC1 HB1 HR1
  obtain ⟨q0, q1⟩ := HO2.out.cells
  have HTW : Hid _ := twinq_any W2 (row_rw HO2.out.ns) (row_rw HO2.out.cs) (by have := HSO.out; omega) (by have := HSO.out; omega)
  go_upto_region 4 with (go_at_call 6; refine Calls.mono HTW.out ?_; rintro e w3 ⟨tn, tc, rfl, hn, hc, hb⟩; obtain ⟨a1, a2, rfl⟩ := row_shape hn; obtain ⟨a3, a4, rfl⟩ := row_shape hc; have HN1 : Hid _ := hn; have HC1 : Hid _ := hc; have HB1 : Hid (Below W2.heap.size W2 w3) := hb; clear hn hc hb)
  clear q0 q1 HTW
  obtain ⟨tn, hrn⟩ : ∃ tn, Value.slice a1 no.length a2 = tn := ⟨_, rfl⟩
  obtain ⟨tc, hrc⟩ : ∃ tc, Value.slice a3 cq.length a4 = tc := ⟨_, rfl⟩
  rw [hrn] at HN1 ⊢
  rw [hrc] at HC1 ⊢
  clear hrn hrc a1 a2 a3 a4
  obtain ⟨W3, hW3⟩ : ∃ W3, w3.alloc (.cells #[tn, tc] 25) = W3 := ⟨_, rfl⟩
  obtain ⟨b3, hb3⟩ : ∃ b3, w3.heap.size = b3 := ⟨_, rfl⟩
  have HZ3 : Hid (Below w.heap.size w W3 ∧ W3.heap.size = b3 + 1 ∧ b2 < W2.heap.size ∧ W2.heap.size ≤ b3) := by
    have h1 := HB1.out.size
    rw [hb3] at h1
    exact ⟨below_trans HZ2.out.1 (below_trans HB1.out (by rw [← hW3]; exact bel_up _ _)), by rw [← hW3, ← hb3]; simp, lt_of_heap HO2.out.blk, h1⟩
  have hup : Below W2.heap.size W2 W3 := below_trans HB1.out (by rw [← hW3]; exact bel_up _ _)
  have HR3 : Hid (Qb W3 w.heap.size b1 b1 rn rc ns cs) := HR2.out.up hup
  have HO3 : Hid (Qb W3 W1.heap.size b2 b2 on oc no cq) := HO2.out.up hup
  have HT3 : Hid (Qb W3 W2.heap.size b3 b3 tn tc no cq) := by rw [← hW3, ← hb3]; exact qb_new HN1.out HC1.out
  rw [hW3, hb3]
  clear hW3 hb3 HN1 HC1 HB1 HR2 HO2 hup
  go_upto_region 5 with (go_at_call 5; refine Calls.mono (HPA.out _) ?_; rintro e w4 ⟨⟨qn, qc, rfl, hn, hc⟩, hb⟩; obtain ⟨a1, a2, rfl⟩ := row_shape hn; obtain ⟨a3, a4, rfl⟩ := row_shape hc; have HN1 : Hid _ := hn; have HC1 : Hid _ := hc; have HB1 : Hid (Below W3.heap.size W3 w4) := hb; clear hn hc hb)
  obtain ⟨qn, hrn⟩ : ∃ qn, Value.slice a1 ns.length a2 = qn := ⟨_, rfl⟩
  obtain ⟨qc, hrc⟩ : ∃ qc, Value.slice a3 cs.length a4 = qc := ⟨_, rfl⟩
  rw [hrn] at HN1 ⊢
  rw [hrc] at HC1 ⊢
  clear hrn hrc a1 a2 a3 a4
  obtain ⟨W4, hW4⟩ : ∃ W4, w4.alloc (.cells #[qn, qc] 25) = W4 := ⟨_, rfl⟩
  obtain ⟨b4, hb4⟩ : ∃ b4, w4.heap.size = b4 := ⟨_, rfl⟩
  have hup : Below W3.heap.size W3 W4 := below_trans HB1.out (by rw [← hW4]; exact bel_up _ _)
  have HZ4 : Hid (Below w.heap.size w W4 ∧ W4.heap.size = b4 + 1 ∧ b3 < W3.heap.size ∧ W3.heap.size ≤ b4) := by
    have h1 := HB1.out.size
    rw [hb4] at h1
    exact ⟨below_trans HZ3.out.1 hup, by rw [← hW4, ← hb4]; simp, lt_of_heap HT3.out.blk, h1⟩
  have HR4 : Hid (Qb W4 w.heap.size b1 b1 rn rc ns cs) := HR3.out.up hup
  have HO4 : Hid (Qb W4 W1.heap.size b2 b2 on oc no cq) := HO3.out.up hup
  have HT4 : Hid (Qb W4 W2.heap.size b3 b3 tn tc no cq) := HT3.out.up hup
  have HQ4 : Hid (Qb W4 W3.heap.size b4 b4 qn qc ns cs) := by rw [← hW4, ← hb4]; exact qb_new HN1.out HC1.out
  rw [hW4, hb4]
  clear hW4 hb4 HN1 HC1 HB1 HR3 HO3 HT3 hup
  go_upto_region 6 with (go_at_call 5; refine Calls.mono (HPA.out _) ?_; rintro e w5 ⟨⟨pn, pc, rfl, hn, hc⟩, hb⟩; obtain ⟨a1, a2, rfl⟩ := row_shape hn; obtain ⟨a3, a4, rfl⟩ := row_shape hc; have HN1 : Hid _ := hn; have HC1 : Hid _ := hc; have HB1 : Hid (Below W4.heap.size W4 w5) := hb; clear hn hc hb)
  obtain ⟨pn, hrn⟩ : ∃ pn, Value.slice a1 ns.length a2 = pn := ⟨_, rfl⟩
  obtain ⟨pc, hrc⟩ : ∃ pc, Value.slice a3 cs.length a4 = pc := ⟨_, rfl⟩
  rw [hrn] at HN1 ⊢
  rw [hrc] at HC1 ⊢
  clear hrn hrc a1 a2 a3 a4
  obtain ⟨W5, hW5⟩ : ∃ W5, w5.alloc (.cells #[pn, pc] 25) = W5 := ⟨_, rfl⟩
  obtain ⟨b5, hb5⟩ : ∃ b5, w5.heap.size = b5 := ⟨_, rfl⟩
  have hup : Below W4.heap.size W4 W5 := below_trans HB1.out (by rw [← hW5]; exact bel_up _ _)
  have HZ5 : Hid (Below w.heap.size w W5 ∧ W5.heap.size = b5 + 1 ∧ b4 < W4.heap.size ∧ W4.heap.size ≤ b5) := by
    have h1 := HB1.out.size
    rw [hb5] at h1
    exact ⟨below_trans HZ4.out.1 hup, by rw [← hW5, ← hb5]; simp, lt_of_heap HQ4.out.blk, h1⟩
  have HR5 : Hid (Qb W5 w.heap.size b1 b1 rn rc ns cs) := HR4.out.up hup
  have HO5 : Hid (Qb W5 W1.heap.size b2 b2 on oc no cq) := HO4.out.up hup
  have HT5 : Hid (Qb W5 W2.heap.size b3 b3 tn tc no cq) := HT4.out.up hup
  have HQ5 : Hid (Qb W5 W3.heap.size b4 b4 qn qc ns cs) := HQ4.out.up hup
  have HP5 : Hid (Qb W5 W4.heap.size b5 b5 pn pc ns cs) := by rw [← hW5, ← hb5]; exact qb_new HN1.out HC1.out
  rw [hW5, hb5]
  clear hW5 hb5 HN1 HC1 HB1 HR4 HO4 HT4 HQ4 hup
  have HORD : Hid (w.heap.size ≤ b1 ∧ b1 ≤ W1.heap.size ∧ W1.heap.size ≤ b2 ∧ b2 ≤ W2.heap.size ∧ W2.heap.size ≤ b3 ∧ b3 ≤ W3.heap.size ∧ W3.heap.size ≤ b4 ∧ b4 ≤ W4.heap.size ∧ W4.heap.size ≤ b5) := by
    have h1 : w.heap.size ≤ b1 := HW1.out
    have := HZ1.out.2
    have := HZ2.out.2
    have := HZ3.out.2
    have := HZ4.out.2
    have := HZ5.out.2
    show _ ∧ _ ∧ _ ∧ _ ∧ _ ∧ _ ∧ _ ∧ _ ∧ _
    omega
  obtain ⟨kq0, kq1⟩ := HQ5.out.cells
  obtain ⟨kr0, kr1⟩ := HR5.out.cells
  have HC1 : Hid _ := HSAME.out W5 qn qc rn rc ns cs HSM.out.1 HSM.out.2 (row_rw HQ5.out.ns) (row_rw HQ5.out.cs) (row_rw HR5.out.ns) (row_rw HR5.out.cs)
  have HC2 : Hid (∀ W, Qb W W1.heap.size b2 b2 on oc no cq → Qb W W2.heap.size b3 b3 tn tc no cq → Calls Try.prog 7 #[.agg #[on, oc], .agg #[tn, tc]] W fun e w' => e = .returned (.bool true) ∧ Below W.heap.size W w') := fun W ho ht => HSAME.out W on oc tn tc no cq HSO.out.1 HSO.out.2 (row_rw ho.ns) (row_rw ho.cs) (row_rw ht.ns) (row_rw ht.cs)
  have HC3 : Hid (∀ W, W3.heap.size ≤ W.heap.size → Qb W W3.heap.size b4 b4 qn qc ns cs → Calls Try.prog 8 #[.agg #[qn, qc]] W fun e w' => e = .returned (.bool true) ∧ Kr W w' (Bo qn qc)) := fun W hb hq => keeps_any W hq.ns hq.cs hb (by have := HSM.out; omega) (by have := HSM.out; omega)
  have HC4 : Hid (∀ W, Qb W W4.heap.size b5 b5 pn pc ns cs → Qb W w.heap.size b1 b1 rn rc ns cs → Calls Try.prog 7 #[.agg #[pn, pc], .agg #[rn, rc]] W fun e w' => e = .returned (.bool true) ∧ Below W.heap.size W w') := fun W ho ht => HSAME.out W pn pc rn rc ns cs HSM.out.1 HSM.out.2 (row_rw ho.ns) (row_rw ho.cs) (row_rw ht.ns) (row_rw ht.cs)
  have HC6 : Hid (∀ W, W4.heap.size ≤ W.heap.size → Qb W W4.heap.size b5 b5 pn pc ns cs → Calls Try.prog 8 #[.agg #[pn, pc]] W fun e w' => e = .returned (.bool true) ∧ Kr W w' (Bo pn pc)) := fun W hb hq => keeps_any W hq.ns hq.cs hb (by have := HSM.out; omega) (by have := HSM.out; omega)
  have HZZ : Hid (Below w.heap.size w W5 ∧ W4.heap.size ≤ W5.heap.size ∧ W3.heap.size ≤ W5.heap.size ∧ w.heap.size ≤ W3.heap.size ∧ w.heap.size ≤ W4.heap.size) := ⟨HZ5.out.1, by have := HORD.out; have := HZ5.out.2; omega, by have := HORD.out; have := HZ5.out.2; omega, by have := HORD.out; omega, by have := HORD.out; omega⟩
  clear HRP HPA HOP HSX HZ1 HZ2 HZ3 HZ4 HZ5 HSAME HSM HSO HW1
  go_upto_region 7 with (first
    | (have hm := HC1; clear hm; go_at_call 7; refine Calls.mono HC1.out ?_; rintro e w6 ⟨rfl, hb⟩; have HB6 : Hid (Below W5.heap.size W5 w6) := hb; obtain ⟨ko0, ko1⟩ := (HO5.out.up hb).cells; obtain ⟨kt0, kt1⟩ := (HT5.out.up hb).cells; clear hb kq0 kq1 kr0 kr1 HC1)
    | (have hm := HB6; clear hm; go_at_call 7; refine Calls.mono (HC2.out w6 (HO5.out.up HB6.out) (HT5.out.up HB6.out)) ?_; rintro e w7 ⟨rfl, hb⟩; have HB7 : Hid (Below W5.heap.size W5 w7) := below_trans HB6.out hb; obtain ⟨kq0, kq1⟩ := (HQ5.out.up HB7.out).cells; clear hb ko0 ko1 kt0 kt1 HB6)
    | (have hm := HC3; clear hm; go_at_call 8; refine Calls.mono (HC3.out w7 (Nat.le_trans HZZ.out.2.2.1 HB7.out.size) (HQ5.out.up HB7.out)) ?_; rintro e w8 ⟨rfl, hk⟩; have HK8 : Hid (Kr w7 w8 (Bo qn qc)) := hk; have HR8 : Hid (Qb w8 w.heap.size b1 b1 rn rc ns cs) := (HR5.out.up HB7.out).keep (HQ5.out.up HB7.out) (.inl (by have := HORD.out; omega)) hk; have HP8 : Hid (Qb w8 W4.heap.size b5 b5 pn pc ns cs) := (HP5.out.up HB7.out).keep (HQ5.out.up HB7.out) (.inr (by have := HORD.out; omega)) hk; have HO8 : Hid (Qb w8 W1.heap.size b2 b2 on oc no cq) := (HO5.out.up HB7.out).keep (HQ5.out.up HB7.out) (.inl (by have := HORD.out; omega)) hk; have HT8 : Hid (Qb w8 W2.heap.size b3 b3 tn tc no cq) := (HT5.out.up HB7.out).keep (HQ5.out.up HB7.out) (.inl (by have := HORD.out; omega)) hk; obtain ⟨kp0, kp1⟩ := HP8.out.cells; obtain ⟨kr0, kr1⟩ := HR8.out.cells; have HX4 : Hid _ := HC4.out w8 HP8.out HR8.out; clear hk kq0 kq1 HC4 HC3)
    | (have hm := HX4; clear hm; go_at_call 7; refine Calls.mono HX4.out ?_; rintro e w9 ⟨rfl, hb⟩; have HB9 : Hid (Below w8.heap.size w8 w9) := hb; obtain ⟨ko0, ko1⟩ := (HO8.out.up hb).cells; obtain ⟨kt0, kt1⟩ := (HT8.out.up hb).cells; clear hb kp0 kp1 kr0 kr1 HX4)
    | (have hm := HB9; clear hm; go_at_call 7; refine Calls.mono (HC2.out w9 (HO8.out.up HB9.out) (HT8.out.up HB9.out)) ?_; rintro e w10 ⟨rfl, hb⟩; have HB10 : Hid (Below w8.heap.size w8 w10) := below_trans HB9.out hb; obtain ⟨kp0, kp1⟩ := (HP8.out.up HB10.out).cells; clear hb ko0 ko1 kt0 kt1))
  go_wp2_with (first
    | (have hm := HC6; clear hm; go_at_call 8; refine Calls.mono (HC6.out w10 (Nat.le_trans HZZ.out.2.1 (Nat.le_trans HB7.out.size (Nat.le_trans HK8.out.size HB10.out.size))) (HP8.out.up HB10.out)) ?_; rintro e w11 ⟨rfl, hk⟩; have HK11 : Hid (Kr w10 w11 (Bo pn pc)) := hk; have HO11 : Hid (Qb w11 W1.heap.size b2 b2 on oc no cq) := (HO8.out.up HB10.out).keep (HP8.out.up HB10.out) (.inl (by have := HORD.out; omega)) hk; have HT11 : Hid (Qb w11 W2.heap.size b3 b3 tn tc no cq) := (HT8.out.up HB10.out).keep (HP8.out.up HB10.out) (.inl (by have := HORD.out; omega)) hk; obtain ⟨ko0, ko1⟩ := HO11.out.cells; obtain ⟨kt0, kt1⟩ := HT11.out.cells; clear hk kp0 kp1 HC6)
    | (go_at_call 7; refine Calls.mono (HC2.out w11 HO11.out HT11.out) ?_; rintro e w12 ⟨rfl, hb⟩; have HB12 : Hid (Below w11.heap.size w11 w12) := hb; clear hb ko0 ko1 kt0 kt1))
  go_ret
  refine ⟨rfl, ?_⟩
  have h1 : Below w.heap.size w w7 := below_trans HZZ.out.1 HB7.out
  have h2 : Below w.heap.size w7 w8 := HK8.out.below (fun g hg => Nat.le_trans HZZ.out.2.2.2.1 (HQ5.out.ge hg)) h1.size
  have h4 : Below w.heap.size w8 w10 := HB10.out.mono (Nat.le_trans h1.size h2.size)
  have h5 : Below w.heap.size w10 w11 := HK11.out.below (fun g hg => Nat.le_trans HZZ.out.2.2.2.2 (HP8.out.ge hg)) (Nat.le_trans (Nat.le_trans h1.size h2.size) h4.size)
  have h6 : Below w.heap.size w11 w12 := HB12.out.mono (Nat.le_trans (Nat.le_trans (Nat.le_trans h1.size h2.size) h4.size) h5.size)
  exact (((h1.trans h2).trans h4).trans h5).trans h6
end Go.Proofs.Ythfijmabagjdkaa.Qy
