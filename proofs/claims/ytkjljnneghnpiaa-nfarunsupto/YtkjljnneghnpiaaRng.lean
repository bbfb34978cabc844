import Derived.Test.YtkjljnneghnpiaaRnf
namespace Go.Proofs.Ytkjljnneghnpiaa
open Go.RowKit Go.Maps

theorem sh_up {B B' : Nat} {W : World} {e : TypeId} {s : Nat} {v : Value} {n len : Nat} {cs : List Value} (h : Sh B W e s v n len cs) (hb : B' ≤ B) : Sh B' W e s v n len cs := by
  obtain ⟨a, cap, e1, e2, h⟩ := h
  exact ⟨a, cap, e1, e2, row_base h hb⟩
theorem tr_up {B B' : Nat} {W : World} {on : List (Nat → Bool)} {tos : List Int} {fvs : List Value} {frs : List (List Int)} {ns : List Nat} {vo vt vf : Value} {no nt nf : Nat} (h : Tr B W on tos fvs frs ns vo no vt nt vf nf) (hb : B' ≤ B) : Tr B' W on tos fvs frs ns vo no vt nt vf nf :=
  ⟨sh_up h.on hb, sh_up h.tos hb, sh_up h.fr hb, h.len, h.lns, fun i hi => sh_up (h.el i hi) hb, h.ap, h.ato, Nat.le_trans hb h.lB⟩
theorem dj_fresh {B : Nat} {W : World} {on : List (Nat → Bool)} {tos : List Int} {fvs : List Value} {frs : List (List Int)} {ns : List Nat} {vo vt vf : Value} {no nt nf : Nat} (h : Tr B W on tos fvs frs ns vo no vt nt vf nf) (n cap : Nat) : (∀ k, k < fvs.length → dj (fvs.getD k undef) (.slice (some ⟨W.heap.size, 0, none⟩) n cap)) ∧ dj (.slice (some ⟨W.heap.size, 0, none⟩) n cap) vt :=
  ⟨fun k hk => dj_of (k := W.heap.size) (fun r e => by obtain ⟨_, c, hc⟩ := (h.el k hk).tag r e; exact lt_of_heap hc) (fun r e => by cases e; exact Nat.le_refl _), (dj_of (k := W.heap.size) (fun r e => by obtain ⟨_, c, hc⟩ := h.tos.tag r e; exact lt_of_heap hc) (fun r e => by cases e; exact Nat.le_refl _)).symm⟩
theorem one_new (w : World) (x : Int) (B : Nat) (hB : B ≤ w.heap.size) : Sh B (w.alloc (.cells #[.int .i64 x] 3)) 3 1 (.slice (some ⟨w.heap.size, 0, none⟩) 1 1) 1 [x].length (iC [x]) :=
  ⟨_, _, rfl, Nat.le_refl _, rfl, .inr ⟨_, _, _, rfl, hB, World.alloc_heap_new w _, Nat.le_refl 1, by unfold maxLen; decide, rfl, rfl⟩⟩
/-- The rows at the second loop's round. -/
def fq (N : Mc) (i : Nat) : List (List Int) := (N.free.take i).map (· ++ mkI 20) ++ N.free.drop i ++ mkF 20
def nq_ (N : Mc) : List Nat := N.free.map List.length ++ onz 20
theorem fq_len (N : Mc) (i : Nat) (hi : i ≤ N.free.length) : (fq N i).length = N.free.length + 20 := by
  unfold fq
  rw [List.length_append, List.length_append, List.length_map, List.length_take, List.length_drop, mkF_l]
  omega
theorem fq_get (N : Mc) (i : Nat) (hi : i < N.free.length) : (fq N i).getD i [] = N.free.getD i [] := by
  unfold fq
  have h1 : ((N.free.take i).map (· ++ mkI 20)).length = i := by rw [List.length_map, List.length_take]; omega
  rw [List.getD_eq_getElem?_getD, List.append_assoc, List.getElem?_append_right (by omega), h1, Nat.sub_self, List.getElem?_append_left (by rw [List.length_drop]; omega), List.getElem?_drop, Nat.add_zero, ← List.getD_eq_getElem?_getD]
theorem fq_set (N : Mc) (i : Nat) (hi : i < N.free.length) : (fq N i).set i (N.free.getD i [] ++ mkI 20) = fq N (i + 1) := by
  unfold fq
  have h1 : ((N.free.take i).map (· ++ mkI 20)).length = i := by rw [List.length_map, List.length_take]; omega
  rw [List.append_assoc, List.set_append_right _ _ (by omega), h1, Nat.sub_self, List.drop_eq_getElem_cons hi, List.cons_append, List.set_cons_zero, List.take_add_one, List.getElem?_eq_getElem hi, List.map_append, List.append_assoc, List.append_assoc]
  rw [List.getD_eq_getElem?_getD, List.getElem?_eq_getElem hi]
  rfl
theorem nq_get (N : Mc) (i : Nat) (hi : i < N.free.length) : (nq_ N).getD i 0 = (N.free.getD i []).length := by
  unfold nq_
  rw [List.getD_eq_getElem?_getD, List.getElem?_append_left (by rw [List.length_map]; exact hi), List.getElem?_map, List.getElem?_eq_getElem hi, List.getD_eq_getElem?_getD, List.getElem?_eq_getElem hi]
  rfl
theorem set_get {α : Type} (l : List α) (d : α) (i : Nat) (x : α) (h : l.getD i d = x) (hi : i < l.length) : l.set i x = l := by
  rw [← h, List.getD_eq_getElem?_getD, List.getElem?_eq_getElem hi]
  exact List.set_getElem_self hi
theorem wrap_small (M : Nat) (h : M < 1000000) : IntKind.u64.wrap (M : Int) = (M : Int) := by
  simp only [IntKind.wrap, IntKind.bits, IntKind.signed]
  simp
  omega
theorem Sh.addr {B : Nat} {W : World} {e : TypeId} {s : Nat} {a : Option Addr} {n cap len : Nat} {cs : List Value} (h : Sh B W e s (.slice a n cap) n len cs) (hl : 0 < len) : ∃ g, a = some ⟨g, 0, none⟩ ∧ len ≤ cap := by
  obtain ⟨a', cap', e1, _, _, ⟨e2, e3⟩ | ⟨g, c, cur, f1, f2, f3, f4, _⟩⟩ := h
  · omega
  · injection e1 with e1 _ e4
    injection f1 with f1 _ f5
    exact ⟨g, e1.trans f1, by omega⟩
theorem Sh.addr2 {B : Nat} {W : World} {e : TypeId} {s : Nat} {v : Value} {a : Option Addr} {n cap len : Nat} {cs : List Value} (h : Sh B W e s v n len cs) (hv : v = .slice a n cap) (hl : 0 < len) : ∃ g, a = some ⟨g, 0, none⟩ ∧ len ≤ cap := Sh.addr (hv ▸ h) hl
theorem cells_four_new (w : World) (x y z u : Value) (t : TypeId) : ∀ j v, [x, y, z, u][j]? = some v → (w.alloc (.cells #[x, y, z, u] t)).cell? ((⟨w.heap.size, 0, none⟩ : Addr).add j) = some v := by
  intro j v hj
  rw [addPl, Nat.zero_add, Lib.cell_of_heap (World.alloc_heap_new w _)]
  simpa using hj
theorem set_set {α : Type} (l : List α) (i : Nat) (x y : α) : (l.set i x).set i y = l.set i y := by simp
set_option maxRecDepth 100000 in
set_option maxHeartbeats 8000000 in
theorem lent_any {vo vt vf : Value} {N : Mc} (hs : Small N) (w : World) (h1 : Parts w.heap.size w vo vt vf N) :
    Calls Try.prog 7 #[nfW vo vt vf N] w fun e w' => ∃ fvs xo xt xf, e = .returned (nfW xo xt xf N) ∧ Tr w.heap.size w' (N.on ++ mkC 20) (N.tos ++ mkI 20) fvs (fq N N.free.length) (nq_ N) xo N.on.length xt N.tos.length xf N.free.length ∧ Below w.heap.size w w' := by
  obtain ⟨i40, hi40, hz0, hz1, hz2⟩ := info_parts info40
  obtain ⟨i3, hi3, hy0, hy1, hy2⟩ := info_parts info3
  obtain ⟨i23, hi23, hx0, hx1, hx2⟩ := info_parts info23
  have HS : Hid (Small N) := hs
  have HP : Hid (∀ W, Below w.heap.size w W → Parts w.heap.size W vo vt vf N) := fun W hW => h1.mono hW (Nat.le_refl _)
  obtain ⟨a1, c1, a2, c2, a3, c3, rfl, rfl, rfl⟩ := h1.shape
  obtain ⟨W1, hW1⟩ : ∃ W1, W1 = (w.alloc (.cells #[.slice a1 N.on.length c1, .slice a2 N.tos.length c2, .slice a3 N.free.length c3, .int .i64 N.start, .int .i64 N.fin] 26)).alloc (.cells #[.slice none 0 0, .slice none 0 0, .slice none 0 0, .int .i64 0, .int .i64 0] 26) := ⟨_, rfl⟩
  have HB1 : Hid (Below w.heap.size w W1) := by rw [hW1]; exact below_trans (bel_up _ _) (bel_up _ _)
  have hz9 : W1.heap.size = w.heap.size + 2 := by rw [hW1]; simp
  have HZ1 : Hid (W1.heap.size = w.heap.size + 2) := hz9
  clear hz9
  have hb0 : W1.heap[w.heap.size]? = some (.cells #[.slice a1 N.on.length c1, .slice a2 N.tos.length c2, .slice a3 N.free.length c3, .int .i64 N.start, .int .i64 N.fin] 26 (0, 0)) := by
    rw [hW1, (bel_up _ _).block _ (by simp)]; exact World.alloc_heap_new w _
  have hb1 : W1.heap[w.heap.size + 1]? = some (.cells #[.slice none 0 0, .slice none 0 0, .slice none 0 0, .int .i64 0, .int .i64 0] 26 (0, 0)) := by
    have h := World.alloc_heap_new (w.alloc (.cells #[.slice a1 N.on.length c1, .slice a2 N.tos.length c2, .slice a3 N.free.length c3, .int .i64 N.start, .int .i64 N.fin] 26)) (.cells #[.slice none 0 0, .slice none 0 0, .slice none 0 0, .int .i64 0, .int .i64 0] 26)
    rw [World.size_alloc] at h
    rw [hW1]; exact h
  have HC : Hid _ := twin_any hs W1 (h1.mono HB1.out HB1.out.size)
  have HH0 : Hid _ := hb0
  have HH1 : Hid _ := hb1
  have x0 : W1.cell? ⟨w.heap.size, 0, none⟩ = some (.slice a1 N.on.length c1) := by rw [Lib.cell_of_heap hb0]; rfl
  have x1 : W1.cell? ⟨w.heap.size, 1, none⟩ = some (.slice a2 N.tos.length c2) := by rw [Lib.cell_of_heap hb0]; rfl
  have x2 : W1.cell? ⟨w.heap.size, 2, none⟩ = some (.slice a3 N.free.length c3) := by rw [Lib.cell_of_heap hb0]; rfl
  have x3 : W1.cell? ⟨w.heap.size, 3, none⟩ = some (.int .i64 N.start) := by rw [Lib.cell_of_heap hb0]; rfl
  have x4 : W1.cell? ⟨w.heap.size, 4, none⟩ = some (.int .i64 N.fin) := by rw [Lib.cell_of_heap hb0]; rfl
  have HW1 : Hid _ := hW1
  clear h1 hs hW1 hb0 hb1
  go_enter Try.func7, Try.ntmps7
  go_upto_region 1 with fail
  rw [← HW1.out]
  clear HW1
  go_wp2_with fail
  refine Calls.mono HC.out ?_
  rintro e w2 ⟨fvs, xo, xt, xf, rfl, htr, hb2⟩
  have HTR : Hid _ := htr
  have HB2 : Hid (Below W1.heap.size W1 w2) := hb2
  obtain ⟨p1, q1, rfl, _, _⟩ := htr.on
  obtain ⟨p2, q2, rfl, _, _⟩ := htr.tos
  obtain ⟨p3, q3, rfl, _, _⟩ := htr.fr
  clear htr hb2 HC x0 x1 x2 x3 x4
  go_upto_region 2 with fail
  obtain ⟨W3, hW3⟩ : ∃ W3, W3 = w2.alloc (.cells #[.slice p1 N.on.length q1, .slice p2 N.tos.length q2, .slice p3 N.free.length q3, .int .i64 N.start, .int .i64 N.fin] 26) := ⟨_, rfl⟩
  rw [← hW3]
  obtain ⟨bk, hbk⟩ : ∃ bk, w2.heap.size = bk := ⟨_, rfl⟩
  have HL : Hid (Lk w W3 bk (.slice a1 N.on.length c1) (.slice a2 N.tos.length c2) (.slice a3 N.free.length c3) N (N.on ++ mkC 0) (N.tos ++ mkI 0) fvs (N.free ++ mkF 0) (N.free.map List.length ++ onz 0) (.slice p1 N.on.length q1) (N.on.length + 0) (.slice p2 N.tos.length q2) (N.tos.length + 0) (.slice p3 N.free.length q3) (N.free.length + 0)) := by
    have hb3 : Below w2.heap.size w2 W3 := by rw [hW3]; exact bel_up _ _
    have hb13 := below_trans HB2.out hb3
    refine ⟨below_trans HB1.out hb13, (hb13.block _ (lt_of_heap HH0.out)).trans HH0.out, (hb13.block _ (lt_of_heap HH1.out)).trans HH1.out, ?_, ?_, ?_⟩
    · rw [hW3, ← hbk]; exact World.alloc_heap_new w2 _
    · have h := (tr_up HTR.out HB1.out.size).below hb3
      simpa [mkC, mkI, mkF, onz] using h
    · have h9 := HB2.out.size
      have h8 := HZ1.out
      omega
  rw [hbk]
  clear hW3 hbk HTR HB2 HH0 HH1 HB1 HZ1
  go_wp2_with fail
  go_loopg [4] 20 (fun gm v4 wr => ∃ i : Nat, v4 = .int .i64 (i : Int) ∧ Hid (i ≤ 20 ∧ gm = 20 - i) ∧ ∃ fvs xo xt xf, Hid (Lk w wr bk (.slice a1 N.on.length c1) (.slice a2 N.tos.length c2) (.slice a3 N.free.length c3) N (N.on ++ mkC i) (N.tos ++ mkI i) fvs (N.free ++ mkF i) (N.free.map List.length ++ onz i) xo (N.on.length + i) xt (N.tos.length + i) xf (N.free.length + i)))
  case atStart => exact ⟨0, rfl, ⟨Nat.zero_le _, rfl⟩, _, _, _, _, HL⟩
  case round =>
    clear HL
    obtain ⟨i, rfl, HII, fvs, xo, xt, xf, HL⟩ := hrel
    obtain ⟨p1, q1, rfl, _, hr1⟩ := HL.out.tr.on
    obtain ⟨p2, q2, rfl, _, hr2⟩ := HL.out.tr.tos
    obtain ⟨p3, q3, rfl, _, hr3⟩ := HL.out.tr.fr
    clear hr1 hr2 hr3
    have k0 : wr.cell? ⟨bk, 0, none⟩ = some (.slice p1 (N.on.length + i) q1) := by rw [Lib.cell_of_heap HL.out.b2]; rfl
    by_cases hi : i < 20
    · have e1 : decide ((i : Int) < 20) = true := by rw [decide_eq_true_eq]; omega
      have e2 : decide (i < 20) = true := by rw [decide_eq_true_eq]; omega
      have HIL : Hid (i < 20) := hi
      obtain ⟨M, hM⟩ : ∃ M, 900 + i = M := ⟨_, rfl⟩
      have HWM : Hid (wrap64 ((900 : Int) + (i : Int)) = (M : Int)) := by unfold wrap64; show _ = _; omega
      have HWU : Hid (IntKind.u64.wrap (M : Int) = (M : Int)) := wrap_small M (by omega)
      have HM : Hid (900 + i = M) := hM
      have HWI : Hid (wrap64 ((i : Int) + 1) = ((i + 1 : Nat) : Int)) := w64 i (by omega)
      have HLO : Hid ((N.on ++ mkC i).length = N.on.length + i) := by rw [List.length_append, mkC_l]; exact rfl
      have HLT : Hid ((N.tos ++ mkI i).length = N.tos.length + i) := by rw [List.length_append, mkI_l]; exact rfl
      have HLF : Hid (fvs.length = N.free.length + i) := by rw [HL.out.tr.len, List.length_append, mkF_l]; exact rfl
      obtain ⟨no, hno⟩ : ∃ no, N.on.length + i = no := ⟨_, rfl⟩
      obtain ⟨nt, hnt⟩ : ∃ nt, N.tos.length + i = nt := ⟨_, rfl⟩
      obtain ⟨nf, hnf⟩ : ∃ nf, N.free.length + i = nf := ⟨_, rfl⟩
      have HB : Hid (no ≤ 1048600 ∧ nt ≤ 1048600 ∧ nf ≤ 1048600) := by have h1 := HS.out.on; have h2 := HS.out.tos; have h3 := HS.out.fr; exact ⟨by omega, by omega, by omega⟩
      have HNO : Hid (N.on.length + (i + 1) = no + 1) := by show _ = _; omega
      have HNT : Hid (N.tos.length + (i + 1) = nt + 1) := by show _ = _; omega
      have HNF : Hid (N.free.length + (i + 1) = nf + 1) := by show _ = _; omega
      rw [hno] at k0 HLO
      rw [hnt] at HLT
      rw [hnf] at HLF
      rw [hno, hnt, hnf] at HL
      clear hno hnt hnf hM hi
      go_upto_region 5 with fail
      have hR := HL.out.tr.on
      rw [HLO.out] at hR
      have HROW : Hid ((wr.alloc (.cells #[.int .u64 (M : Int), .int .u64 1, .int .u64 2, .int .u64 3] 40)).ownsRow w.heap.size 40 4 (.slice p1 no q1) no (onC (N.on ++ mkC i))) := hR.row.alloc _
      have HA1 : Hid (no + 1 ≤ maxLen) := by have := HB.out; unfold maxLen; show _ ≤ _; omega
      have HA2 : Hid ((no + 1) * 32 ≤ 140737488355328) := by have := HB.out; show _ ≤ _; omega
      have HA3 : Hid (w.heap.size ≤ (wr.alloc (.cells #[.int .u64 (M : Int), .int .u64 1, .int .u64 2, .int .u64 3] 40)).heap.size) := by have h9 := HL.out.bel.size; rw [World.size_alloc]; show _ ≤ _; omega
      have HKEY : Hid (∀ (v9 : Value) (w9 : World), w9.ownsRow w.heap.size 40 4 v9 (no + 1) (onC (N.on ++ mkC i) ++ [.int .u64 (M : Int), .int .u64 1, .int .u64 2, .int .u64 3]) → (wr.alloc (.cells #[.int .u64 (M : Int), .int .u64 1, .int .u64 2, .int .u64 3] 40)).grownBy w9 (Value.ownBlock (.slice p1 no q1)) → ∃ qa qc, v9 = .slice qa (no + 1) qc ∧ w9.cell? ⟨bk, 0, none⟩ = some (.slice p1 no q1) ∧ w9.frozen? ⟨bk, 0, none⟩ = false ∧ Hid (Lk w (w9.setCell ⟨bk, 0, none⟩ v9) bk (.slice a1 N.on.length c1) (.slice a2 N.tos.length c2) (.slice a3 N.free.length c3) N (N.on ++ mkC (i + 1)) (N.tos ++ mkI i) fvs (N.free ++ mkF i) (N.free.map List.length ++ onz i) v9 (no + 1) (.slice p2 nt q2) nt (.slice p3 nf q3) nf)) := fun v9 w9 ho9 hg9 => by
        obtain ⟨qa, qc, h⟩ : ∃ a c, v9 = .slice a (no + 1) c := by
          rcases ho9.2 with ⟨h, h2⟩ | ⟨g, cap, cur, h, _⟩
          · exact absurd h2 (Nat.succ_ne_zero _)
          · exact ⟨_, _, h⟩
        have HG9 : wr.grownBy w9 (Value.ownBlock (.slice p1 no q1)) := (World.grownBy_alloc _ _ _).trans hg9
        have HMID := HL.out.mid (.inl HG9)
        have hoc := oc_mc i HIL.out
        rw [HM.out] at hoc
        have HSR : Sh w.heap.size w9 40 4 v9 (no + 1) (N.on ++ mkC (i + 1)).length (onC (N.on ++ mkC (i + 1))) := by
          rw [mkC_s, ← List.append_assoc, List.length_append, HLO.out, onC_app]
          show Sh _ _ _ _ _ _ (no + 1) (_ ++ (oc (mc i) ++ []))
          rw [List.append_nil, hoc]
          exact Sh.full ho9
        exact ⟨qa, qc, h, by rw [Lib.cell_of_heap HMID.2.2.2]; rfl, Lib.frozen_of_heap HMID.2.2.2 0, HL.out.on_ HG9 HSR⟩
      clear hR
      have hwm := HWM.out
      have hwu := HWU.out
      go_upto_region 6 with (at_builtin; refine wpList_append_own_at _ rfl _ _ 22 rfl w.heap.size 40 i40 _ 4 32 Try.underlying22 hi40 hz0 hz1 hz2 rfl (by decide) _ _ _ rfl HROW.out ⟨wr.heap.size, 0, none⟩ 1 1 [.int .u64 (M : Int), .int .u64 1, .int .u64 2, .int .u64 3] rfl rfl (cells_four_new _ _ _ _ _ _) (by simp [Value.oneCell']) HA1.out HA2.out HA3.out ?_; intro v9 w9 ho9 hg9 _ ha9; obtain ⟨qa, qc, rfl, k0b, f0b, HL1⟩ := HKEY.out v9 w9 ho9 hg9; clear ho9 hg9 ha9 HKEY)
      obtain ⟨WA, hWA⟩ : ∃ WA, w9.setCell ⟨bk, 0, none⟩ (.slice qa (no + 1) qc) = WA := ⟨_, rfl⟩
      rw [hWA] at HL1 ⊢
      clear hwm hwu hWA k0b f0b k0 HROW HA1 HA2 HA3 HL
      have k1 : WA.cell? ⟨bk, 1, none⟩ = some (.slice p2 nt q2) := by rw [Lib.cell_of_heap HL1.out.b2]; rfl
      have hR := HL1.out.tr.tos
      rw [HLT.out] at hR
      have HROW : Hid ((WA.alloc (.cells #[.int .i64 (M : Int)] 3)).ownsRow w.heap.size 3 1 (.slice p2 nt q2) nt (iC (N.tos ++ mkI i))) := hR.row.alloc _
      have HA1 : Hid (nt + 1 ≤ maxLen) := by have := HB.out; unfold maxLen; show _ ≤ _; omega
      have HA2 : Hid ((nt + 1) * 8 ≤ 140737488355328) := by have := HB.out; show _ ≤ _; omega
      have HA3 : Hid (w.heap.size ≤ (WA.alloc (.cells #[.int .i64 (M : Int)] 3)).heap.size) := by have h9 := HL1.out.bel.size; rw [World.size_alloc]; show _ ≤ _; omega
      have HKEY : Hid (∀ (v9 : Value) (w9 : World), w9.ownsRow w.heap.size 3 1 v9 (nt + 1) (iC (N.tos ++ mkI i) ++ [.int .i64 (M : Int)]) → (WA.alloc (.cells #[.int .i64 (M : Int)] 3)).grownBy w9 (Value.ownBlock (.slice p2 nt q2)) → (v9.ownBlock = Value.ownBlock (.slice p2 nt q2) ∨ v9.ownBlock = some (WA.alloc (.cells #[.int .i64 (M : Int)] 3)).heap.size) → ∃ ra rc, v9 = .slice ra (nt + 1) rc ∧ w9.cell? ⟨bk, 1, none⟩ = some (.slice p2 nt q2) ∧ w9.frozen? ⟨bk, 1, none⟩ = false ∧ Hid (Lk w (w9.setCell ⟨bk, 1, none⟩ v9) bk (.slice a1 N.on.length c1) (.slice a2 N.tos.length c2) (.slice a3 N.free.length c3) N (N.on ++ mkC (i + 1)) (N.tos ++ mkI (i + 1)) fvs (N.free ++ mkF i) (N.free.map List.length ++ onz i) (.slice qa (no + 1) qc) (no + 1) v9 (nt + 1) (.slice p3 nf q3) nf)) := fun v9 w9 ho9 hg9 ha9 => by
        obtain ⟨ra, rc, h⟩ : ∃ a c, v9 = .slice a (nt + 1) c := by
          rcases ho9.2 with ⟨h, h2⟩ | ⟨g, cap, cur, h, _⟩
          · exact absurd h2 (Nat.succ_ne_zero _)
          · exact ⟨_, _, h⟩
        have HG9 : WA.grownBy w9 (Value.ownBlock (.slice p2 nt q2)) := (World.grownBy_alloc _ _ _).trans hg9
        have HMID := HL1.out.mid (.inr (.inl HG9))
        have HSR : Sh w.heap.size w9 3 1 v9 (nt + 1) (N.tos ++ mkI (i + 1)).length (iC (N.tos ++ mkI (i + 1))) := by
          have e : iC (N.tos ++ mkI (i + 1)) = iC (N.tos ++ mkI i) ++ [.int .i64 (M : Int)] := by rw [mkI_s, ← List.append_assoc, ← HM.out]; simp [iC]
          rw [e, mkI_s, ← List.append_assoc, List.length_append, HLT.out]
          exact Sh.full ho9
        exact ⟨ra, rc, h, by rw [Lib.cell_of_heap HMID.2.2.2]; rfl, Lib.frozen_of_heap HMID.2.2.2 1, HL1.out.to_ HG9 HSR (ha9.elim .inl (fun e => .inr ⟨_, e, by rw [World.size_alloc]; omega⟩))⟩
      clear hR
      have hwm := HWM.out
      go_upto_region 7 with (at_builtin; refine wpList_append_own_at _ rfl _ _ 23 rfl w.heap.size 3 i3 (.int .i64 0) 1 8 Try.underlying23 hi3 hy0 hy1 hy2 rfl (by decide) _ _ _ rfl HROW.out ⟨WA.heap.size, 0, none⟩ 1 1 [.int .i64 (M : Int)] rfl rfl (cell_one_new _ _ _) (by simp [Value.oneCell']) HA1.out HA2.out HA3.out ?_; intro v9 w9 ho9 hg9 _ ha9; obtain ⟨qa1, qc1, rfl, k0b, f0b, HL2⟩ := HKEY.out v9 w9 ho9 hg9 ha9; clear ho9 hg9 ha9 HKEY)
      obtain ⟨WB, hWB⟩ : ∃ WB, w9.setCell ⟨bk, 1, none⟩ (.slice qa1 (nt + 1) qc1) = WB := ⟨_, rfl⟩
      rw [hWB] at HL2 ⊢
      clear hwm hWB k0b f0b k1 HROW HA1 HA2 HA3 HL1
      have k2 : WB.cell? ⟨bk, 2, none⟩ = some (.slice p3 nf q3) := by rw [Lib.cell_of_heap HL2.out.b2]; rfl
      have k2a := cell_up (.cells #[.int .i64 (M : Int)] 3) k2
      have hR := HL2.out.tr.fr
      rw [HLF.out] at hR
      have HROW : Hid (((WB.alloc (.cells #[.int .i64 (M : Int)] 3)).alloc (.cells #[.slice (some ⟨WB.heap.size, 0, none⟩) 1 1] 23)).ownsRow w.heap.size 23 1 (.slice p3 nf q3) nf fvs) := (hR.row.alloc _).alloc _
      have HA1 : Hid (nf + 1 ≤ maxLen) := by have := HB.out; unfold maxLen; show _ ≤ _; omega
      have HA2 : Hid ((nf + 1) * 24 ≤ 140737488355328) := by have := HB.out; show _ ≤ _; omega
      have HA3 : Hid (w.heap.size ≤ ((WB.alloc (.cells #[.int .i64 (M : Int)] 3)).alloc (.cells #[.slice (some ⟨WB.heap.size, 0, none⟩) 1 1] 23)).heap.size) := by have h9 := HL2.out.bel.size; rw [World.size_alloc, World.size_alloc]; show _ ≤ _; omega
      have HCN : Hid (∀ j v, [Value.slice (some ⟨WB.heap.size, 0, none⟩) 1 1][j]? = some v → ((WB.alloc (.cells #[.int .i64 (M : Int)] 3)).alloc (.cells #[.slice (some ⟨WB.heap.size, 0, none⟩) 1 1] 23)).cell? ((⟨WB.heap.size + 1, 0, none⟩ : Addr).add j) = some v) := by
        have h := cell_one_new (WB.alloc (.cells #[.int .i64 (M : Int)] 3)) (.slice (some ⟨WB.heap.size, 0, none⟩) 1 1) 23
        rw [World.size_alloc] at h
        exact h
      have HKEY : Hid (∀ (v9 : Value) (w9 : World), w9.ownsRow w.heap.size 23 1 v9 (nf + 1) (fvs ++ [Value.slice (some ⟨WB.heap.size, 0, none⟩) 1 1]) → ((WB.alloc (.cells #[.int .i64 (M : Int)] 3)).alloc (.cells #[.slice (some ⟨WB.heap.size, 0, none⟩) 1 1] 23)).grownBy w9 (Value.ownBlock (.slice p3 nf q3)) → ∃ ra rc, v9 = .slice ra (nf + 1) rc ∧ w9.cell? ⟨bk, 2, none⟩ = some (.slice p3 nf q3) ∧ w9.frozen? ⟨bk, 2, none⟩ = false ∧ Hid (Lk w (w9.setCell ⟨bk, 2, none⟩ v9) bk (.slice a1 N.on.length c1) (.slice a2 N.tos.length c2) (.slice a3 N.free.length c3) N (N.on ++ mkC (i + 1)) (N.tos ++ mkI (i + 1)) (fvs ++ [Value.slice (some ⟨WB.heap.size, 0, none⟩) 1 1]) (N.free ++ mkF (i + 1)) (N.free.map List.length ++ onz (i + 1)) (.slice qa (no + 1) qc) (N.on.length + (i + 1)) (.slice qa1 (nt + 1) qc1) (N.tos.length + (i + 1)) v9 (N.free.length + (i + 1)))) := fun v9 w9 ho9 hg9 => by
        obtain ⟨ra, rc, h⟩ : ∃ a c, v9 = .slice a (nf + 1) c := by
          rcases ho9.2 with ⟨h, h2⟩ | ⟨g, cap, cur, h, _⟩
          · exact absurd h2 (Nat.succ_ne_zero _)
          · exact ⟨_, _, h⟩
        have HLA := HL2.out.below (bel_up WB (.cells #[.int .i64 (M : Int)] 3))
        have HG9 : (WB.alloc (.cells #[.int .i64 (M : Int)] 3)).grownBy w9 (Value.ownBlock (.slice p3 nf q3)) := (World.grownBy_alloc _ _ _).trans hg9
        have HMID := HLA.mid (.inr (.inr HG9))
        have HSR : Sh w.heap.size w9 23 1 v9 (nf + 1) (fvs ++ [Value.slice (some ⟨WB.heap.size, 0, none⟩) 1 1]).length (fvs ++ [Value.slice (some ⟨WB.heap.size, 0, none⟩) 1 1]) := by rw [List.length_append, HLF.out]; exact Sh.full ho9
        obtain ⟨d1, d2⟩ := dj_fresh HL2.out.tr 1 1
        have hfin := HLA.fr_ HG9 HSR (one_new WB (M : Int) w.heap.size HL2.out.bel.size) d1 d2
        refine ⟨ra, rc, h, by rw [Lib.cell_of_heap HMID.2.2.2]; rfl, Lib.frozen_of_heap HMID.2.2.2 2, ?_⟩
        rw [HNO.out, HNT.out, HNF.out, mkF_s, onz_s, ← List.append_assoc, ← List.append_assoc, HM.out]
        exact hfin
      clear hR
      have hwm := HWM.out
      have hwi := HWI.out
      go_wp2_with (at_builtin; refine wpList_append_own_at _ rfl _ _ 24 rfl w.heap.size 23 i23 (.slice none 0 0) 1 24 Try.underlying24 hi23 hx0 hx1 hx2 rfl (by decide) _ _ _ rfl HROW.out ⟨WB.heap.size + 1, 0, none⟩ 1 1 [.slice (some ⟨WB.heap.size, 0, none⟩) 1 1] rfl rfl HCN.out (by simp [Value.oneCell']) HA1.out HA2.out HA3.out ?_; intro v9 w9 ho9 hg9 _ ha9; obtain ⟨qa2, qc2, rfl, k0b, f0b, HL3⟩ := HKEY.out v9 w9 ho9 hg9; clear ho9 hg9 ha9 HKEY)
      go_roundg (20 - (i + 1))
      case measure => clear hwi hwm; have := HII.out; have := HIL.out; omega
      case rel => exact ⟨i + 1, by rw [hwi], ⟨HIL.out, rfl⟩, _, _, _, _, HL3⟩
    · have e1 : decide ((i : Int) < 20) = false := by rw [decide_eq_false_iff_not]; omega
      have e2 : decide (i < 20) = false := by rw [decide_eq_false_iff_not]; omega
      have hi20 : i = 20 := by have := HII.out; omega
      subst hi20
      obtain ⟨g1, hp1, hc1⟩ := HL.out.tr.on.addr (by rw [List.length_append, mkC_l]; omega)
      obtain ⟨g2, hp2, hc2⟩ := HL.out.tr.tos.addr (by rw [List.length_append, mkI_l]; omega)
      obtain ⟨g3, hp3, hc3⟩ := HL.out.tr.fr.addr (by rw [HL.out.tr.len, List.length_append, mkF_l]; omega)
      subst hp1 hp2 hp3
      rw [List.length_append, mkC_l] at hc1
      rw [List.length_append, mkI_l] at hc2
      rw [HL.out.tr.len, List.length_append, mkF_l] at hc3
      have y1 : (N.on.length : Int) ≤ (q1 : Int) := by omega
      have y2 : (N.tos.length : Int) ≤ (q2 : Int) := by omega
      have y3 : (N.free.length : Int) ≤ (q3 : Int) := by omega
      have z1 : N.on.length ≤ q1 := by omega
      have z2 : N.tos.length ≤ q2 := by omega
      have z3 : N.free.length ≤ q3 := by omega
      have t0 : wr.cell? ⟨w.heap.size, 0, none⟩ = some (.slice a1 N.on.length c1) := by rw [Lib.cell_of_heap HL.out.b0]; rfl
      have f0 := Lib.frozen_of_heap HL.out.b2 0
      have HL8 : Hid _ := HL.out.cutOn (m := N.on.length) (by rw [List.length_append]; omega)
      clear hi hc1 hc2 hc3 HII
      go_upto_region 9 with fail
      obtain ⟨WA, hWA⟩ : ∃ WA, wr.setCell ⟨bk, 0, none⟩ (.slice (some ⟨g1, 0, none⟩) N.on.length q1) = WA := ⟨_, rfl⟩
      rw [hWA] at HL8 ⊢
      clear hWA t0 f0 k0 HL
      have t0 : WA.cell? ⟨w.heap.size, 1, none⟩ = some (.slice a2 N.tos.length c2) := by rw [Lib.cell_of_heap HL8.out.b0]; rfl
      have k1 : WA.cell? ⟨bk, 1, none⟩ = some (.slice (some ⟨g2, 0, none⟩) (N.tos.length + 20) q2) := by rw [Lib.cell_of_heap HL8.out.b2]; rfl
      have f0 := Lib.frozen_of_heap HL8.out.b2 1
      have HL9 : Hid _ := HL8.out.cutTo (m := N.tos.length) (by rw [List.length_append]; omega)
      go_upto_region 10 with fail
      obtain ⟨WB, hWB⟩ : ∃ WB, WA.setCell ⟨bk, 1, none⟩ (.slice (some ⟨g2, 0, none⟩) N.tos.length q2) = WB := ⟨_, rfl⟩
      rw [hWB] at HL9 ⊢
      clear hWB t0 f0 k1 HL8
      have t0 : WB.cell? ⟨w.heap.size, 2, none⟩ = some (.slice a3 N.free.length c3) := by rw [Lib.cell_of_heap HL9.out.b0]; rfl
      have k2 : WB.cell? ⟨bk, 2, none⟩ = some (.slice (some ⟨g3, 0, none⟩) (N.free.length + 20) q3) := by rw [Lib.cell_of_heap HL9.out.b2]; rfl
      have f0 := Lib.frozen_of_heap HL9.out.b2 2
      have hl10 := HL9.out.cutFr (m := N.free.length) (by rw [HL9.out.tr.len, List.length_append]; omega)
      have HL10 : Hid (Lk w (WB.setCell ⟨bk, 2, none⟩ (.slice (some ⟨g3, 0, none⟩) N.free.length q3)) bk (.slice a1 N.on.length c1) (.slice a2 N.tos.length c2) (.slice a3 N.free.length c3) N (N.on ++ mkC 20) (N.tos ++ mkI 20) fvs (fq N 0) (nq_ N) (.slice (some ⟨g1, 0, none⟩) N.on.length q1) N.on.length (.slice (some ⟨g2, 0, none⟩) N.tos.length q2) N.tos.length (.slice (some ⟨g3, 0, none⟩) N.free.length q3) N.free.length) := by
        have e : fq N 0 = N.free ++ mkF 20 := by simp [fq]
        rw [e]
        exact hl10
      clear hl10
      go_upto_region 11 with fail
      obtain ⟨WC, hWC⟩ : ∃ WC, WB.setCell ⟨bk, 2, none⟩ (.slice (some ⟨g3, 0, none⟩) N.free.length q3) = WC := ⟨_, rfl⟩
      rw [hWC] at HL10 ⊢
      clear hWC t0 f0 k2 HL9 y1 y2 z1 z2 e1 e2
      go_wp2_with fail
      go_loopg [5] N.free.length (fun gm v5 wr => ∃ i : Nat, v5 = .int .i64 (i : Int) ∧ Hid (i ≤ N.free.length ∧ gm = N.free.length - i) ∧ ∃ fvs, Hid (Lk w wr bk (.slice a1 N.on.length c1) (.slice a2 N.tos.length c2) (.slice a3 N.free.length c3) N (N.on ++ mkC 20) (N.tos ++ mkI 20) fvs (fq N i) (nq_ N) (.slice (some ⟨g1, 0, none⟩) N.on.length q1) N.on.length (.slice (some ⟨g2, 0, none⟩) N.tos.length q2) N.tos.length (.slice (some ⟨g3, 0, none⟩) N.free.length q3) N.free.length))
      case atStart => exact ⟨0, rfl, ⟨Nat.zero_le _, rfl⟩, _, HL10⟩
      case round =>
        clear HL10
        obtain ⟨i, rfl, HII, fvs, HL⟩ := hrel
        have k2 : wr.cell? ⟨bk, 2, none⟩ = some (.slice (some ⟨g3, 0, none⟩) N.free.length q3) := by rw [Lib.cell_of_heap HL.out.b2]; rfl
        by_cases hi : i < N.free.length
        · have e1 : decide ((i : Int) < (N.free.length : Int)) = true := by rw [decide_eq_true_eq]; omega
          have e2 : decide (i < N.free.length) = true := by rw [decide_eq_true_eq]; omega
          have e3 : (i : Int) < (N.free.length : Int) := by omega
          have HIL : Hid (i < N.free.length) := hi
          have HRL : Hid ((N.free.getD i []).length ≤ 1048576) := Nat.le_trans (sum_mem _ _ hi) HS.out.sum
          have HFL : Hid (∀ l : List Value, l.length = (fq N i).length → i < l.length) := fun l hl => by rw [hl, fq_len N i (Nat.le_of_lt hi)]; omega
          have HQ1 : Hid (fq N (i + 1) = (fq N i).set i (N.free.getD i [] ++ mkI 20)) := (fq_set N i hi).symm
          have HQ2 : Hid (i < (fq N i).length ∧ i < (nq_ N).length) := ⟨by rw [fq_len N i (Nat.le_of_lt hi)]; omega, by unfold nq_; rw [List.length_append, List.length_map]; omega⟩
          have HQ3 : Hid ((nq_ N).getD i 0 = (N.free.getD i []).length) := nq_get N i hi
          have hz := HL.out
          rw [← set_get (fq N i) [] i (N.free.getD i [] ++ mkI 0) (by rw [fq_get N i hi]; simp [mkI]) HQ2.out.1, ← set_get (nq_ N) 0 i ((N.free.getD i []).length + 0) HQ3.out HQ2.out.2] at hz
          have HLZ : Hid _ := hz
          obtain ⟨g, o, cap, u, hv, hu, hui⟩ := (HP.out w (Below.refl _ _)).fr.at i hi
          injection hv with hv hv2 hv3
          subst hv hv3
          have HSRC : Hid (∀ W, Below w.heap.size w W → W.cell? ⟨g, o + i, none⟩ = some u) := fun W hW => below_cell hW hu
          obtain ⟨R, hR⟩ : ∃ R, N.free.getD i [] = R := ⟨_, rfl⟩
          rw [hR] at HRL HQ1 HQ3 HLZ hui
          obtain ⟨ua, uc, hus⟩ := hui.shp
          subst hus
          have HWI : Hid (wrap64 ((i : Int) + 1) = ((i + 1 : Nat) : Int)) := w64 i (by have := HS.out.fr; omega)
          clear hi hz hR HL hv2 hu hui
          go_wp2_with fail
          clear e1 e2 k2
          go_loopg [6] 20 (fun gm v6 wq => ∃ k : Nat, v6 = .int .i64 (k : Int) ∧ Hid (k ≤ 20 ∧ gm = 20 - k) ∧ ∃ fvs, Hid (Lk w wq bk (.slice a1 N.on.length c1) (.slice a2 N.tos.length c2) (.slice (some ⟨g, o, none⟩) N.free.length c3) N (N.on ++ mkC 20) (N.tos ++ mkI 20) fvs ((fq N i).set i (R ++ mkI k)) ((nq_ N).set i (R.length + k)) (.slice (some ⟨g1, 0, none⟩) N.on.length q1) N.on.length (.slice (some ⟨g2, 0, none⟩) N.tos.length q2) N.tos.length (.slice (some ⟨g3, 0, none⟩) N.free.length q3) N.free.length))
          case atStart => exact ⟨0, rfl, ⟨Nat.zero_le _, rfl⟩, _, HLZ⟩
          case round =>
            clear HLZ
            obtain ⟨k, rfl, HKK, fvs, HL⟩ := hrel
            have HLI : Hid (i < fvs.length) := HFL.out fvs (by rw [HL.out.tr.len, List.length_set])
            have hel := HL.out.tr.el i HLI.out
            rw [getD_set_eq _ _ _ _ HQ2.out.1, getD_set_eq _ _ _ _ HQ2.out.2] at hel
            obtain ⟨n, hn⟩ : ∃ n, R.length + k = n := ⟨_, rfl⟩
            have hlk : (R ++ mkI k).length = n := by rw [List.length_append, mkI_l]; exact hn
            rw [hn, hlk] at hel
            rw [hn] at HL
            have HEL : Hid (Sh w.heap.size wr 3 1 (fvs.getD i undef) n n (iC (R ++ mkI k))) := hel
            obtain ⟨ea, ec, hev, _, _⟩ := hel
            have HEV : Hid (fvs.getD i undef = .slice ea n ec) := hev
            have HNK : Hid (R.length + k = n) := hn
            have HLK : Hid ((R ++ mkI k).length = n) := hlk
            have HNB : Hid (n ≤ 1048600) := by have h1 := HRL.out; have h2 := HKK.out; show _ ≤ _; omega
            clear hev hn hlk
            by_cases hk : k < 20
            · have f1 : decide ((k : Int) < 20) = true := by rw [decide_eq_true_eq]; omega
              have f2 : decide (k < 20) = true := by rw [decide_eq_true_eq]; omega
              have HKL : Hid (k < 20) := hk
              obtain ⟨M, hM⟩ : ∃ M, 900 + k = M := ⟨_, rfl⟩
              have HM : Hid (900 + k = M) := hM
              have HWM : Hid (wrap64 ((900 : Int) + (k : Int)) = (M : Int)) := by unfold wrap64; show _ = _; omega
              have HWN : Hid (IntKind.i64.wrap ((900 : Int) + (k : Int)) = (M : Int)) := by rw [IntKind.wrap_i64]; show _ = _; omega
              have HWK : Hid (wrap64 ((k : Int) + 1) = ((k + 1 : Nat) : Int)) := w64 k (by omega)
              clear hk hM
              go_upto_region 17 with fail
              obtain ⟨WD, hWD⟩ : ∃ WD, wr.drew = WD := ⟨_, rfl⟩
              have hld := HL.out.below (Below.drew (Below.refl _ wr))
              rw [hWD] at hld
              have HLD : Hid (Lk w WD bk (.slice a1 N.on.length c1) (.slice a2 N.tos.length c2) (.slice (some ⟨g, o, none⟩) N.free.length c3) N (N.on ++ mkC 20) (N.tos ++ mkI 20) fvs ((fq N i).set i (R ++ mkI k)) ((nq_ N).set i n) (.slice (some ⟨g1, 0, none⟩) N.on.length q1) N.on.length (.slice (some ⟨g2, 0, none⟩) N.tos.length q2) N.tos.length (.slice (some ⟨g3, 0, none⟩) N.free.length q3) N.free.length) := hld
              have held := HEL.out.kept (grown_of_below (Below.drew (Below.refl _ wr))) (by cases (fvs.getD i undef).ownBlock <;> simp)
              rw [hWD, HEV.out] at held
              have HROW : Hid (WD.ownsRow w.heap.size 3 1 (.slice ea n ec) n (iC (R ++ mkI k))) := held.row
              have hkf := (hld.el_ rfl HLI.out (World.grownBy.refl _ _) (hld.tr.el i HLI.out) (.inl rfl)).2.2.1
              rw [HEV.out] at hkf
              have HFR : Hid (∀ (w' : World) (g' cap' : Nat), w'.ownsRow w.heap.size 3 1 (.slice (some ⟨g', 0, none⟩) (n + 1) cap') (n + 1) (iC (R ++ mkI k) ++ [.int .i64 (M : Int)]) → WD.grownBy w' (Value.ownBlock (.slice ea n ec)) → (Value.ownBlock (.slice ea n ec) = some g' ∨ g' = WD.heap.size + 1) → Hid (Lk w (w'.setCell ⟨g3, i, none⟩ (.slice (some ⟨g', 0, none⟩) (n + 1) cap')) bk (.slice a1 N.on.length c1) (.slice a2 N.tos.length c2) (.slice (some ⟨g, o, none⟩) N.free.length c3) N (N.on ++ mkC 20) (N.tos ++ mkI 20) (fvs.set i (.slice (some ⟨g', 0, none⟩) (n + 1) cap')) ((fq N i).set i (R ++ mkI (k + 1))) ((nq_ N).set i (R.length + (k + 1))) (.slice (some ⟨g1, 0, none⟩) N.on.length q1) N.on.length (.slice (some ⟨g2, 0, none⟩) N.tos.length q2) N.tos.length (.slice (some ⟨g3, 0, none⟩) N.free.length q3) N.free.length) ∧ w'.heap[bk]? = some (.cells #[.slice (some ⟨g1, 0, none⟩) N.on.length q1, .slice (some ⟨g2, 0, none⟩) N.tos.length q2, .slice (some ⟨g3, 0, none⟩) N.free.length q3, .int .i64 N.start, .int .i64 N.fin] 26 (0, 0)) ∧ w'.cell? ⟨g3, i, none⟩ = some (.slice ea n ec) ∧ w'.frozen? ⟨g3, i, none⟩ = false) := fun w' g' cap' ho hg hb => by
                have hs : Sh w.heap.size w' 3 1 (.slice (some ⟨g', 0, none⟩) (n + 1) cap') (n + 1) (R ++ mkI (k + 1)).length (iC (R ++ mkI (k + 1))) := by
                  have e : iC (R ++ mkI (k + 1)) = iC (R ++ mkI k) ++ [.int .i64 (M : Int)] := by rw [mkI_s, ← List.append_assoc, ← HM.out]; simp [iC]
                  rw [e, mkI_s, ← List.append_assoc, List.length_append, HLK.out]
                  exact Sh.full ho
                have h := HLD.out.el_ rfl HLI.out (by rw [HEV.out]; exact hg) hs (by rw [HEV.out]; exact hb.elim (fun e => .inl e.symm) (fun e => .inr ⟨g', rfl, by rw [e]; omega⟩))
                rw [set_set, set_set, HEV.out] at h
                refine ⟨?_, h.2.1, h.2.2.1, h.2.2.2⟩
                rw [show R.length + (k + 1) = n + 1 by have := HNK.out; omega]
                exact h.1
              clear hld held
              have HA1 : Hid (n + 1 ≤ maxLen) := by have := HNB.out; unfold maxLen; show _ ≤ _; omega
              have HA2 : Hid ((n + 1) * 8 ≤ 140737488355328) := by have := HNB.out; show _ ≤ _; omega
              have HA3 : Hid (w.heap.size ≤ (WD.alloc (.cells #[.int .i64 (M : Int)] 3)).heap.size) := by have h9 := HLD.out.bel.size; rw [World.size_alloc]; show _ ≤ _; omega
              have hwm := HWM.out
              have hwn := HWN.out
              refine wp_region_noPanic ?_
              refine wp_region_held_drew (S := fun W => W.heap[bk]? = some (.cells #[.slice (some ⟨g1, 0, none⟩) N.on.length q1, .slice (some ⟨g2, 0, none⟩) N.tos.length q2, .slice (some ⟨g3, 0, none⟩) N.free.length q3, .int .i64 N.start, .int .i64 N.fin] 26 (0, 0))) (by kernel_rfl) (by rw [hWD]; exact HLD.out.b2) (fun hHeld => ?_)
              rw [hWD] at hHeld ⊢
              clear hWD
              refine wpAnyH_take (i := 0) (oi := { dst := _, op := _, type := _, pos := _, after := _, guard := _ }) (v := ?_) rfl (by kernel_rfl) (by kernel_rfl) (by kernel_rfl) (fun _ _ _ h => h) (Or.inl ⟨by rfl, ?_⟩) (by assumption) ?_
              rotate_left
              · intro W hSw
                (try dsimp only at hSw)
                go_simp
                (try with_reducible rfl)
              try simp only [Act.put, List.setIfInBounds_toArray, List.set_cons_zero, List.set_cons_succ]
              refine wpAnyH_take (i := 1) (oi := { dst := _, op := _, type := _, pos := _, after := _, guard := _ }) (v := ?_) rfl (by kernel_rfl) (by kernel_rfl) (by kernel_rfl) (fun _ _ _ h => h) (Or.inl ⟨by rfl, ?_⟩) (by assumption) ?_
              rotate_left
              · intro W hSw
                (try dsimp only at hSw)
                have p0 : W.cell? ⟨bk, 2, none⟩ = some (.slice (some ⟨g3, 0, none⟩) N.free.length q3) := by rw [Lib.cell_of_heap hSw]; rfl
                go_simp
                (try with_reducible rfl)
              try simp only [Act.put, List.setIfInBounds_toArray, List.set_cons_zero, List.set_cons_succ]
              refine wpAnyH_take (i := 2) (oi := { dst := _, op := _, type := _, pos := _, after := _, guard := _ }) (v := ?_) rfl (by kernel_rfl) (by kernel_rfl) (by kernel_rfl) (fun _ _ _ h => h) (Or.inl ⟨by rfl, ?_⟩) (by assumption) ?_
              rotate_left
              · intro W hSw
                (try dsimp only at hSw)
                go_simp
                (try with_reducible rfl)
              try simp only [Act.put, List.setIfInBounds_toArray, List.set_cons_zero, List.set_cons_succ]
              refine wpAnyH_take (i := 3) (oi := { dst := _, op := _, type := _, pos := _, after := _, guard := _ }) (v := ?_) rfl (by kernel_rfl) (by kernel_rfl) (by kernel_rfl) (fun _ _ _ h => h) (Or.inl ⟨by rfl, ?_⟩) (by assumption) ?_
              rotate_left
              · intro W hSw
                (try dsimp only at hSw)
                go_simp
                (try with_reducible rfl)
              try simp only [Act.put, List.setIfInBounds_toArray, List.set_cons_zero, List.set_cons_succ]
              refine wpAnyH_take (i := 4) (oi := { dst := _, op := _, type := _, pos := _, after := _, guard := _ }) (v := ?_) rfl (by kernel_rfl) (by kernel_rfl) (by kernel_rfl) (fun _ _ _ h => h) (Or.inl ⟨by rfl, ?_⟩) (by assumption) ?_
              rotate_left
              · intro W hSw
                (try dsimp only at hSw)
                have p0 : W.cell? ⟨bk, 2, none⟩ = some (.slice (some ⟨g3, 0, none⟩) N.free.length q3) := by rw [Lib.cell_of_heap hSw]; rfl
                go_simp
                (try with_reducible rfl)
              try simp only [Act.put, List.setIfInBounds_toArray, List.set_cons_zero, List.set_cons_succ]
              refine wpAnyH_take (i := 5) (oi := { dst := _, op := _, type := _, pos := _, after := _, guard := _ }) (v := ?_) rfl (by kernel_rfl) (by kernel_rfl) (by kernel_rfl) (fun _ _ _ h => h) (Or.inl ⟨by rfl, ?_⟩) (by assumption) ?_
              rotate_left
              · intro W hSw
                (try dsimp only at hSw)
                go_simp
                (try with_reducible rfl)
              try simp only [Act.put, List.setIfInBounds_toArray, List.set_cons_zero, List.set_cons_succ]
              refine wpAnyH_take (i := 6) (oi := { dst := _, op := _, type := _, pos := _, after := _, guard := _ }) (v := ?_) rfl (by kernel_rfl) (by kernel_rfl) (by kernel_rfl) (fun _ _ _ h => h) (Or.inl ⟨by rfl, ?_⟩) (by assumption) ?_
              rotate_left
              · intro W hSw
                (try dsimp only at hSw)
                go_simp
                (try with_reducible rfl)
              try simp only [Act.put, List.setIfInBounds_toArray, List.set_cons_zero, List.set_cons_succ]
              refine wpAnyH_take (i := 8) (oi := { dst := _, op := _, type := _, pos := _, after := _, guard := _ }) (v := ?_) rfl (by kernel_rfl) (by kernel_rfl) (by kernel_rfl) (fun _ _ _ h => h) (Or.inl ⟨by rfl, ?_⟩) (by assumption) ?_
              rotate_left
              · intro W hSw
                (try dsimp only at hSw)
                go_simp
                (try with_reducible rfl)
              try simp only [Act.put, List.setIfInBounds_toArray, List.set_cons_zero, List.set_cons_succ]
              refine wpAnyH_take (i := 9) (oi := { dst := _, op := _, type := _, pos := _, after := _, guard := _ }) (v := ?_) rfl (by kernel_rfl) (by kernel_rfl) (by kernel_rfl) (fun _ _ _ h => h) (Or.inl ⟨by rfl, ?_⟩) (by assumption) ?_
              rotate_left
              · intro W hSw
                (try dsimp only at hSw)
                go_simp
                (try with_reducible rfl)
              try simp only [Act.put, List.setIfInBounds_toArray, List.set_cons_zero, List.set_cons_succ]
              refine wpAnyH_ready (rs := [7, 10]) (by kernel_rfl) (by simp) ?_
              refine AllReadyH.cons (o := { dst := _, op := _, type := _, pos := _, after := _, guard := _ }) rfl (fun K hK => ?_) (AllReadyH.cons (o := { dst := _, op := _, type := _, pos := _, after := _, guard := _ }) rfl (fun K hK => ?_) (AllReadyH.nil))
              · go_simp
                refine hK.out _ _ ?_ (fun hHeld => ?_)
                · exact hHeld
                clear hK K
                try simp only [Act.put, List.setIfInBounds_toArray, List.set_cons_zero, List.set_cons_succ]
                refine wpAnyH_ready (rs := [10]) (by kernel_rfl) (by simp) ?_
                refine AllReadyH.cons (o := { dst := _, op := _, type := _, pos := _, after := _, guard := _ }) rfl (fun K hK => ?_) AllReadyH.nil
                go_simp
                refine hK.out _ _ ?_ (fun hHeld => ?_)
                · exact ((bel_up _ _).block _ (lt_of_heap hHeld)).trans hHeld
                clear hK K
                try simp only [Act.put, List.setIfInBounds_toArray, List.set_cons_zero, List.set_cons_succ]
                have hkfa := cell_up (.cells #[.int .i64 (M : Int)] 3) hkf
                refine wpAnyH_ready (rs := [11]) (by kernel_rfl) (by simp) ?_
                refine AllReadyH.cons (o := { dst := _, op := _, type := _, pos := _, after := _, guard := _ }) rfl (fun K hK => ?_) AllReadyH.nil
                refine step_append_lies _ rfl (.tmp 76) (.tmp 79) 23 rfl w.heap.size 3 i3 _ 1 8 Try.underlying23 hi3 hy0 hy1 hy2 rfl (by decide) (.slice ea n ec) _ _ rfl (HROW.out.alloc _) ⟨WD.heap.size, 0, none⟩ 1 1 [.int .i64 (M : Int)] rfl rfl (cell_one_new WD _ _) (by intro y hy; simp at hy; subst hy; rfl) (by decide) HA1.out HA2.out HA3.out (WD.heap.size + 1) (by simp) ?_
                intro g' cap' w' h2 h3 h4 _
                obtain ⟨HL2, hbk2, hc2, hf2⟩ := HFR.out w' g' cap' h2 ((World.grownBy_alloc _ _ _).trans h3) h4
                have HBK : Hid _ := hbk2
                clear h2 h3 h4 hkf hkfa hbk2
                refine hK.out _ _ ?_ (fun hHeld => ?_)
                · exact HBK.out
                clear hK K
                try simp only [Act.put, List.setIfInBounds_toArray, List.set_cons_zero, List.set_cons_succ]
                refine wpAnyH_take (i := 12) (oi := { dst := _, op := _, type := _, pos := _, after := _, guard := _ }) (v := ?_) rfl (by kernel_rfl) (by kernel_rfl) (by kernel_rfl) (fun _ _ _ h => h) (Or.inl ⟨by rfl, ?_⟩) (by assumption) ?_
                rotate_left
                · intro W hSw
                  (try dsimp only at hSw)
                  go_simp
                  (try with_reducible rfl)
                try simp only [Act.put, List.setIfInBounds_toArray, List.set_cons_zero, List.set_cons_succ]
                refine wpAnyH_ready (rs := [13]) (by kernel_rfl) (by simp) ?_
                refine AllReadyH.cons (o := { dst := _, op := _, type := _, pos := _, after := _, guard := _ }) rfl (fun K hK => ?_) AllReadyH.nil
                go_simp
                refine hK.out _ _ ?_ (fun hHeld => ?_)
                · exact HL2.out.b2
                clear hK K
                try simp only [Act.put, List.setIfInBounds_toArray, List.set_cons_zero, List.set_cons_succ]
                refine wpAnyH_done (by kernel_rfl) ?_ _
                clear hHeld hc2 hf2 hwm hwn
                refine NoPanic.normal ?_
                obtain ⟨W9, hW9⟩ : ∃ W9, W9 = w'.setCell ⟨g3, i, none⟩ (.slice (some ⟨g', 0, none⟩) (n + 1) cap') := ⟨_, rfl⟩
                rw [← hW9] at HL2 ⊢
                clear hW9
                have hwk := HWK.out
                go_wp2_with fail
                go_roundg (20 - (k + 1))
                case measure => clear hwk; have := HKK.out; have := HKL.out; omega
                case rel => exact ⟨k + 1, by rw [hwk], ⟨HKL.out, rfl⟩, _, HL2⟩
              · go_simp
                refine hK.out _ _ ?_ (fun hHeld => ?_)
                · exact ((bel_up _ _).block _ (lt_of_heap hHeld)).trans hHeld
                clear hK K
                try simp only [Act.put, List.setIfInBounds_toArray, List.set_cons_zero, List.set_cons_succ]
                have hkfa := cell_up (.cells #[.int .i64 (M : Int)] 3) hkf
                refine wpAnyH_ready (rs := [7]) (by kernel_rfl) (by simp) ?_
                refine AllReadyH.cons (o := { dst := _, op := _, type := _, pos := _, after := _, guard := _ }) rfl (fun K hK => ?_) AllReadyH.nil
                go_simp
                refine hK.out _ _ ?_ (fun hHeld => ?_)
                · exact hHeld
                clear hK K
                try simp only [Act.put, List.setIfInBounds_toArray, List.set_cons_zero, List.set_cons_succ]
                refine wpAnyH_ready (rs := [11]) (by kernel_rfl) (by simp) ?_
                refine AllReadyH.cons (o := { dst := _, op := _, type := _, pos := _, after := _, guard := _ }) rfl (fun K hK => ?_) AllReadyH.nil
                refine step_append_lies _ rfl (.tmp 76) (.tmp 79) 23 rfl w.heap.size 3 i3 _ 1 8 Try.underlying23 hi3 hy0 hy1 hy2 rfl (by decide) (.slice ea n ec) _ _ rfl (HROW.out.alloc _) ⟨WD.heap.size, 0, none⟩ 1 1 [.int .i64 (M : Int)] rfl rfl (cell_one_new WD _ _) (by intro y hy; simp at hy; subst hy; rfl) (by decide) HA1.out HA2.out HA3.out (WD.heap.size + 1) (by simp) ?_
                intro g' cap' w' h2 h3 h4 _
                obtain ⟨HL2, hbk2, hc2, hf2⟩ := HFR.out w' g' cap' h2 ((World.grownBy_alloc _ _ _).trans h3) h4
                have HBK : Hid _ := hbk2
                clear h2 h3 h4 hkf hkfa hbk2
                refine hK.out _ _ ?_ (fun hHeld => ?_)
                · exact HBK.out
                clear hK K
                try simp only [Act.put, List.setIfInBounds_toArray, List.set_cons_zero, List.set_cons_succ]
                refine wpAnyH_take (i := 12) (oi := { dst := _, op := _, type := _, pos := _, after := _, guard := _ }) (v := ?_) rfl (by kernel_rfl) (by kernel_rfl) (by kernel_rfl) (fun _ _ _ h => h) (Or.inl ⟨by rfl, ?_⟩) (by assumption) ?_
                rotate_left
                · intro W hSw
                  (try dsimp only at hSw)
                  go_simp
                  (try with_reducible rfl)
                try simp only [Act.put, List.setIfInBounds_toArray, List.set_cons_zero, List.set_cons_succ]
                refine wpAnyH_ready (rs := [13]) (by kernel_rfl) (by simp) ?_
                refine AllReadyH.cons (o := { dst := _, op := _, type := _, pos := _, after := _, guard := _ }) rfl (fun K hK => ?_) AllReadyH.nil
                go_simp
                refine hK.out _ _ ?_ (fun hHeld => ?_)
                · exact HL2.out.b2
                clear hK K
                try simp only [Act.put, List.setIfInBounds_toArray, List.set_cons_zero, List.set_cons_succ]
                refine wpAnyH_done (by kernel_rfl) ?_ _
                clear hHeld hc2 hf2 hwm hwn
                refine NoPanic.normal ?_
                obtain ⟨W9, hW9⟩ : ∃ W9, W9 = w'.setCell ⟨g3, i, none⟩ (.slice (some ⟨g', 0, none⟩) (n + 1) cap') := ⟨_, rfl⟩
                rw [← hW9] at HL2 ⊢
                clear hW9
                have hwk := HWK.out
                go_wp2_with fail
                go_roundg (20 - (k + 1))
                case measure => clear hwk; have := HKK.out; have := HKL.out; omega
                case rel => exact ⟨k + 1, by rw [hwk], ⟨HKL.out, rfl⟩, _, HL2⟩
            · have f1 : decide ((k : Int) < 20) = false := by rw [decide_eq_false_iff_not]; omega
              have f2 : decide (k < 20) = false := by rw [decide_eq_false_iff_not]; omega
              have hk20 : k = 20 := by have := HKK.out; omega
              subst hk20
              obtain ⟨ge, hge, hgc⟩ := HEL.out.addr2 HEV.out (by have := HNK.out; omega)
              subst hge
              have y1 : (R.length : Int) ≤ (ec : Int) := by have := HNK.out; omega
              have y2 : R.length ≤ ec := by have := HNK.out; omega
              clear hk HKK hgc
              go_upto_region 18 with fail
              obtain ⟨WD, hWD⟩ : ∃ WD, wr.drew = WD := ⟨_, rfl⟩
              have hld := HL.out.below (Below.drew (Below.refl _ wr))
              rw [hWD] at hld
              have HLD : Hid (Lk w WD bk (.slice a1 N.on.length c1) (.slice a2 N.tos.length c2) (.slice (some ⟨g, o, none⟩) N.free.length c3) N (N.on ++ mkC 20) (N.tos ++ mkI 20) fvs ((fq N i).set i (R ++ mkI 20)) ((nq_ N).set i n) (.slice (some ⟨g1, 0, none⟩) N.on.length q1) N.on.length (.slice (some ⟨g2, 0, none⟩) N.tos.length q2) N.tos.length (.slice (some ⟨g3, 0, none⟩) N.free.length q3) N.free.length) := hld
              have held := HEL.out.kept (grown_of_below (Below.drew (Below.refl _ wr))) (by cases (fvs.getD i undef).ownBlock <;> simp)
              rw [hWD, HEV.out] at held
              have hsc : Sh w.heap.size WD 3 1 (.slice (some ⟨ge, 0, none⟩) R.length ec) R.length (R ++ mkI 20).length (iC (R ++ mkI 20)) := by
                have := held.cut (m := R.length) (by have := HNK.out; omega)
                rw [HLK.out]
                exact this
              have hfin := hld.el_ rfl HLI.out (World.grownBy.refl _ _) hsc (.inl (by rw [HEV.out]; rfl))
              rw [set_set, set_set, HEV.out, ← HQ1.out, set_get (nq_ N) 0 i R.length HQ3.out HQ2.out.2] at hfin
              obtain ⟨hl9, _, hkf, hff⟩ := hfin
              have HL2 : Hid (Lk w (WD.setCell ⟨g3, i, none⟩ (.slice (some ⟨ge, 0, none⟩) R.length ec)) bk (.slice a1 N.on.length c1) (.slice a2 N.tos.length c2) (.slice (some ⟨g, o, none⟩) N.free.length c3) N (N.on ++ mkC 20) (N.tos ++ mkI 20) (fvs.set i (.slice (some ⟨ge, 0, none⟩) R.length ec)) (fq N (i + 1)) (nq_ N) (.slice (some ⟨g1, 0, none⟩) N.on.length q1) N.on.length (.slice (some ⟨g2, 0, none⟩) N.tos.length q2) N.tos.length (.slice (some ⟨g3, 0, none⟩) N.free.length q3) N.free.length) := hl9
              clear hl9 hsc hld held
              refine wp_region_noPanic ?_
              refine wp_region_held_drew (S := fun W => W.heap[bk]? = some (.cells #[.slice (some ⟨g1, 0, none⟩) N.on.length q1, .slice (some ⟨g2, 0, none⟩) N.tos.length q2, .slice (some ⟨g3, 0, none⟩) N.free.length q3, .int .i64 N.start, .int .i64 N.fin] 26 (0, 0)) ∧ W.heap[w.heap.size]? = some (.cells #[.slice a1 N.on.length c1, .slice a2 N.tos.length c2, .slice (some ⟨g, o, none⟩) N.free.length c3, .int .i64 N.start, .int .i64 N.fin] 26 (0, 0)) ∧ Below w.heap.size w W) (by kernel_rfl) (by rw [hWD]; exact ⟨HLD.out.b2, HLD.out.b0, HLD.out.bel⟩) (fun hHeld => ?_)
              rw [hWD] at hHeld ⊢
              clear hWD
              refine wpAnyH_take (i := 0) (oi := { dst := _, op := _, type := _, pos := _, after := _, guard := _ }) (v := ?_) rfl (by kernel_rfl) (by kernel_rfl) (by kernel_rfl) (fun _ _ _ h => h) (Or.inl ⟨by rfl, ?_⟩) (by assumption) ?_
              rotate_left
              · intro W hSw
                (try dsimp only at hSw)
                go_simp
                (try with_reducible rfl)
              try simp only [Act.put, List.setIfInBounds_toArray, List.set_cons_zero, List.set_cons_succ]
              refine wpAnyH_take (i := 1) (oi := { dst := _, op := _, type := _, pos := _, after := _, guard := _ }) (v := ?_) rfl (by kernel_rfl) (by kernel_rfl) (by kernel_rfl) (fun _ _ _ h => h) (Or.inl ⟨by rfl, ?_⟩) (by assumption) ?_
              rotate_left
              · intro W hSw
                (try dsimp only at hSw)
                have p0 : W.cell? ⟨bk, 2, none⟩ = some (.slice (some ⟨g3, 0, none⟩) N.free.length q3) := by rw [Lib.cell_of_heap hSw.1]; rfl
                go_simp
                (try with_reducible rfl)
              try simp only [Act.put, List.setIfInBounds_toArray, List.set_cons_zero, List.set_cons_succ]
              refine wpAnyH_take (i := 2) (oi := { dst := _, op := _, type := _, pos := _, after := _, guard := _ }) (v := ?_) rfl (by kernel_rfl) (by kernel_rfl) (by kernel_rfl) (fun _ _ _ h => h) (Or.inl ⟨by rfl, ?_⟩) (by assumption) ?_
              rotate_left
              · intro W hSw
                (try dsimp only at hSw)
                go_simp
                (try with_reducible rfl)
              try simp only [Act.put, List.setIfInBounds_toArray, List.set_cons_zero, List.set_cons_succ]
              refine wpAnyH_take (i := 3) (oi := { dst := _, op := _, type := _, pos := _, after := _, guard := _ }) (v := ?_) rfl (by kernel_rfl) (by kernel_rfl) (by kernel_rfl) (fun _ _ _ h => h) (Or.inl ⟨by rfl, ?_⟩) (by assumption) ?_
              rotate_left
              · intro W hSw
                (try dsimp only at hSw)
                go_simp
                (try with_reducible rfl)
              try simp only [Act.put, List.setIfInBounds_toArray, List.set_cons_zero, List.set_cons_succ]
              refine wpAnyH_take (i := 4) (oi := { dst := _, op := _, type := _, pos := _, after := _, guard := _ }) (v := ?_) rfl (by kernel_rfl) (by kernel_rfl) (by kernel_rfl) (fun _ _ _ h => h) (Or.inl ⟨by rfl, ?_⟩) (by assumption) ?_
              rotate_left
              · intro W hSw
                (try dsimp only at hSw)
                have p0 : W.cell? ⟨bk, 2, none⟩ = some (.slice (some ⟨g3, 0, none⟩) N.free.length q3) := by rw [Lib.cell_of_heap hSw.1]; rfl
                go_simp
                (try with_reducible rfl)
              try simp only [Act.put, List.setIfInBounds_toArray, List.set_cons_zero, List.set_cons_succ]
              refine wpAnyH_take (i := 5) (oi := { dst := _, op := _, type := _, pos := _, after := _, guard := _ }) (v := ?_) rfl (by kernel_rfl) (by kernel_rfl) (by kernel_rfl) (fun _ _ _ h => h) (Or.inl ⟨by rfl, ?_⟩) (by assumption) ?_
              rotate_left
              · intro W hSw
                (try dsimp only at hSw)
                go_simp
                (try with_reducible rfl)
              try simp only [Act.put, List.setIfInBounds_toArray, List.set_cons_zero, List.set_cons_succ]
              refine wpAnyH_take (i := 6) (oi := { dst := _, op := _, type := _, pos := _, after := _, guard := _ }) (v := ?_) rfl (by kernel_rfl) (by kernel_rfl) (by kernel_rfl) (fun _ _ _ h => h) (Or.inl ⟨by rfl, ?_⟩) (by assumption) ?_
              rotate_left
              · intro W hSw
                (try dsimp only at hSw)
                go_simp
                (try with_reducible rfl)
              try simp only [Act.put, List.setIfInBounds_toArray, List.set_cons_zero, List.set_cons_succ]
              refine wpAnyH_take (i := 8) (oi := { dst := _, op := _, type := _, pos := _, after := _, guard := _ }) (v := ?_) rfl (by kernel_rfl) (by kernel_rfl) (by kernel_rfl) (fun _ _ _ h => h) (Or.inl ⟨by rfl, ?_⟩) (by assumption) ?_
              rotate_left
              · intro W hSw
                (try dsimp only at hSw)
                go_simp
                (try with_reducible rfl)
              try simp only [Act.put, List.setIfInBounds_toArray, List.set_cons_zero, List.set_cons_succ]
              refine wpAnyH_take (i := 9) (oi := { dst := _, op := _, type := _, pos := _, after := _, guard := _ }) (v := ?_) rfl (by kernel_rfl) (by kernel_rfl) (by kernel_rfl) (fun _ _ _ h => h) (Or.inl ⟨by rfl, ?_⟩) (by assumption) ?_
              rotate_left
              · intro W hSw
                (try dsimp only at hSw)
                have p0 : W.cell? ⟨w.heap.size, 2, none⟩ = some (.slice (some ⟨g, o, none⟩) N.free.length c3) := by rw [Lib.cell_of_heap hSw.2.1]; rfl
                go_simp
                (try with_reducible rfl)
              try simp only [Act.put, List.setIfInBounds_toArray, List.set_cons_zero, List.set_cons_succ]
              refine wpAnyH_take (i := 10) (oi := { dst := _, op := _, type := _, pos := _, after := _, guard := _ }) (v := ?_) rfl (by kernel_rfl) (by kernel_rfl) (by kernel_rfl) (fun _ _ _ h => h) (Or.inl ⟨by rfl, ?_⟩) (by assumption) ?_
              rotate_left
              · intro W hSw
                (try dsimp only at hSw)
                go_simp
                (try with_reducible rfl)
              try simp only [Act.put, List.setIfInBounds_toArray, List.set_cons_zero, List.set_cons_succ]
              refine wpAnyH_take (i := 11) (oi := { dst := _, op := _, type := _, pos := _, after := _, guard := _ }) (v := ?_) rfl (by kernel_rfl) (by kernel_rfl) (by kernel_rfl) (fun _ _ _ h => h) (Or.inl ⟨by rfl, ?_⟩) (by assumption) ?_
              rotate_left
              · intro W hSw
                (try dsimp only at hSw)
                go_simp
                (try with_reducible rfl)
              try simp only [Act.put, List.setIfInBounds_toArray, List.set_cons_zero, List.set_cons_succ]
              refine wpAnyH_take (i := 12) (oi := { dst := _, op := _, type := _, pos := _, after := _, guard := _ }) (v := ?_) rfl (by kernel_rfl) (by kernel_rfl) (by kernel_rfl) (fun _ _ _ h => h) (Or.inl ⟨by rfl, ?_⟩) (by assumption) ?_
              rotate_left
              · intro W hSw
                (try dsimp only at hSw)
                have p0 := HSRC.out W hSw.2.2
                go_simp
                (try with_reducible rfl)
              try simp only [Act.put, List.setIfInBounds_toArray, List.set_cons_zero, List.set_cons_succ]
              refine wpAnyH_take (i := 13) (oi := { dst := _, op := _, type := _, pos := _, after := _, guard := _ }) (v := ?_) rfl (by kernel_rfl) (by kernel_rfl) (by kernel_rfl) (fun _ _ _ h => h) (Or.inl ⟨by rfl, ?_⟩) (by assumption) ?_
              rotate_left
              · intro W hSw
                (try dsimp only at hSw)
                go_simp
                (try with_reducible rfl)
              try simp only [Act.put, List.setIfInBounds_toArray, List.set_cons_zero, List.set_cons_succ]
              refine wpAnyH_ready (rs := [7]) (by kernel_rfl) (by simp) ?_
              refine AllReadyH.cons (o := { dst := _, op := _, type := _, pos := _, after := _, guard := _ }) rfl (fun K hK => ?_) AllReadyH.nil
              go_simp
              refine hK.out _ _ ?_ (fun hHeld => ?_)
              · exact hHeld
              clear hK K
              try simp only [Act.put, List.setIfInBounds_toArray, List.set_cons_zero, List.set_cons_succ]
              refine wpAnyH_take (i := 14) (oi := { dst := _, op := _, type := _, pos := _, after := _, guard := _ }) (v := ?_) rfl (by kernel_rfl) (by kernel_rfl) (by kernel_rfl) (fun _ _ _ h => h) (Or.inl ⟨by rfl, ?_⟩) (by assumption) ?_
              rotate_left
              · intro W hSw
                (try dsimp only at hSw)
                go_simp
                (try with_reducible rfl)
              try simp only [Act.put, List.setIfInBounds_toArray, List.set_cons_zero, List.set_cons_succ]
              refine wpAnyH_take (i := 15) (oi := { dst := _, op := _, type := _, pos := _, after := _, guard := _ }) (v := ?_) rfl (by kernel_rfl) (by kernel_rfl) (by kernel_rfl) (fun _ _ _ h => h) (Or.inl ⟨by rfl, ?_⟩) (by assumption) ?_
              rotate_left
              · intro W hSw
                (try dsimp only at hSw)
                go_simp
                (try with_reducible rfl)
              try simp only [Act.put, List.setIfInBounds_toArray, List.set_cons_zero, List.set_cons_succ]
              refine wpAnyH_ready (rs := [16]) (by kernel_rfl) (by simp) ?_
              refine AllReadyH.cons (o := { dst := _, op := _, type := _, pos := _, after := _, guard := _ }) rfl (fun K hK => ?_) AllReadyH.nil
              go_simp
              refine hK.out _ _ ?_ (fun hHeld => ?_)
              · exact ⟨HL2.out.b2, HL2.out.b0, HL2.out.bel⟩
              clear hK K
              try simp only [Act.put, List.setIfInBounds_toArray, List.set_cons_zero, List.set_cons_succ]
              refine wpAnyH_done (by kernel_rfl) ?_ _
              clear hHeld hkf hff
              refine NoPanic.normal ?_
              obtain ⟨W9, hW9⟩ : ∃ W9, W9 = WD.setCell ⟨g3, i, none⟩ (.slice (some ⟨ge, 0, none⟩) R.length ec) := ⟨_, rfl⟩
              rw [← hW9] at HL2 ⊢
              clear hW9
              have hwi := HWI.out
              go_wp2_with fail
              go_roundg (N.free.length - (i + 1))
              case measure => clear hwi; have := HII.out; have := HIL.out; omega
              case rel => exact ⟨i + 1, by rw [hwi], ⟨HIL.out, rfl⟩, _, HL2⟩
        · have e1 : decide ((i : Int) < (N.free.length : Int)) = false := by rw [decide_eq_false_iff_not]; omega
          have e2 : decide (i < N.free.length) = false := by rw [decide_eq_false_iff_not]; omega
          have HT3 : Hid (Lk w wr bk (.slice a1 N.on.length c1) (.slice a2 N.tos.length c2) (.slice a3 N.free.length c3) N (N.on ++ mkC 20) (N.tos ++ mkI 20) fvs (fq N N.free.length) (nq_ N) (.slice (some ⟨g1, 0, none⟩) N.on.length q1) N.on.length (.slice (some ⟨g2, 0, none⟩) N.tos.length q2) N.tos.length (.slice (some ⟨g3, 0, none⟩) N.free.length q3) N.free.length) := by
            have h := HL.out
            have hin : i = N.free.length := by have := HII.out; omega
            rw [hin] at h
            exact h
          have s0 : wr.cell? ⟨bk, 0, none⟩ = some (.slice (some ⟨g1, 0, none⟩) N.on.length q1) := by rw [Lib.cell_of_heap HT3.out.b2]; rfl
          have s1 : wr.cell? ⟨bk, 1, none⟩ = some (.slice (some ⟨g2, 0, none⟩) N.tos.length q2) := by rw [Lib.cell_of_heap HT3.out.b2]; rfl
          have s3 : wr.cell? ⟨bk, 3, none⟩ = some (.int .i64 N.start) := by rw [Lib.cell_of_heap HT3.out.b2]; rfl
          have s4 : wr.cell? ⟨bk, 4, none⟩ = some (.int .i64 N.fin) := by rw [Lib.cell_of_heap HT3.out.b2]; rfl
          have r0 : wr.cell? ⟨w.heap.size + 1, 0, none⟩ = some (.slice none 0 0) := by rw [Lib.cell_of_heap HT3.out.b1]; rfl
          have r1 : wr.cell? ⟨w.heap.size + 1, 1, none⟩ = some (.slice none 0 0) := by rw [Lib.cell_of_heap HT3.out.b1]; rfl
          have r2 : wr.cell? ⟨w.heap.size + 1, 2, none⟩ = some (.slice none 0 0) := by rw [Lib.cell_of_heap HT3.out.b1]; rfl
          have r3 : wr.cell? ⟨w.heap.size + 1, 3, none⟩ = some (.int .i64 0) := by rw [Lib.cell_of_heap HT3.out.b1]; rfl
          have r4 : wr.cell? ⟨w.heap.size + 1, 4, none⟩ = some (.int .i64 0) := by rw [Lib.cell_of_heap HT3.out.b1]; rfl
          have z0 := Lib.frozen_of_heap HT3.out.b1 0
          have z1 := Lib.frozen_of_heap HT3.out.b1 1
          have z2 := Lib.frozen_of_heap HT3.out.b1 2
          have z3 := Lib.frozen_of_heap HT3.out.b1 3
          have z4 := Lib.frozen_of_heap HT3.out.b1 4
          clear hi HL
          go_wp2_with fail
          refine bodyPost_ret (v := nfW (.slice (some ⟨g1, 0, none⟩) N.on.length q1) (.slice (some ⟨g2, 0, none⟩) N.tos.length q2) (.slice (some ⟨g3, 0, none⟩) N.free.length q3) N) ?_ rfl ?_
          · rw [results_cell1 rfl]; go_simp
          · exact ⟨fvs, _, _, _, rfl, (((((HT3.out.tr.blk HT3.out.b1 grown_set).blk (blk_set _ HT3.out.b1) grown_set).blk (blk_set _ (blk_set _ HT3.out.b1)) grown_set).blk (blk_set _ (blk_set _ (blk_set _ HT3.out.b1))) grown_set).blk (blk_set _ (blk_set _ (blk_set _ (blk_set _ HT3.out.b1)))) grown_set), bel_set5 HT3.out.bel _ _ _ _ _⟩
end Go.Proofs.Ytkjljnneghnpiaa
