import Derived.Test.YtcfmpmhdjkchjabTqs
import Derived.Test.YtcfmpmhdjkchjabTgf
namespace Go.Proofs.Ytcfmpmhdjkchjab
open Go.RowKit Go.Maps

/-- A tree in a row: its node, its children's row, its place, how many they are, their list. -/
structure It where
  y : Nd
  v : Value
  p : Int
  n : Nat
  L : List Nd
def itd : It := ⟨ndd, .slice none 0 0, 0, 0, []⟩
def itf (x : It) : List Value := nf x.y ++ [x.v, .int .i64 x.p]
theorem itf_len (x : It) : (itf x).length = 9 := rfl
/-- A tree's list. -/
def itl (x : It) : List Nd := ⟨x.y.nm, x.y.nd, x.y.fd, x.y.fr, x.y.tt, (x.n : Int), x.y.lf⟩ :: x.L
/-- A forest in memory, by its list. -/
inductive LM (P : Nat → Prop) (W : World) : Value → Nat → List Nd → Prop
  | mk (v : Value) (xs : List It) (h1 : RwP P W v xs.length (flat itf xs)) (h2 : ∀ x, x ∈ xs → LM P W x.v x.n x.L) : LM P W v xs.length (xs.flatMap itl)
theorem LM.keep {P Q : Nat → Prop} {W W' : World} {v : Value} {k : Nat} {L : List Nd} (h : LM P W v k L) (hs : W.heap.size ≤ W'.heap.size) (hk : ∀ g, P g → g < W.heap.size → W'.heap[g]? = W.heap[g]? ∧ Q g) : LM Q W' v k L := by
  induction h with
  | mk v xs h1 h2 ih => exact LM.mk v xs (h1.keep (flat_len itf_len xs) hs hk) ih
theorem LM.up {P : Nat → Prop} {W W' : World} {v : Value} {k : Nat} {L : List Nd} (h : LM P W v k L) (hb : Below W.heap.size W W') : LM P W' v k L :=
  h.keep hb.size fun g hp hg => ⟨hb.block g hg, hp⟩
theorem LM.form {P : Nat → Prop} {W : World} {v : Value} {k : Nat} {L : List Nd} (h : LM P W v k L) : ∃ a cp, v = .slice a k cp := by
  cases h with
  | mk v xs h1 h2 => exact Rw.form h1.rw
/-- The item of a tree of a list. -/
def ito (t : List Nd) (x : Nat × Value) : It := ⟨t.getD x.1 ndd, x.2, (x.1 : Int), kA (kds t) x.1, seg t (x.1 + 1) (eA (kds t) x.1)⟩
theorem flat_ito (t : List Nd) : ∀ fs : List (Nat × Value), flat itf (fs.map (ito t)) = flat (tf t) fs
  | [] => rfl
  | x :: fs => by show itf (ito t x) ++ flat itf (fs.map (ito t)) = tf t x ++ flat (tf t) fs; rw [flat_ito t fs]; rfl
theorem itl_ito {t : List Nd} (hf : Fo (kds t)) (x : Nat × Value) (h : x.1 < t.length) : itl (ito t x) = seg t x.1 (eA (kds t) x.1) := by
  have hst := hf.step x.1 (by rw [kds_len]; exact h)
  have hel := hf.elt x.1 (by rw [kds_len]; exact h)
  rw [← seg_app t x.1 (x.1 + 1) (eA (kds t) x.1) (by omega) (by omega), seg_one t x.1 h]
  show _ :: _ = t.getD x.1 ndd :: _
  unfold ito
  dsimp only
  rw [← hst.2.1, kds_get]
  rfl
theorem roots_seg {t : List Nd} (hf : Fo (kds t)) (a : Nat) (ha : a ≤ t.length) (fs : List (Nat × Value)) (k : Nat) (hk : k ≤ rA (kds t) a) (h1 : fs.map Prod.fst = pls (kds t) a k) : (fs.map (ito t)).flatMap itl = seg t a (wA (kds t) a k) := by
  induction k generalizing fs with
  | zero =>
    have : fs = [] := by have := FrM.len h1; exact List.length_eq_zero_iff.1 this
    subst this
    rw [wA_zero, seg_self]; rfl
  | succ k ih =>
    rw [pls_succ] at h1
    obtain ⟨fs', x, rfl⟩ : ∃ fs' x, fs = fs' ++ [x] := by
      have hl : fs ≠ [] := fun e => by rw [e] at h1; simp at h1
      exact ⟨fs.dropLast, fs.getLast hl, (List.dropLast_concat_getLast hl).symm⟩
    rw [List.map_append] at h1
    obtain ⟨e1, e2⟩ := List.append_inj' h1 rfl
    have e3 : x.1 = wA (kds t) a k := by simpa using e2
    have hlt := hf.lt a k (by rw [kds_len]; exact ha) (by omega)
    have hen := (hf.end a k (by rw [kds_len]; exact ha) (by omega)).2.2
    have hel := hf.elt _ hlt
    rw [kds_len] at hlt hel
    rw [List.map_append, List.flatMap_append, ih fs' (by omega) e1, hf.next a k (by omega)]
    show _ ++ (itl (ito t x) ++ []) = _
    rw [List.append_nil, itl_ito hf x (by rw [e3]; exact hlt), e3, seg_app _ _ _ _ (by omega) (by omega)]
theorem lm_of_tr {P : Nat → Prop} {W : World} {t : List Nd} (hf : Fo (kds t)) {a : Nat} {v : Value} (h : TrM P W t a v) : a < t.length → LM P W v (kA (kds t) a) (seg t (a + 1) (eA (kds t) a)) := by
  induction h with
  | mk a v fs h1 h2 h3 ih =>
    intro ha
    have hst := (hf.step a (by rw [kds_len]; exact ha)).2.2.1
    have hl := FrM.len h1
    have hm := LM.mk (P := P) (W := W) v (fs.map (ito t)) (by rw [List.length_map, flat_ito]; exact h2) (fun x hx => by
      obtain ⟨q, hq, rfl⟩ := List.mem_map.1 hx
      refine ih q hq ?_
      have hm1 : q.1 ∈ fs.map Prod.fst := List.mem_map.2 ⟨q, hq, rfl⟩
      rw [h1] at hm1
      unfold pls at hm1
      obtain ⟨j, hj, e⟩ := List.mem_map.1 hm1
      have := hf.lt (a + 1) j (by rw [kds_len]; exact ha) (by have := List.mem_range.1 hj; omega)
      rw [kds_len] at this
      omega)
    rw [List.length_map, hl, roots_seg hf (a + 1) (by omega) fs _ hst h1, ← hf.eq a (by rw [kds_len]; exact ha)] at hm
    exact hm
/-- A row of items: one of them, its cells. -/
theorem items_nine {W : World} {ad : Option Addr} {m cp : Nat} {xs : List It} (h : Rw W (.slice ad m cp) xs.length (flat itf xs)) (i : Nat) (hi : i < xs.length) :
    ∃ g o, ad = some ⟨g, o, none⟩ ∧ ∀ W', Below W.heap.size W W' → W'.cell? ⟨g, o + i * 9, none⟩ = some (.string (xs.getD i itd).y.nm) ∧ W'.cell? ⟨g, o + i * 9 + 1, none⟩ = some (.bool (xs.getD i itd).y.nd) ∧ W'.cell? ⟨g, o + i * 9 + 2, none⟩ = some (.string (xs.getD i itd).y.fd) ∧ W'.cell? ⟨g, o + i * 9 + 3, none⟩ = some (.int .i64 (xs.getD i itd).y.fr) ∧ W'.cell? ⟨g, o + i * 9 + 4, none⟩ = some (.int .i64 (xs.getD i itd).y.tt) ∧ W'.cell? ⟨g, o + i * 9 + 5, none⟩ = some (.int .i64 (xs.getD i itd).y.kd) ∧ W'.cell? ⟨g, o + i * 9 + 6, none⟩ = some (.int .i64 (xs.getD i itd).y.lf) ∧ W'.cell? ⟨g, o + i * 9 + 7, none⟩ = some ((xs.getD i itd).v) ∧ W'.cell? ⟨g, o + i * 9 + 8, none⟩ = some (.int .i64 (xs.getD i itd).p) := by
  obtain ⟨g, o, cap', e, hc⟩ := Rw.place h (by omega)
  obtain ⟨rfl, -, -⟩ := Value.slice.inj e
  refine ⟨g, o, rfl, fun W' hW => ?_⟩
  have k : ∀ j u, (itf (xs.getD i itd))[j]? = some u → W'.cell? ⟨g, o + i * 9 + j, none⟩ = some u := fun j u hu => by
    refine below_cell hW ?_
    rw [Nat.add_assoc]
    refine hc _ _ ?_
    have hj : j < 9 := by
      have := (List.getElem?_eq_some_iff.1 hu).1
      rwa [itf_len] at this
    rw [flat_get itf_len itd xs i j hi hj]
    exact hu
  exact ⟨k 0 _ rfl, k 1 _ rfl, k 2 _ rfl, k 3 _ rfl, k 4 _ rfl, k 5 _ rfl, k 6 _ rfl, k 7 _ rfl, k 8 _ rfl⟩
def LgE (L : List Nd) (w w' : World) (e : Ending) : Prop := ∃ v', e = .returned v' ∧ w'.ownsRow w.heap.size 65 7 v' L.length (flat nf L) ∧ Below w.heap.size w w'
theorem fm_take (xs : List It) (i : Nat) (hi : i < xs.length) : (xs.take (i + 1)).flatMap itl = ((xs.take i).flatMap itl ++ [⟨(xs.getD i itd).y.nm, (xs.getD i itd).y.nd, (xs.getD i itd).y.fd, (xs.getD i itd).y.fr, (xs.getD i itd).y.tt, ((xs.getD i itd).n : Int), (xs.getD i itd).y.lf⟩]) ++ (xs.getD i itd).L := by
  rw [take_getD xs itd i hi, List.flatMap_append, List.append_assoc]
  congr 1
  show itl _ ++ [] = _
  rw [List.append_nil]
  rfl
theorem fm_le (xs : List It) (i : Nat) : ((xs.take i).flatMap itl).length ≤ (xs.flatMap itl).length := by
  conv => rhs; rw [← List.take_append_drop i xs, List.flatMap_append, List.length_append]
  omega
theorem it_le (xs : List It) : xs.length ≤ (xs.flatMap itl).length := by
  induction xs with
  | nil => exact Nat.le_refl _
  | cons x xs ih =>
    rw [List.flatMap_cons, List.length_append, List.length_cons]
    have : (itl x).length = x.L.length + 1 := rfl
    omega
set_option maxRecDepth 100000 in
set_option maxHeartbeats 8000000 in
theorem list_gen {P : Nat → Prop} {w0 : World} {v : Value} {k : Nat} {L : List Nd} (h : LM P w0 v k L) : L.length * 72 + 4096 ≤ 140737488355328 → ∀ w, Below w0.heap.size w0 w →
    Calls Try.prog 24 #[v] w fun e w' => LgE L w w' e := by
  obtain ⟨iN, hiN, hx0, hx1, hx2⟩ := info_parts infoNd
  induction h with
  | mk v xs h1 h2 ih =>
    intro hs w hb
    have HIH : Hid (∀ x, x ∈ xs → x.L.length * 72 + 4096 ≤ 140737488355328 → ∀ w, Below w0.heap.size w0 w → Calls Try.prog 24 #[x.v] w fun e w' => LgE x.L w w' e) := ih
    have HLM : Hid (∀ x, x ∈ xs → LM P w0 x.v x.n x.L) := h2
    have HM : Hid (Rw w0 v xs.length (flat itf xs)) := h1.rw
    have HBB : Hid (Below w0.heap.size w0 w) := hb
    have HS : Hid ((xs.flatMap itl).length * 72 + 4096 ≤ 140737488355328) := hs
    obtain ⟨av, cap, rfl⟩ := Rw.form h1.rw
    clear h1 h2 hs ih hb
    obtain ⟨k, hk⟩ : ∃ k, xs.length = k := ⟨_, rfl⟩
    have HK : Hid (xs.length = k) := hk
    have HKL : Hid (k ≤ (xs.flatMap itl).length) := by rw [← hk]; exact it_le xs
    rw [hk] at HM ⊢
    clear hk
    go_enter Try.func24, Try.ntmps24
    go_upto_region 3 with fail
    go_loopg [3, 4] k (fun gm v3 v4 wr => ∃ (i m : Nat), v4 = .int .i64 (i : Int) ∧ Hid (i ≤ k ∧ gm = k - i) ∧ Hid (m = ((xs.take i).flatMap itl).length) ∧ Hid (wr.ownsRow w.heap.size 65 7 v3 m (flat nf ((xs.take i).flatMap itl))) ∧ Hid (Below w.heap.size w wr))
    case atStart => exact ⟨0, 0, rfl, ⟨Nat.zero_le _, rfl⟩, rfl, World.ownsRow_nil _ _ _ _, Below.refl _ _⟩
    case round =>
      obtain ⟨i, m, rfl, HI, HMM, HO, HB⟩ := hrel
      obtain ⟨ra, rc, hrv⟩ := row_shape HO.out
      subst hrv
      have HW : Hid (Below w0.heap.size w0 wr) := below_trans HBB.out HB.out
      by_cases hi : i < k
      · have e1 : decide ((i : Int) < (k : Int)) = true := by rw [decide_eq_true_eq]; omega
        have e2 : decide (i < k) = true := by rw [decide_eq_true_eq]; omega
        have b1 : (i : Int) < (k : Int) := by omega
        have b2 : i < k := hi
        have HIK : Hid (i < k) := hi
        have hix : i < xs.length := by rw [HK.out]; exact hi
        have hrw : Rw w0 (.slice av k cap) xs.length (flat itf xs) := by rw [HK.out]; exact HM.out
        obtain ⟨g, o, rfl, hC⟩ := items_nine hrw i hix
        have hmem := getD_mem xs itd i hix
        have hft := fm_take xs i hix
        have hfl := fm_le xs (i + 1)
        rw [hft, List.length_append, List.length_append] at hfl
        have hLM := HLM.out _ hmem
        obtain ⟨x, hx⟩ : ∃ x, xs.getD i itd = x := ⟨_, rfl⟩
        rw [hx] at hC hmem hft hfl hLM
        obtain ⟨aa, cc, hve⟩ := hLM.form
        rw [hve] at hC
        have HCL : Hid (∀ W, Below w0.heap.size w0 W → Calls Try.prog 24 #[.slice aa x.n cc] W fun e w' => LgE x.L W w' e) := fun W hW => by
          rw [← hve]
          exact HIH.out x hmem (by have := HS.out; omega) W hW
        have HSG : Hid ((xs.take (i + 1)).flatMap itl = ((xs.take i).flatMap itl ++ [⟨x.y.nm, x.y.nd, x.y.fd, x.y.fr, x.y.tt, (x.n : Int), x.y.lf⟩]) ++ x.L) := hft
        have HLN : Hid (m + 1 + x.L.length ≤ (xs.flatMap itl).length) := by rw [HMM.out]; exact hfl
        obtain ⟨S, hS⟩ : ∃ S, (xs.take i).flatMap itl = S := ⟨_, rfl⟩
        rw [hS] at HSG HO HMM
        obtain ⟨X, hX⟩ : ∃ X, x.y = X := ⟨_, rfl⟩
        rw [hX] at hC HSG
        obtain ⟨nn, hnn⟩ : ∃ nn, x.n = nn := ⟨_, rfl⟩
        rw [hnn] at hC HSG HCL
        obtain ⟨R, hR⟩ : ∃ R, x.L = R := ⟨_, rfl⟩
        rw [hR] at HSG HLN HCL
        obtain ⟨Y, hY⟩ : ∃ Y : Nd, Y = ⟨X.nm, X.nd, X.fd, X.fr, X.tt, (nn : Int), X.lf⟩ := ⟨_, rfl⟩
        rw [← hY] at HSG
        have HXN : Hid (nf Y = [.string X.nm, .bool X.nd, .string X.fd, .int .i64 X.fr, .int .i64 X.tt, .int .i64 (nn : Int), .int .i64 X.lf]) := by show nf Y = _; rw [hY]; rfl
        have HC : Hid _ := hC
        clear hC hX hS hR hY hnn hve hLM hft hfl hmem hx hrw hix
        obtain ⟨q0, q1, q2, q3, q4, q5, q6, q7, q8⟩ := HC.out wr HW.out
        have hwi := w64n i (by have := HS.out; have := HKL.out; omega)
        clear hi
        go_upto_region 6 with fail
        clear q0 q1 q2 q3 q4 q5 q6 q7 q8
        obtain ⟨kb, hkb⟩ : ∃ kb, wr.heap.size = kb := ⟨_, rfl⟩
        obtain ⟨W3, hW3⟩ : ∃ W3, W3 = wr.alloc (.cells #[.string X.nm, .bool X.nd, .string X.fd, .int .i64 X.fr, .int .i64 X.tt, .int .i64 X.kd, .int .i64 X.lf] 65) := ⟨_, rfl⟩
        have HB3 : Hid (Below wr.heap.size wr W3) := by rw [hW3]; exact bel_up _ _
        have HX3 : Hid (W3.heap[kb]? = some (.cells #[.string X.nm, .bool X.nd, .string X.fd, .int .i64 X.fr, .int .i64 X.tt, .int .i64 X.kd, .int .i64 X.lf] 65 (0, 0))) := by rw [hW3, ← hkb]; exact heap_new _ _
        have HKB : Hid (wr.heap.size ≤ kb) := by rw [← hkb]; exact Nat.le_refl _
        rw [hkb, ← hW3]
        clear hW3 hkb
        obtain ⟨q0, q1, q2, q3, q4, q5, q6, q7, q8⟩ := HC.out W3 (below_trans HW.out HB3.out)
        have x5 := rcell HX3.out 5 _ rfl
        have ff := fun j => Lib.frozen_of_heap HX3.out j
        go_upto_region 7 with fail
        clear q0 q1 q2 q3 q4 q5 q6 q7 q8 x5 ff
        obtain ⟨W5, hW5⟩ : ∃ W5, W5 = W3.setCell ⟨kb, 5, none⟩ (.int .i64 (nn : Int)) := ⟨_, rfl⟩
        have HB5 : Hid (Below wr.heap.size wr W5) := by rw [hW5]; exact bel_put HB3.out HKB.out
        have HX5 : Hid (W5.heap[kb]? = some (.cells #[.string X.nm, .bool X.nd, .string X.fd, .int .i64 X.fr, .int .i64 X.tt, .int .i64 (nn : Int), .int .i64 X.lf] 65 (0, 0))) := by rw [hW5]; exact blk_set (k := 5) (.int .i64 (nn : Int)) HX3.out
        rw [← hW5]
        clear hW5
        have x0 := rcell HX5.out 0 _ rfl
        have x1 := rcell HX5.out 1 _ rfl
        have x2 := rcell HX5.out 2 _ rfl
        have x3 := rcell HX5.out 3 _ rfl
        have x4 := rcell HX5.out 4 _ rfl
        have x5 := rcell HX5.out 5 _ rfl
        have x6 := rcell HX5.out 6 _ rfl
        have HROW : Hid ((W5.alloc (.cells #[.string X.nm, .bool X.nd, .string X.fd, .int .i64 X.fr, .int .i64 X.tt, .int .i64 (nn : Int), .int .i64 X.lf] 65)).ownsRow w.heap.size 65 7 (.slice ra m rc) m (flat nf S)) := (row_up HO.out HB5.out).alloc _
        have HSB : Hid (w.heap.size ≤ W5.heap.size) := Nat.le_trans HB.out.size HB5.out.size
        have HMX : Hid (m + 1 ≤ maxLen ∧ (m + 1) * 72 ≤ 140737488355328) := by have := HLN.out; have := HS.out; show _ ∧ _; unfold maxLen; omega
        go_upto_region 8 with (at_builtin; refine wpList_append_own_at _ rfl _ _ 44 rfl w.heap.size 65 iN _ 7 72 Try.underlying44 hiN hx0 hx1 hx2 rfl (by decide) _ _ _ rfl HROW.out ⟨W5.heap.size, 0, none⟩ 1 1 (nf Y) rfl rfl (by rw [HXN.out]; exact World.news_of_block (heap_new _ _)) (nf_one Y) HMX.out.1 HMX.out.2 (by have := HSB.out; simp; omega) ?_; intro v6 w6 ho6 hg6 _ ha6; have HB6 : Hid (Below w.heap.size w w6) := bel_app (below_trans HB.out HB5.out) HSB.out (row_up HO.out HB5.out) hg6; have HO6 : Hid (w6.ownsRow w.heap.size 65 7 v6 (m + 1) (flat nf (S ++ [Y]))) := (by rw [flat_app]; have h9 : flat nf [Y] = nf Y := List.append_nil _; rw [h9]; exact ho6); obtain ⟨qa, qc, rfl⟩ := row_shape ho6; clear ho6 hg6 ha6)
        clear x0 x1 x2 x3 x4 x5 x6
        have HW6 : Hid (Below w0.heap.size w0 w6) := below_trans HBB.out HB6.out
        obtain ⟨q0, q1, q2, q3, q4, q5, q6, q7, q8⟩ := HC.out w6 HW6.out
        go_upto_region 9 with (go_at_call 24; refine Calls.mono (HCL.out _ HW6.out) ?_; rintro ee W7 ⟨v7, rfl, ho7, hb7⟩; have HO7 : Hid (W7.ownsRow w6.heap.size 65 7 v7 R.length (flat nf R)) := ho7; have HB67 : Hid (Below w6.heap.size w6 W7) := hb7; obtain ⟨za, zc, rfl⟩ := row_shape ho7; clear ho7 hb7)
        clear q0 q1 q2 q3 q4 q5 q6 q7 q8
        obtain ⟨gg, gc, hge, -, -, -⟩ := row_form HO6.out (by omega)
        obtain ⟨rfl, -, rfl⟩ := Value.slice.inj hge
        have HO67 : Hid (W7.ownsRow w.heap.size 65 7 (.slice (some ⟨gg, 0, none⟩) (m + 1) qc) (m + 1) (flat nf (S ++ [Y]))) := row_up HO6.out HB67.out
        have HRW : Hid (Rw W7 (.slice za R.length zc) R.length (flat nf R)) := row_rw HO7.out (by decide)
        have HMY : Hid (m + 1 + R.length ≤ maxLen ∧ (m + 1 + R.length) * 72 ≤ 140737488355328) := by have := HLN.out; have := HS.out; show _ ∧ _; unfold maxLen; omega
        have HB7 : Hid (Below w.heap.size w W7) := below_trans HB6.out HB67.out
        clear hge
        go_wp2_with (at_builtin; refine wpList_push _ rfl _ _ 44 rfl w.heap.size 65 iN _ 7 72 Try.underlying44 hiN hx0 hx1 hx2 rfl (by decide) gg (m + 1) qc (flat nf (S ++ [Y])) rfl HO67.out _ R.length (flat nf R) rfl HRW.out (flat_len nf_len R) (flat_one nf_one R) HMY.out.1 HMY.out.2 HB7.out.size ?_; intro g8 c8 w8 ho8 hg8; have HB8 : Hid (Below w.heap.size w w8) := HB7.out.grown hg8 HB7.out.size (fun r hr => by cases hr; exact (row_tag HO67.out gg rfl).1); have HO8 : Hid (w8.ownsRow w.heap.size 65 7 (.slice (some ⟨g8, 0, none⟩) (m + 1 + R.length) c8) (m + 1 + R.length) (flat nf ((S ++ [Y]) ++ R))) := (by rw [flat_app nf (S ++ [Y]) R]; exact ho8); clear ho8 hg8)
        go_roundg (k - (i + 1))
        case measure => have := HI.out; have := HIK.out; omega
        case rel => exact ⟨i + 1, m + 1 + R.length, by first | rfl | (rw [show (i : Int) + 1 = ((i + 1 : Nat) : Int) by omega]), ⟨HIK.out, rfl⟩, by rw [HSG.out, List.length_append, List.length_append, HMM.out]; exact rfl, by rw [HSG.out]; exact HO8.out, HB8⟩
      · have e1 : decide ((i : Int) < (k : Int)) = false := by rw [decide_eq_false_iff_not]; omega
        have e2 : decide (i < k) = false := by rw [decide_eq_false_iff_not]; omega
        have e3 : i = xs.length := by have := HI.out; have := HK.out; omega
        subst e3
        have HAL : Hid (xs.take xs.length = xs) := List.take_length
        rw [HAL.out] at HMM HO
        clear hi
        go_wp2_with fail
        go_ret
        exact ⟨_, rfl, by rw [← HMM.out]; exact HO.out, HB.out⟩
end Go.Proofs.Ytcfmpmhdjkchjab
