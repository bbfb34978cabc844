import Derived.Test.YtcfmpmhdjkchjabFrb
import Derived.Test.YtcfmpmhdjkchjabThd
import Derived.Deep.MidRow
namespace Go.Proofs.Ytcfmpmhdjkchjab
open Go.RowKit Go.Maps

theorem grown_ref (W : World) (row : Option Nat) : W.grownBy W row := ⟨rfl, rfl, rfl, Nat.le_refl _, fun _ _ _ => rfl⟩
theorem grown_to {W W' W'' : World} {row row' : Option Nat} (h : W.grownBy W' row) (h' : W'.grownBy W'' row') (hr : ∀ r, row' = some r → row = some r ∨ W.heap.size ≤ r) : W.grownBy W'' row :=
  ⟨h'.os.trans h.os, h'.tape.trans h.tape, h'.output.trans h.output, Nat.le_trans h.size h'.size, fun k hk hne => by
    rw [h'.block k (Nat.lt_of_lt_of_le hk h.size) (fun e => by
      rcases hr k e.symm with q | q
      · exact hne q.symm
      · omega)]
    exact h.block k hk hne⟩
theorem row_step {W : World} {B g n cap i c : Nat} {s : List Nd} (h : W.ownsRow B 65 7 (.slice (some ⟨g, 0, none⟩) n cap) n (flat nf s)) (hi : i < s.length) (hc : c < 7) (u : Value) (x y : Nd) (hx : s.getD i ndd = x) (hy : nf y = (nf x).set c u) :
    (W.setCell ⟨g, i * 7 + c, none⟩ u).ownsRow B 65 7 (.slice (some ⟨g, 0, none⟩) n cap) n (flat nf (s.set i y)) ∧ i < (s.set i y).length ∧ (s.set i y).getD i ndd = y := by
  have h3 := row_set h (i * 7 + c) u
  rw [flat_setg nf_len ndd c hc u y s i hi (by rw [hx]; exact hy)] at h3
  refine ⟨h3, by rw [List.length_set]; exact hi, ?_⟩
  rw [List.getD_eq_getElem?_getD, List.getElem?_set_self hi]
  rfl
/-- A node written over. -/
theorem row_node {W : World} {B g n cap i : Nat} {s : List Nd} (h : W.ownsRow B 65 7 (.slice (some ⟨g, 0, none⟩) n cap) n (flat nf s)) (hi : i < s.length) (y : Nd) :
    ∃ s', s'.length = s.length ∧ (W.setCells g (i * 7) (nf y)).ownsRow B 65 7 (.slice (some ⟨g, 0, none⟩) n cap) n (flat nf s') ∧ W.grownBy (W.setCells g (i * 7) (nf y)) (some g) := by
  obtain ⟨x, hx⟩ : ∃ x, s.getD i ndd = x := ⟨_, rfl⟩
  have hs : ∀ r, (some g : Option Nat) = some r → (some g : Option Nat) = some r ∨ W.heap.size ≤ r := fun r h => .inl h
  obtain ⟨a0, b0, c0⟩ := row_step h hi (c := 0) (by decide) (.string y.nm) x ⟨y.nm, x.nd, x.fd, x.fr, x.tt, x.kd, x.lf⟩ hx rfl
  obtain ⟨a1, b1, c1⟩ := row_step a0 b0 (c := 1) (by decide) (.bool y.nd) _ ⟨y.nm, y.nd, x.fd, x.fr, x.tt, x.kd, x.lf⟩ c0 rfl
  obtain ⟨a2, b2, c2⟩ := row_step a1 b1 (c := 2) (by decide) (.string y.fd) _ ⟨y.nm, y.nd, y.fd, x.fr, x.tt, x.kd, x.lf⟩ c1 rfl
  obtain ⟨a3, b3, c3⟩ := row_step a2 b2 (c := 3) (by decide) (.int .i64 y.fr) _ ⟨y.nm, y.nd, y.fd, y.fr, x.tt, x.kd, x.lf⟩ c2 rfl
  obtain ⟨a4, b4, c4⟩ := row_step a3 b3 (c := 4) (by decide) (.int .i64 y.tt) _ ⟨y.nm, y.nd, y.fd, y.fr, y.tt, x.kd, x.lf⟩ c3 rfl
  obtain ⟨a5, b5, c5⟩ := row_step a4 b4 (c := 5) (by decide) (.int .i64 y.kd) _ ⟨y.nm, y.nd, y.fd, y.fr, y.tt, y.kd, x.lf⟩ c4 rfl
  obtain ⟨a6, b6, c6⟩ := row_step a5 b5 (c := 6) (by decide) (.int .i64 y.lf) _ ⟨y.nm, y.nd, y.fd, y.fr, y.tt, y.kd, y.lf⟩ c5 rfl
  refine ⟨_, ?_, a6, ?_⟩
  · simp only [List.length_set]
  · exact grown_to (grown_to (grown_to (grown_to (grown_to (grown_to grown_set grown_set hs) grown_set hs) grown_set hs) grown_set hs) grown_set hs) grown_set hs
theorem row_there {W : World} {B g n cap i : Nat} {s : List Nd} (h : W.ownsRow B 65 7 (.slice (some ⟨g, 0, none⟩) n cap) n (flat nf s)) (hi : i < s.length) : W.there g (i * 7) 7 := fun j hj => by
  refine ⟨?_, row_froz h _⟩
  have hl : i * 7 + j < (flat nf s).length := by rw [flat_len nf_len]; omega
  rw [row_at h (i * 7 + j) _ (List.getElem?_eq_getElem hl)]
  rfl
def spl (i : Nat) : Nd := ⟨⟨#[115, 112, 111, 105, 108, 116]⟩, false, ⟨#[]⟩, 0, 0, -7, (i : Int)⟩
def mor : Nd := ⟨⟨#[109, 111, 114, 101]⟩, false, ⟨#[]⟩, 0, 0, 0, 0⟩
set_option maxRecDepth 100000 in
set_option maxHeartbeats 8000000 in
/-- spoil: the row keeps its length, nothing else is touched. -/
theorem spoil_any {B : Nat} {v : Value} {t : List Nd} (w : World) (h : w.ownsRow B 65 7 v t.length (flat nf t)) (hB : B ≤ w.heap.size) (hs : t.length ≤ 1073741824) :
    Calls Try.prog 10 #[v] w fun e w' => (∃ x, e = .returned x) ∧ ∃ s : List Nd, s.length = t.length ∧ w'.ownsRow B 65 7 v s.length (flat nf s) ∧ w.grownBy w' v.ownBlock := by
  obtain ⟨iN, hiN, hx0, hx1, hx2⟩ := info_parts infoNd
  obtain ⟨av, cap, rfl⟩ := row_shape h
  obtain ⟨n, hn⟩ : ∃ n, t.length = n := ⟨_, rfl⟩
  have HO : Hid (w.ownsRow B 65 7 (.slice av n cap) n (flat nf t)) := by rw [hn] at h; exact h
  have HN : Hid (t.length = n) := hn
  have HS : Hid (n ≤ 1073741824) := by rw [← hn]; exact hs
  have HBS : Hid (B ≤ w.heap.size) := hB
  rw [hn]
  clear h hn hs hB
  go_enter Try.func10, Try.ntmps10
  go_upto_region 1 with fail
  go_loopg [2] n (fun gm v2 wr => ∃ (i : Nat) (s : List Nd), v2 = .int .i64 (i : Int) ∧ Hid (gm = n - i ∧ i ≤ n) ∧ Hid (s.length = n) ∧ Hid (wr.ownsRow B 65 7 (.slice av n cap) n (flat nf s)) ∧ Hid (w.grownBy wr (Value.slice av n cap).ownBlock))
  case atStart => exact ⟨0, t, rfl, ⟨rfl, Nat.zero_le _⟩, HN.out, HO.out, grown_ref _ _⟩
  case round =>
    obtain ⟨i, s, rfl, HI, HSL, HR, HG⟩ := hrel
    by_cases hi : i < n
    · have e1 : decide ((i : Int) < (n : Int)) = true := by rw [decide_eq_true_eq]; omega
      have e2 : decide (i < n) = true := by rw [decide_eq_true_eq]; omega
      have e3 : (i : Int) < (n : Int) := by omega
      have HIM : Hid (i < n) := hi
      have hwi := w64n i (by have := HS.out; omega)
      obtain ⟨g, c, hv, -, -, -⟩ := row_form HR.out (by omega)
      cases hv
      have hsz : (Try.prog.info? 65).map (·.size) = some 7 := by kernel_rfl
      have HTH : Hid (wr.there g (i * 7) 7) := row_there HR.out (by have := HSL.out; omega)
      have HND : Hid (∃ s', s'.length = s.length ∧ (wr.setCells g (i * 7) (nf (spl i))).ownsRow B 65 7 (.slice (some ⟨g, 0, none⟩) n cap) n (flat nf s') ∧ wr.grownBy (wr.setCells g (i * 7) (nf (spl i))) (some g)) := row_node HR.out (by have := HSL.out; omega) (spl i)
      clear hi
      go_wp2_with (refine wpList_store_mid rfl 65 _ _ rfl g (i * 7) #[.string ⟨#[115, 112, 111, 105, 108, 116]⟩, .bool false, .string ⟨#[]⟩, .int .i64 0, .int .i64 0, .int .i64 (-7), .int .i64 (i : Int)] rfl rfl HTH.out hsz (all_oneCell_toArray (nf_one (spl i))) ?_; obtain ⟨W2, hW2⟩ : ∃ W2, wr.setCells g (i * 7) (nf (spl i)) = W2 := ⟨_, rfl⟩; have HW2 : Hid (∃ s', s'.length = s.length ∧ W2.ownsRow B 65 7 (.slice (some ⟨g, 0, none⟩) n cap) n (flat nf s') ∧ wr.grownBy W2 (some g)) := (by have h7 := HND.out; rw [hW2] at h7; exact h7); refine (show wpList _ _ _ _ _ (wr.setCells g (i * 7) (nf (spl i))) from ?_); rw [hW2]; clear hW2 HND HTH)
      go_roundg (n - (i + 1))
      case measure => have := HI.out.1; have := HIM.out; omega
      case rel =>
        obtain ⟨s', h1, h2, h3⟩ := HW2.out
        exact ⟨i + 1, s', by first | rfl | (rw [show (i : Int) + 1 = ((i + 1 : Nat) : Int) by omega]), ⟨rfl, HIM.out⟩, h1.trans HSL.out, h2, grown_to HG.out h3 (fun r h => .inl h)⟩
    · have e1 : decide ((i : Int) < (n : Int)) = false := by rw [decide_eq_false_iff_not]; omega
      have e2 : decide (i < n) = false := by rw [decide_eq_false_iff_not]; omega
      clear hi HO HN HI
      go_upto_region 6 with fail
      go_loopg [3, 4] 40 (fun gm v3 v4 wr => ∃ (j : Nat) (ys : List Value), v4 = .int .i64 (j : Int) ∧ Hid (gm = 40 - j ∧ j ≤ 40) ∧ Hid (wr.ownsRow B 65 7 v3 (n + j) (flat nf s ++ ys)) ∧ Hid (∀ r, v3.ownBlock = some r → (Value.slice av n cap).ownBlock = some r ∨ w.heap.size ≤ r) ∧ Hid (wr.ownsRow B 65 7 (.slice av n cap) n (flat nf s)) ∧ Hid (w.grownBy wr (Value.slice av n cap).ownBlock))
      case atStart => exact ⟨0, [], rfl, ⟨rfl, Nat.zero_le _⟩, by show World.ownsRow _ _ _ _ _ _ _; rw [List.append_nil]; exact HR.out, fun r h => .inl h, HR.out, HG.out⟩
      case round =>
        obtain ⟨j, ys, rfl, HI, HM, HX, HV, HG⟩ := hrel
        by_cases hi : j < 40
        · have e1 : decide ((j : Int) < 40) = true := by rw [decide_eq_true_eq]; omega
          have e2 : decide (j < 40) = true := by rw [decide_eq_true_eq]; omega
          have e3 : (j : Int) < 40 := by omega
          have HIM : Hid (j < 40) := hi
          have hwi := w64n j (by omega)
          have HFIT : Hid (n + j + 1 ≤ maxLen ∧ Builtin.nextslicecap (n + j + 1) (n + j) * 72 ≤ 281474976710656) := ⟨by have := HS.out; unfold maxLen; omega, by have h7 := cap_fit (n + j) (by have := HS.out; omega); omega⟩
          obtain ⟨oa, oc, hv⟩ := row_shape HM.out
          subst hv
          have HM5 : Hid ((wr.alloc (.cells #[.string ⟨#[109, 111, 114, 101]⟩, .bool false, .string ⟨#[]⟩, .int .i64 0, .int .i64 0, .int .i64 0, .int .i64 0] 65)).ownsRow B 65 7 (.slice oa (n + j) oc) (n + j) (flat nf s ++ ys)) := row_up HM.out (bel_up _ _)
          have HV5 : Hid ((wr.alloc (.cells #[.string ⟨#[109, 111, 114, 101]⟩, .bool false, .string ⟨#[]⟩, .int .i64 0, .int .i64 0, .int .i64 0, .int .i64 0] 65)).ownsRow B 65 7 (.slice av n cap) n (flat nf s)) := row_up HV.out (bel_up _ _)
          have HCW : Hid (∀ k u, (nf mor)[k]? = some u → (wr.alloc (.cells #[.string ⟨#[109, 111, 114, 101]⟩, .bool false, .string ⟨#[]⟩, .int .i64 0, .int .i64 0, .int .i64 0, .int .i64 0] 65)).cell? (Addr.add ⟨wr.heap.size, 0, none⟩ k) = some u) := World.news_of_block (heap_new _ _)
          have HG5 : Hid (w.grownBy (wr.alloc (.cells #[.string ⟨#[109, 111, 114, 101]⟩, .bool false, .string ⟨#[]⟩, .int .i64 0, .int .i64 0, .int .i64 0, .int .i64 0] 65)) (Value.slice av n cap).ownBlock) := grown_to HG.out (row' := none) ⟨rfl, rfl, rfl, by simp, fun k hk _ => Below.heap_alloc wr _ k hk⟩ (fun r h => by cases h)
          have HSZ5 : Hid (B ≤ (wr.alloc (.cells #[.string ⟨#[109, 111, 114, 101]⟩, .bool false, .string ⟨#[]⟩, .int .i64 0, .int .i64 0, .int .i64 0, .int .i64 0] 65)).heap.size ∧ w.heap.size ≤ (wr.alloc (.cells #[.string ⟨#[109, 111, 114, 101]⟩, .bool false, .string ⟨#[]⟩, .int .i64 0, .int .i64 0, .int .i64 0, .int .i64 0] 65)).heap.size) := ⟨Nat.le_trans HBS.out HG5.out.size, HG5.out.size⟩
          clear hi HM HV HG
          go_wp2_with (at_builtin; refine wpList_append_still _ rfl _ _ 44 rfl B 65 iN _ 7 72 Try.underlying44 hiN hx0 hx1 hx2 rfl (.slice oa (n + j) oc) (n + j) (flat nf s ++ ys) rfl HM5.out ⟨wr.heap.size, 0, none⟩ 1 (nf mor) rfl rfl HCW.out (nf_one mor) HFIT.out.1 HFIT.out.2 HSZ5.out.1 ?_; intro v6 w6 ho6 hg6 hb6 hs6; have HM6 : Hid (w6.ownsRow B 65 7 v6 (n + j + 1) (flat nf s ++ ys ++ nf mor)) := ho6; have HX6 : Hid (∀ r, v6.ownBlock = some r → (Value.slice av n cap).ownBlock = some r ∨ w.heap.size ≤ r) := (fun r hr => by rcases hb6 with q | q; exact HX.out r (q.symm.trans hr); rw [q] at hr; cases hr; exact .inr HSZ5.out.2); have HV6 : Hid (w6.ownsRow B 65 7 (.slice av n cap) n (flat nf s)) := row_still (by decide) HV5.out HM5.out hs6 hg6; have HG6 : Hid (w.grownBy w6 (Value.slice av n cap).ownBlock) := grown_to HG5.out hg6 HX.out; obtain ⟨ra, rc, rfl⟩ := row_shape ho6; clear ho6 hg6 hb6 hs6 HM5 HV5 HG5 HSZ5 HCW HX)
          go_roundg (40 - (j + 1))
          case measure => have := HI.out.1; have := HIM.out; omega
          case rel => exact ⟨j + 1, ys ++ nf mor, by first | rfl | (rw [show (j : Int) + 1 = ((j + 1 : Nat) : Int) by omega]), ⟨rfl, HIM.out⟩, by show World.ownsRow _ _ _ _ _ _ _; rw [← List.append_assoc]; exact HM6.out, HX6.out, HV6.out, HG6.out⟩
        · have e1 : decide ((j : Int) < 40) = false := by rw [decide_eq_false_iff_not]; omega
          have e2 : decide (j < 40) = false := by rw [decide_eq_false_iff_not]; omega
          have HE : Hid (∃ s : List Nd, s.length = n ∧ wr.ownsRow B 65 7 (.slice av n cap) s.length (flat nf s) ∧ w.grownBy wr (Value.slice av n cap).ownBlock) := ⟨s, HSL.out, by rw [HSL.out]; exact HV.out, HG.out⟩
          clear hi HI HM HX HV HG
          go_wp2_with fail
          (try simp only [Exit.inBlock, Exit.then])
          refine bodyPost_end (results_none rfl _ _ _) rfl ?_
          exact ⟨⟨_, rfl⟩, HE.out⟩
end Go.Proofs.Ytcfmpmhdjkchjab
