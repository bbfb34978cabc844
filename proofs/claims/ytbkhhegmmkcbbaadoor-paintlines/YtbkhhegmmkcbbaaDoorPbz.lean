import Derived.Test.YtbkhhegmmkcbbaaDoorPby
namespace Go.Proofs.YtbkhhegmmkcbbaaDoor
open Go.RowKit Go.Maps

section
variable {P : Program} {ops : Array Oper} {rest : List Oper} {o : Oper} {a : Act} {w : World} {Q : Exit → Act → World → Prop}
theorem wpList_look (hg : o.guard = none) (m x : Operand) (t : TypeId) (hop : o.op = Op.lookup t m x true) (mv key v : Value) (hm : a.eval m = mv) (hx : a.eval x = key) (hrun : (Instr.lookup t mv key true).run P w = .ok v w)
    (h : wpList P ops Q rest (a.put o.dst v) w) : wpList P ops Q (o :: rest) a w := by
  refine wpList_plain hg fun K' hK' => ?_
  unfold Oper.wp
  simp [execOp, hop, hm, hx, hrun, Result.andThen]
  exact hK' _ _ h
theorem wpList_upd (hg : o.guard = none) (m x y : Operand) (t : TypeId) (hop : o.op = Op.mapUpdate t m x y) (mv key v : Value) (w' : World) (hm : a.eval m = mv) (hx : a.eval x = key) (hy : a.eval y = v) (hrun : (Instr.mapUpdate t mv key v).run P w = .ok () w')
    (h : wpList P ops Q rest (a.put o.dst undef) w') : wpList P ops Q (o :: rest) a w := by
  refine wpList_plain hg fun K' hK' => ?_
  unfold Oper.wp
  simp [execOp, hop, hm, hx, hy, hrun, Result.andThen]
  exact hK' _ _ h
end
theorem fs_hit {L : List Pa} {i : Nat} (h : i < L.length) {k : Nat} (hk : fs (L.take i) (L.getD i paz).nm = some k) : fs (L.take (i + 1)) = fs (L.take i) := by
  funext t
  rw [fs_step L i h]
  cases hq : fs (L.take i) t with
  | some k => rfl
  | none =>
    have : (L.getD i paz).nm ≠ t := fun e => by rw [e, hq] at hk; cases hk
    rw [if_neg this]
theorem fs_miss {L : List Pa} {i : Nat} (h : i < L.length) (hk : fs (L.take i) (L.getD i paz).nm = none) : fs (L.take (i + 1)) = mput (fs (L.take i)) (L.getD i paz).nm i := by
  funext t
  rw [fs_step L i h]
  unfold mput
  by_cases e : t = (L.getD i paz).nm
  · rw [if_pos e, e, hk, if_pos rfl]
  · rw [if_neg e]
    cases hq : fs (L.take i) t with
    | some k => rfl
    | none => rw [if_neg (fun h => e h.symm)]
set_option maxRecDepth 100000 in
set_option maxHeartbeats 8000000 in
theorem byName_any {v : Value} {L : List Pa} (w : World) (h : Pl w v L) (hs : L.length * 32 ≤ 140737488355328) (hz : ∀ x ∈ L, x.nm.size ≤ maxLen) : Calls Tryd.prog 16 #[v] w fun e w' => ∃ b m, e = .returned (.map (some b)) ∧ Mq w' b m (fs L) ∧ Below w.heap.size w w' := by
  have hmm := @run_makeMap Tryd.prog
  have HT : Hid (Pl w v L) := h
  have HZ : Hid (∀ x ∈ L, x.nm.size ≤ maxLen) := hz
  obtain ⟨a, cap, rfl⟩ := h.form
  obtain ⟨n, hn⟩ : ∃ n, L.length = n := ⟨_, rfl⟩
  rw [hn] at HT ⊢
  have HN : Hid (L.length = n) := hn
  have HS : Hid (n * 32 ≤ 140737488355328) := by rw [← hn]; exact hs
  clear h hs hz hn
  go_enter Tryd.func16, Tryd.ntmps16
  go_upto_region 3 with fail
  obtain ⟨W1, hW1⟩ : ∃ W1, W1 = w.alloc (.map #[] 0) := ⟨_, rfl⟩
  have HM1 : Hid (Mq W1 w.heap.size 0 (fs (L.take 0))) := by rw [hW1]; exact Mq.made w
  have HB1 : Hid (Below w.heap.size w W1) := by rw [hW1]; exact bel_up _ _
  obtain ⟨b, hb⟩ : ∃ b, w.heap.size = b := ⟨_, rfl⟩
  have HBB : Hid (w.heap.size = b) := hb
  rw [← hW1]
  rw [hb] at HM1 HB1 ⊢
  clear hW1 hb
  go_loopg [11] n (fun gm v11 wr => ∃ i m : Nat, v11 = .int .i64 (i : Int) ∧ Hid (i ≤ n ∧ gm = n - i ∧ m ≤ i) ∧ Hid (Mq wr b m (fs (L.take i))) ∧ Hid (Below b w wr))
  case atStart => exact ⟨0, 0, rfl, ⟨Nat.zero_le _, rfl, Nat.le_refl _⟩, HM1, HB1⟩
  case round =>
    clear HM1 HB1
    obtain ⟨i, m, rfl, HI, HM, HB⟩ := hrel
    by_cases hi : i < n
    · have e1 : decide ((i : Int) < (n : Int)) = true := by rw [decide_eq_true_eq]; omega
      have e2 : decide (i < n) = true := by rw [decide_eq_true_eq]; omega
      have e3 : (i : Int) < (n : Int) := by omega
      have HIL : Hid (i < n) := hi
      have hil : i < L.length := by rw [HN.out]; exact hi
      have HIT : Hid (i < L.length) := hil
      obtain ⟨g, o, rfl, hc⟩ := HT.out.two i hil
      obtain ⟨c0, c1⟩ := hc wr (by rw [HBB.out]; exact HB.out)
      have HSZ : Hid ((L.getD i paz).nm.size ≤ maxLen) := HZ.out _ (by rw [List.getD_eq_getElem?_getD, List.getElem?_eq_getElem hil]; exact List.getElem_mem hil)
      obtain ⟨x, hx⟩ : ∃ x, L.getD i paz = x := ⟨_, rfl⟩
      have HX : Hid (L.getD i paz = x) := hx
      rw [hx] at c0 c1 HSZ
      have hwi := w64n i (by have := HS.out; omega)
      obtain ⟨W2, hW2⟩ : ∃ W2, W2 = wr.alloc (.cells #[.string x.nm, .string x.cl] 27) := ⟨_, rfl⟩
      clear hi hil hx hc
      go_upto_region 5 with fail
      rw [← hW2]
      have hn2 : W2.heap[wr.heap.size]? = some (.cells #[.string x.nm, .string x.cl] 27 (0, 0)) := by rw [hW2]; exact heap_new wr _
      have HB2 : Hid (Below wr.heap.size wr W2) := by rw [hW2]; exact bel_up _ _
      obtain ⟨pb, hpb⟩ : ∃ pb, wr.heap.size = pb := ⟨_, rfl⟩
      have HPB : Hid (wr.heap.size = pb) := hpb
      rw [hpb] at hn2 ⊢
      have t0 := rcell hn2 0 _ rfl
      have HM2 : Hid (Mq W2 b m (fs (L.take i))) := HM.out.up HB2.out
      have HLK : Hid _ := HM2.out.look HSZ.out
      obtain ⟨F, hF⟩ : ∃ F, fs (L.take i) x.nm = F := ⟨_, rfl⟩
      have HF : Hid (fs (L.take i) x.nm = F) := hF
      rw [hF] at HLK
      clear hW2 hn2 hpb hF c0 c1
      cases F with
      | some k =>
        go_wp2_with (refine wpList_look rfl (.tmp 17) (.tmp 19) 65 rfl _ _ _ rfl rfl HLK.out ?_)
        go_roundg (n - (i + 1))
        case measure => have := HI.out; have := HIL.out; omega
        case rel => exact ⟨i + 1, m, by simp, ⟨HIL.out, rfl, by have := HI.out; omega⟩, by rw [fs_hit HIT.out (k := k) (by rw [HX.out]; exact HF.out)]; exact HM2, by rw [← HBB.out]; exact below_trans (by rw [HBB.out]; exact HB.out) HB2.out⟩
      | none =>
        obtain ⟨W3, hr3, hm3, hg3⟩ := HM2.out.put (by have := HI.out; have := HS.out; have := HIL.out; unfold maxLen; omega) HSZ.out i (by have := HIL.out; have := HS.out; omega)
        have HR3 : Hid _ := hr3
        have HM3 : Hid (Mq W3 b (m + 1) (fs (L.take (i + 1)))) := by rw [fs_miss HIT.out (by rw [HX.out]; exact HF.out), HX.out]; exact hm3
        have HB3 : Hid (Below b w W3) := by
          have h8 : Below b w W2 := by rw [← HBB.out]; exact below_trans (by rw [HBB.out]; exact HB.out) HB2.out
          exact h8.grown hg3 (by have := HM2.out.lt; omega) (fun r hr => by injection hr with hr; omega)
        clear hr3 hm3 hg3
        go_wp2_with first | (refine wpList_look rfl (.tmp 17) (.tmp 19) 65 rfl _ _ _ rfl rfl HLK.out ?_) | (refine wpList_upd rfl (.tmp 25) (.tmp 27) (.tmp 28) 65 rfl _ _ _ W3 rfl rfl rfl HR3.out ?_)
        go_roundg (n - (i + 1))
        case measure => have := HI.out; have := HIL.out; omega
        case rel => exact ⟨i + 1, m + 1, by simp, ⟨HIL.out, rfl, by have := HI.out; omega⟩, HM3, HB3⟩
    · have e1 : decide ((i : Int) < (n : Int)) = false := by rw [decide_eq_false_iff_not]; omega
      have e2 : decide (i < n) = false := by rw [decide_eq_false_iff_not]; omega
      have HE : Hid (L.take i = L) := by show _ = _; rw [List.take_of_length_le (by rw [HN.out]; omega)]
      clear hi
      go_wp2_with fail
      go_ret
      exact ⟨b, m, rfl, by rw [← HE.out]; exact HM.out, by rw [HBB.out]; exact HB.out⟩
end Go.Proofs.YtbkhhegmmkcbbaaDoor
