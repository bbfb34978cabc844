import Derived.Test.YtbkhhegmmkcbbaaDoorPtw
import Derived.Deep.MidRow
namespace Go.Proofs.YtbkhhegmmkcbbaaDoor
open Go.RowKit Go.Maps

def lgA (v : Value) : Array Value := #[.string ⟨#[]⟩, .slice none 0 0, .slice none 0 0, .slice none 0 0, .slice none 0 0, .slice none 0 0, .slice none 0 0, .slice none 0 0, v, .slice none 0 0, .slice none 0 0, .slice none 0 0]
theorem lgA_one (a : Option Addr) (n c : Nat) : (lgA (.slice a n c)).all (·.oneCell') = true := by simp [lgA, Value.oneCell']
theorem bel_cells {B b : Nat} {w : World} (hb : B ≤ b) : ∀ (vs : List Value) (o : Nat) (W : World), Below B w W → Below B w (W.setCells b o vs)
  | [], _, _, h => h
  | v :: vs, o, _, h => bel_cells hb vs (o + 1) _ (Below.setCell h hb v)
theorem row_cells {B b : Nat} {e : TypeId} {size n : Nat} {v : Value} {xs : List Value} (hne : v.ownBlock ≠ some b) : ∀ (vs : List Value) (o : Nat) (W : World), W.ownsRow B e size v n xs → (W.setCells b o vs).ownsRow B e size v n xs
  | [], _, _, h => h
  | _ :: vs, o, _, h => row_cells hne vs (o + 1) _ (h.kept grown_set (.inr hne))
theorem lgSize : (Tryd.prog.info? 46).map (·.size) = some 12 := by kernel_rfl
set_option maxRecDepth 100000 in
set_option maxHeartbeats 4000000 in
theorem lang_any {v : Value} {L : List Pa} (w : World) (h : Pl w v L) (hs : L.length * 32 ≤ 140737488355328) : Calls Tryd.prog 8 #[v] w fun e w' => ∃ v', e = .returned (.agg (lgA v')) ∧ Pl w' v' L ∧ Below w.heap.size w w' := by
  obtain ⟨i3, hi3, hx0, hx1, hx2⟩ := info_parts infoPa
  have HN0 : Hid (Rw w v L.length (flat paf L)) := h
  have HL : Hid ((flat paf L).length = L.length * 2) := flat_len paf_len L
  have HO : Hid (∀ u ∈ flat paf L, u.oneCell' = true) := flat_one paf_one L
  have HZ : Hid (L.length ≤ maxLen ∧ L.length * 32 ≤ 140737488355328) := by show _ ∧ _; unfold maxLen; omega
  obtain ⟨n, hn⟩ : ∃ n, L.length = n := ⟨_, rfl⟩
  obtain ⟨cs, hc⟩ : ∃ cs, flat paf L = cs := ⟨_, rfl⟩
  rw [hc, hn] at HN0 HL
  rw [hc] at HO
  rw [hn] at HZ
  obtain ⟨a, cap, rfl⟩ := HN0.out.form
  have HX : Hid (L.length = n ∧ flat paf L = cs) := ⟨hn, hc⟩
  clear h hs hn hc
  obtain ⟨W1, hW1⟩ : ∃ W1, W1 = w.alloc (.cells (lgA (.slice none 0 0)) 46) := ⟨_, rfl⟩
  have HB1 : Hid (Below w.heap.size w W1) := by rw [hW1]; exact bel_up _ _
  have HH1 : Hid (W1.heap[w.heap.size]? = some (.cells (lgA (.slice none 0 0)) 46 (0, 0))) := by rw [hW1]; exact heap_new w _
  unfold lgA at hW1
  have HN : Hid (Rw W1 (.slice a n cap) n cs) := HN0.out.up HB1.out
  obtain ⟨b, hb⟩ : ∃ b, w.heap.size = b := ⟨_, rfl⟩
  have HBB : Hid (w.heap.size = b) := hb
  rw [hb] at HH1
  go_enter Tryd.func8, Tryd.ntmps8
  go_upto_region 1 with fail
  rw [← hW1]
  clear hW1
  clear hb
  go_wp2_with first | (at_builtin; refine wpList_twin W1 rfl (.tmp 3) (.tmp 4) 22 rfl 27 i3 _ 2 32 Tryd.underlying22 hi3 hx0 hx1 hx2 rfl (by decide) (.slice a n cap) n cs rfl rfl HN.out HL.out HO.out HZ.out.1 HZ.out.2 ?_; intro v' w' ho hb; obtain ⟨va, vc, rfl⟩ := row_shape ho; have HR : Hid (w'.ownsRow W1.heap.size 27 2 (.slice va n vc) n cs) := ho; have HB : Hid (Below W1.heap.size W1 w') := hb; have HTH : Hid (w'.there b 0 12) := (by have hh : w'.heap[b]? = some (.cells (lgA (.slice none 0 0)) 46 (0, 0)) := (hb.block _ (lt_of_heap HH1.out)).trans HH1.out; exact fun j hj => ⟨by rw [Nat.zero_add, Lib.cell_of_heap hh]; simp [lgA, hj], Lib.frozen_of_heap hh _⟩); clear ho hb) | (refine wpList_store_mid rfl 46 (.tmp 2) (.tmp 6) rfl b 0 (lgA (.slice va n vc)) rfl rfl HTH.out lgSize (lgA_one va n vc) ?_; obtain ⟨W2, hW2⟩ : ∃ W2, w'.setCells b 0 (lgA (.slice va n vc)).toList = W2 := ⟨_, rfl⟩; rw [hW2]; have HB2 : Hid (Below w.heap.size w W2) := (by rw [← hW2]; exact bel_cells (by rw [HBB.out]; exact Nat.le_refl _) _ _ _ (below_trans HB1.out HB.out)); have HR2 : Hid (W2.rangeAt b 0 (lgA (.slice va n vc)).toList) := (by rw [← hW2]; exact World.rangeAt_setCells_same _ _ _ _ HTH.out); have HRW : Hid (Pl W2 (.slice va n vc) L) := (by show Rw _ _ _ _; rw [HX.out.1, HX.out.2, ← hW2]; exact row_rw (row_cells (fun e9 => by have h8 := (row_tag HR.out _ e9).1; have h7 := lt_of_heap HH1.out; omega) _ _ _ HR.out) (by decide)); clear hW2)
  refine bodyPost_ret (v := .agg (lgA (.slice va n vc))) ((results_cell1 (fn := Tryd.f8) Tryd.results8 _ _ _).trans ?_) rfl ⟨_, rfl, HRW.out, HB2.out⟩
  have h9 := run_loadVar_mid (P := Tryd.prog) W2 b 0 46 _ _ HR2.out Tryd.underlying46 rfl lgSize
  exact h9
end Go.Proofs.YtbkhhegmmkcbbaaDoor
