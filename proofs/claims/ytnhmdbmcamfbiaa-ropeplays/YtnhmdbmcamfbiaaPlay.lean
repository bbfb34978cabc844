import Derived.Test.YtnhmdbmcamfbiaaBook
namespace Go.Proofs.Ytnhmdbmcamfbiaa
open Go.RowKit

def pickv (q : Int) (n : Nat) : Nat := if q.tmod n < 0 then (q.tmod n + n).toNat else (q.tmod n).toNat
theorem pickv_lt (q : Int) (n : Nat) (hn : 0 < n) : pickv q n < n := by
  have h := tmod_bd q n hn
  unfold pickv
  split <;> omega
set_option maxRecDepth 100000 in
set_option maxHeartbeats 400000 in
theorem pick_at (q : Int) (n : Nat) (w : World) (hn : 0 < n) (hn2 : n ≤ 1000000000000000) :
    Calls Try.prog 25 #[.int .i64 q, .int .i64 (n : Int)] w fun e w' => e = .returned (.int .i64 (pickv q n : Int)) ∧ w = w' := by
  have hz : ((n : Int) == 0) = false := by rw [beq_eq_false_iff_ne]; omega
  have hb := tmod_bd q n hn
  have hb1 := hb.1
  have hb2 := hb.2
  clear hb
  by_cases hs : q.tmod n < 0
  · have hv : Hid (pickv q n = (q.tmod n + n).toNat) := by unfold pickv; rw [if_pos hs]; exact rfl
    go_enter Try.func25, Try.ntmps25
    go_wp2_with fail
    go_ret
    exact ⟨ret_int (by have := hv.out; omega), rfl⟩
  · have hv : Hid (pickv q n = (q.tmod n).toNat) := by unfold pickv; rw [if_neg hs]; exact rfl
    have hs' : 0 ≤ q.tmod n := by omega
    clear hs
    go_enter Try.func25, Try.ntmps25
    go_wp2_with fail
    go_ret
    exact ⟨ret_int (by have := hv.out; omega), rfl⟩

theorem Bk.moves {w0 w w' : World} {k : Nat} {rv mv cv kv : Value} {R M : List (Nat × ByteArray)} {C K : List (Nat × ByteArray × Nat × Nat)} {j c r p f p' f' : Nat} {s : ByteArray} (h : Bk w0 w k rv mv cv kv R M C K)
    (hC : C[j]? = some (c, s, p, f)) (hK : K[j]? = some (r, s, p, f)) (T : Turned c r w w') (h1 : IsCur w' c s.data.toList p' f') (h2 : ReaderAt w' r s p' f') :
    Bk w0 w' k rv mv cv kv R M (C.set j (c, s, p', f')) (K.set j (r, s, p', f')) := by
  have mC := List.mem_of_getElem? hC
  have mK := List.mem_of_getElem? hK
  have ic := h.con.c _ mC
  have ir := h.con.k _ mK
  have nc := ic.noBranch
  have nr := ir.noBranch
  obtain ⟨y, hy⟩ := ic.tag
  have tc := tags_of hy
  have tr := tags_of ir.heap
  have lC : (C.set j (c, s, p', f')).map (·.1) = C.map (·.1) := by
    rw [List.map_set]
    refine List.ext_getElem? fun i => ?_
    rw [List.getElem?_set]
    split
    · rename_i e
      subst e
      rw [List.getElem?_map, hC]
      split <;> simp_all
    · rfl
  have lK : (K.set j (r, s, p', f')).map (·.1) = K.map (·.1) := by
    rw [List.map_set]
    refine List.ext_getElem? fun i => ?_
    rw [List.getElem?_set]
    split
    · rename_i e
      subst e
      rw [List.getElem?_map, hK]
      split <;> simp_all
    · rfl
  have memC : ∀ x ∈ C.set j (c, s, p', f'), x = (c, s, p', f') ∨ (x ∈ C ∧ x.1 ≠ c) := by
    intro x hx
    obtain ⟨i, hi⟩ := List.getElem?_of_mem hx
    rw [List.getElem?_set] at hi
    split at hi
    · split at hi
      · left; simpa using hi.symm
      · simp at hi
    · rename_i hne
      refine Or.inr ⟨List.mem_of_getElem? hi, fun e => hne ?_⟩
      refine (List.getElem?_inj (by rw [List.length_map]; exact (List.getElem?_eq_some_iff.1 hC).1) h.con.nc).1 ?_
      rw [List.getElem?_map, List.getElem?_map, hC, hi]; simp [e]
  have memK : ∀ x ∈ K.set j (r, s, p', f'), x = (r, s, p', f') ∨ (x ∈ K ∧ x.1 ≠ r) := by
    intro x hx
    obtain ⟨i, hi⟩ := List.getElem?_of_mem hx
    rw [List.getElem?_set] at hi
    split at hi
    · split at hi
      · left; simpa using hi.symm
      · simp at hi
    · rename_i hne
      refine Or.inr ⟨List.mem_of_getElem? hi, fun e => hne ?_⟩
      refine (List.getElem?_inj (by rw [List.length_map]; exact (List.getElem?_eq_some_iff.1 hK).1) h.con.nk).1 ?_
      rw [List.getElem?_map, List.getElem?_map, hK, hi]; simp [e]
  refine ⟨by rw [T.block k (lt_of_heap h.book) (tc.ne h.book (by decide)) (tr.ne h.book (by decide))]; exact h.book, h.old, own_turned h.or_ T tc tr (by decide) (by decide), own_turned h.om T tc tr (by decide) (by decide), ?_, ?_, h.pr, h.pm, by rw [List.length_set]; exact h.zc, by rw [List.length_set]; exact h.zk, ⟨?_, ?_, ?_, ?_, ?_, ?_, by rw [lC]; exact h.con.nc, by rw [lK]; exact h.con.nk, below_turned h.con.below T (h.con.oc _ mC) (h.con.ok _ mK)⟩⟩
  · rw [lC, List.length_set]
    exact own_turned h.oc T tc tr (by decide) (by decide)
  · rw [lK, List.length_set]
    exact own_turned h.ok T tc tr (by decide) (by decide)
  · intro x hx
    have := h.con.r x hx
    obtain ⟨y, hy⟩ := this.tag
    exact this.turned T nc nr (tc.ne hy (by decide)) (tr.ne hy (by decide))
  · intro x hx
    have := h.con.m x hx
    exact this.turned T (tc.ne this.heap (by decide)) (tr.ne this.heap (by decide))
  · intro x hx
    rcases memC x hx with rfl | ⟨hx, hne⟩
    · exact h1
    · have := h.con.c x hx
      obtain ⟨y, hy⟩ := this.tag
      exact this.turned T nc nr hne (tr.ne hy (by decide))
  · intro x hx
    rcases memK x hx with rfl | ⟨hx, hne⟩
    · exact h2
    · have := h.con.k x hx
      exact this.turned T (tc.ne this.heap (by decide)) hne
  · intro x hx
    rcases memC x hx with rfl | ⟨hx, hne⟩
    · exact h.con.oc (c, s, p, f) mC
    · exact h.con.oc _ hx
  · intro x hx
    rcases memK x hx with rfl | ⟨hx, hne⟩
    · exact h.con.ok (r, s, p, f) mK
    · exact h.con.ok _ hx

/-- the book behind n steps at most -/
def Full (w0 w : World) (k n : Nat) : Prop :=
  ∃ rv mv cv kv R M C K, Bk w0 w k rv mv cv kv R M C K ∧ R.map (·.2) = M.map (·.2) ∧ C.map (·.2) = K.map (·.2) ∧ R.length ≤ n + 1 ∧ C.length ≤ n

theorem same_len {α β : Type} {A B : List (α × β)} (h : A.map (·.2) = B.map (·.2)) : A.length = B.length := by
  have := congrArg List.length h
  simpa using this
theorem same_at {α β : Type} {A B : List (α × β)} (h : A.map (·.2) = B.map (·.2)) {p : Nat} (hp : p < A.length) : ∃ a b y, A[p]? = some (a, y) ∧ B[p]? = some (b, y) := by
  have hl := same_len h
  have e := congrArg (fun l => l[p]?) h
  simp only [List.getElem?_map] at e
  rw [List.getElem?_eq_getElem hp, List.getElem?_eq_getElem (by omega)] at e
  simp at e
  exact ⟨A[p].1, B[p].1, A[p].2, by rw [List.getElem?_eq_getElem hp], by rw [List.getElem?_eq_getElem (by omega), e]⟩

end Go.Proofs.Ytnhmdbmcamfbiaa
