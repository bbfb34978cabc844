import Derived.Test.YtcmhbcfgikmblabGreatDoorQfo
namespace Go.Proofs.YtcmhbcfgikmblabGreatDoor.Qy
open Go.RowKit Go.Maps

/-- A row that came in is appended to an empty list that was made for it. -/
theorem wpList_twin {P : Program} (w0 : World) {ops : Array Oper} {rest : List Oper} {o : Oper} {a : Act} {Q : Exit → Act → World → Prop} (hgd : o.guard = none) (s x : Operand) (t : TypeId)
    (ho : o.op = .call { callee := .builtin .append, args := #[s, x], argTypes := #[t, t] })
    (e : TypeId) (i : TypeInfo) (z : Value) (size bytes : Nat) (ht : P.underlying t = some (.slice e)) (hi : P.info? e = some i) (hz : i.zero = some z)
    (hsize : i.size = size) (hby : i.bytes = bytes) (hzs : z.cells.size = size) (hsz : 0 < size)
    (v : Value) (m : Nat) (cs : List Value) (hs : a.eval s = .slice (some ⟨w0.heap.size, 0, none⟩) 0 0) (hx : a.eval x = v) (hr : Rw w0 v m cs) (hl : cs.length = m * size) (h1 : ∀ u ∈ cs, u.oneCell' = true)
    (h63 : m ≤ maxLen) (hbytes : m * bytes ≤ 140737488355328)
    (h : ∀ v' w', w'.ownsRow w0.heap.size e size v' m cs → Below w0.heap.size w0 w' → wpList P ops Q rest (a.put o.dst v') w') : wpList P ops Q (o :: rest) a (w0.alloc (.cells #[] e)) := by
  have hn : (w0.alloc (.cells #[] e)).ownsRow w0.heap.size e size (.slice (some ⟨w0.heap.size, 0, none⟩) 0 0) 0 [] := ⟨by simp, .inr ⟨w0.heap.size, 0, #[], rfl, Nat.le_refl _, heap_new w0 _, Nat.le_refl _, by unfold maxLen; omega, by simp, by simp⟩⟩
  have hB : w0.heap.size ≤ (w0.alloc (.cells #[] e)).heap.size := (bel_up _ _).size
  obtain ⟨ao, g, of, cap, rfl, hcap, ha0, ha1, hc⟩ := hr.up (bel_up w0 (.cells #[] e))
  cases ao with
  | none =>
    obtain ⟨rfl, rfl⟩ := ha0 rfl
    have : cs = [] := List.length_eq_zero_iff.1 (by omega)
    subst this
    exact wpList_append_own_none hgd s x t ho w0.heap.size e i size ht hi _ 0 [] hs hn hx (h _ _ hn (bel_up _ _))
  | some ad =>
    refine wpList_append_own _ hgd s x t ho w0.heap.size e i z size bytes ht hi hz hsize hby hzs hsz _ 0 [] hs hn ad m cap cs hx hl (fun j u hu => ?_) h1 (by omega) (by rw [Nat.zero_add]; exact hbytes) hB (fun v' w' h2 h3 _ => h v' w' (by rw [Nat.zero_add, List.nil_append] at h2; exact h2) ((bel_up w0 (.cells #[] e)).grown h3 hB (fun r e' => (row_tag hn r e').1)))
    have hj : j < cs.length := (List.getElem?_eq_some_iff.1 hu).1
    have hm : 0 < m := by
      rcases Nat.eq_zero_or_pos m with h | h
      · subst h; omega
      · exact h
    obtain rfl := Option.some.inj (ha1 hm)
    rw [addPl]
    exact hc j u hu
set_option maxRecDepth 100000 in
theorem eq_nil (f n : Nat) (w : World) : Sem.run Tryz.prog (binOp BinOp.eql 34 (.slice (some ⟨f, 0, none⟩) n n) (.slice none 0 0)) w = .ok (.bool false) w := by kernel_rfl
set_option maxRecDepth 100000 in
set_option maxHeartbeats 4000000 in
theorem clone_ints {f n : Nat} {F : List Int} (w : World) (h : Fd w f F) (hn : F.length = n) (hz : n ≤ 32) : Calls Tryz.prog 23 #[.slice (some ⟨f, 0, none⟩) n n] w fun e w' => ∃ v', e = .returned v' ∧ w'.ownsRow w.heap.size 3 1 v' n (iC F) ∧ Below w.heap.size w w' := by
  obtain ⟨iI, hiI, hx0, hx1, hx2⟩ := info_parts infoI
  have HR : Hid (Rw w (.slice (some ⟨f, 0, none⟩) n n) n (iC F)) := ⟨_, f, 0, n, rfl, Nat.le_refl _, (fun h => by cases h), (fun _ => rfl), (fun j u hu => by rw [Nat.zero_add, Lib.cell_of_heap h]; simpa using hu)⟩
  have HL : Hid ((iC F).length = n * 1) := by show _ = _; rw [iC_len, hn]
  have HO : Hid (∀ u ∈ iC F, u.oneCell' = true) := iC_one F
  have HZ : Hid (n ≤ 32) := hz
  obtain ⟨cs, hc⟩ : ∃ cs, iC F = cs := ⟨_, rfl⟩
  rw [hc] at HR HL HO ⊢
  have hEQ := eq_nil f n w
  clear h hn hz hc
  go_enter Tryz.func23, Tryz.ntmps23
  go_wp2_with (at_builtin; refine wpList_twin w rfl (.tmp 5) (.tmp 6) 34 rfl 3 iI _ 1 8 Tryz.underlying34 hiI hx0 hx1 hx2 rfl (by decide) (.slice (some ⟨f, 0, none⟩) n n) n cs rfl rfl HR.out HL.out HO.out (by have := HZ.out; unfold maxLen; omega) (by have := HZ.out; omega) ?_; intro v' w' ho hb; have HW : Hid (w'.ownsRow w.heap.size 3 1 v' n cs) := ho; have HB : Hid (Below w.heap.size w w') := hb; clear ho hb)
  go_ret
  exact ⟨_, rfl, HW.out, HB.out⟩
end Go.Proofs.YtcmhbcfgikmblabGreatDoor.Qy
