import Derived.Test.YtcfmpmhdjkchjabThi
import Derived.Test.YtcfmpmhdjkchjabTsd
import Derived.Test.YtcfmpmhdjkchjabTap
namespace Go.Proofs.Ytcfmpmhdjkchjab
open Go.RowKit Go.Maps

theorem infoSn : (Try.prog.info? 44).map (fun i => (i.zero, i.size, i.bytes)) = some (some (.slice none 0 0), 1, 24) := by kernel_rfl
/-- Lists of nodes, each in a block of the call's own, in a row of the call's own. -/
def Ko (B : Nat) (W : World) (v : Value) (M : List (Value × List Nd)) : Prop :=
  W.ownsRow B 44 1 v M.length (M.map Prod.fst) ∧ ∀ x ∈ M, W.ownsRow B 65 7 x.1 x.2.length (flat nf x.2)
theorem Ko.kr {B : Nat} {W : World} {v : Value} {M : List (Value × List Nd)} (h : Ko B W v M) : Kr W v M :=
  ⟨row_rw h.1 (by decide), fun x hx => row_rw (h.2 x hx) (by decide)⟩
theorem Ko.up {B : Nat} {W W' : World} {v : Value} {M : List (Value × List Nd)} (h : Ko B W v M) (hb : Below W.heap.size W W') : Ko B W' v M :=
  ⟨row_up h.1 hb, fun x hx => row_up (h.2 x hx) hb⟩

set_option maxRecDepth 100000 in
set_option maxHeartbeats 8000000 in
theorem copiedAll_any {v : Value} {L : List (Value × List Nd)} (w : World) (h : Kr w v L) (hn : L.length * 72 + 4096 ≤ 140737488355328) (hs : ∀ x ∈ L, Sm x.2) :
    Calls Try.prog 6 #[v] w fun e w' => ∃ v' M, e = .returned v' ∧ Ko w.heap.size w' v' M ∧ M.map Prod.snd = L.map Prod.snd ∧ Below w.heap.size w w' := by
  obtain ⟨iN, hiN, hx0, hx1, hx2⟩ := info_parts infoSn
  have HK : Hid (Kr w v L) := h
  have HS : Hid (∀ x ∈ L, Sm x.2) := hs
  have HL : Hid (L.length * 72 + 4096 ≤ 140737488355328) := hn
  obtain ⟨a, cap, rfl⟩ := h.t.form
  clear h hs hn
  obtain ⟨n, hn⟩ : ∃ n, L.length = n := ⟨_, rfl⟩
  have HN : Hid (L.length = n) := hn
  rw [hn] at HK HL ⊢
  clear hn
  go_enter Try.func6, Try.ntmps6
  go_upto_region 3 with fail
  go_loopg [3, 4] n (fun gm v3 v4 wr => ∃ (i : Nat) (M : List (Value × List Nd)), v4 = .int .i64 (i : Int) ∧ Hid (gm = n - i ∧ i ≤ n) ∧ Hid (M.length = i) ∧ Hid (M.map Prod.snd = (L.map Prod.snd).take i) ∧ Hid (Ko w.heap.size wr v3 M) ∧ Hid (Below w.heap.size w wr))
  case atStart => exact ⟨0, [], rfl, ⟨rfl, Nat.zero_le _⟩, rfl, rfl, ⟨World.ownsRow_nil _ _ _ _, fun x hx => by cases hx⟩, Below.refl _ _⟩
  case round =>
    obtain ⟨i, M, rfl, HI, HML, HMS, HO, HBW⟩ := hrel
    by_cases hi : i < n
    · have e1 : decide ((i : Int) < (n : Int)) = true := by rw [decide_eq_true_eq]; omega
      have e2 : decide (i < n) = true := by rw [decide_eq_true_eq]; omega
      have e3 : (i : Int) < (n : Int) := by omega
      have HIM : Hid (i < n) := hi
      have hil : i < L.length := by have := HN.out; omega
      obtain ⟨g, o, b, c, rfl, q0, q1, q2⟩ := (HK.out.up HBW.out).at i hil
      have HSM : Hid (Sm (L.getD i krd).2) := HS.out _ (getD_mem L krd i hil)
      have HT : Hid (Ns wr (.slice b (L.getD i krd).2.length c) (L.getD i krd).2) := q2
      have HSN : Hid ((L.map Prod.snd).take (i + 1) = (L.map Prod.snd).take i ++ [(L.getD i krd).2]) := by
        show _ = _
        rw [take_getD (L.map Prod.snd) [] i (by rw [List.length_map]; exact hil), snd_getD L i]
      obtain ⟨t, ht⟩ : ∃ t, (L.getD i krd).2 = t := ⟨_, rfl⟩
      rw [ht] at q1 HT HSM HSN
      obtain ⟨m, hm⟩ : ∃ m, t.length = m := ⟨_, rfl⟩
      have HTW : Hid _ := twin_any HSM.out wr HT.out
      rw [hm] at q1 HT HTW
      have HMM : Hid (t.length = m) := hm
      have hwi := w64n i (by have := HL.out; omega)
      have HFIT : Hid (i + 1 ≤ maxLen ∧ Builtin.nextslicecap (i + 1) i * 24 ≤ 281474976710656) := ⟨by have := HL.out; unfold maxLen; omega, by have h7 := cap_fit i (by have := HL.out; omega); omega⟩
      obtain ⟨oa, oc, hv⟩ := row_shape HO.out.1
      rw [HML.out] at hv
      subst hv
      clear hil q0 q2 ht hm hi
      go_upto_region 6 with (go_at_call 8; refine Calls.mono HTW.out ?_; rintro ee W4 ⟨r, rfl, ho4, hb4⟩; have HB4 : Hid (Below w.heap.size w W4) := below_trans HBW.out hb4; have HO4 : Hid (W4.ownsRow w.heap.size 65 7 r t.length (flat nf t)) := (by rw [HMM.out]; exact row_base ho4 HBW.out.size); have HK4 : Hid (Ko w.heap.size W4 (.slice oa i oc) M) := HO.out.up hb4; obtain ⟨qa, qc, rfl⟩ := row_shape ho4; clear ho4 hb4)
      have HK5 : Hid (Ko w.heap.size (W4.alloc (.cells #[.slice qa m qc] 44)) (.slice oa i oc) M) := HK4.out.up (bel_up _ _)
      have HR5 : Hid ((W4.alloc (.cells #[.slice qa m qc] 44)).ownsRow w.heap.size 44 1 (.slice oa i oc) i (M.map Prod.fst)) := by have h7 := HK5.out.1; rw [HML.out] at h7; exact h7
      have HO5 : Hid ((W4.alloc (.cells #[.slice qa m qc] 44)).ownsRow w.heap.size 65 7 (.slice qa m qc) t.length (flat nf t)) := row_up HO4.out (bel_up _ _)
      have HB5 : Hid (Below w.heap.size w (W4.alloc (.cells #[.slice qa m qc] 44))) := below_trans HB4.out (bel_up _ _)
      have HCW : Hid (∀ j u, ([.slice qa m qc] : List Value)[j]? = some u → (W4.alloc (.cells #[.slice qa m qc] 44)).cell? (Addr.add ⟨W4.heap.size, 0, none⟩ j) = some u) := World.news_of_block (heap_new _ _)
      clear HK4 HO4 HTW
      go_wp2_with (at_builtin; refine wpList_append_one _ rfl _ _ 39 rfl w.heap.size 44 iN _ 1 24 Try.underlying39 hiN hx0 hx1 hx2 rfl (.slice oa i oc) i (M.map Prod.fst) rfl HR5.out ⟨W4.heap.size, 0, none⟩ 1 [.slice qa m qc] rfl rfl HCW.out (fun u hu => by cases List.mem_singleton.1 hu; rfl) HFIT.out.1 HFIT.out.2 HB5.out.size ?_; intro v6 w6 ho6 hg6 _; have HO6 : Hid (w6.ownsRow w.heap.size 44 1 v6 (i + 1) (M.map Prod.fst ++ [.slice qa m qc])) := ho6; have HB6 : Hid (Below w.heap.size w w6) := HB5.out.grown hg6 HB5.out.size (fun r hr => (row_tag HR5.out r hr).1); have HM6 : Hid (∀ x ∈ M ++ [(.slice qa m qc, t)], w6.ownsRow w.heap.size 65 7 x.1 x.2.length (flat nf x.2)) := (fun x hx => by rcases List.mem_append.1 hx with hx | hx; exact (HK5.out.2 x hx).kept hg6 (tag_ne (HK5.out.2 x hx) HR5.out (by decide)); cases List.mem_singleton.1 hx; exact HO5.out.kept hg6 (tag_ne HO5.out HR5.out (by decide))); obtain ⟨ra, rc, rfl⟩ := row_shape ho6; clear ho6 hg6)
      go_roundg (n - (i + 1))
      case measure => have := HI.out.1; have := HIM.out; omega
      case rel => exact ⟨i + 1, M ++ [(.slice qa m qc, t)], by first | rfl | (rw [show (i : Int) + 1 = ((i + 1 : Nat) : Int) by omega]), ⟨rfl, HIM.out⟩, by show _ = _; rw [List.length_append, HML.out]; rfl, by show _ = _; rw [List.map_append, HMS.out, HSN.out]; rfl, ⟨by rw [List.length_append, HML.out, List.map_append]; exact HO6.out, HM6.out⟩, HB6.out⟩
    · have e1 : decide ((i : Int) < (n : Int)) = false := by rw [decide_eq_false_iff_not]; omega
      have e2 : decide (i < n) = false := by rw [decide_eq_false_iff_not]; omega
      have HE : Hid (M.map Prod.snd = L.map Prod.snd) := by
        have h1 := HMS.out
        rw [List.take_of_length_le (by rw [List.length_map, HN.out]; omega)] at h1
        exact h1
      obtain ⟨oa, oc, hv⟩ := row_shape HO.out.1
      subst hv
      clear hi
      go_wp2_with fail
      go_ret
      exact ⟨_, M, rfl, HO.out, HE.out, HBW.out⟩
end Go.Proofs.Ytcfmpmhdjkchjab
