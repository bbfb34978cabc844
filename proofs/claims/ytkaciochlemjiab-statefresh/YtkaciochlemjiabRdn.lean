import Derived.Test.YtkaciochlemjiabCdc
import Derived.Test.YtkaciochlemjiabMea
namespace Go.Proofs.Ytkaciochlemjiab
open Go.RowKit Go.Maps

theorem gv_snoc (l : List UInt8) (g : Nat) (h : g < l.length) : gv (l.take (g + 1)) = gv (l.take g) + l[g].toNat % 128 * 128 ^ g := by
  rw [List.take_add_one, List.getElem?_eq_getElem h]
  simp only [Option.toList_some]
  rw [gv_app, List.length_take, Nat.min_eq_left (by omega)]
  simp [gv]
theorem take_all (P : UInt8 → Prop) (l : List UInt8) (g : Nat) (h : g < l.length) (hp : ∀ c ∈ l.take g, P c) (hg : P l[g]) : ∀ c ∈ l.take (g + 1), P c := by
  intro c hc
  rw [List.take_add_one, List.getElem?_eq_getElem h] at hc
  rcases List.mem_append.1 hc with h1 | h1
  · exact hp c h1
  · simp at h1; subst h1; exact hg
theorem gv_lt (l : List UInt8) : gv l < 128 ^ l.length := by
  induction l with
  | nil => simp [gv]
  | cons b l ih => simp only [gv, List.length_cons, Nat.pow_succ]; omega
theorem w64_id (n : Nat) (h : n ≤ 1000000000000) : wrap64 (n : Int) = (n : Int) := by unfold wrap64; omega
/-- What the reader's number answers. -/
def RdN (d : ByteArray) (most : Nat) (W : World) (r : Nat) (e : Ending) (W' : World) : Prop :=
  (∃ n rest, d.data.toList = nm n ++ rest.data.toList ∧ n ≤ most ∧ e = .returned (.tuple #[.int .i64 (n : Int), .int .i64 0]) ∧ W' = W.setCell ⟨r, 0, none⟩ (.string rest)) ∨
  ((∀ n q, n ≤ most → d.data.toList ≠ nm n ++ q) ∧ e = .returned (.tuple #[.int .i64 0, .int .i64 65]) ∧ W' = W)
/-- A byte below 128 behind bytes that go on. -/
theorem rd_at {d : ByteArray} {g N : Nat} {b : UInt8} (hg : g < d.size) (hb : d.get! g = b) (hall : ∀ c ∈ d.data.toList.take g, 128 ≤ c.toNat) (hl : b.toNat < 128) (hN : N = gv (d.data.toList.take g) + b.toNat * 128 ^ g) :
    (g = 0 ∨ b ≠ 0 → d.data.toList = nm N ++ (d.extract (g + 1) d.size).data.toList) ∧ (∀ n q, d.data.toList = nm n ++ q → n = N ∧ (g = 0 ∨ b ≠ 0)) := by
  have hlen : g < d.data.toList.length := by rw [Array.length_toList]; exact hg
  have hgl : d.data.toList[g] = b := by rw [← get_list d g hg]; exact hb
  have htl : (d.data.toList.take g).length = g := by rw [List.length_take]; omega
  have hsp : d.data.toList = d.data.toList.take g ++ b :: d.data.toList.drop (g + 1) := by
    rw [← hgl, ← List.drop_eq_getElem_cons hlen, List.take_append_drop]
  constructor
  · intro h
    have hf : Nmf (d.data.toList.take g) b := ⟨hall, hl, h.imp (fun e => by rw [e]; rfl) id⟩
    have := nm_of hf
    rw [htl] at this
    rw [hN, this, ext_list, List.append_assoc]
    exact hsp
  · intro n q e
    obtain ⟨p, b', h1, h2, h3⟩ := nm_form n
    rw [hsp, h1, List.append_assoc] at e
    obtain ⟨e1, e2, _⟩ := nmf_at hall hl h2.more h2.last e
    subst e2
    refine ⟨?_, ?_⟩
    · rw [h3, hN, ← e1, htl]
    · rcases h2.least with hp | hp
      · left
        rw [← e1] at hp
        rw [← htl, hp]; rfl
      · exact .inr hp

set_option maxRecDepth 100000 in
set_option maxHeartbeats 8000000 in
theorem rnum_any {r : Nat} {d : ByteArray} (most : Nat) (hm : most ≤ 70000) (hz : d.size ≤ 140737488355328) (W : World) (hc : W.cell? ⟨r, 0, none⟩ = some (.string d)) (hf : W.frozen? ⟨r, 0, none⟩ = false) :
    Calls Try.prog 51 #[.pointer (some ⟨r, 0, none⟩), .int .i64 (most : Int)] W fun e W' => RdN d most W r e W' := by
  have HM : Hid (most ≤ 70000) := hm
  have HZ : Hid (d.size ≤ 140737488355328) := hz
  have hmin : min (3 : Int) (d.size : Int) = ((min 3 d.size : Nat) : Int) := by omega
  obtain ⟨K, hK⟩ : ∃ K : Nat, min 3 d.size = K := ⟨_, rfl⟩
  have HK : Hid (min 3 d.size = K) := hK
  rw [hK] at hmin
  clear hm hz hK
  go_enter Try.func51, Try.ntmps51
  go_wp2_with fail
  go_loopg [6, 15] (K + 1) (fun gm v6 v15 wr => ∃ g N : Nat, v6 = .int .i64 (N : Int) ∧ v15 = .int .i64 (g : Int) ∧ wr = W ∧ Hid (g ≤ K ∧ gm = K + 1 - g) ∧ Hid (N = gv (d.data.toList.take g)) ∧ Hid (∀ c ∈ d.data.toList.take g, 128 ≤ c.toNat))
  case atStart => exact ⟨0, 0, rfl, rfl, rfl, ⟨Nat.zero_le _, rfl⟩, rfl, fun c hc => by cases hc⟩
  case round =>
    obtain ⟨g, N, rfl, rfl, hwr, HG, HN, HA⟩ := hrel
    subst hwr
    by_cases hgk : g < K
    · have hgd : g < d.size := by have := HK.out; omega
      have hg3 : g < 3 := by have := HK.out; omega
      have hNb : N < 128 ^ g := by
        have h1 := gv_lt (d.data.toList.take g)
        rw [← HN.out, List.length_take, Nat.min_eq_left (by rw [Array.length_toList]; show g ≤ d.size; omega)] at h1
        exact h1
      have hix := idx_fact d g hgd
      obtain ⟨b, hb⟩ : ∃ b, d.get! g = b := ⟨_, rfl⟩
      rw [hb] at hix
      have hbl : b.toNat < 256 := b.toNat_lt
      have HSN : Hid (gv (d.data.toList.take (g + 1)) = N + b.toNat % 128 * 128 ^ g) := by
        rw [gv_snoc _ g (by rw [Array.length_toList]; exact hgd), ← get_list d g hgd, hb, ← HN.out]; exact rfl
      have HTA : Hid (128 ≤ b.toNat → ∀ c ∈ d.data.toList.take (g + 1), 128 ≤ c.toNat) := fun h => take_all (fun c => 128 ≤ c.toNat) _ g (by rw [Array.length_toList]; exact hgd) HA.out (by rw [← get_list d g hgd, hb]; exact h)
      have HAT : Hid (b.toNat < 128 → (g = 0 ∨ b ≠ 0 → d.data.toList = nm (N + b.toNat * 128 ^ g) ++ (d.extract (g + 1) d.size).data.toList) ∧ (∀ n q, d.data.toList = nm n ++ q → n = N + b.toNat * 128 ^ g ∧ (g = 0 ∨ b ≠ 0))) := fun h => rd_at hgd hb HA.out h (by rw [← HN.out])
      have HGK : Hid (g < K ∧ g < d.size) := ⟨hgk, hgd⟩
      have e1 : decide ((g : Int) < (K : Int)) = true := by rw [decide_eq_true_eq]; omega
      have e2 : decide (g < K) = true := by rw [decide_eq_true_eq]; omega
      obtain ⟨bn, hbn⟩ : ∃ bn : Nat, b.toNat = bn := ⟨_, rfl⟩
      have HB0 : Hid (bn = 0 ↔ b = 0) := ⟨fun h => UInt8.toNat_inj.1 (by rw [hbn, h]; rfl), fun h => by rw [← hbn, h]; rfl⟩
      rw [hbn] at hix hbl HSN HTA HAT
      have hs1 : ((g + 1 : Nat) : Int) ≤ (d.size : Int) := by omega
      clear hgk hb hbn
      have hs3 : g + 1 ≤ d.size := hgd
      have hs4 : (g : Int) + 1 ≤ (d.size : Int) := hs1
      have hpw : 128 ^ g ≤ 16384 ∧ 0 < 128 ^ g := by
        clear hNb
        obtain rfl | rfl | rfl : g = 0 ∨ g = 1 ∨ g = 2 := by omega
        · exact ⟨by decide, by decide⟩
        · exact ⟨by decide, by decide⟩
        · exact ⟨by decide, by decide⟩
      obtain ⟨M, hM⟩ : ∃ M : Nat, bn % 128 * 128 ^ g = M := ⟨_, rfl⟩
      obtain ⟨v, hv⟩ : ∃ v : Nat, N + M = v := ⟨_, rfl⟩
      have hMi : (bn : Int) % 128 * 2 ^ (g * 7) = (M : Int) := by
        rw [← hM, show (2 : Int) ^ (g * 7) = ((128 ^ g : Nat) : Int) by rw [Nat.mul_comm, Int.pow_mul]; simp]
        simp
      have hMb : M ≤ 127 * 16384 := by
        rw [← hM]
        exact Nat.mul_le_mul (Nat.le_of_lt_succ (Nat.mod_lt _ (by decide))) hpw.1
      have hNb2 : N ≤ 16384 := Nat.le_trans (Nat.le_of_lt hNb) hpw.1
      have HSV : Hid (gv (d.data.toList.take (g + 1)) = v) := by rw [← hv, ← hM]; exact HSN.out
      have hsh : ∀ W : World, Sem.run Try.prog (Op.shift BinOp.shl IntKind.i64 ((bn : Int) % 128) IntKind.i64 ((g : Int) * 7)) W = Result.ok (Value.int .i64 (wrap64 ((bn : Int) % 128 * 2 ^ (g * 7)))) W := fun W => by
        clear hNb hNb2 hMi hMb hpw HSV hv hM
        go_simp
        rw [show ((g : Int) * 7).toNat = g * 7 by omega]
        rw [IntKind.wrap_i64]
        unfold wrap64
        try with_reducible rfl
      have HWR : Hid (wrap64 ((bn : Int) % 128 * 2 ^ (g * 7)) = (M : Int) ∧ wrap64 ((N : Int) + (M : Int)) = (v : Int) ∧ wrap64 (bn : Int) = (bn : Int) ∧ wrap64 ((g : Int) * 7) = (g : Int) * 7 ∧ wrap64 ((g : Int) + 1) = (g : Int) + 1 ∧ wrap64 ((g + 1 : Nat) : Int) = ((g + 1 : Nat) : Int)) := by
        have q1 : M ≤ 1000000000000 := by omega
        have q2 : N + M ≤ 1000000000000 := by omega
        have q3 : bn ≤ 1000000000000 := by omega
        have q4 : g * 7 ≤ 1000000000000 := by omega
        have q5 : g + 1 ≤ 1000000000000 := by omega
        exact ⟨by rw [hMi]; exact w64_id M q1, by rw [← hv, ← Int.natCast_add]; exact w64_id _ q2, w64_id bn q3, w64_id (g * 7) q4, w64_id (g + 1) q5, w64_id (g + 1) q5⟩
      rw [HWR.out.1] at hsh
      clear hNb hNb2 hMi hMb hpw
      by_cases hb : 128 ≤ bn
      · have f1 : decide ((128 : Int) ≤ (bn : Int)) = true := by rw [decide_eq_true_eq]; omega
        have f2 : decide (128 ≤ bn) = true := by rw [decide_eq_true_eq]; omega
        have HBB : Hid (128 ≤ bn) := hb
        clear hb hbl hgd hg3 hs1 hM hv
        obtain ⟨-, k2, hbw, hg7, hg1, -⟩ := HWR.out
        go_wp2_with fail
        clear k2 hbw hg7 hg1
        go_roundg (K + 1 - (g + 1))
        case measure => have := HG.out; have := HGK.out; omega
        case rel => exact ⟨g + 1, v, by first | rfl | rw [HWR.out.2.1], by first | rfl | (rw [HWR.out.2.2.2.2.1]; rfl), rfl, ⟨HGK.out.1, rfl⟩, HSV.out.symm, HTA.out HBB.out⟩
      · have f1 : decide ((128 : Int) ≤ (bn : Int)) = false := by rw [decide_eq_false_iff_not]; omega
        have f2 : decide (128 ≤ bn) = false := by rw [decide_eq_false_iff_not]; omega
        have hat := HAT.out (by omega)
        rw [show bn = bn % 128 by omega, hM, hv] at hat
        have HA1 : Hid (g = 0 ∨ b ≠ 0 → d.data.toList = nm v ++ (d.extract (g + 1) d.size).data.toList) := hat.1
        have HA2 : Hid (∀ n q, d.data.toList = nm n ++ q → n = v ∧ (g = 0 ∨ b ≠ 0)) := hat.2
        clear hat hb hbl hgd hg3 hM hv
        by_cases hmo : most < v
        · have m1 : decide ((most : Int) < (v : Int)) = true := by rw [decide_eq_true_eq]; omega
          have m5 : decide (most < v) = true := by rw [decide_eq_true_eq]; omega
          have HMO : Hid (most < v) := hmo
          clear hmo
          obtain ⟨-, k2, hbw, hg7, hg1, -⟩ := HWR.out
          go_wp2_with fail
          clear k2 hbw hg7 hg1
          go_ret2
          exact .inr ⟨fun n q hn e => by have := (HA2.out n q e).1; have := HMO.out; omega, rfl, rfl⟩
        · have m1 : decide ((most : Int) < (v : Int)) = false := by rw [decide_eq_false_iff_not]; omega
          have m5 : decide (most < v) = false := by rw [decide_eq_false_iff_not]; omega
          have HMO : Hid (v ≤ most) := by show v ≤ most; omega
          clear hmo
          by_cases hb0 : bn = 0
          · have z0 : ((bn : Int) == 0) = true := by rw [beq_iff_eq]; omega
            have z1 : (bn == 0) = true := by rw [beq_iff_eq]; exact hb0
            have HZ0 : Hid (bn = 0) := hb0
            clear hb0
            by_cases hg0 : g = 0
            · have y0 : decide ((0 : Int) < (g : Int)) = false := by rw [decide_eq_false_iff_not]; omega
              have y1 : decide (0 < g) = false := by rw [decide_eq_false_iff_not]; omega
              have HG0 : Hid (g = 0) := hg0
              clear hg0
              obtain ⟨-, k2, hbw, hg7, hg1, -⟩ := HWR.out
              go_wp2_with fail
              clear k2 hbw hg7 hg1
              go_ret2
              exact .inl ⟨v, _, HA1.out (.inl HG0.out), HMO.out, by rw [HWR.out.2.1]; rfl, by first | rfl | (rw [HWR.out.2.2.2.2.1]; rfl)⟩
            · have y0 : decide ((0 : Int) < (g : Int)) = true := by rw [decide_eq_true_eq]; omega
              have y1 : decide (0 < g) = true := by rw [decide_eq_true_eq]; omega
              have HG0 : Hid (g ≠ 0) := hg0
              clear hg0
              obtain ⟨-, k2, hbw, hg7, hg1, -⟩ := HWR.out
              go_wp2_with fail
              clear k2 hbw hg7 hg1
              go_ret2
              exact .inr ⟨fun n q hn e => by rcases (HA2.out n q e).2 with h | h; exact absurd h HG0.out; exact absurd (HB0.out.1 HZ0.out) h, rfl, rfl⟩
          · have z0 : ((bn : Int) == 0) = false := by rw [beq_eq_false_iff_ne]; omega
            have z1 : (bn == 0) = false := by rw [beq_eq_false_iff_ne]; exact hb0
            have HZ0 : Hid (bn ≠ 0) := hb0
            clear hb0
            obtain ⟨-, k2, hbw, hg7, hg1, -⟩ := HWR.out
            go_wp2_with fail
            clear k2 hbw hg7 hg1
            go_ret2
            exact .inl ⟨v, _, HA1.out (.inr (fun h => HZ0.out (HB0.out.2 h))), HMO.out, by rw [HWR.out.2.1]; rfl, by first | rfl | (rw [HWR.out.2.2.2.2.1]; rfl)⟩
    · have e1 : decide ((g : Int) < (K : Int)) = false := by rw [decide_eq_false_iff_not]; omega
      have e2 : decide (g < K) = false := by rw [decide_eq_false_iff_not]; omega
      have hge : g = K := by have := HG.out; omega
      have HNO : Hid (∀ n q, n ≤ most → d.data.toList ≠ nm n ++ q) := fun n q hn => by
        refine nm_none HA.out (by have := HM.out; omega) ?_ ⟨d.data.toList.drop g, (List.take_append_drop _ _).symm⟩ q
        have hk := HK.out
        rcases Nat.lt_or_ge 2 d.size with h | h
        · left; rw [List.length_take, Array.length_toList]; show min g d.size = 3; omega
        · right; exact List.take_of_length_le (by rw [Array.length_toList]; show d.size ≤ g; omega)
      clear hgk hge
      go_wp2_with fail
      go_ret2
      exact .inr ⟨HNO.out, rfl, rfl⟩
end Go.Proofs.Ytkaciochlemjiab
