import Derived.Test.YtcmhbcfgikmblabGreatDoorQfe
namespace Go.Proofs.YtcmhbcfgikmblabGreatDoor.Qy
open Go.RowKit Go.Maps

/-- A row that does not lie in a block. -/
def RwN (f : Nat) (W : World) (v : Value) (n : Nat) (cs : List Value) : Prop :=
  ∃ a g o cap, v = .slice a n cap ∧ n ≤ cap ∧ (0 < n → a = some ⟨g, o, none⟩) ∧ g ≠ f ∧ ∀ j u, cs[j]? = some u → W.cell? ⟨g, o + j, none⟩ = some u
/-- Only one block of the old ones has turned. -/
structure Fs (f : Nat) (W0 W : World) : Prop where
  os : W.os = W0.os
  tape : W.tape = W0.tape
  output : W.output = W0.output
  sz : W0.heap.size ≤ W.heap.size
  bl : ∀ b, b < W0.heap.size → b ≠ f → W.heap[b]? = W0.heap[b]?
theorem Fs.refl (f : Nat) (W : World) : Fs f W W := ⟨rfl, rfl, rfl, Nat.le_refl _, fun _ _ _ => rfl⟩
theorem Fs.trans {f : Nat} {a b c : World} (h : Fs f a b) (k : Fs f b c) : Fs f a c := ⟨k.os.trans h.os, k.tape.trans h.tape, k.output.trans h.output, Nat.le_trans h.sz k.sz, fun x hx hn => (k.bl x (Nat.lt_of_lt_of_le hx h.sz) hn).trans (h.bl x hx hn)⟩
theorem Fs.bel {f : Nat} {a b : World} (h : Below a.heap.size a b) : Fs f a b := ⟨h.os, h.tape, h.output, h.size, fun x hx _ => h.block x hx⟩
theorem Fs.cell {f : Nat} {a b : World} (h : Fs f a b) {x : Addr} {u : Value} (hc : a.cell? x = some u) (hn : x.block ≠ f) : b.cell? x = some u := by
  have h1 := h.bl x.block (cell_lt hc) hn
  unfold World.cell? at hc ⊢
  rw [h1]
  exact hc
theorem Fs.set {f : Nat} {a b : World} (h : Fs f a b) (k : Nat) (x : Value) : Fs f a (b.setCell ⟨f, k, none⟩ x) := by
  have g := grown_set (W := b) (b := f) (k := k) (v := x)
  exact ⟨g.os.trans h.os, g.tape.trans h.tape, g.output.trans h.output, Nat.le_trans h.sz g.size, fun y hy hn => (heap_far hn).trans (h.bl y hy hn)⟩
theorem Fs.low {f B : Nat} {a b : World} (h : Fs f a b) (hf : B ≤ f) (hB : B ≤ a.heap.size) : Below B a b := ⟨h.os, h.tape, h.output, h.sz, fun k hk => h.bl k (by omega) (by omega)⟩
theorem RwN.keep {f : Nat} {W W' : World} {v : Value} {n : Nat} {cs : List Value} (h : RwN f W v n cs) (hf : Fs f W W') : RwN f W' v n cs := by
  obtain ⟨a, g, o, cap, e, h1, h2, h3, h4⟩ := h
  exact ⟨a, g, o, cap, e, h1, h2, h3, fun j u hu => hf.cell (h4 j u hu) h3⟩
theorem RwN.place {f : Nat} {W : World} {v : Value} {n : Nat} {cs : List Value} (h : RwN f W v n cs) (hn : 0 < n) : ∃ g o cap, v = .slice (some ⟨g, o, none⟩) n cap ∧ g ≠ f ∧ ∀ j u, cs[j]? = some u → W.cell? ⟨g, o + j, none⟩ = some u := by
  obtain ⟨a, g, o, cap, e, h1, h2, h3, h4⟩ := h
  exact ⟨g, o, cap, by rw [e, h2 hn], h3, h4⟩
/-- A search in memory, but for what it has found. -/
structure Sr (W : World) (sb f : Nat) (P : List Pn) (cs : List Cd) (T : List Tr.Nd) (s : ByteArray) (vp vr vk vt ve : Value) : Prop where
  blk : W.heap[sb]? = some (.cells #[vp, vr, vk, vt, ve, .string s, .slice (some ⟨f, 0, none⟩) P.length P.length] 65 (0, 0))
  ne : sb ≠ f
  hp : RwN f W vp P.length (flat pf P)
  hk : RwN f W vk cs.length (flat (cl P) cs)
  ht : RwN f W vt T.length (flat Tr.nf T)
  he : RwN f W ve T.length (iC (ends T))
  hr : ∃ vs : List Value, vs.length = P.length ∧ RwN f W vr P.length vs ∧ ∀ i x, vs[i]? = some x → RwN f W x (Tr.kA (pks P) i) (iC (Tr.kl (pks P) i (Tr.kA (pks P) i)))
theorem Sr.keep {W W' : World} {sb f : Nat} {P : List Pn} {cs : List Cd} {T : List Tr.Nd} {s : ByteArray} {vp vr vk vt ve : Value} (h : Sr W sb f P cs T s vp vr vk vt ve) (hf : Fs f W W') : Sr W' sb f P cs T s vp vr vk vt ve := by
  obtain ⟨vs, h1, h2, h3⟩ := h.hr
  exact ⟨(hf.bl sb (lt_of_heap h.blk) h.ne).trans h.blk, h.ne, h.hp.keep hf, h.hk.keep hf, h.ht.keep hf, h.he.keep hf, vs, h1, h2.keep hf, fun i x hx => (h3 i x hx).keep hf⟩
/-- What has been found. -/
def Fd (W : World) (f : Nat) (F : List Int) : Prop := W.heap[f]? = some (.cells (iC F).toArray 3 (0, 0))
theorem Fd.cell {W : World} {f : Nat} {F : List Int} (h : Fd W f F) (i : Nat) (hi : i < F.length) : W.cell? ⟨f, i, none⟩ = some (.int .i64 (F.getD i 0)) := by
  rw [Lib.cell_of_heap h]
  simpa using iC_get F i hi
theorem nd_cells {f : Nat} {W : World} {v : Value} {T : List Tr.Nd} (h : RwN f W v T.length (flat Tr.nf T)) (i : Nat) (hi : i < T.length) : ∃ g o cap, v = .slice (some ⟨g, o, none⟩) T.length cap ∧ g ≠ f ∧ ∀ j u, (Tr.nf (T.getD i Tr.ndd))[j]? = some u → W.cell? ⟨g, o + i * 7 + j, none⟩ = some u := by
  obtain ⟨g, o, cap, e, hn, hc⟩ := h.place (by omega)
  refine ⟨g, o, cap, e, hn, fun j u hu => ?_⟩
  rw [Nat.add_assoc]
  refine hc _ _ ?_
  rw [flat_get Tr.nf_len Tr.ndd T i j hi (by have := (List.getElem?_eq_some_iff.1 hu).1; rwa [Tr.nf_len] at this)]
  exact hu
theorem pn_cells {f : Nat} {W : World} {v : Value} {P : List Pn} (h : RwN f W v P.length (flat pf P)) (i : Nat) (hi : i < P.length) : ∃ g o cap, v = .slice (some ⟨g, o, none⟩) P.length cap ∧ g ≠ f ∧ ∀ j u, (pf (P.getD i pz))[j]? = some u → W.cell? ⟨g, o + i * 5 + j, none⟩ = some u := by
  obtain ⟨g, o, cap, e, hn, hc⟩ := h.place (by omega)
  refine ⟨g, o, cap, e, hn, fun j u hu => ?_⟩
  rw [Nat.add_assoc]
  refine hc _ _ ?_
  rw [flat_get pf_len pz P i j hi (by have := (List.getElem?_eq_some_iff.1 hu).1; rwa [pf_len] at this)]
  exact hu
end Go.Proofs.YtcmhbcfgikmblabGreatDoor.Qy
namespace Go.Proofs.YtcmhbcfgikmblabGreatDoor.Qy
open Go.RowKit Go.Maps

set_option maxRecDepth 100000 in
set_option maxHeartbeats 8000000 in
theorem bytes_any {w : World} {sb f : Nat} {P : List Pn} {cs : List Cd} {T : List Tr.Nd} {s : ByteArray} {vp vr vk vt ve : Value} {F : List Int} (h : Sr w sb f P cs T s vp vr vk vt ve) (hF : Fd w f F) (hl : F.length = P.length) (p v : Nat) (hp : p < P.length) (hv : F.getD p 0 = (v : Int)) (hvT : v < T.length) : Calls Tryz.prog 40 #[.pointer (some ⟨sb, 0, none⟩), .int .i64 (p : Int)] w fun e w' => e = .returned (.string (byo (T.getD v Tr.ndd) s)) ∧ Below w.heap.size w w' := by
  have b3 := rcell h.blk 3 _ rfl
  have b5 := rcell h.blk 5 _ rfl
  have b6 := rcell h.blk 6 _ rfl
  have cF := hF.cell p (by omega)
  rw [hv] at cF
  obtain ⟨g, o, c, rfl, hg, hc⟩ := nd_cells h.ht v hvT
  have c0 := hc 0 _ rfl
  have c1 := hc 1 _ rfl
  have c2 := hc 2 _ rfl
  have c3 := hc 3 _ rfl
  have c4 := hc 4 _ rfl
  have c5 := hc 5 _ rfl
  have c6 := hc 6 _ rfl
  obtain ⟨x, hx⟩ : ∃ x, T.getD v Tr.ndd = x := ⟨_, rfl⟩
  rw [hx] at c0 c1 c2 c3 c4 c5 c6 ⊢
  obtain ⟨n, hn⟩ : ∃ n, P.length = n := ⟨_, rfl⟩
  obtain ⟨m, hm⟩ : ∃ m, T.length = m := ⟨_, rfl⟩
  rw [hn] at b6
  rw [hm] at b3
  have d1 : (p : Int) < (n : Int) := by omega
  have d2 : (v : Int) < (m : Int) := by omega
  have d3 : p < n := by omega
  have d4 : v < m := by omega
  have HBK : Hid (w.heap[sb]? = some (.cells #[vp, vr, vk, .slice (some ⟨g, o, none⟩) T.length c, ve, .string s, .slice (some ⟨f, 0, none⟩) P.length P.length] 65 (0, 0))) := h.blk
  obtain ⟨R, hR⟩ : ∃ R, byo x s = R := ⟨_, rfl⟩
  rw [hR]
  have HR : Hid (byo x s = R) := hR
  clear h hF hl hp hv hvT hg hc hx hn hm hR
  go_enter Tryz.func40, Tryz.ntmps40
  go_upto_region 1 with fail
  have j3 : w.drew.cell? ⟨sb, 3, none⟩ = some (.slice (some ⟨g, o, none⟩) m c) := b3
  have j6 : w.drew.cell? ⟨sb, 6, none⟩ = some (.slice (some ⟨f, 0, none⟩) n n) := b6
  have jF : w.drew.cell? ⟨f, p, none⟩ = some (.int .i64 (v : Int)) := cF
  have i0 : w.drew.cell? ⟨g, o + v * 7, none⟩ = some (.string x.nm) := c0
  have i1 : w.drew.cell? ⟨g, o + v * 7 + 1, none⟩ = some (.bool x.nd) := c1
  have i2 : w.drew.cell? ⟨g, o + v * 7 + 2, none⟩ = some (.string x.fd) := c2
  have i3 : w.drew.cell? ⟨g, o + v * 7 + 3, none⟩ = some (.int .i64 x.fr) := c3
  have i4 : w.drew.cell? ⟨g, o + v * 7 + 4, none⟩ = some (.int .i64 x.tt) := c4
  have i5 : w.drew.cell? ⟨g, o + v * 7 + 5, none⟩ = some (.int .i64 x.kd) := c5
  have i6 : w.drew.cell? ⟨g, o + v * 7 + 6, none⟩ = some (.int .i64 x.lf) := c6
  have u3 : (w.alloc (.cells #[.string ⟨#[]⟩, .bool false, .string ⟨#[]⟩, .int .i64 0, .int .i64 0, .int .i64 0, .int .i64 0] 42)).drew.cell? ⟨sb, 3, none⟩ = some (.slice (some ⟨g, o, none⟩) m c) := cell_up _ b3
  have u6 : (w.alloc (.cells #[.string ⟨#[]⟩, .bool false, .string ⟨#[]⟩, .int .i64 0, .int .i64 0, .int .i64 0, .int .i64 0] 42)).drew.cell? ⟨sb, 6, none⟩ = some (.slice (some ⟨f, 0, none⟩) n n) := cell_up _ b6
  have uF : (w.alloc (.cells #[.string ⟨#[]⟩, .bool false, .string ⟨#[]⟩, .int .i64 0, .int .i64 0, .int .i64 0, .int .i64 0] 42)).drew.cell? ⟨f, p, none⟩ = some (.int .i64 (v : Int)) := cell_up _ cF
  have y0 : (w.alloc (.cells #[.string ⟨#[]⟩, .bool false, .string ⟨#[]⟩, .int .i64 0, .int .i64 0, .int .i64 0, .int .i64 0] 42)).drew.cell? ⟨g, o + v * 7, none⟩ = some (.string x.nm) := cell_up _ c0
  have y1 : (w.alloc (.cells #[.string ⟨#[]⟩, .bool false, .string ⟨#[]⟩, .int .i64 0, .int .i64 0, .int .i64 0, .int .i64 0] 42)).drew.cell? ⟨g, o + v * 7 + 1, none⟩ = some (.bool x.nd) := cell_up _ c1
  have y2 : (w.alloc (.cells #[.string ⟨#[]⟩, .bool false, .string ⟨#[]⟩, .int .i64 0, .int .i64 0, .int .i64 0, .int .i64 0] 42)).drew.cell? ⟨g, o + v * 7 + 2, none⟩ = some (.string x.fd) := cell_up _ c2
  have y3 : (w.alloc (.cells #[.string ⟨#[]⟩, .bool false, .string ⟨#[]⟩, .int .i64 0, .int .i64 0, .int .i64 0, .int .i64 0] 42)).drew.cell? ⟨g, o + v * 7 + 3, none⟩ = some (.int .i64 x.fr) := cell_up _ c3
  have y4 : (w.alloc (.cells #[.string ⟨#[]⟩, .bool false, .string ⟨#[]⟩, .int .i64 0, .int .i64 0, .int .i64 0, .int .i64 0] 42)).drew.cell? ⟨g, o + v * 7 + 4, none⟩ = some (.int .i64 x.tt) := cell_up _ c4
  have y5 : (w.alloc (.cells #[.string ⟨#[]⟩, .bool false, .string ⟨#[]⟩, .int .i64 0, .int .i64 0, .int .i64 0, .int .i64 0] 42)).drew.cell? ⟨g, o + v * 7 + 5, none⟩ = some (.int .i64 x.kd) := cell_up _ c5
  have y6 : (w.alloc (.cells #[.string ⟨#[]⟩, .bool false, .string ⟨#[]⟩, .int .i64 0, .int .i64 0, .int .i64 0, .int .i64 0] 42)).drew.cell? ⟨g, o + v * 7 + 6, none⟩ = some (.int .i64 x.lf) := cell_up _ c6
  go_region
  obtain ⟨W2, hW2⟩ : ∃ W2, W2 = (w.alloc (.cells #[.string x.nm, .bool x.nd, .string x.fd, .int .i64 x.fr, .int .i64 x.tt, .int .i64 x.kd, .int .i64 x.lf] 42)).drew := ⟨_, rfl⟩
  rw [← hW2]
  have hb2 : Below w.heap.size w W2 := by rw [hW2]; exact (bel_up _ _).trans (Below.drew (Below.refl _ _))
  have hn2 : W2.heap[w.heap.size]? = some (.cells #[.string x.nm, .bool x.nd, .string x.fd, .int .i64 x.fr, .int .i64 x.tt, .int .i64 x.kd, .int .i64 x.lf] 42 (0, 0)) := by rw [hW2]; exact heap_new w _
  obtain ⟨pb, hpb⟩ : ∃ pb, w.heap.size = pb := ⟨_, rfl⟩
  have HB2 : Hid (Below w.heap.size w W2) := hb2
  rw [hpb] at hn2 ⊢
  have t3 := rcell hn2 3 _ rfl
  have t4 := rcell hn2 4 _ rfl
  have t5 := below_cell hb2 b5
  clear j3 j6 jF i0 i1 i2 i3 i4 i5 i6 u3 u6 uF y0 y1 y2 y3 y4 y5 y6 b3 b5 b6 cF c0 c1 c2 c3 c4 c5 c6 d1 d2 d3 d4 hW2 hb2 hn2 hpb
  go_upto_region 2 with fail
  have r3 : W2.drew.cell? ⟨pb, 3, none⟩ = some (.int .i64 x.fr) := t3
  have r4 : W2.drew.cell? ⟨pb, 4, none⟩ = some (.int .i64 x.tt) := t4
  have r5 : W2.drew.cell? ⟨sb, 5, none⟩ = some (.string s) := t5
  go_region
  have k5 : W2.drew.cell? ⟨sb, 5, none⟩ = some (.string s) := r5
  obtain ⟨W3, hW3⟩ : ∃ W3, W3 = W2.drew := ⟨_, rfl⟩
  rw [← hW3] at k5 ⊢
  have HB3 : Hid (Below w.heap.size w W3) := by rw [hW3]; exact HB2.out.trans (Below.drew (Below.refl _ _))
  have hb := HR.out
  unfold byo at hb
  obtain ⟨a, ha⟩ : ∃ a : Nat, max x.fr 0 = (a : Int) := ⟨(max x.fr 0).toNat, by omega⟩
  rw [ha] at hb ⊢
  clear r3 r4 r5 t3 t4 t5 hW3
  by_cases hae : (a : Int) ≥ min x.tt (s.size : Int)
  · rw [if_pos hae] at hb
    subst hb
    obtain ⟨E, hE⟩ : ∃ E, min x.tt (s.size : Int) = E := ⟨_, rfl⟩
    rw [hE] at hae ⊢
    have d1 : decide (E ≤ (a : Int)) = true := by rw [decide_eq_true_eq]; exact hae
    clear hae hE ha
    go_wp2_with fail
    go_ret
    exact ⟨rfl, HB3.out⟩
  · rw [if_neg hae] at hb
    obtain ⟨e, he⟩ : ∃ e : Nat, min x.tt (s.size : Int) = (e : Int) := ⟨(min x.tt (s.size : Int)).toNat, by omega⟩
    have hes : e ≤ s.size := by omega
    rw [he] at hae hb ⊢
    have d1 : decide ((e : Int) ≤ (a : Int)) = false := by rw [decide_eq_false_iff_not]; omega
    have d2 : decide (e ≤ a) = false := by rw [decide_eq_false_iff_not]; omega
    have d3 : (a : Int) ≤ (e : Int) := by omega
    have d4 : a ≤ e := by omega
    have d5 : (e : Int) ≤ (s.size : Int) := by omega
    have HE : Hid (s.extract a e = R) := by rw [← hb]; exact rfl
    clear hae ha he hb
    go_wp2_with fail
    go_ret
    exact ⟨by rw [← HE.out]; rfl, HB3.out⟩
end Go.Proofs.YtcmhbcfgikmblabGreatDoor.Qy
