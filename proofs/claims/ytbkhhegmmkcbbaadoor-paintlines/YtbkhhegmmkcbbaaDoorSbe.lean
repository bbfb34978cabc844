import Derived.Test.YtbkhhegmmkcbbaaDoorSuf
namespace Go.Proofs.YtbkhhegmmkcbbaaDoor
open Go.RowKit Go.Maps

set_option maxRecDepth 100000 in
set_option maxHeartbeats 4000000 in
/-- A child's area. -/
theorem below_any (a : Ar) (n : Nd) (w : World) : Calls Tryd.prog 20 #[.agg #[.int .i64 a.fr, .int .i64 a.tt, .string a.cl], .agg #[.string n.nm, .bool n.nd, .string n.fd, .int .i64 n.fr, .int .i64 n.tt, .int .i64 n.kd, .int .i64 n.lf]] w fun e w' => e = .returned (.agg #[.int .i64 (max a.fr n.fr), .int .i64 (min a.tt n.tt), .string a.cl]) ∧ Below w.heap.size w w' := by
  obtain ⟨fr, tt, cl⟩ := a
  obtain ⟨n0, n1, n2, n3, n4, n5, n6⟩ := n
  dsimp only
  go_enter Tryd.func20, Tryd.ntmps20
  go_upto_region 1 with fail
  go_wp2_with fail
  exact bodyPost_ret (v := .agg #[.int .i64 (max fr n3), .int .i64 (min tt n4), .string cl]) (by simp [results, Tryd.results20, go_sem]) rfl ⟨rfl, below_trans (below_trans (bel_up _ _) (bel_up _ _)) (bel_up _ _)⟩
end Go.Proofs.YtbkhhegmmkcbbaaDoor
