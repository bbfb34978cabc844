import Derived.Test.YtjpmmihcnfedgabRows
import Derived.Test.YtjpmmihcnfedgabBase
import Derived.ProofKit
import Derived.OpenShut
import Derived.ShutString
import Derived.ChangeOld
import Derived.JoinedCond
import Derived.Below
import Derived.SizedLaws
import Derived.Lib.SmallJoins
import Derived.Deep.Slices
import Derived.Deep.Strs
namespace Go.Proofs.Ytjpmmihcnfedgab
open Go.ChangeShapes Go.WideShapes Go.ChangeAt Go.RowKit
open Go.ChangeMaps (open_string shut_string)
open Go.Joins Go.Deep

theorem ownE : ownKnob Try.prog.godebug = none := by kernel_rfl
theorem laidOutE : laidOutB Try.prog = true := by kernel_rfl

set_option maxRecDepth 100000 in
theorem open_ed {H : Type} {enc : TypeId × Value → H} {W : World} {base : Nat} {v : Value} {d : DataW H} {p : List MemPlace} (hv : Value.okWide Try.prog W .any base 23 v) (h : DataW.Trod enc Try.prog W 0 (fun _ => true) true 23 v d p) :
    ∃ (a b : Int) (s : ByteArray), v = ed a b s ∧ d = .agg [.lit (.int .i64 a), .lit (.int .i64 b), .lit (.string s.data.toList)] := by
  obtain ⟨c0, c1, c2, y0, y1, y2, m, rfl, rfl, rfl, h0, h1, h2⟩ := open_agg3 Try.underlying23 (by kernel_rfl) (by kernel_rfl) hv h
  obtain ⟨a, e0, g0, wa⟩ := DataW.trod_int Try.underlying3 h0
  obtain ⟨b, e1, g1, wb⟩ := DataW.trod_int Try.underlying3 h1
  obtain ⟨s, e2, g2, ws⟩ := DataW.trod_string Try.underlying9 h2
  simp at e0 e1 e2
  subst e0 e1 e2
  subst g0 g1 g2
  exact ⟨a, b, s, rfl, rfl⟩

theorem sized_ed {H : Type} {ts : List TypeId} {ds : List (DataW H)} (h : (DataW.weightsEach Try.prog ts ds).all (· ≤ reachBytes) = true) {j : Nat} {a b : Int} {s : ByteArray} (ht : ts[j]? = some 23) (hd : ds[j]? = some (.agg [.lit (.int .i64 a), .lit (.int .i64 b), .lit (.string s.data.toList)])) : s.size ≤ 140737488355328 := by
  have := List.all_eq_true.1 h _ (DataW.weights_mem_each ht hd s.data.toList.length (by simp [DataW.weights, DataW.weightsEach, Try.underlying23]))
  have e : s.data.toList.length = s.size := by rw [Array.length_toList]; rfl
  have r := reachBytes_lt
  simp at this
  omega
theorem sized_str {H : Type} {ts : List TypeId} {ds : List (DataW H)} (h : (DataW.weightsEach Try.prog ts ds).all (· ≤ reachBytes) = true) {j : Nat} {t : TypeId} {s : ByteArray} (ht : ts[j]? = some t) (hd : ds[j]? = some (.lit (.string s.data.toList))) : s.size ≤ 140737488355328 := by
  have := sized_string h ht hd
  have e : s.data.toList.length = s.size := by rw [Array.length_toList]; rfl
  have r := reachBytes_lt
  omega

end Go.Proofs.Ytjpmmihcnfedgab
