/-
  Contracts of vec.Least, vec.Times, vec.Count.
-/
import Derived.Test.YtcnpppkndcgmpaaVec
import Derived.Deep.QuietTactic
import Derived.BigQuiet
namespace Go.Proofs.Ytcnpppkndcgmpaa.W
set_option linter.unusedVariables false
set_option linter.unusedSimpArgs false
open Go.ChangeShapes Go.WideShapes Go.ChangeAt Go.RowKit
attribute [local go_sem] run_store_complex

theorem least (a b : V) (w : World) :
    Calls Try.prog 28 #[(.agg #[.int .i64 a.cpu, .int .i64 a.mem, .int .i64 a.gpu, .int .i64 a.lic]), (.agg #[.int .i64 b.cpu, .int .i64 b.mem, .int .i64 b.gpu, .int .i64 b.lic])] w fun e w' => e = .returned (.agg #[.int .i64 (a.least b).cpu, .int .i64 (a.least b).mem, .int .i64 (a.least b).gpu, .int .i64 (a.least b).lic]) ∧ Below w.heap.size w w' := by
  go_enter Try.func28, Try.ntmps28
  go_wp2
  all_goals
    refine bodyPost_ret (v := (.agg #[.int .i64 (a.least b).cpu, .int .i64 (a.least b).mem, .int .i64 (a.least b).gpu, .int .i64 (a.least b).lic])) ?_ rfl ⟨rfl, (by repeat' (first | exact Below.refl _ _ | assumption | exact And.left (by assumption) | refine Below.drew ?_ | refine below_drewN ?_ _ | refine Below.setCell ?_ (by first | (simp; done) | (simp; omega) | omega) _ | refine Below.alloc ?_ (by first | (simp; done) | (simp; omega) | omega) _ | refine after (by assumption) (by first | (simp; done) | (simp; omega) | omega) ?_))⟩
    simp [results, Try.results28, go_sem, V.least, low]
    try omega
