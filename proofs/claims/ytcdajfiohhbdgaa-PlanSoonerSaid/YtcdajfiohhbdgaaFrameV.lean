/-
  What a walk is told of an argument that is a vector of resources, by value.
-/
import Derived.Test.YtcdajfiohhbdgaaFrame
import Derived.Test.YtcdajfiohhbdgaaVecSpec
import Derived.Lib.SmallJoins
namespace Go.Proofs.Ytcdajfiohhbdgaa.W
set_option linter.unusedVariables false
open Go.ChangeShapes Go.WideShapes Go.ChangeAt Go.RowKit Go.Joins Go.Deep

theorem in64_of_wf {n : Int} (h : (Lit.int IntKind.i64 n).wf = true) : -9223372036854775808 ≤ n ∧ n ≤ 9223372036854775807 := by
  simp [Lit.wf, IntKind.min, IntKind.max, IntKind.bits, IntKind.signed] at h; omega
def FRes (v : Value) : Prop := ∃ a : V, v = (.agg #[.int .i64 a.cpu, .int .i64 a.mem, .int .i64 a.gpu, .int .i64 a.lic]) ∧ a.in64
section
variable {H : Type} {enc : TypeId × Value → H} {P : Program} {w : World} {base : Nat} {spare : Nat → Bool} {held : Bool} {r : Reach} {b0 : Nat} {t : TypeId} {v : Value} {d : DataW H} {p : List MemPlace}
theorem open_FRes {f0 f1 f2 f3 : Field} {e : TypeId} (kInt : P.underlying e = some (.int .i64)) (ht : P.underlying t = some (.struct #[f0, f1, f2, f3])) (hone : oneCellFields P #[f0, f1, f2, f3] = true) (hC : P.cellsOf t = 4)
    (hv : Value.okWide P w r b0 t v) (h : DataW.Trod enc P w base spare held t v d p) (h0 : f0.type = e := by rfl) (h1 : f1.type = e := by rfl) (h2 : f2.type = e := by rfl) (h3 : f3.type = e := by rfl) : FRes v := by
  obtain ⟨v0, v1, v2, v3, y0, y1, y2, y3, n, rfl, _, _, t0, t1, t2, t3⟩ := open_agg4 ht hone hC hv h
  rw [h0] at t0; rw [h1] at t1; rw [h2] at t2; rw [h3] at t3
  obtain ⟨x0, e0, _, w0⟩ := DataW.trod_int kInt t0
  obtain ⟨x1, e1, _, w1⟩ := DataW.trod_int kInt t1
  obtain ⟨x2, e2, _, w2⟩ := DataW.trod_int kInt t2
  obtain ⟨x3, e3, _, w3⟩ := DataW.trod_int kInt t3
  simp at e0 e1 e2 e3
  subst e0 e1 e2 e3
  exact ⟨⟨x0, x1, x2, x3⟩, rfl, in64_of_wf w0, in64_of_wf w1, in64_of_wf w2, in64_of_wf w3⟩
end
end Go.Proofs.Ytcdajfiohhbdgaa.W
