/-
  What a walk is told of an argument that is a request.
-/
import Derived.Test.YtkeboafejebanaaFrameRows
import Derived.Test.YtkeboafejebanaaAskMem
namespace Go.Proofs.Ytkeboafejebanaa.W
set_option linter.unusedVariables false
open Go.ChangeShapes Go.WideShapes Go.ChangeAt Go.RowKit

def FReq (w : World) (v : Value) : Prop := ∃ q : Rq, v = .agg #[.int .i64 q.kind, .int .i64 q.key, .int .i64 (q.n 1), .int .i64 (q.n 2), .int .i64 (q.n 3), .int .i64 (q.n 4), .int .i64 (q.n 5), .int .i64 (q.n 6), .int .i64 (q.n 7), .int .i64 (q.n 8), .int .i64 (q.n 9), .int .i64 (q.n 10), .slice q.aa q.af.length q.ac, .int .i64 (q.n 11), .int .i64 (q.n 12), .int .i64 (q.n 13), .int .i64 (q.n 14)] ∧ q.l.length = 15 ∧ RowAt w q.aa (depsV q.af)
theorem open_FReq {H : Type} {enc : TypeId × Value → H} {w : World} {base : Nat} {spare : Nat → Bool} {held : Bool} {r : Reach} {b0 : Nat} {v : Value} {d : DataW H} {p : List MemPlace}
    (hv : Value.okWide Try.prog w r b0 26 v) (h : DataW.Trod enc Try.prog w base spare held 26 v d p) : FReq w v := by
  obtain ⟨⟨l⟩, rfl, hsz⟩ := okWide_struct Try.underlying26 hv
  have hsz' : l.length = 17 := hsz.trans (by kernel_rfl)
  obtain ⟨fuel, hf⟩ := h
  obtain ⟨xs, n, _, _, _, hlen, hg⟩ := DataW.trod_struct Try.underlying26 hf
  have c1 : Try.prog.cellsOf 3 = 1 := by kernel_rfl
  have cb : Try.prog.cellsOf 4 = 1 := by kernel_rfl
  have c2 : Try.prog.cellsOf 24 = 1 := by kernel_rfl
  have c5 : Try.prog.cellsOf 23 = 4 := by kernel_rfl
  match l, hsz', xs, hlen with
  | [v0, v1, v2, v3, v4, v5, v6, v7, v8, v9, v10, v11, v12, v13, v14, v15, v16], _, [y0, y1, y2, y3, y4, y5, y6, y7, y8, y9, y10, y11, y12, y13], _ =>
    have g0 : DataW.trod enc Try.prog w base spare held n 3 [v0] = some y0 := by simpa [Value.cells, c1] using hg 0 _ rfl
    obtain ⟨x0, e0, _, _⟩ := DataW.trod_int Try.underlying3 g0
    have g1 : DataW.trod enc Try.prog w base spare held n 3 [v1] = some y1 := by simpa [Value.cells, c1] using hg 1 _ rfl
    obtain ⟨x1, e1, _, _⟩ := DataW.trod_int Try.underlying3 g1
    have g2 : DataW.trod enc Try.prog w base spare held n 3 [v2] = some y2 := by simpa [Value.cells, c1] using hg 2 _ rfl
    obtain ⟨x2, e2, _, _⟩ := DataW.trod_int Try.underlying3 g2
    have g3 : DataW.trod enc Try.prog w base spare held n 3 [v3] = some y3 := by simpa [Value.cells, c1] using hg 3 _ rfl
    obtain ⟨x3, e3, _, _⟩ := DataW.trod_int Try.underlying3 g3
    have g4 : DataW.trod enc Try.prog w base spare held n 3 [v4] = some y4 := by simpa [Value.cells, c1] using hg 4 _ rfl
    obtain ⟨x4, e4, _, _⟩ := DataW.trod_int Try.underlying3 g4
    have g5 : DataW.trod enc Try.prog w base spare held n 3 [v5] = some y5 := by simpa [Value.cells, c1] using hg 5 _ rfl
    obtain ⟨x5, e5, _, _⟩ := DataW.trod_int Try.underlying3 g5
    have g6 : DataW.trod enc Try.prog w base spare held n 23 [v6, v7, v8, v9] = some y6 := by simpa [Value.cells, c5] using hg 6 _ rfl
    have g7 : DataW.trod enc Try.prog w base spare held n 3 [v10] = some y7 := by simpa [Value.cells, c1] using hg 7 _ rfl
    obtain ⟨x10, e10, _, _⟩ := DataW.trod_int Try.underlying3 g7
    have g8 : DataW.trod enc Try.prog w base spare held n 3 [v11] = some y8 := by simpa [Value.cells, c1] using hg 8 _ rfl
    obtain ⟨x11, e11, _, _⟩ := DataW.trod_int Try.underlying3 g8
    have g9 : DataW.trod enc Try.prog w base spare held n 24 [v12] = some y9 := by simpa [Value.cells, c2] using hg 9 _ rfl
    have g10 : DataW.trod enc Try.prog w base spare held n 3 [v13] = some y10 := by simpa [Value.cells, c1] using hg 10 _ rfl
    obtain ⟨x13, e13, _, _⟩ := DataW.trod_int Try.underlying3 g10
    have g11 : DataW.trod enc Try.prog w base spare held n 3 [v14] = some y11 := by simpa [Value.cells, c1] using hg 11 _ rfl
    obtain ⟨x14, e14, _, _⟩ := DataW.trod_int Try.underlying3 g11
    have g12 : DataW.trod enc Try.prog w base spare held n 3 [v15] = some y12 := by simpa [Value.cells, c1] using hg 12 _ rfl
    obtain ⟨x15, e15, _, _⟩ := DataW.trod_int Try.underlying3 g12
    have g13 : DataW.trod enc Try.prog w base spare held n 3 [v16] = some y13 := by simpa [Value.cells, c1] using hg 13 _ rfl
    obtain ⟨x16, e16, _, _⟩ := DataW.trod_int Try.underlying3 g13
    obtain ⟨xs4, n4, _, _, _, hlen4, hg4⟩ := DataW.trod_struct Try.underlying23 g6
    match xs4, hlen4 with
    | [z0, z1, z2, z3], _ =>
      have k0 : DataW.trod enc Try.prog w base spare held n4 3 [v6] = some z0 := by simpa [Value.cells, c1] using hg4 0 _ rfl
      obtain ⟨x6, e6, _, _⟩ := DataW.trod_int Try.underlying3 k0
      have k1 : DataW.trod enc Try.prog w base spare held n4 3 [v7] = some z1 := by simpa [Value.cells, c1] using hg4 1 _ rfl
      obtain ⟨x7, e7, _, _⟩ := DataW.trod_int Try.underlying3 k1
      have k2 : DataW.trod enc Try.prog w base spare held n4 3 [v8] = some z2 := by simpa [Value.cells, c1] using hg4 2 _ rfl
      obtain ⟨x8, e8, _, _⟩ := DataW.trod_int Try.underlying3 k2
      have k3 : DataW.trod enc Try.prog w base spare held n4 3 [v9] = some z3 := by simpa [Value.cells, c1] using hg4 3 _ rfl
      obtain ⟨x9, e9, _, _⟩ := DataW.trod_int Try.underlying3 k3
      obtain ⟨aa, ac, af, e12, _, _, hr, _⟩ := open_rows (α := Int × Bool) (C := 2) (f := depV) (q := fun _ => True) Try.underlying24 (by kernel_rfl) (by decide) (fun _ => rfl) (fun m cs y hl hy => by
        match cs, hl with
        | [a0, a1], _ =>
          obtain ⟨us, m', _, _, _, hul, hu⟩ := DataW.trod_struct Try.underlying53 hy
          match us, hul with
          | [u0, u1], _ =>
            have j0 : DataW.trod enc Try.prog w base spare held m' 3 [a0] = some u0 := by simpa [Value.cells, c1] using hu 0 _ rfl
            have j1 : DataW.trod enc Try.prog w base spare held m' 4 [a1] = some u1 := by simpa [Value.cells, cb] using hu 1 _ rfl
            obtain ⟨b0, f0, _, _⟩ := DataW.trod_int Try.underlying3 j0
            obtain ⟨b1, f1, _⟩ := DataW.trod_bool Try.underlying4 j1
            simp at f0 f1
            exact ⟨(b0, b1), by rw [f0, f1]; rfl, trivial⟩) g9
      simp at e0 e1 e2 e3 e4 e5 e6 e7 e8 e9 e10 e11 e13 e14 e15 e16
      refine ⟨⟨x0, x1, [0, x2, x3, x4, x5, x6, x7, x8, x9, x10, x11, x13, x14, x15, x16], aa, ac, af⟩, ?_, rfl, hr⟩
      rw [e0, e1, e2, e3, e4, e5, e6, e7, e8, e9, e10, e11, e12, e13, e14, e15, e16]
      rfl
end Go.Proofs.Ytkeboafejebanaa.W
