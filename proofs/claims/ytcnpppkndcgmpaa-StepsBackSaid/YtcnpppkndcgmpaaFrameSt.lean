/-
  What a walk is told of an argument that is a list of steps, or two things to be taken.
-/
import Derived.Test.YtcnpppkndcgmpaaFrameV
import Derived.Test.YtcnpppkndcgmpaaStMem
namespace Go.Proofs.Ytcnpppkndcgmpaa.W
set_option linter.unusedVariables false
open Go.ChangeShapes Go.WideShapes Go.ChangeAt Go.RowKit

def FSteps (w : World) (v : Value) : Prop := ∃ a cap l, v = .slice a l.length cap ∧ StAt w a cap l
section
variable {H : Type} {enc : TypeId × Value → H} {w : World} {base : Nat} {spare : Nat → Bool} {held : Bool}
theorem trod_v4 {m : Nat} {cs : List Value} {y : DataW H × List MemPlace} (hl : cs.length = 4) (hy : DataW.trod enc Try.prog w base spare held m 25 cs = some y) :
    ∃ v : V, cs = [.int .i64 v.cpu, .int .i64 v.mem, .int .i64 v.gpu, .int .i64 v.lic] := by
  have c1 : Try.prog.cellsOf 3 = 1 := by kernel_rfl
  match cs, hl with
  | [a0, a1, a2, a3], _ =>
    obtain ⟨us, m', _, _, _, hul, hu⟩ := DataW.trod_struct Try.underlying25 hy
    match us, hul with
    | [u0, u1, u2, u3], _ =>
      have j0 : DataW.trod enc Try.prog w base spare held m' 3 [a0] = some u0 := by simpa [Value.cells, c1] using hu 0 _ rfl
      have j1 : DataW.trod enc Try.prog w base spare held m' 3 [a1] = some u1 := by simpa [Value.cells, c1] using hu 1 _ rfl
      have j2 : DataW.trod enc Try.prog w base spare held m' 3 [a2] = some u2 := by simpa [Value.cells, c1] using hu 2 _ rfl
      have j3 : DataW.trod enc Try.prog w base spare held m' 3 [a3] = some u3 := by simpa [Value.cells, c1] using hu 3 _ rfl
      obtain ⟨b0, f0, _, _⟩ := DataW.trod_int Try.underlying3 j0
      obtain ⟨b1, f1, _, _⟩ := DataW.trod_int Try.underlying3 j1
      obtain ⟨b2, f2, _, _⟩ := DataW.trod_int Try.underlying3 j2
      obtain ⟨b3, f3, _, _⟩ := DataW.trod_int Try.underlying3 j3
      simp at f0 f1 f2 f3
      exact ⟨⟨b0, b1, b2, b3⟩, by rw [f0, f1, f2, f3]⟩
theorem trod_st {m : Nat} {cs : List Value} {y : DataW H × List MemPlace} (hl : cs.length = 5) (hy : DataW.trod enc Try.prog w base spare held m 34 cs = some y) : ∃ s : St, cs = stV s := by
  have c1 : Try.prog.cellsOf 3 = 1 := by kernel_rfl
  have c4 : Try.prog.cellsOf 25 = 4 := by kernel_rfl
  match cs, hl with
  | [a0, a1, a2, a3, a4], _ =>
    obtain ⟨us, m', _, _, _, hul, hu⟩ := DataW.trod_struct Try.underlying34 hy
    match us, hul with
    | [u0, u1], _ =>
      have j0 : DataW.trod enc Try.prog w base spare held m' 3 [a0] = some u0 := by simpa [Value.cells, c1] using hu 0 _ rfl
      have j1 : DataW.trod enc Try.prog w base spare held m' 25 [a1, a2, a3, a4] = some u1 := by simpa [Value.cells, c4] using hu 1 _ rfl
      obtain ⟨b0, f0, _, _⟩ := DataW.trod_int Try.underlying3 j0
      obtain ⟨v, hv⟩ := trod_v4 rfl j1
      simp at f0
      exact ⟨⟨b0, v⟩, by rw [f0, hv]; rfl⟩
theorem open_FSteps {r : Reach} {b0 : Nat} {v : Value} {d : DataW H} {p : List MemPlace} (hv : Value.okWide Try.prog w r b0 22 v) (h : DataW.Trod enc Try.prog w base spare held 22 v d p) : FSteps w v := by
  obtain ⟨a1, len, cap1, rfl⟩ := okWide_slice Try.underlying22 hv
  obtain ⟨fuel, hf⟩ := h
  obtain ⟨a, cap, l, e, h1, h2, h3, _⟩ := open_rows (α := St) (C := 5) (f := stV) (q := fun _ => True) Try.underlying22 (by kernel_rfl) (by decide) (fun _ => rfl) (fun m cs y hl hy => by
    obtain ⟨s, hs⟩ := trod_st hl hy
    exact ⟨s, hs, trivial⟩) hf
  exact ⟨a, cap, l, e, h3, h2, h1⟩
end
def FTwo (v : Value) : Prop := ∃ (a b c d : Int) (x y : V), v = .agg #[.int .i64 a, .int .i64 b, .int .i64 c, .int .i64 d, .int .i64 x.cpu, .int .i64 x.mem, .int .i64 x.gpu, .int .i64 x.lic, .int .i64 y.cpu, .int .i64 y.mem, .int .i64 y.gpu, .int .i64 y.lic]
theorem trod_a2 {H : Type} {enc : TypeId × Value → H} {w : World} {base : Nat} {spare : Nat → Bool} {held : Bool} {m : Nat} {a0 a1 : Value} {y : DataW H × List MemPlace} (hy : DataW.trod enc Try.prog w base spare held m 40 [a0, a1] = some y) :
    ∃ p q : Int, a0 = .int .i64 p ∧ a1 = .int .i64 q := by
  have c1 : Try.prog.cellsOf 3 = 1 := by kernel_rfl
  obtain ⟨xs, m', _, _, _, hl, hel⟩ := DataW.trod_array Try.underlying40 hy
  match xs, hl with
  | [x0, x1], _ =>
    have g0 : DataW.trod enc Try.prog w base spare held m' 3 [a0] = some x0 := by simpa [Value.cells, c1] using hel 0 (by decide)
    have g1 : DataW.trod enc Try.prog w base spare held m' 3 [a1] = some x1 := by simpa [Value.cells, c1] using hel 1 (by decide)
    obtain ⟨b0, f0, _, _⟩ := DataW.trod_int Try.underlying3 g0
    obtain ⟨b1, f1, _, _⟩ := DataW.trod_int Try.underlying3 g1
    simp at f0 f1
    exact ⟨b0, b1, f0, f1⟩
theorem open_FTwo {H : Type} {enc : TypeId × Value → H} {w : World} {base : Nat} {spare : Nat → Bool} {held : Bool} {r : Reach} {b0 : Nat} {v : Value} {d : DataW H} {p : List MemPlace}
    (hv : Value.okWide Try.prog w r b0 47 v) (h : DataW.Trod enc Try.prog w base spare held 47 v d p) : FTwo v := by
  obtain ⟨⟨l⟩, rfl, hsz⟩ := okWide_struct Try.underlying47 hv
  have hsz' : l.length = 12 := hsz.trans (by kernel_rfl)
  obtain ⟨fuel, hf⟩ := h
  obtain ⟨xs, n, _, _, _, hlen, hg⟩ := DataW.trod_struct Try.underlying47 hf
  have c2 : Try.prog.cellsOf 40 = 2 := by kernel_rfl
  have c4 : Try.prog.cellsOf 25 = 4 := by kernel_rfl
  match l, hsz', xs, hlen with
  | [v0, v1, v2, v3, v4, v5, v6, v7, v8, v9, v10, v11], _, [y0, y1, y2, y3], _ =>
    have g0 : DataW.trod enc Try.prog w base spare held n 40 [v0, v1] = some y0 := by simpa [Value.cells, c2] using hg 0 _ rfl
    have g1 : DataW.trod enc Try.prog w base spare held n 40 [v2, v3] = some y1 := by simpa [Value.cells, c2] using hg 1 _ rfl
    have g2 : DataW.trod enc Try.prog w base spare held n 25 [v4, v5, v6, v7] = some y2 := by simpa [Value.cells, c4] using hg 2 _ rfl
    have g3 : DataW.trod enc Try.prog w base spare held n 25 [v8, v9, v10, v11] = some y3 := by simpa [Value.cells, c4] using hg 3 _ rfl
    obtain ⟨a, b, rfl, rfl⟩ := trod_a2 g0
    obtain ⟨c, d, rfl, rfl⟩ := trod_a2 g1
    obtain ⟨x, hx⟩ := trod_v4 rfl g2
    obtain ⟨y, hy⟩ := trod_v4 rfl g3
    simp only [List.cons.injEq, and_true] at hx hy
    obtain ⟨rfl, rfl, rfl, rfl⟩ := hx
    obtain ⟨rfl, rfl, rfl, rfl⟩ := hy
    exact ⟨a, b, c, d, x, y, rfl⟩
end Go.Proofs.Ytcnpppkndcgmpaa.W
