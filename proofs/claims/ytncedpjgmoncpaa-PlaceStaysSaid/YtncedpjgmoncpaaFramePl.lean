/-
  What a walk is told of an argument that is a list of shares, of vectors, or what is to be placed.
-/
import Derived.Test.YtncedpjgmoncpaaFrameV
import Derived.Test.YtncedpjgmoncpaaPlMem
namespace Go.Proofs.Ytncedpjgmoncpaa.W
set_option linter.unusedVariables false
open Go.ChangeShapes Go.WideShapes Go.ChangeAt Go.RowKit

def FShs (w : World) (v : Value) : Prop := ∃ a cap l, v = .slice a l.length cap ∧ ShAt w a cap l
def FVcs (w : World) (v : Value) : Prop := ∃ a cap l, v = .slice a l.length cap ∧ VcAt w a cap l
section
variable {H : Type} {enc : TypeId × Value → H} {w : World} {base : Nat} {spare : Nat → Bool} {held : Bool}
theorem trod_vc {m : Nat} {cs : List Value} {y : DataW H × List MemPlace} (hl : cs.length = 4) (hy : DataW.trod enc Try.prog w base spare held m 29 cs = some y) : ∃ v : V, cs = vcV v := by
  have c1 : Try.prog.cellsOf 3 = 1 := by kernel_rfl
  match cs, hl with
  | [a0, a1, a2, a3], _ =>
    obtain ⟨us, m', _, _, _, hul, hu⟩ := DataW.trod_struct Try.underlying29 hy
    match us, hul with
    | [u0, u1, u2, u3], _ =>
      have j0 : DataW.trod enc Try.prog w base spare held m' 3 [a0] = some u0 := by simpa [Value.cells, c1] using hu 0 _ rfl
      have j1 : DataW.trod enc Try.prog w base spare held m' 3 [a1] = some u1 := by simpa [Value.cells, c1] using hu 1 _ rfl
      have j2 : DataW.trod enc Try.prog w base spare held m' 3 [a2] = some u2 := by simpa [Value.cells, c1] using hu 2 _ rfl
      have j3 : DataW.trod enc Try.prog w base spare held m' 3 [a3] = some u3 := by simpa [Value.cells, c1] using hu 3 _ rfl
      obtain ⟨b0, f0, _, _⟩ := DataW.trod_int Try.underlying3 j0
      obtain ⟨b1, f1, _, _⟩ := DataW.trod_int Try.underlying3 j1
      obtain ⟨b2, f2, _, _⟩ := DataW.trod_int Try.underlying3 j2
      obtain ⟨b3, f3, _, _⟩ := DataW.trod_int Try.underlying3 j3
      simp at f0 f1 f2 f3
      exact ⟨⟨b0, b1, b2, b3⟩, by rw [f0, f1, f2, f3]; rfl⟩
theorem open_FVcs {r : Reach} {b0 : Nat} {v : Value} {d : DataW H} {p : List MemPlace} (hv : Value.okWide Try.prog w r b0 26 v) (h : DataW.Trod enc Try.prog w base spare held 26 v d p) : FVcs w v := by
  obtain ⟨a1, len, cap1, rfl⟩ := okWide_slice Try.underlying26 hv
  obtain ⟨fuel, hf⟩ := h
  obtain ⟨a, cap, l, e, h1, h2, h3, _⟩ := open_rows (α := V) (C := 4) (f := vcV) (q := fun _ => True) Try.underlying26 (by kernel_rfl) (by decide) (fun _ => rfl) (fun m cs y hl hy => by
    obtain ⟨s, hs⟩ := trod_vc hl hy
    exact ⟨s, hs, trivial⟩) hf
  exact ⟨a, cap, l, e, h3, h2, h1⟩
theorem trod_sh {m : Nat} {cs : List Value} {y : DataW H × List MemPlace} (hl : cs.length = 2) (hy : DataW.trod enc Try.prog w base spare held m 39 cs = some y) : ∃ v : Sh, cs = shV v := by
  have c1 : Try.prog.cellsOf 3 = 1 := by kernel_rfl
  match cs, hl with
  | [a0, a1], _ =>
    obtain ⟨us, m', _, _, _, hul, hu⟩ := DataW.trod_struct Try.underlying39 hy
    match us, hul with
    | [u0, u1], _ =>
      have j0 : DataW.trod enc Try.prog w base spare held m' 3 [a0] = some u0 := by simpa [Value.cells, c1] using hu 0 _ rfl
      have j1 : DataW.trod enc Try.prog w base spare held m' 3 [a1] = some u1 := by simpa [Value.cells, c1] using hu 1 _ rfl
      obtain ⟨b0, f0, _, _⟩ := DataW.trod_int Try.underlying3 j0
      obtain ⟨b1, f1, _, _⟩ := DataW.trod_int Try.underlying3 j1
      simp at f0 f1
      exact ⟨⟨b0, b1⟩, by rw [f0, f1]; rfl⟩
theorem open_FShs {r : Reach} {b0 : Nat} {v : Value} {d : DataW H} {p : List MemPlace} (hv : Value.okWide Try.prog w r b0 22 v) (h : DataW.Trod enc Try.prog w base spare held 22 v d p) : FShs w v := by
  obtain ⟨a1, len, cap1, rfl⟩ := okWide_slice Try.underlying22 hv
  obtain ⟨fuel, hf⟩ := h
  obtain ⟨a, cap, l, e, h1, h2, h3, _⟩ := open_rows (α := Sh) (C := 2) (f := shV) (q := fun _ => True) Try.underlying22 (by kernel_rfl) (by decide) (fun _ => rfl) (fun m cs y hl hy => by
    obtain ⟨s, hs⟩ := trod_sh hl hy
    exact ⟨s, hs, trivial⟩) hf
  exact ⟨a, cap, l, e, h3, h2, h1⟩
def FWant (w : World) (v : Value) : Prop := ∃ (b : Option Addr) (cb : Nat) (part : List Int) (many : Int) (need : V), v = .agg #[.slice b part.length cb, .int .i64 many, .int .i64 need.cpu, .int .i64 need.mem, .int .i64 need.gpu, .int .i64 need.lic] ∧ NmAt w b cb part ∧ many ≤ 9223372036854775807
theorem open_FWant {r : Reach} {b0 : Nat} {v : Value} {d : DataW H} {p : List MemPlace}
    (hv : Value.okWide Try.prog w r b0 31 v) (h : DataW.Trod enc Try.prog w base spare held 31 v d p) : FWant w v := by
  obtain ⟨⟨l⟩, rfl, hsz⟩ := okWide_struct Try.underlying31 hv
  have hsz' : l.length = 6 := hsz.trans (by kernel_rfl)
  obtain ⟨fuel, hf⟩ := h
  obtain ⟨xs, n, _, _, _, hlen, hg⟩ := DataW.trod_struct Try.underlying31 hf
  have c1 : Try.prog.cellsOf 3 = 1 := by kernel_rfl
  have cs : Try.prog.cellsOf 27 = 1 := by kernel_rfl
  have c4 : Try.prog.cellsOf 29 = 4 := by kernel_rfl
  match l, hsz', xs, hlen with
  | [v0, v1, v2, v3, v4, v5], _, [y0, y1, y2], _ =>
    have g0 : DataW.trod enc Try.prog w base spare held n 27 [v0] = some y0 := by simpa [Value.cells, cs] using hg 0 _ rfl
    have g1 : DataW.trod enc Try.prog w base spare held n 3 [v1] = some y1 := by simpa [Value.cells, c1] using hg 1 _ rfl
    have g2 : DataW.trod enc Try.prog w base spare held n 29 [v2, v3, v4, v5] = some y2 := by simpa [Value.cells, c4] using hg 2 _ rfl
    obtain ⟨b, cb, part, e, h1, h2, h3, _⟩ := open_rows (α := Int) (C := 1) (f := fun x => [.int .i64 x]) (q := fun _ => True) Try.underlying27 (by kernel_rfl) (by decide) (fun _ => rfl) (fun m cs y hl hy => by
      match cs, hl with
      | [a0], _ =>
        obtain ⟨x, f0, _, _⟩ := DataW.trod_int Try.underlying3 hy
        simp at f0
        exact ⟨x, by rw [f0], trivial⟩) g0
    obtain ⟨many, f1, _, wx⟩ := DataW.trod_int Try.underlying3 g1
    obtain ⟨need, hneed⟩ := trod_vc rfl g2
    simp at f1
    simp only [vcV, List.cons.injEq, and_true] at hneed
    obtain ⟨rfl, rfl, rfl, rfl⟩ := hneed
    subst e f1
    rw [flat_one] at h3
    exact ⟨b, cb, part, many, need, rfl, ⟨h3, h2, h1⟩, (in64_of_wf wx).2⟩
end
end Go.Proofs.Ytncedpjgmoncpaa.W
