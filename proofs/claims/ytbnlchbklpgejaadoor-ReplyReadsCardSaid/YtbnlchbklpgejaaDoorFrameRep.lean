/-
  What a walk is told of an argument that is a reply.
-/
import Derived.Test.YtbnlchbklpgejaaDoorFrameB
import Derived.Test.YtbnlchbklpgejaaDoorReplyMem
namespace Go.Proofs.YtbnlchbklpgejaaDoor.W
set_option linter.unusedVariables false
open Go.ChangeShapes Go.WideShapes Go.ChangeAt Go.RowKit

/-- as open_FRow, of a slice among a struct's cells -/
theorem open_ints {H : Type} {enc : TypeId × Value → H} {w : World} {base : Nat} {spare : Nat → Bool} {held : Bool} {n : Nat} {v : Value} {d : DataW H × List MemPlace}
    (h : DataW.trod enc Tryd.prog w base spare held n 23 [v] = some d) :
    ∃ (a : Option Addr) (cap : Nat) (xs : List Int), v = .slice a xs.length cap ∧ (a = none → cap = 0) ∧ RowAt w a (vals xs) := by
  have c1 : Tryd.prog.cellsOf 3 = 1 := by kernel_rfl
  obtain ⟨d1, d2⟩ := d
  rcases Go.Deep.open_slice1 Tryd.underlying23 c1 h with ⟨hv, _⟩ | ⟨a, len', cap', m, n', V, D, Pl, hv, _, hl, _, hm, _, hx⟩
  · simp at hv
    exact ⟨none, 0, [], hv, fun _ => rfl, .inl rfl⟩
  · simp at hv
    have hle : len' ≤ m := by rw [hm]; split <;> omega
    have hy : ∀ i, i < len' → ∃ x : Int, V i = .int .i64 x := fun i hi => by
      obtain ⟨x, e0, _, wx⟩ := DataW.trod_int Tryd.underlying3 (hx i (by omega)).2
      simp only [List.cons.injEq, and_true] at e0
      exact ⟨x, e0⟩
    obtain ⟨xs, hxs, hat⟩ : ∃ xs : List Int, xs.length = len' ∧ ∀ i (h : i < xs.length), V i = .int .i64 xs[i] := by
      refine ⟨(List.range len').map fun i => match V i with | .int _ x => x | _ => 0, by simp, fun i h => ?_⟩
      simp only [List.length_map, List.length_range] at h
      obtain ⟨x, e1⟩ := hy i h
      simp [e1]
    subst hxs
    refine ⟨some a, cap', xs, hv, fun h => (by cases h), ?_⟩
    by_cases h0 : xs = []
    · subst h0; exact .inl rfl
    · have hp : 0 < xs.length := List.length_pos_iff.2 h0
      obtain ⟨b, off, spot⟩ := a
      have hspot : spot = none := by simpa [Addr.add] using World.cell?_spot (hx 0 (by omega)).1
      subst hspot
      have hcell : ∀ i (hi : i < xs.length), w.cell? ⟨b, off + i, none⟩ = some (.int .i64 xs[i]) := fun i hi => by
        have := (hx i (by omega)).1
        rw [add_plain, hat i hi] at this
        exact this
      refine .inr ⟨b, off, rfl, World.block_lt_of_cell? _ _ (hcell 0 hp), fun i u hu => ?_⟩
      unfold vals at hu
      rw [List.getElem?_map] at hu
      obtain ⟨x, hx1, rfl⟩ := Option.map_eq_some_iff.1 hu
      obtain ⟨hi, rfl⟩ := List.getElem?_eq_some_iff.1 hx1
      exact hcell i hi
def FRep (w : World) (v : Value) : Prop := ∃ r : Rp, v = .agg #[.int .i64 r.key, .int .i64 r.err, .int .i64 r.job, .int .i64 r.ver, .slice r.na r.nums.length r.nc] ∧ (r.na = none → r.nc = 0) ∧ RowAt w r.na (vals r.nums)
theorem open_FRep {H : Type} {enc : TypeId × Value → H} {w : World} {base : Nat} {spare : Nat → Bool} {held : Bool} {r : Reach} {b0 : Nat} {v : Value} {d : DataW H} {p : List MemPlace}
    (hv : Value.okWide Tryd.prog w r b0 25 v) (h : DataW.Trod enc Tryd.prog w base spare held 25 v d p) : FRep w v := by
  obtain ⟨⟨l⟩, rfl, hsz⟩ := okWide_struct Tryd.underlying25 hv
  have hsz' : l.length = 5 := hsz.trans (by kernel_rfl)
  obtain ⟨fuel, hf⟩ := h
  obtain ⟨xs, n, _, _, _, hlen, hg⟩ := DataW.trod_struct Tryd.underlying25 hf
  have c1 : Tryd.prog.cellsOf 3 = 1 := by kernel_rfl
  have ce : Tryd.prog.cellsOf 22 = 1 := by kernel_rfl
  have c2 : Tryd.prog.cellsOf 23 = 1 := by kernel_rfl
  match l, hsz', xs, hlen with
  | [v0, v1, v2, v3, v4], _, [y0, y1, y2, y3, y4], _ =>
    have g0 : DataW.trod enc Tryd.prog w base spare held n 3 [v0] = some y0 := by simpa [Value.cells, c1] using hg 0 _ rfl
    obtain ⟨x0, e0, _, _⟩ := DataW.trod_int Tryd.underlying3 g0
    have g1 : DataW.trod enc Tryd.prog w base spare held n 22 [v1] = some y1 := by simpa [Value.cells, ce] using hg 1 _ rfl
    obtain ⟨x1, e1, _, _⟩ := DataW.trod_int Tryd.underlying22 g1
    have g2 : DataW.trod enc Tryd.prog w base spare held n 3 [v2] = some y2 := by simpa [Value.cells, c1] using hg 2 _ rfl
    obtain ⟨x2, e2, _, _⟩ := DataW.trod_int Tryd.underlying3 g2
    have g3 : DataW.trod enc Tryd.prog w base spare held n 3 [v3] = some y3 := by simpa [Value.cells, c1] using hg 3 _ rfl
    obtain ⟨x3, e3, _, _⟩ := DataW.trod_int Tryd.underlying3 g3
    have g4 : DataW.trod enc Tryd.prog w base spare held n 23 [v4] = some y4 := by simpa [Value.cells, c2] using hg 4 _ rfl
    obtain ⟨a, cap, l4, e4, hn, hr⟩ := open_ints g4
    simp at e0 e1 e2 e3
    refine ⟨⟨x0, x1, x2, x3, a, cap, l4⟩, ?_, hn, hr⟩
    rw [e0, e1, e2, e3, e4]
end Go.Proofs.YtbnlchbklpgejaaDoor.W
