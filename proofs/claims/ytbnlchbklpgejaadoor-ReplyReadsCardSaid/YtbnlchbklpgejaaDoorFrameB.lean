/-
  What a walk is told of an argument that is a slice of bytes, or of integers.
-/
import Derived.Test.YtbnlchbklpgejaaDoorFrame
import Derived.Test.YtbnlchbklpgejaaDoorBytes
import Derived.Deep.Slices
namespace Go.Proofs.YtbnlchbklpgejaaDoor.W
set_option linter.unusedVariables false
open Go.ChangeShapes Go.WideShapes Go.ChangeAt Go.RowKit

/-- a slice of integers of a kind -/
def FRow (k : IntKind) (w : World) (v : Value) : Prop :=
  ∃ (a : Option Addr) (cap : Nat) (xs : List Int), v = .slice a xs.length cap ∧ (a = none → cap = 0) ∧ xs.length ≤ cap ∧ (∀ x ∈ xs, (Lit.int k x).wf = true) ∧ RowAt w a (xs.map (Value.int k))
theorem open_FRow {H : Type} {enc : TypeId × Value → H} {P : Program} {w : World} {base : Nat} {spare : Nat → Bool} {held : Bool} {k : IntKind} {r : Reach} {b0 : Nat} {t e : TypeId} {v : Value} {d : DataW H} {p : List MemPlace}
    (ht : P.underlying t = some (.slice e)) (hc : P.cellsOf e = 1) (he : P.underlying e = some (.int k)) (hw : Value.okWide P w r b0 t v) (h : DataW.Trod enc P w base spare held t v d p) : FRow k w v := by
  obtain ⟨a1, len, cap, rfl⟩ := okWide_slice ht hw
  obtain ⟨fuel, hf⟩ := h
  rcases Go.Deep.open_slice1 ht hc hf with ⟨hv, _⟩ | ⟨a, len', cap', m, n, V, D, Pl, hv, _, hl, _, hm, _, hx⟩
  · simp [Value.cells] at hv
    obtain ⟨rfl, rfl, rfl⟩ := hv
    exact ⟨none, 0, [], rfl, fun _ => rfl, Nat.le_refl _, fun x hx => (by cases hx), .inl rfl⟩
  · simp [Value.cells] at hv
    obtain ⟨rfl, rfl, rfl⟩ := hv
    have hle : len ≤ m := by rw [hm]; split <;> omega
    have hy : ∀ i, i < len → ∃ x : Int, V i = .int k x ∧ (Lit.int k x).wf = true := fun i hi => by
      obtain ⟨x, e0, _, wx⟩ := DataW.trod_int he (hx i (by omega)).2
      simp only [List.cons.injEq, and_true] at e0
      exact ⟨x, e0, wx⟩
    obtain ⟨xs, hxs, hat⟩ : ∃ xs : List Int, xs.length = len ∧ ∀ i (h : i < xs.length), V i = .int k xs[i] ∧ (Lit.int k xs[i]).wf = true := by
      refine ⟨(List.range len).map fun i => match V i with | .int _ x => x | _ => 0, by simp, fun i h => ?_⟩
      simp only [List.length_map, List.length_range] at h
      obtain ⟨x, e1, wx⟩ := hy i h
      simp [e1, wx]
    subst hxs
    refine ⟨some a, cap, xs, rfl, fun h => (by cases h), hl, fun x hx' => ?_, ?_⟩
    · obtain ⟨i, hi, rfl⟩ := List.getElem_of_mem hx'
      exact (hat i hi).2
    · by_cases h0 : xs = []
      · subst h0; exact .inl rfl
      · have hp : 0 < xs.length := List.length_pos_iff.2 h0
        obtain ⟨b, off, spot⟩ := a
        have hspot : spot = none := by simpa [Addr.add] using World.cell?_spot (hx 0 (by omega)).1
        subst hspot
        have hcell : ∀ i (hi : i < xs.length), w.cell? ⟨b, off + i, none⟩ = some (.int k xs[i]) := fun i hi => by
          have := (hx i (by omega)).1
          rw [add_plain, (hat i hi).1] at this
          exact this
        refine .inr ⟨b, off, rfl, World.block_lt_of_cell? _ _ (hcell 0 hp), fun i u hu => ?_⟩
        rw [List.getElem?_map] at hu
        obtain ⟨x, hx1, rfl⟩ := Option.map_eq_some_iff.1 hu
        obtain ⟨hi, rfl⟩ := List.getElem?_eq_some_iff.1 hx1
        exact hcell i hi
/-- as bytes -/
theorem FRow.bytes {w : World} {v : Value} (h : FRow .u8 w v) : ∃ (a : Option Addr) (cap : Nat) (l : List UInt8), v = .slice a l.length cap ∧ (a = none → cap = 0) ∧ l.length ≤ cap ∧ RowAt w a (bytesV l) := by
  obtain ⟨a, cap, xs, rfl, h1, h2, h3, h4⟩ := h
  have e : bytesV (xs.map fun x => UInt8.ofNat x.toNat) = xs.map (Value.int .u8) := by
    unfold bytesV
    rw [List.map_map]
    refine List.map_congr_left fun x hx => ?_
    have hb := bounds_u8 (h3 x hx)
    show Value.int .u8 ((UInt8.ofNat x.toNat).toNat : Int) = _
    rw [of_nat (by omega)]
    congr 1
    omega
  exact ⟨a, cap, xs.map fun x => UInt8.ofNat x.toNat, by rw [List.length_map], h1, by rw [List.length_map]; exact h2, by rw [e]; exact h4⟩
/-- as integers -/
theorem FRow.ints {w : World} {v : Value} (h : FRow .i64 w v) : ∃ (a : Option Addr) (cap : Nat) (xs : List Int), v = .slice a xs.length cap ∧ (a = none → cap = 0) ∧ xs.length ≤ cap ∧ RowAt w a (vals xs) ∧
    ∀ i (h : i < xs.length), -9223372036854775808 ≤ xs[i] ∧ xs[i] ≤ 9223372036854775807 := by
  obtain ⟨a, cap, xs, rfl, h1, h2, h3, h4⟩ := h
  exact ⟨a, cap, xs, rfl, h1, h2, h4, fun i hi => bounds_i64 (h3 _ (List.getElem_mem hi))⟩
end Go.Proofs.YtbnlchbklpgejaaDoor.W
