/-
  Slices whose elements are so many cells each, as an argument.
-/
import Derived.Test.YtcdajfiohhbdgaaFrame
import Derived.Test.YtcdajfiohhbdgaaBytes
import Derived.Deep.Slices
namespace Go.Proofs.Ytcdajfiohhbdgaa.W
set_option linter.unusedVariables false
open Go.ChangeShapes Go.WideShapes Go.ChangeAt Go.RowKit

theorem flat_at {α : Type} {f : α → List Value} {n : Nat} (hf : ∀ x, (f x).length = n) : ∀ (l : List α) (k j : Nat) (h : k < l.length), j < n → (l.flatMap f)[k * n + j]? = (f l[k])[j]?
  | x :: l, 0, j, _, hj => by simp only [Nat.zero_mul, Nat.zero_add, List.flatMap_cons, List.getElem_cons_zero]; rw [List.getElem?_append_left (by rw [hf]; exact hj)]
  | x :: l, k + 1, j, h, hj => by
    have e : (k + 1) * n + j = n + (k * n + j) := by rw [Nat.add_mul]; omega
    rw [e, List.flatMap_cons, List.getElem?_append_right (by rw [hf]; omega), hf, show n + (k * n + j) - n = k * n + j by omega]
    simp only [List.getElem_cons_succ]
    exact flat_at hf l k j (by simpa using h) hj
theorem flat_len {α : Type} {f : α → List Value} {n : Nat} (hf : ∀ x, (f x).length = n) (l : List α) : (l.flatMap f).length = l.length * n := by
  induction l with
  | nil => simp
  | cons x l ih => rw [List.flatMap_cons, List.length_append, ih, hf, List.length_cons, Nat.add_mul]; omega

theorem list_of {α : Type} {p : Nat → α → Prop} : ∀ (n : Nat), (∀ i, i < n → ∃ x, p i x) → ∃ l : List α, l.length = n ∧ ∀ i (hi : i < l.length), p i l[i]
  | 0, _ => ⟨[], rfl, fun i hi => by simp at hi⟩
  | n + 1, h => by
    obtain ⟨l, hl, hp⟩ := list_of n fun i hi => h i (by omega)
    obtain ⟨x, hx⟩ := h n (by omega)
    refine ⟨l ++ [x], by simp [hl], fun i hi => ?_⟩
    rcases Nat.lt_or_ge i l.length with h' | h'
    · rw [List.getElem_append_left h']; exact hp i h'
    · have : i = n := by simp at hi; omega
      subst this
      rw [List.getElem_append_right (by omega)]
      simpa [hl] using hx
theorem rowAt_flat {α : Type} {f : α → List Value} {n : Nat} (hn : 0 < n) (hf : ∀ x, (f x).length = n) {w : World} {b off : Nat} (l : List α) (hb : l ≠ [] → b < w.heap.size)
    (h : ∀ k (hk : k < l.length) j, j < n → w.cell? ⟨b, off + (k * n + j), none⟩ = (f l[k])[j]?) : RowAt w (some ⟨b, off, none⟩) (l.flatMap f) := by
  by_cases h0 : l = []
  · subst h0; exact .inl rfl
  · refine .inr ⟨b, off, rfl, hb h0, fun i u hu => ?_⟩
    have hi : i < l.length * n := by
      rcases Nat.lt_or_ge i (l.length * n) with h' | h'
      · exact h'
      · rw [List.getElem?_eq_none (by rw [flat_len hf]; exact h')] at hu; cases hu
    have hk : i / n < l.length := Nat.div_lt_of_lt_mul (by rw [Nat.mul_comm]; exact hi)
    have hj : i % n < n := Nat.mod_lt _ hn
    have e : i / n * n + i % n = i := by rw [Nat.mul_comm]; exact Nat.div_add_mod i n
    have h1 := h (i / n) hk (i % n) hj
    have h2 := flat_at hf l (i / n) (i % n) hk hj
    rw [e] at h1 h2
    rw [h1, ← h2, hu]

theorem flat_one {α : Type} (g : α → Value) : ∀ (l : List α), l.flatMap (fun x => [g x]) = l.map g
  | [] => rfl
  | x :: l => by rw [List.flatMap_cons, flat_one g l]; rfl
section
variable {H : Type} {enc : TypeId × Value → H} {P : Program} {w : World} {base : Nat} {spare : Nat → Bool} {held : Bool}
/-- a slice whose elements are so many cells each -/
theorem open_rows {α : Type} {f : α → List Value} {C : Nat} {q : α → Prop} {t e : TypeId} {fuel : Nat} {v : Value} {x : DataW H × List MemPlace} (ht : P.underlying t = some (.slice e)) (hC : P.cellsOf e = C) (h0 : 0 < C) (hf : ∀ x, (f x).length = C)
    (helem : ∀ (n : Nat) (cs : List Value) (y : DataW H × List MemPlace), cs.length = C → DataW.trod enc P w base spare held n e cs = some y → ∃ x : α, cs = f x ∧ q x)
    (h : DataW.trod enc P w base spare held fuel t [v] = some x) : ∃ (a : Option Addr) (cap : Nat) (l : List α), v = .slice a l.length cap ∧ (a = none → cap = 0) ∧ l.length ≤ cap ∧ RowAt w a (l.flatMap f) ∧ ∀ x ∈ l, q x := by
  rcases Go.Deep.open_slice ht h with ⟨hv, _⟩ | ⟨a, len, cap, m, n, D, Pl, hv, _, hl, _, hm, _, hx⟩
  · simp at hv
    exact ⟨none, 0, [], hv, fun _ => rfl, Nat.le_refl _, .inl rfl, fun x hx => (by cases hx)⟩
  · simp at hv
    have hle : len ≤ m := by rw [hm]; split <;> omega
    obtain ⟨l, hll, hp⟩ := list_of (p := fun i (y : α) => w.cells? base (a.add (i * C)) C = some (f y) ∧ q y) len fun i hi => by
      obtain ⟨cs, h1, h2⟩ := hx i (by omega)
      rw [hC] at h1
      obtain ⟨_, hlen, _⟩ := World.cells?_some h1
      obtain ⟨y, rfl, hy⟩ := helem n cs _ hlen h2
      exact ⟨y, h1, hy⟩
    subst hll
    refine ⟨some a, cap, l, hv, fun h => (by cases h), hl, ?_, fun y hy => ?_⟩
    · by_cases hne : l = []
      · subst hne; exact .inl rfl
      · have hpos : 0 < l.length := List.length_pos_iff.2 hne
        obtain ⟨b, off, spot⟩ := a
        have hat : ∀ i (hi : i < l.length) j, j < C → w.cell? (((⟨b, off, spot⟩ : Addr).add (i * C)).add j) = (f l[i])[j]? := fun i hi j hj => (World.cells?_some (hp i hi).1).2.2 j hj
        have h00 := hat 0 hpos 0 h0
        have hsome : (f l[0])[0]? = some ((f l[0])[0]'(by rw [hf]; exact h0)) := List.getElem?_eq_getElem _
        rw [hsome] at h00
        have hspot : spot = none := by simpa [Addr.add] using World.cell?_spot h00
        subst hspot
        refine rowAt_flat h0 hf l (fun _ => ?_) fun k hk j hj => ?_
        · have := World.block_lt_of_cell? _ _ h00
          simpa [Addr.add] using this
        · have h1 := hat k hk j hj
          rw [add_plain, add_plain] at h1
          rw [← h1, Nat.add_assoc]
    · obtain ⟨i, hi, rfl⟩ := List.getElem_of_mem hy
      exact (hp i hi).2
end

end Go.Proofs.Ytcdajfiohhbdgaa.W
