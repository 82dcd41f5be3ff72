/-
  What a walk is told of each argument, by its type: integers, strings, arrays of these by value.
-/
import Derived.Test.YtcdajfiohhbdgaaRows
import Derived.WalkKit
import Derived.ProofKit
import Derived.OpenShut
import Derived.ShutString
import Derived.ChangeOld
import Derived.Below
import Derived.Lib.Hide
namespace Go.Proofs.Ytcdajfiohhbdgaa.W
set_option linter.unusedVariables false
open Go.ChangeShapes Go.WideShapes Go.ChangeAt Go.RowKit
open Go.ChangeMaps (open_string shut_string)

def FInt (k : IntKind) (v : Value) : Prop := ∃ n, v = .int k n ∧ (Lit.int k n).wf = true
def FBool (v : Value) : Prop := ∃ b, v = .bool b
def FStr (v : Value) : Prop := ∃ s : ByteArray, v = .string s ∧ s.size ≤ maxLen
/-- an array, or a struct, of n values of which each is so -/
def FAgg (n : Nat) (F : Value → Prop) (v : Value) : Prop := ∃ cs : List Value, v = .agg ⟨cs⟩ ∧ cs.length = n ∧ ∀ c ∈ cs, F c

section
variable {H : Type} {enc : TypeId × Value → H} {P : Program} {w : World} {base : Nat} {spare : Nat → Bool} {held : Bool} {r : Reach} {b0 : Nat} {t : TypeId} {v : Value} {d : DataW H} {p : List MemPlace}

theorem open_FInt {k : IntKind} (ht : P.underlying t = some (.int k)) (hv : Value.okWide P w r b0 t v) (h : DataW.Trod enc P w base spare held t v d p) : FInt k v := by
  obtain ⟨x, rfl, _, _, wx⟩ := open_int ht hv h
  exact ⟨x, rfl, wx⟩
theorem open_FBool (ht : P.underlying t = some .bool) (hv : Value.okWide P w r b0 t v) (h : DataW.Trod enc P w base spare held t v d p) : FBool v := by
  obtain ⟨x, rfl, _⟩ := open_bool ht hv h
  exact ⟨x, rfl⟩
theorem open_FStr (ht : P.underlying t = some .string) (hv : Value.okWide P w r b0 t v) (h : DataW.Trod enc P w base spare held t v d p) : FStr v := by
  obtain ⟨s, rfl, _, _, hs⟩ := open_string ht hv h
  exact ⟨s, rfl, hs⟩
theorem okWide_array {n : Nat} {e : TypeId} (ht : P.underlying t = some (.array n e)) (h : Value.okWide P w r b0 t v) : ∃ cs, v = .agg cs ∧ cs.size = P.cellsOf t := by
  obtain ⟨cs, h1, h2, _⟩ : ∃ cs, v = .agg cs ∧ cs.size = P.cellsOf t ∧ Row.okWide P w r b0 t cs := by simpa [Value.okWide, ht] using h
  exact ⟨cs, h1, h2⟩
/-- an array of n one-cell elements -/
theorem open_FArr {n : Nat} {e : TypeId} {F : Value → Prop} (ht : P.underlying t = some (.array n e)) (hce : P.cellsOf e = 1) (hC : P.cellsOf t = n)
    (hF : ∀ (m : Nat) (c : Value) (y : DataW H × List MemPlace), DataW.trod enc P w base spare held m e [c] = some y → F c)
    (hv : Value.okWide P w r b0 t v) (h : DataW.Trod enc P w base spare held t v d p) : FAgg n F v := by
  obtain ⟨cs, rfl, hsz⟩ := okWide_array ht hv
  obtain ⟨cs⟩ := cs
  obtain ⟨fuel, hf⟩ := h
  obtain ⟨xs, m, _, _, _, hl, hel⟩ := DataW.trod_array ht hf
  rw [hC] at hsz
  have hsz' : cs.length = n := hsz
  refine ⟨cs, rfl, hsz', fun c hc => ?_⟩
  obtain ⟨i, hi, rfl⟩ := List.getElem_of_mem hc
  have g := hel i (by omega)
  rw [hce, Nat.mul_one] at g
  have e1 : (List.drop i (Value.agg ⟨cs⟩).cells.toList).take 1 = [cs[i]] := by
    show (List.drop i cs).take 1 = _
    rw [List.drop_eq_getElem_cons hi]; rfl
  have e2 : xs[i]? = some (xs[i]'(by omega)) := List.getElem?_eq_getElem (by omega)
  exact hF m cs[i] _ (by rw [e2] at g; first | exact (e1 ▸ g) | (rw [← e1]; exact g))
theorem trod_FInt {k : IntKind} {e : TypeId} (he : P.underlying e = some (.int k)) (m : Nat) (c : Value) (y : DataW H × List MemPlace) (h : DataW.trod enc P w base spare held m e [c] = some y) : FInt k c := by
  obtain ⟨x, e0, _, wx⟩ := DataW.trod_int he h
  simp at e0; subst e0
  exact ⟨x, rfl, wx⟩
theorem trod_FStr {e : TypeId} (he : P.underlying e = some .string) (m : Nat) (c : Value) (y : DataW H × List MemPlace) (h : DataW.trod enc P w base spare held m e [c] = some y) : FStr c := by
  obtain ⟨s, e0, _, hs⟩ := DataW.trod_string he h
  simp at e0; subst e0
  exact ⟨s, rfl, hs⟩
end
theorem FAgg.two {F : Value → Prop} {v : Value} (h : FAgg 2 F v) : ∃ a b, v = .agg #[a, b] ∧ F a ∧ F b := by
  obtain ⟨cs, rfl, hl, hF⟩ := h
  match cs, hl with
  | [a, b], _ => exact ⟨a, b, rfl, hF a (by simp), hF b (by simp)⟩
theorem FAgg.three {F : Value → Prop} {v : Value} (h : FAgg 3 F v) : ∃ a b c, v = .agg #[a, b, c] ∧ F a ∧ F b ∧ F c := by
  obtain ⟨cs, rfl, hl, hF⟩ := h
  match cs, hl with
  | [a, b, c], _ => exact ⟨a, b, c, rfl, hF a (by simp), hF b (by simp), hF c (by simp)⟩
theorem FAgg.four {F : Value → Prop} {v : Value} (h : FAgg 4 F v) : ∃ a b c d, v = .agg #[a, b, c, d] ∧ F a ∧ F b ∧ F c ∧ F d := by
  obtain ⟨cs, rfl, hl, hF⟩ := h
  match cs, hl with
  | [a, b, c, d], _ => exact ⟨a, b, c, d, rfl, hF a (by simp), hF b (by simp), hF c (by simp), hF d (by simp)⟩
end Go.Proofs.Ytcdajfiohhbdgaa.W
