/-
  What the form's own reach says of an argument that is a string: fewer than 2^47 bytes.
-/
import Derived.Test.YtgopjpnlpcmldaaGreatDoorFrame
import Derived.SizedLaws
namespace Go.Proofs.YtgopjpnlpcmldaaGreatDoor.W
set_option linter.unusedVariables false
open Go.ChangeShapes Go.WideShapes Go.ChangeAt Go.RowKit
open Go.ChangeMaps (open_string shut_string)

def FStrR (v : Value) : Prop := ∃ s : ByteArray, v = .string s ∧ s.size ≤ 140737488355328
theorem open_FStrR {H : Type} {enc : TypeId × Value → H} {P : Program} {w : World} {base : Nat} {spare : Nat → Bool} {held : Bool} {r : Reach} {b0 : Nat} {t : TypeId} {v : Value} {d : DataW H} {p : List MemPlace}
    (ht : P.underlying t = some .string) (hv : Value.okWide P w r b0 t v) (h : DataW.Trod enc P w base spare held t v d p)
    {ts : List TypeId} {ds : List (DataW H)} (hs : (DataW.weightsEach P ts ds).all (· ≤ reachBytes) = true) (j : Nat) (hj : ts[j]? = some t) (hd : ds[j]? = some d) : FStrR v := by
  obtain ⟨s, rfl, rfl, _, _⟩ := open_string ht hv h
  have h1 := sized_string hs hj hd
  have h2 : reachBytes = 140737488351232 := by decide
  exact ⟨s, rfl, by
    have e : s.size = s.data.toList.length := by rw [Array.length_toList]; rfl
    omega⟩
end Go.Proofs.YtgopjpnlpcmldaaGreatDoor.W
