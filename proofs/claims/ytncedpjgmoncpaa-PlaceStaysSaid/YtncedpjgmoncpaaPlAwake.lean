/-
  The chapter's example of layer 11; whether all of it is little.
-/
import Derived.Test.YtncedpjgmoncpaaPlPlace
import Derived.Test.YtncedpjgmoncpaaPlRight
import Derived.Test.YtncedpjgmoncpaaPlRef
namespace Go.Proofs.Ytncedpjgmoncpaa.W
set_option linter.unusedVariables false
set_option linter.unusedSimpArgs false
open Go.ChangeShapes Go.WideShapes Go.ChangeAt Go.RowKit

def fewB (fs : List V) (part : List Int) : Bool := decide (fs.length ≤ 30 ∧ part.length ≤ 30)
theorem rFew (a b : Option Addr) (cap cb : Nat) (fs : List V) (part : List Int) (many : Int) (need : V) (w : World) :
    Calls Try.prog 11 #[.slice a fs.length cap, .agg #[.slice b part.length cb, .int .i64 many, .int .i64 need.cpu, .int .i64 need.mem, .int .i64 need.gpu, .int .i64 need.lic]] w
      fun e w' => e = .returned (.bool (fewB fs part)) ∧ Below w.heap.size w w' := by
  by_cases h0 : fs.length ≤ 30
  · have g0 : decide (fs.length ≤ 30) = true := decide_eq_true h0
    by_cases h1 : part.length ≤ 30
    · have g1 : decide (part.length ≤ 30) = true := decide_eq_true h1
      rw [show fewB fs part = true from decide_eq_true ⟨h0, h1⟩]
      go_enter Try.func11, Try.ntmps11
      go_wp2
      go_ret
      exact ⟨by simp; omega, (by repeat' (first | exact Below.refl _ _ | assumption | exact And.left (by assumption) | refine Below.drew ?_ | refine below_drewN ?_ _ | refine Below.setCell ?_ (by first | (simp; done) | (simp; omega) | omega) _ | refine Below.alloc ?_ (by first | (simp; done) | (simp; omega) | omega) _ | refine after (by assumption) (by first | (simp; done) | (simp; omega) | omega) ?_))⟩
    · have g1 : decide (part.length ≤ 30) = false := decide_eq_false h1
      rw [show fewB fs part = false from decide_eq_false (fun x => h1 x.2)]
      go_enter Try.func11, Try.ntmps11
      go_wp2
      go_ret
      exact ⟨by simp; omega, (by repeat' (first | exact Below.refl _ _ | assumption | exact And.left (by assumption) | refine Below.drew ?_ | refine below_drewN ?_ _ | refine Below.setCell ?_ (by first | (simp; done) | (simp; omega) | omega) _ | refine Below.alloc ?_ (by first | (simp; done) | (simp; omega) | omega) _ | refine after (by assumption) (by first | (simp; done) | (simp; omega) | omega) ?_))⟩
  · have g0 : decide (fs.length ≤ 30) = false := decide_eq_false h0
    rw [show fewB fs part = false from decide_eq_false (fun x => h0 x.1)]
    go_enter Try.func11, Try.ntmps11
    go_wp2
    go_ret
    exact ⟨rfl, (by repeat' (first | exact Below.refl _ _ | assumption | exact And.left (by assumption) | refine Below.drew ?_ | refine below_drewN ?_ _ | refine Below.setCell ?_ (by first | (simp; done) | (simp; omega) | omega) _ | refine Below.alloc ?_ (by first | (simp; done) | (simp; omega) | omega) _ | refine after (by assumption) (by first | (simp; done) | (simp; omega) | omega) ?_))⟩

def awF : List V := [⟨3, 0, 0, 0⟩, ⟨9, 0, 0, 0⟩]
def awP : List Int := [0, 1]
def awS : List Sh := [⟨0, 1⟩, ⟨1, 2⟩]
theorem aw_place : placeS awF awP 3 ⟨2, 0, 0, 0⟩ = awS ∧ placeB awF awP 3 ⟨2, 0, 0, 0⟩ = true ∧ totalH awS = 3 := by refine ⟨?_, ?_, ?_⟩ <;> kernel_rfl
set_option maxHeartbeats 2000000 in
theorem awakePl (w : World) : Calls Try.prog 6 #[] w fun e w' => e = .returned (.bool true) ∧ Below w.heap.size w w' := by
  have K1 := Lib.hid (fun a c b d w' h1 h2 => pPlace a c awF (by decide) b d awP (by decide) 3 (by decide) ⟨2, 0, 0, 0⟩ w' h1 h2)
  rw [aw_place.1, aw_place.2.1] at K1
  have K3 := Lib.hid (fun a b ca cb w' ha hb => rShSame a b ca cb awS awS (by decide) (by decide) w' ha hb)
  rw [decide_eq_true (rfl : awS = awS)] at K3
  have K4 := Lib.hid (fun a c w' h => pTotal a c awS (by decide) w' h)
  rw [aw_place.2.2] at K4
  go_enter Try.func6, Try.ntmps6
  go_wp2_with fail
  generalize hw1 : World.alloc (World.alloc w _) _ = w1
  have hb1 : Below w.heap.size w w1 := by rw [← hw1]; exact (by repeat' (first | exact Below.refl _ _ | assumption | exact And.left (by assumption) | refine Below.drew ?_ | refine below_drewN ?_ _ | refine Below.setCell ?_ (by first | (simp; done) | (simp; omega) | omega) _ | refine Below.alloc ?_ (by first | (simp; done) | (simp; omega) | omega) _ | refine after (by assumption) (by first | (simp; done) | (simp; omega) | omega) ?_))
  have HS1 : Hid (VcAt w1 (some ⟨w.heap.size, 0, none⟩) 2 awF) := Lib.hid ⟨by rw [← hw1]; exact (row_new _ _ _).alloc _, Nat.le_refl _, fun h => (by cases h)⟩
  have HS2 : Hid (NmAt w1 (some ⟨w.heap.size + 1, 0, none⟩) 2 awP) := Lib.hid ⟨by rw [← hw1]; have := row_new (w.alloc (.cells #[.int .i64 3, .int .i64 0, .int .i64 0, .int .i64 0, .int .i64 9, .int .i64 0, .int .i64 0, .int .i64 0] 29)) #[.int .i64 0, .int .i64 1] 3; simpa [vals, awP] using this, Nat.le_refl _, fun h => (by cases h)⟩
  clear hw1
  refine (K1.out _ _ _ _ w1 HS1.out HS2.out).mono ?_
  rintro e w2 ⟨v2, rfl, hO2, hb2⟩
  obtain ⟨a2, c2, rfl, hs2⟩ := own_sh (l := awS) hO2
  have HS2 := Lib.hid hs2
  clear hO2 hs2 HS1
  have h3 : awS.length = 2 := rfl
  go_wp2_with fail
  generalize hw3 : World.alloc w2 _ = w3
  have hb3 : Below w2.heap.size w2 w3 := by rw [← hw3]; exact (Below.refl _ _).alloc (Nat.le_refl _) _
  have HS3 : Hid (ShAt w3 (some ⟨w2.heap.size, 0, none⟩) 2 awS) := Lib.hid ⟨by rw [← hw3]; exact row_new _ _ _, Nat.le_refl _, fun h => (by cases h)⟩
  clear hw3
  refine (K3.out a2 _ c2 2 _ (HS2.out.later hb3) HS3.out).mono ?_
  rintro e w4 ⟨rfl, hb4⟩
  go_wp2_with fail
  refine (K4.out a2 c2 _ ((HS2.out.later hb3).later hb4)).mono ?_
  rintro e w5 ⟨rfl, hb5⟩
  go_wp2
  go_ret
  have h1 := hb1.size
  have k2 := hb1.trans (hb2.mono h1)
  have k3 := k2.trans (hb3.mono k2.size)
  have k4 := k3.trans (hb4.mono k3.size)
  exact ⟨rfl, k4.trans (hb5.mono k4.size)⟩
end Go.Proofs.Ytncedpjgmoncpaa.W
