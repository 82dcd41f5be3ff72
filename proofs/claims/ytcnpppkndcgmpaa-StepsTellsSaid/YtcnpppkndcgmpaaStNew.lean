/-
  Contract of steps.New.
-/
import Derived.Test.YtcnpppkndcgmpaaStRight
namespace Go.Proofs.Ytcnpppkndcgmpaa.W
set_option linter.unusedVariables false
set_option linter.unusedSimpArgs false
open Go.ChangeShapes Go.WideShapes Go.ChangeAt Go.RowKit

def newR (t : Int) (v : V) : List St := if (0 ≤ t ∧ t ≤ 281474976710656) ∧ v.Ok then [⟨t, v⟩] else []
def newE (t : Int) (v : V) : Int := if (0 ≤ t ∧ t ≤ 281474976710656) ∧ v.Ok then 0 else 2
theorem one_ok (t : Int) (v : V) : OkS [⟨t, v⟩] ↔ (0 ≤ t ∧ t ≤ 281474976710656) ∧ v.Ok := by
  unfold OkS Rise Rise
  simp only [ne_eq, reduceCtorEq, not_false_eq_true, List.cons_ne_self, true_and, and_true]
  constructor
  · rintro ⟨h0, h1, h2⟩; exact ⟨⟨by omega, h1⟩, h2⟩
  · rintro ⟨⟨h0, h1⟩, h2⟩; exact ⟨by omega, h1, h2⟩
set_option maxHeartbeats 1000000 in
theorem sNew (t : Int) (v : V) (w : World) :
    Calls Try.prog 8 #[.int .i64 t, (.agg #[.int .i64 v.cpu, .int .i64 v.mem, .int .i64 v.gpu, .int .i64 v.lic])] w fun e w' => ∃ x, e = .returned (.tuple #[x, .int .i64 (newE t v)]) ∧ w'.ownsRow w.heap.size 34 5 x (newR t v).length (stsV (newR t v)) ∧ Below w.heap.size w w' := by
  have HP := Lib.hid (fun (b : Nat) (w' : World) (h : StAt w' (some ⟨b, 0, none⟩) 1 [⟨t, v⟩]) => sRight (some ⟨b, 0, none⟩) 1 [⟨t, v⟩] (by simp) w' h)
  have HX := Lib.hid (fun (w' : World) => (show StAt (w'.alloc (.cells #[.int .i64 t, .int .i64 v.cpu, .int .i64 v.mem, .int .i64 v.gpu, .int .i64 v.lic] 34)) (some ⟨w'.heap.size, 0, none⟩) 1 [⟨t, v⟩] from ⟨row_new _ _ _, Nat.le_refl _, fun h => (by cases h)⟩))
  have HO := Lib.hid (fun (w' : World) (h : w.heap.size ≤ w'.heap.size) => World.ownsRow_lit (base := w.heap.size) (e := 34) (size := 5) w' #[.int .i64 t, .int .i64 v.cpu, .int .i64 v.mem, .int .i64 v.gpu, .int .i64 v.lic] 1 h (by decide) rfl)
  by_cases h : (0 ≤ t ∧ t ≤ 281474976710656) ∧ v.Ok
  · have HR : Hid (newR t v = [⟨t, v⟩] ∧ newE t v = 0) := Lib.hid ⟨if_pos h, if_pos h⟩
    rw [show rightS [⟨t, v⟩] = true from decide_eq_true ((one_ok t v).2 h)] at HP
    clear h
    go_enter Try.func8, Try.ntmps8
    go_wp2_with fail
    have K := HX.out (w.alloc (.cells #[.int .i64 v.cpu, .int .i64 v.mem, .int .i64 v.gpu, .int .i64 v.lic] 25))
    have ho2 := HO.out (w.alloc (.cells #[.int .i64 v.cpu, .int .i64 v.mem, .int .i64 v.gpu, .int .i64 v.lic] 25)) (by simp)
    simp only [World.size_alloc] at K ho2
    have HO2 := Lib.hid ho2
    clear ho2
    refine (HP.out _ _ K).mono ?_; rintro e w1 ⟨rfl, hb1⟩
    go_wp2
    go_ret2
    exact ⟨_, by rw [HR.out.2]; rfl, by rw [HR.out.1]; exact own_later HO2.out hb1, (by repeat' (first | exact Below.refl _ _ | assumption | exact And.left (by assumption) | refine Below.drew ?_ | refine below_drewN ?_ _ | refine Below.setCell ?_ (by first | (simp; done) | (simp; omega) | omega) _ | refine Below.alloc ?_ (by first | (simp; done) | (simp; omega) | omega) _ | refine after (by assumption) (by first | (simp; done) | (simp; omega) | omega) ?_))⟩
  · have HR : Hid (newR t v = [] ∧ newE t v = 2) := Lib.hid ⟨if_neg h, if_neg h⟩
    rw [show rightS [⟨t, v⟩] = false from decide_eq_false (fun x => h ((one_ok t v).1 x))] at HP
    clear h
    go_enter Try.func8, Try.ntmps8
    go_wp2_with fail
    have K := HX.out (w.alloc (.cells #[.int .i64 v.cpu, .int .i64 v.mem, .int .i64 v.gpu, .int .i64 v.lic] 25))
    simp only [World.size_alloc] at K
    refine (HP.out _ _ K).mono ?_; rintro e w1 ⟨rfl, hb1⟩
    go_wp2
    go_ret2
    exact ⟨_, by rw [HR.out.2]; rfl, by rw [HR.out.1]; exact World.ownsRow_nil _ _ _ _, (by repeat' (first | exact Below.refl _ _ | assumption | exact And.left (by assumption) | refine Below.drew ?_ | refine below_drewN ?_ _ | refine Below.setCell ?_ (by first | (simp; done) | (simp; omega) | omega) _ | refine Below.alloc ?_ (by first | (simp; done) | (simp; omega) | omega) _ | refine after (by assumption) (by first | (simp; done) | (simp; omega) | omega) ?_))⟩
end Go.Proofs.Ytcnpppkndcgmpaa.W
