/-
  Several texts in one: SpecFlaw, SpecRight.
-/
import Derived.Test.YtcdajfiohhbdgaaJ31
import Derived.Laws.EntriesVeiled

/-
  Contracts of layer 7's table: what is looked at, one behind the other; Flaw, Right.
-/
namespace Go.Proofs.Ytcdajfiohhbdgaa.W
set_option linter.unusedVariables false
set_option linter.unusedSimpArgs false
open Go.ChangeShapes Go.WideShapes Go.ChangeAt Go.RowKit

theorem look2 (s : S) (g : Nat) (w : World) (HB : Box w g s) :
    Calls Try.prog 59 #[.pointer (some ⟨g, 0, none⟩)] w fun e w' => e = .returned (.bool (soB s 2)) ∧ Below w.heap.size w w' := by
  have h := HB.c3
  have H := Lib.hid (fun b w h => within1 1 8 s.users b w h)
  clear HB
  show Calls Try.prog 59 #[.pointer (some ⟨g, 0, none⟩)] w fun e w' => e = .returned (.bool (inB s.users 1 8)) ∧ Below w.heap.size w w'
  go_enter Try.func59, Try.ntmps59
  go_wp2_with fail
  refine (H.out _ _ (by simp [go_sem])).mono ?_; rintro e w1 ⟨rfl, rfl⟩
  go_wp2
  go_ret
  exact ⟨rfl, (by repeat' (first | exact Below.refl _ _ | assumption | exact And.left (by assumption) | refine Below.drew ?_ | refine below_drewN ?_ _ | refine Below.setCell ?_ (by first | (simp; done) | (simp; omega) | omega) _ | refine Below.alloc ?_ (by first | (simp; done) | (simp; omega) | omega) _ | refine after (by assumption) (by first | (simp; done) | (simp; omega) | omega) ?_))⟩

theorem look5 (s : S) (g : Nat) (w : World) (HB : Box w g s) :
    Calls Try.prog 63 #[.pointer (some ⟨g, 0, none⟩)] w fun e w' => e = .returned (.bool (soB s 5)) ∧ Below w.heap.size w w' := by
  have h := HB.c8
  have H := Lib.hid (fun b w h => within1 1 16 s.decay b w h)
  clear HB
  show Calls Try.prog 63 #[.pointer (some ⟨g, 0, none⟩)] w fun e w' => e = .returned (.bool (inB s.decay 1 16)) ∧ Below w.heap.size w w'
  go_enter Try.func63, Try.ntmps63
  go_wp2_with fail
  refine (H.out _ _ (by simp [go_sem])).mono ?_; rintro e w1 ⟨rfl, rfl⟩
  go_wp2
  go_ret
  exact ⟨rfl, (by repeat' (first | exact Below.refl _ _ | assumption | exact And.left (by assumption) | refine Below.drew ?_ | refine below_drewN ?_ _ | refine Below.setCell ?_ (by first | (simp; done) | (simp; omega) | omega) _ | refine Below.alloc ?_ (by first | (simp; done) | (simp; omega) | omega) _ | refine after (by assumption) (by first | (simp; done) | (simp; omega) | omega) ?_))⟩

theorem look7 (s : S) (g : Nat) (w : World) (HB : Box w g s) :
    Calls Try.prog 65 #[.pointer (some ⟨g, 0, none⟩)] w fun e w' => e = .returned (.bool (soB s 7)) ∧ Below w.heap.size w w' := by
  have h := HB.c10
  have H := Lib.hid (fun b w h => within1 1 256 s.jobs b w h)
  clear HB
  show Calls Try.prog 65 #[.pointer (some ⟨g, 0, none⟩)] w fun e w' => e = .returned (.bool (inB s.jobs 1 256)) ∧ Below w.heap.size w w'
  go_enter Try.func65, Try.ntmps65
  go_wp2_with fail
  refine (H.out _ _ (by simp [go_sem])).mono ?_; rintro e w1 ⟨rfl, rfl⟩
  go_wp2
  go_ret
  exact ⟨rfl, (by repeat' (first | exact Below.refl _ _ | assumption | exact And.left (by assumption) | refine Below.drew ?_ | refine below_drewN ?_ _ | refine Below.setCell ?_ (by first | (simp; done) | (simp; omega) | omega) _ | refine Below.alloc ?_ (by first | (simp; done) | (simp; omega) | omega) _ | refine after (by assumption) (by first | (simp; done) | (simp; omega) | omega) ?_))⟩

theorem look8 (s : S) (g : Nat) (w : World) (HB : Box w g s) :
    Calls Try.prog 66 #[.pointer (some ⟨g, 0, none⟩)] w fun e w' => e = .returned (.bool (soB s 8)) ∧ Below w.heap.size w w' := by
  have h := HB.c11
  have H := Lib.hid (fun b w h => within1 1 1048576 s.ids b w h)
  clear HB
  show Calls Try.prog 66 #[.pointer (some ⟨g, 0, none⟩)] w fun e w' => e = .returned (.bool (inB s.ids 1 1048576)) ∧ Below w.heap.size w w'
  go_enter Try.func66, Try.ntmps66
  go_wp2_with fail
  refine (H.out _ _ (by simp [go_sem])).mono ?_; rintro e w1 ⟨rfl, rfl⟩
  go_wp2
  go_ret
  exact ⟨rfl, (by repeat' (first | exact Below.refl _ _ | assumption | exact And.left (by assumption) | refine Below.drew ?_ | refine below_drewN ?_ _ | refine Below.setCell ?_ (by first | (simp; done) | (simp; omega) | omega) _ | refine Below.alloc ?_ (by first | (simp; done) | (simp; omega) | omega) _ | refine after (by assumption) (by first | (simp; done) | (simp; omega) | omega) ?_))⟩

theorem look9 (s : S) (g : Nat) (w : World) (HB : Box w g s) :
    Calls Try.prog 67 #[.pointer (some ⟨g, 0, none⟩)] w fun e w' => e = .returned (.bool (soB s 9)) ∧ Below w.heap.size w w' := by
  have h := HB.c12
  have H := Lib.hid (fun b w h => within1 1 65536 s.versions b w h)
  clear HB
  show Calls Try.prog 67 #[.pointer (some ⟨g, 0, none⟩)] w fun e w' => e = .returned (.bool (inB s.versions 1 65536)) ∧ Below w.heap.size w w'
  go_enter Try.func67, Try.ntmps67
  go_wp2_with fail
  refine (H.out _ _ (by simp [go_sem])).mono ?_; rintro e w1 ⟨rfl, rfl⟩
  go_wp2
  go_ret
  exact ⟨rfl, (by repeat' (first | exact Below.refl _ _ | assumption | exact And.left (by assumption) | refine Below.drew ?_ | refine below_drewN ?_ _ | refine Below.setCell ?_ (by first | (simp; done) | (simp; omega) | omega) _ | refine Below.alloc ?_ (by first | (simp; done) | (simp; omega) | omega) _ | refine after (by assumption) (by first | (simp; done) | (simp; omega) | omega) ?_))⟩

theorem look10 (s : S) (g : Nat) (w : World) (HB : Box w g s) :
    Calls Try.prog 68 #[.pointer (some ⟨g, 0, none⟩)] w fun e w' => e = .returned (.bool (soB s 10)) ∧ Below w.heap.size w w' := by
  have h := HB.c13
  have H := Lib.hid (fun b w h => within1 0 65536 s.linger b w h)
  clear HB
  show Calls Try.prog 68 #[.pointer (some ⟨g, 0, none⟩)] w fun e w' => e = .returned (.bool (inB s.linger 0 65536)) ∧ Below w.heap.size w w'
  go_enter Try.func68, Try.ntmps68
  go_wp2_with fail
  refine (H.out _ _ (by simp [go_sem])).mono ?_; rintro e w1 ⟨rfl, rfl⟩
  go_wp2
  go_ret
  exact ⟨rfl, (by repeat' (first | exact Below.refl _ _ | assumption | exact And.left (by assumption) | refine Below.drew ?_ | refine below_drewN ?_ _ | refine Below.setCell ?_ (by first | (simp; done) | (simp; omega) | omega) _ | refine Below.alloc ?_ (by first | (simp; done) | (simp; omega) | omega) _ | refine after (by assumption) (by first | (simp; done) | (simp; omega) | omega) ?_))⟩

theorem look11 (s : S) (g : Nat) (w : World) (HB : Box w g s) :
    Calls Try.prog 69 #[.pointer (some ⟨g, 0, none⟩)] w fun e w' => e = .returned (.bool (soB s 11)) ∧ Below w.heap.size w w' := by
  have h := HB.c14
  have H := Lib.hid (fun b w h => within1 1 16 s.keep b w h)
  clear HB
  show Calls Try.prog 69 #[.pointer (some ⟨g, 0, none⟩)] w fun e w' => e = .returned (.bool (inB s.keep 1 16)) ∧ Below w.heap.size w w'
  go_enter Try.func69, Try.ntmps69
  go_wp2_with fail
  refine (H.out _ _ (by simp [go_sem])).mono ?_; rintro e w1 ⟨rfl, rfl⟩
  go_wp2
  go_ret
  exact ⟨rfl, (by repeat' (first | exact Below.refl _ _ | assumption | exact And.left (by assumption) | refine Below.drew ?_ | refine below_drewN ?_ _ | refine Below.setCell ?_ (by first | (simp; done) | (simp; omega) | omega) _ | refine Below.alloc ?_ (by first | (simp; done) | (simp; omega) | omega) _ | refine after (by assumption) (by first | (simp; done) | (simp; omega) | omega) ?_))⟩

theorem look12 (s : S) (g : Nat) (w : World) (HB : Box w g s) :
    Calls Try.prog 70 #[.pointer (some ⟨g, 0, none⟩)] w fun e w' => e = .returned (.bool (soB s 12)) ∧ Below w.heap.size w w' := by
  have h := HB.c15
  have H := Lib.hid (fun b w h => within1 1 8 s.inn b w h)
  clear HB
  show Calls Try.prog 70 #[.pointer (some ⟨g, 0, none⟩)] w fun e w' => e = .returned (.bool (inB s.inn 1 8)) ∧ Below w.heap.size w w'
  go_enter Try.func70, Try.ntmps70
  go_wp2_with fail
  refine (H.out _ _ (by simp [go_sem])).mono ?_; rintro e w1 ⟨rfl, rfl⟩
  go_wp2
  go_ret
  exact ⟨rfl, (by repeat' (first | exact Below.refl _ _ | assumption | exact And.left (by assumption) | refine Below.drew ?_ | refine below_drewN ?_ _ | refine Below.setCell ?_ (by first | (simp; done) | (simp; omega) | omega) _ | refine Below.alloc ?_ (by first | (simp; done) | (simp; omega) | omega) _ | refine after (by assumption) (by first | (simp; done) | (simp; omega) | omega) ?_))⟩

theorem look13 (s : S) (g : Nat) (w : World) (HB : Box w g s) :
    Calls Try.prog 71 #[.pointer (some ⟨g, 0, none⟩)] w fun e w' => e = .returned (.bool (soB s 13)) ∧ Below w.heap.size w w' := by
  have h := HB.c16
  have H := Lib.hid (fun b w h => within1 1 16 s.out b w h)
  clear HB
  show Calls Try.prog 71 #[.pointer (some ⟨g, 0, none⟩)] w fun e w' => e = .returned (.bool (inB s.out 1 16)) ∧ Below w.heap.size w w'
  go_enter Try.func71, Try.ntmps71
  go_wp2_with fail
  refine (H.out _ _ (by simp [go_sem])).mono ?_; rintro e w1 ⟨rfl, rfl⟩
  go_wp2
  go_ret
  exact ⟨rfl, (by repeat' (first | exact Below.refl _ _ | assumption | exact And.left (by assumption) | refine Below.drew ?_ | refine below_drewN ?_ _ | refine Below.setCell ?_ (by first | (simp; done) | (simp; omega) | omega) _ | refine Below.alloc ?_ (by first | (simp; done) | (simp; omega) | omega) _ | refine after (by assumption) (by first | (simp; done) | (simp; omega) | omega) ?_))⟩

theorem look14 (s : S) (g : Nat) (w : World) (HB : Box w g s) :
    Calls Try.prog 72 #[.pointer (some ⟨g, 0, none⟩)] w fun e w' => e = .returned (.bool (soB s 14)) ∧ Below w.heap.size w w' := by
  have h := HB.c17
  have H := Lib.hid (fun b w h => within1 0 16 s.cache b w h)
  clear HB
  show Calls Try.prog 72 #[.pointer (some ⟨g, 0, none⟩)] w fun e w' => e = .returned (.bool (inB s.cache 0 16)) ∧ Below w.heap.size w w'
  go_enter Try.func72, Try.ntmps72
  go_wp2_with fail
  refine (H.out _ _ (by simp [go_sem])).mono ?_; rintro e w1 ⟨rfl, rfl⟩
  go_wp2
  go_ret
  exact ⟨rfl, (by repeat' (first | exact Below.refl _ _ | assumption | exact And.left (by assumption) | refine Below.drew ?_ | refine below_drewN ?_ _ | refine Below.setCell ?_ (by first | (simp; done) | (simp; omega) | omega) _ | refine Below.alloc ?_ (by first | (simp; done) | (simp; omega) | omega) _ | refine after (by assumption) (by first | (simp; done) | (simp; omega) | omega) ?_))⟩

theorem mode_no {n : Int} (h0 : ¬ n = 1) (h1 : ¬ n = 2) : inB n 1 2 = false := decide_eq_false (by omega)
theorem look6 (s : S) (g : Nat) (w : World) (HB : Box w g s) :
    Calls Try.prog 64 #[.pointer (some ⟨g, 0, none⟩)] w fun e w' => e = .returned (.bool (soB s 6)) ∧ Below w.heap.size w w' := by
  have h := HB.c9
  clear HB
  show Calls Try.prog 64 #[.pointer (some ⟨g, 0, none⟩)] w fun e w' => e = .returned (.bool (inB s.mode 1 2)) ∧ Below w.heap.size w w'
  generalize s.mode = m at h ⊢
  by_cases h1 : m = 1
  · subst h1
    rw [show inB 1 1 2 = true from rfl]
    go_enter Try.func64, Try.ntmps64
    go_wp2
    go_ret
    exact ⟨rfl, (by repeat' (first | exact Below.refl _ _ | assumption | exact And.left (by assumption) | refine Below.drew ?_ | refine below_drewN ?_ _ | refine Below.setCell ?_ (by first | (simp; done) | (simp; omega) | omega) _ | refine Below.alloc ?_ (by first | (simp; done) | (simp; omega) | omega) _ | refine after (by assumption) (by first | (simp; done) | (simp; omega) | omega) ?_))⟩
  · by_cases h2 : m = 2
    · subst h2
      rw [show inB 2 1 2 = true from rfl]
      go_enter Try.func64, Try.ntmps64
      go_wp2
      go_ret
      exact ⟨rfl, (by repeat' (first | exact Below.refl _ _ | assumption | exact And.left (by assumption) | refine Below.drew ?_ | refine below_drewN ?_ _ | refine Below.setCell ?_ (by first | (simp; done) | (simp; omega) | omega) _ | refine Below.alloc ?_ (by first | (simp; done) | (simp; omega) | omega) _ | refine after (by assumption) (by first | (simp; done) | (simp; omega) | omega) ?_))⟩
    · rw [mode_no h1 h2]
      have e1 : (m == 1) = false := by simpa using h1
      have e2 : (m == 2) = false := by simpa using h2
      clear h1 h2
      go_enter Try.func64, Try.ntmps64
      go_wp2
      go_ret
      exact ⟨rfl, (by repeat' (first | exact Below.refl _ _ | assumption | exact And.left (by assumption) | refine Below.drew ?_ | refine below_drewN ?_ _ | refine Below.setCell ?_ (by first | (simp; done) | (simp; omega) | omega) _ | refine Below.alloc ?_ (by first | (simp; done) | (simp; omega) | omega) _ | refine after (by assumption) (by first | (simp; done) | (simp; omega) | omega) ?_))⟩

theorem within4 (s : S) (b : Nat) (w : World) (h0 : w.cell? ⟨b, 0, none⟩ = some (.int .i64 s.age)) (h1 : w.cell? ⟨b, 1, none⟩ = some (.int .i64 s.size)) (h2 : w.cell? ⟨b, 2, none⟩ = some (.int .i64 s.qos)) (h3 : w.cell? ⟨b, 3, none⟩ = some (.int .i64 s.share)) :
    Calls Try.prog 60 #[.int .i64 0, .int .i64 1000, .slice (some ⟨b, 0, none⟩) 4 4] w fun e w' => e = .returned (.bool (weightsB s)) ∧ w = w' := by
  have e : withinB [s.age, s.size, s.qos, s.share] 0 1000 = weightsB s := by
    unfold withinB weightsB
    congr 1
    rw [eq_iff_iff]
    constructor
    · intro h; exact ⟨h 0 (by simp), h 1 (by simp), h 2 (by simp), h 3 (by simp)⟩
    · rintro ⟨h0, h1, h2, h3⟩ i hi'
      match i, hi' with
      | 0, _ => exact h0
      | 1, _ => exact h1
      | 2, _ => exact h2
      | 3, _ => exact h3
      | n + 4, h => simp at h; omega
  rw [← e]
  refine within 0 1000 (some ⟨b, 0, none⟩) 4 [s.age, s.size, s.qos, s.share] w (slAt_lit (xs := [s.age, s.size, s.qos, s.share]) (fun i hi' => ?_) (by simp)) (by simp)
  match i, hi' with
  | 0, _ => exact h0
  | 1, _ => exact h1
  | 2, _ => exact h2
  | 3, _ => exact h3
  | n + 4, h => simp at h; omega
theorem look4 (s : S) (g : Nat) (w : World) (HB : Box w g s) :
    Calls Try.prog 62 #[.pointer (some ⟨g, 0, none⟩)] w fun e w' => e = .returned (.bool (soB s 4)) ∧ Below w.heap.size w w' := by
  have h0 := HB.c4
  have h1 := HB.c5
  have h2 := HB.c6
  have h3 := HB.c7
  have H := Lib.hid (fun b w h0 h1 h2 h3 => within4 s b w h0 h1 h2 h3)
  clear HB
  show Calls Try.prog 62 #[.pointer (some ⟨g, 0, none⟩)] w fun e w' => e = .returned (.bool (weightsB s)) ∧ Below w.heap.size w w'
  go_enter Try.func62, Try.ntmps62
  go_wp2_with fail
  refine (H.out _ _ (by simp [go_sem]) (by simp [go_sem]) (by simp [go_sem]) (by simp [go_sem])).mono ?_; rintro e w1 ⟨rfl, rfl⟩
  go_wp2
  go_ret
  exact ⟨rfl, (by repeat' (first | exact Below.refl _ _ | assumption | exact And.left (by assumption) | refine Below.drew ?_ | refine below_drewN ?_ _ | refine Below.setCell ?_ (by first | (simp; done) | (simp; omega) | omega) _ | refine Below.alloc ?_ (by first | (simp; done) | (simp; omega) | omega) _ | refine after (by assumption) (by first | (simp; done) | (simp; omega) | omega) ?_))⟩

/-- the functions of the table -/
def fnOf : Nat → FuncId
  | 0 => 57
  | 1 => 58
  | 2 => 59
  | 3 => 61
  | 4 => 62
  | 5 => 63
  | 6 => 64
  | 7 => 65
  | 8 => 66
  | 9 => 67
  | 10 => 68
  | 11 => 69
  | 12 => 70
  | 13 => 71
  | _ => 72
/-- the table, where it lies -/
def TableAt (w : World) (b : Nat) : Prop := ∀ k, k < 15 → w.cell? ⟨b, k * 2, none⟩ = some (.string (wordB k)) ∧ w.cell? ⟨b, k * 2 + 1, none⟩ = some (.func (.func (fnOf k)) #[] #[])
theorem TableAt.later {w w' : World} {b : Nat} (h : TableAt w b) (hb : Below w.heap.size w w') : TableAt w' b := fun k hk => ⟨carry hb (h k hk).1, carry hb (h k hk).2⟩
set_option maxHeartbeats 1000000 in
theorem looks (w : World) : Calls Try.prog 49 #[] w fun e w' => e = .returned (.slice (some ⟨w.heap.size, 0, none⟩) 15 15) ∧ Below w.heap.size w w' ∧ TableAt w' w.heap.size ∧ w.heap.size < w'.heap.size := by
  go_enter Try.func49, Try.ntmps49
  go_wp2
  go_ret
  refine ⟨rfl, (by repeat' (first | exact Below.refl _ _ | assumption | exact And.left (by assumption) | refine Below.drew ?_ | refine below_drewN ?_ _ | refine Below.setCell ?_ (by first | (simp; done) | (simp; omega) | omega) _ | refine Below.alloc ?_ (by first | (simp; done) | (simp; omega) | omega) _ | refine after (by assumption) (by first | (simp; done) | (simp; omega) | omega) ?_)), fun k hk => ?_, by simp⟩
  match k, hk with
  | 0, _ => exact ⟨by simp [go_sem, wordB], by simp [go_sem, fnOf]⟩
  | 1, _ => exact ⟨by simp [go_sem, wordB], by simp [go_sem, fnOf]⟩
  | 2, _ => exact ⟨by simp [go_sem, wordB], by simp [go_sem, fnOf]⟩
  | 3, _ => exact ⟨by simp [go_sem, wordB], by simp [go_sem, fnOf]⟩
  | 4, _ => exact ⟨by simp [go_sem, wordB], by simp [go_sem, fnOf]⟩
  | 5, _ => exact ⟨by simp [go_sem, wordB], by simp [go_sem, fnOf]⟩
  | 6, _ => exact ⟨by simp [go_sem, wordB], by simp [go_sem, fnOf]⟩
  | 7, _ => exact ⟨by simp [go_sem, wordB], by simp [go_sem, fnOf]⟩
  | 8, _ => exact ⟨by simp [go_sem, wordB], by simp [go_sem, fnOf]⟩
  | 9, _ => exact ⟨by simp [go_sem, wordB], by simp [go_sem, fnOf]⟩
  | 10, _ => exact ⟨by simp [go_sem, wordB], by simp [go_sem, fnOf]⟩
  | 11, _ => exact ⟨by simp [go_sem, wordB], by simp [go_sem, fnOf]⟩
  | 12, _ => exact ⟨by simp [go_sem, wordB], by simp [go_sem, fnOf]⟩
  | 13, _ => exact ⟨by simp [go_sem, wordB], by simp [go_sem, fnOf]⟩
  | 14, _ => exact ⟨by simp [go_sem, wordB], by simp [go_sem, fnOf]⟩

/-- what the spec's own bounds let in -/
structure SmallS (s : S) : Prop where
  parts : ∀ p ∈ s.parts, p.l.length ≤ 100000
  users : ∀ q ∈ s.queues, q.users.l.length ≤ 100000
theorem looked (s : S) (hs : SmallS s) (g : Nat) (w : World) (HB : Box w g s) (HR : Rows w s) : ∀ k, k < 15 → Calls Try.prog (fnOf k) #[.pointer (some ⟨g, 0, none⟩)] w fun e w' => e = .returned (.bool (soB s k)) ∧ Below w.heap.size w w'
  | 0, _ => nodesSo s g _ rfl w HB HR
  | 1, _ => partsSo s g _ rfl w HB HR hs.parts
  | 3, _ => queuesSo s g _ _ rfl rfl w HB HR hs.users
  | 2, _ => look2 s g w HB
  | 4, _ => look4 s g w HB
  | 5, _ => look5 s g w HB
  | 6, _ => look6 s g w HB
  | 7, _ => look7 s g w HB
  | 8, _ => look8 s g w HB
  | 9, _ => look9 s g w HB
  | 10, _ => look10 s g w HB
  | 11, _ => look11 s g w HB
  | 12, _ => look12 s g w HB
  | 13, _ => look13 s g w HB
  | 14, _ => look14 s g w HB

theorem run_enterSp {P : Program} {f : FuncId} {fn : Func} {c : Code} (hf : P.funcs[f]? = some fn) (hname : (fn.name == "runtime.NumGoroutine") = false) (hb : fn.body = some c) (args : Array Value) (w : World) :
    (callFunc f args).run P w = .ok (.enter f args) w := by
  simp only [callFunc]
  simp [hf, hb]
  intro hn
  simp [hn] at hname
theorem looked_in (args : Array Value) (w : World) : ∀ k, k < 15 → (callFunc (fnOf k) args).run Try.prog w = .ok (.enter (fnOf k) args) w
  | 0, _ => run_enterSp Try.func57 (by kernel_rfl) rfl args w
  | 1, _ => run_enterSp Try.func58 (by kernel_rfl) rfl args w
  | 2, _ => run_enterSp Try.func59 (by kernel_rfl) rfl args w
  | 3, _ => run_enterSp Try.func61 (by kernel_rfl) rfl args w
  | 4, _ => run_enterSp Try.func62 (by kernel_rfl) rfl args w
  | 5, _ => run_enterSp Try.func63 (by kernel_rfl) rfl args w
  | 6, _ => run_enterSp Try.func64 (by kernel_rfl) rfl args w
  | 7, _ => run_enterSp Try.func65 (by kernel_rfl) rfl args w
  | 8, _ => run_enterSp Try.func66 (by kernel_rfl) rfl args w
  | 9, _ => run_enterSp Try.func67 (by kernel_rfl) rfl args w
  | 10, _ => run_enterSp Try.func68 (by kernel_rfl) rfl args w
  | 11, _ => run_enterSp Try.func69 (by kernel_rfl) rfl args w
  | 12, _ => run_enterSp Try.func70 (by kernel_rfl) rfl args w
  | 13, _ => run_enterSp Try.func71 (by kernel_rfl) rfl args w
  | 14, _ => run_enterSp Try.func72 (by kernel_rfl) rfl args w

set_option maxHeartbeats 2000000 in
theorem flaw (s : S) (hs : SmallS s) (w : World) (HR : Rows w s) :
    Calls Try.prog 34 #[.agg #[.slice s.na s.nodes.length s.nc, .slice s.pa s.parts.length s.pc, .slice s.qa s.queues.length s.qc, .int .i64 s.users, .int .i64 s.age, .int .i64 s.size, .int .i64 s.qos, .int .i64 s.share, .int .i64 s.decay, .int .i64 s.mode, .int .i64 s.jobs, .int .i64 s.ids, .int .i64 s.versions, .int .i64 s.linger, .int .i64 s.keep, .int .i64 s.inn, .int .i64 s.out, .int .i64 s.cache]] w fun e w' => e = .returned (.string (flawW s)) ∧ Below w.heap.size w w' := by
  have HR := Lib.hid HR
  have HA := Lib.hid (show (∀ j, j < 15 → soB s j = true) → flawW s = ⟨#[]⟩ from flaw_all)
  have HI := Lib.hid (show ∀ i, i < 15 → (∀ j, j < i → soB s j = true) → soB s i = false → flawW s = wordB i from fun i hi => flaw_at hi)
  have HK := Lib.hid (fun g w hb hr k hk => looked s hs g w hb hr k hk)
  have HX := Lib.hid (fun t => Box.new w s t)
  clear hs
  go_enter Try.func34, Try.ntmps34
  go_wp2_with fail
  refine (looks _).mono ?_; rintro e w1 ⟨rfl, hb1, ht, hlt1⟩
  have hz1 := hb1.size; try simp at hz1
  simp only [World.size_alloc] at ht hlt1
  have HT := Lib.hid ht
  have HX := Lib.hid ((HX.out 28).later hb1)
  have HR1 := Lib.hid (HR.out.later (show Below w.heap.size w w1 from (by repeat' (first | exact Below.refl _ _ | assumption | exact And.left (by assumption) | refine Below.drew ?_ | refine below_drewN ?_ _ | refine Below.setCell ?_ (by first | (simp; done) | (simp; omega) | omega) _ | refine Below.alloc ?_ (by first | (simp; done) | (simp; omega) | omega) _ | refine after (by assumption) (by first | (simp; done) | (simp; omega) | omega) ?_))))
  clear ht
  go_wp2
  go_loopw [7] (fun x wr => ∃ k : Nat, k ≤ 15 ∧ x = .int .i64 k ∧ Below w1.heap.size w1 wr ∧ Hid (∀ j, j < k → soB s j = true)) (fun x _ => 15 - (intOf x).toNat)
  case atStart => exact ⟨0, Nat.zero_le _, rfl, (by repeat' (first | exact Below.refl _ _ | assumption | exact And.left (by assumption) | refine Below.drew ?_ | refine below_drewN ?_ _ | refine Below.setCell ?_ (by first | (simp; done) | (simp; omega) | omega) _ | refine Below.alloc ?_ (by first | (simp; done) | (simp; omega) | omega) _ | refine after (by assumption) (by first | (simp; done) | (simp; omega) | omega) ?_)), Lib.hid fun i h => by omega⟩
  case round =>
    obtain ⟨k, hk, rfl, hb, HP⟩ := hrel
    have hz := hb.size
    by_cases hlt : k < 15
    · have hk15 : (k : Int) < 15 := by omega
      obtain ⟨t0, t1⟩ := (HT.out.later hb) k hlt
      obtain ⟨wd, hwd⟩ : ∃ wd, wordB k = wd := ⟨_, rfl⟩
      obtain ⟨f, hf⟩ : ∃ f, fnOf k = f := ⟨_, rfl⟩
      have HL := Lib.hid (fun w' hb' hr' => HK.out w.heap.size w' hb' hr' k hlt)
      rw [hwd] at t0
      have hin := fun args w => looked_in args w k hlt
      rw [hf] at t1 HL hin
      have HWD := Lib.hid hwd
      clear hwd hf
      cases hso : soB s k with
      | true =>
        have HO := Lib.hid hso
        rw [hso] at HL
        clear hso
        go_wp2_with fail
        refine (HL.out _ (((HX.out.later hb).later ((by repeat' (first | exact Below.refl _ _ | assumption | exact And.left (by assumption) | refine Below.drew ?_ | refine below_drewN ?_ _ | refine Below.setCell ?_ (by first | (simp; done) | (simp; omega) | omega) _ | refine Below.alloc ?_ (by first | (simp; done) | (simp; omega) | omega) _ | refine after (by assumption) (by first | (simp; done) | (simp; omega) | omega) ?_))))) ((HR1.out.later hb).later ((by repeat' (first | exact Below.refl _ _ | assumption | exact And.left (by assumption) | refine Below.drew ?_ | refine below_drewN ?_ _ | refine Below.setCell ?_ (by first | (simp; done) | (simp; omega) | omega) _ | refine Below.alloc ?_ (by first | (simp; done) | (simp; omega) | omega) _ | refine after (by assumption) (by first | (simp; done) | (simp; omega) | omega) ?_))))).mono ?_; rintro e w2 ⟨rfl, hb2⟩
        have hz2 := hb2.size; try simp at hz2
        go_wp2
        go_roundw
        case rel => exact ⟨k + 1, by omega, by go_num, (by repeat' (first | exact Below.refl _ _ | assumption | exact And.left (by assumption) | refine Below.drew ?_ | refine below_drewN ?_ _ | refine Below.setCell ?_ (by first | (simp; done) | (simp; omega) | omega) _ | refine Below.alloc ?_ (by first | (simp; done) | (simp; omega) | omega) _ | refine after (by assumption) (by first | (simp; done) | (simp; omega) | omega) ?_)), Lib.hid fun j hj => by
            rcases Nat.lt_or_ge j k with h' | h'
            · exact HP.out j h'
            · obtain rfl : j = k := by omega
              exact HO.out⟩
        case measure => simp [intOf]; omega
      | false =>
        have E := Lib.hid (HI.out k hlt HP.out hso)
        rw [hso] at HL
        clear hso
        go_wp2_with fail
        generalize hw4 : wr.alloc _ = w4
        have hb4 : Below wr.heap.size wr w4 := by rw [← hw4]; exact (by repeat' (first | exact Below.refl _ _ | assumption | exact And.left (by assumption) | refine Below.drew ?_ | refine below_drewN ?_ _ | refine Below.setCell ?_ (by first | (simp; done) | (simp; omega) | omega) _ | refine Below.alloc ?_ (by first | (simp; done) | (simp; omega) | omega) _ | refine after (by assumption) (by first | (simp; done) | (simp; omega) | omega) ?_))
        have k0 : w4.cell? ⟨wr.heap.size, 0, none⟩ = some (.string wd) := by rw [← hw4]; simp [go_sem]
        clear hw4
        refine (HL.out _ ((HX.out.later hb).later hb4) ((HR1.out.later hb).later hb4)).mono ?_; rintro e w2 ⟨rfl, hb2⟩
        have hz4 := hb4.size
        have hz2 := hb2.size
        have q0 := carry hb2 k0
        go_wp2
        go_ret
        exact ⟨by rw [E.out, HWD.out]; rfl, (by repeat' (first | exact Below.refl _ _ | assumption | exact And.left (by assumption) | refine Below.drew ?_ | refine below_drewN ?_ _ | refine Below.setCell ?_ (by first | (simp; done) | (simp; omega) | omega) _ | refine Below.alloc ?_ (by first | (simp; done) | (simp; omega) | omega) _ | refine after (by assumption) (by first | (simp; done) | (simp; omega) | omega) ?_))⟩
    · have E := Lib.hid (HA.out fun j hj => HP.out j (by omega))
      go_wp2
      go_ret
      exact ⟨by rw [E.out]; rfl, (by repeat' (first | exact Below.refl _ _ | assumption | exact And.left (by assumption) | refine Below.drew ?_ | refine below_drewN ?_ _ | refine Below.setCell ?_ (by first | (simp; done) | (simp; omega) | omega) _ | refine Below.alloc ?_ (by first | (simp; done) | (simp; omega) | omega) _ | refine after (by assumption) (by first | (simp; done) | (simp; omega) | omega) ?_))⟩
end Go.Proofs.Ytcdajfiohhbdgaa.W


/-
  Contracts of Right (layer 7), and of the law's own Few.
-/
namespace Go.Proofs.Ytcdajfiohhbdgaa.W
set_option linter.unusedVariables false
set_option linter.unusedSimpArgs false
open Go.ChangeShapes Go.WideShapes Go.ChangeAt Go.RowKit

set_option maxHeartbeats 1000000 in
theorem sright (s : S) (hs : SmallS s) (w : World) (HR : Rows w s) :
    Calls Try.prog 20 #[.agg #[.slice s.na s.nodes.length s.nc, .slice s.pa s.parts.length s.pc, .slice s.qa s.queues.length s.qc, .int .i64 s.users, .int .i64 s.age, .int .i64 s.size, .int .i64 s.qos, .int .i64 s.share, .int .i64 s.decay, .int .i64 s.mode, .int .i64 s.jobs, .int .i64 s.ids, .int .i64 s.versions, .int .i64 s.linger, .int .i64 s.keep, .int .i64 s.inn, .int .i64 s.out, .int .i64 s.cache]] w fun e w' => e = .returned (.bool (rightSSp s)) ∧ Below w.heap.size w w' := by
  have H := Lib.hid (fun w' hr => flaw s hs w' hr)
  have HR := Lib.hid HR
  have E := Lib.hid (flaw_empty s)
  clear hs
  generalize rightSSp s = r at E ⊢
  generalize flawW s = l at H E
  go_enter Try.func20, Try.ntmps20
  have HB := Lib.hid (fun t => Box.new w s t)
  go_wp2_with (with_reducible refine wpList_load_box rfl (.tmp 1) rfl rfl (HB.out _) ?_)
  refine (H.out _ (HR.out.later ((by repeat' (first | exact Below.refl _ _ | assumption | exact And.left (by assumption) | refine Below.drew ?_ | refine below_drewN ?_ _ | refine Below.setCell ?_ (by first | (simp; done) | (simp; omega) | omega) _ | refine Below.alloc ?_ (by first | (simp; done) | (simp; omega) | omega) _ | refine after (by assumption) (by first | (simp; done) | (simp; omega) | omega) ?_))))).mono ?_; rintro e w1 ⟨rfl, hb1⟩; obtain ⟨hc1, hf1⟩ := bcell hb1; have hz1 := hb1.size; (try simp at hz1); have lt_w1_0 : w.heap.size < w1.heap.size := (by omega)
  go_wp2
  go_ret
  exact ⟨by rw [← E.out]; rfl, (by repeat' (first | exact Below.refl _ _ | assumption | exact And.left (by assumption) | refine Below.drew ?_ | refine below_drewN ?_ _ | refine Below.setCell ?_ (by first | (simp; done) | (simp; omega) | omega) _ | refine Below.alloc ?_ (by first | (simp; done) | (simp; omega) | omega) _ | refine after (by assumption) (by first | (simp; done) | (simp; omega) | omega) ?_))⟩

theorem few_split (s : S) : fewBSp s = decide ((s.nodes.length ≤ 40 ∧ s.parts.length ≤ 20 ∧ s.queues.length ≤ 20) ∧ (∀ p ∈ s.parts, p.l.length ≤ 40) ∧ ∀ q ∈ s.queues, q.users.l.length ≤ 40) := by
  unfold fewBSp Few
  congr 1
  rw [eq_iff_iff]
  constructor
  · rintro ⟨a, b, c, d, e⟩; exact ⟨⟨a, b, c⟩, d, e⟩
  · rintro ⟨⟨a, b, c⟩, d, e⟩; exact ⟨a, b, c, d, e⟩
theorem few_no (s : S) (w : World) (h : ¬ (s.nodes.length ≤ 40 ∧ s.parts.length ≤ 20 ∧ s.queues.length ≤ 20)) :
    Calls Try.prog 19 #[.agg #[.slice s.na s.nodes.length s.nc, .slice s.pa s.parts.length s.pc, .slice s.qa s.queues.length s.qc, .int .i64 s.users, .int .i64 s.age, .int .i64 s.size, .int .i64 s.qos, .int .i64 s.share, .int .i64 s.decay, .int .i64 s.mode, .int .i64 s.jobs, .int .i64 s.ids, .int .i64 s.versions, .int .i64 s.linger, .int .i64 s.keep, .int .i64 s.inn, .int .i64 s.out, .int .i64 s.cache]] w fun e w' => e = .returned (.bool false) ∧ Below w.heap.size w w' := by
  by_cases h0 : s.nodes.length ≤ 40
  · by_cases h1 : s.parts.length ≤ 20
    · have h2 : ¬ s.queues.length ≤ 20 := fun x => h ⟨h0, h1, x⟩
      have g0 : decide (40 < (s.nodes.length : Int)) = false := by simp; omega
      have g1 : decide (20 < (s.parts.length : Int)) = false := by simp; omega
      have g2 : decide (20 < (s.queues.length : Int)) = true := by simp; omega
      clear h h0 h1 h2
      go_enter Try.func19, Try.ntmps19
      go_wp2
      go_ret
      exact ⟨rfl, (by repeat' (first | exact Below.refl _ _ | assumption | exact And.left (by assumption) | refine Below.drew ?_ | refine below_drewN ?_ _ | refine Below.setCell ?_ (by first | (simp; done) | (simp; omega) | omega) _ | refine Below.alloc ?_ (by first | (simp; done) | (simp; omega) | omega) _ | refine after (by assumption) (by first | (simp; done) | (simp; omega) | omega) ?_))⟩
    · have g0 : decide (40 < (s.nodes.length : Int)) = false := by simp; omega
      have g1 : decide (20 < (s.parts.length : Int)) = true := by simp; omega
      clear h h0 h1
      go_enter Try.func19, Try.ntmps19
      go_wp2
      go_ret
      exact ⟨rfl, (by repeat' (first | exact Below.refl _ _ | assumption | exact And.left (by assumption) | refine Below.drew ?_ | refine below_drewN ?_ _ | refine Below.setCell ?_ (by first | (simp; done) | (simp; omega) | omega) _ | refine Below.alloc ?_ (by first | (simp; done) | (simp; omega) | omega) _ | refine after (by assumption) (by first | (simp; done) | (simp; omega) | omega) ?_))⟩
  · have g0 : decide (40 < (s.nodes.length : Int)) = true := by simp; omega
    clear h h0
    go_enter Try.func19, Try.ntmps19
    go_wp2
    go_ret
    exact ⟨rfl, (by repeat' (first | exact Below.refl _ _ | assumption | exact And.left (by assumption) | refine Below.drew ?_ | refine below_drewN ?_ _ | refine Below.setCell ?_ (by first | (simp; done) | (simp; omega) | omega) _ | refine Below.alloc ?_ (by first | (simp; done) | (simp; omega) | omega) _ | refine after (by assumption) (by first | (simp; done) | (simp; omega) | omega) ?_))⟩
set_option maxHeartbeats 2000000 in
theorem few_in (s : S) (pa qa : Option Addr) (hpa : s.pa = pa) (hqa : s.qa = qa) (w : World) (HR : Rows w s) (h0 : s.nodes.length ≤ 40) (h1 : s.parts.length ≤ 20) (h2 : s.queues.length ≤ 20) :
    Calls Try.prog 19 #[.agg #[.slice s.na s.nodes.length s.nc, .slice s.pa s.parts.length s.pc, .slice s.qa s.queues.length s.qc, .int .i64 s.users, .int .i64 s.age, .int .i64 s.size, .int .i64 s.qos, .int .i64 s.share, .int .i64 s.decay, .int .i64 s.mode, .int .i64 s.jobs, .int .i64 s.ids, .int .i64 s.versions, .int .i64 s.linger, .int .i64 s.keep, .int .i64 s.inn, .int .i64 s.out, .int .i64 s.cache]] w fun e w' => e = .returned (.bool (fewBSp s)) ∧ Below w.heap.size w w' := by
  rw [few_split]
  have HR := Lib.hid HR
  have HPA := Lib.hid hpa
  have HQA := Lib.hid hqa
  have HT := Lib.hid (show (∀ i (hi : i < s.parts.length), s.parts[i].l.length ≤ 40) → (∀ i (hi : i < s.queues.length), s.queues[i].users.l.length ≤ 40) → decide ((s.nodes.length ≤ 40 ∧ s.parts.length ≤ 20 ∧ s.queues.length ≤ 20) ∧ (∀ p ∈ s.parts, p.l.length ≤ 40) ∧ ∀ q ∈ s.queues, q.users.l.length ≤ 40) = true from
    fun a b => decide_eq_true ⟨⟨h0, h1, h2⟩, fun p hp => by obtain ⟨i, hi, rfl⟩ := List.getElem_of_mem hp; exact a i hi, fun p hp => by obtain ⟨i, hi, rfl⟩ := List.getElem_of_mem hp; exact b i hi⟩)
  have HP := Lib.hid (show ∀ i (hi : i < s.parts.length), ¬ s.parts[i].l.length ≤ 40 → decide ((s.nodes.length ≤ 40 ∧ s.parts.length ≤ 20 ∧ s.queues.length ≤ 20) ∧ (∀ p ∈ s.parts, p.l.length ≤ 40) ∧ ∀ q ∈ s.queues, q.users.l.length ≤ 40) = false from
    fun i hi hh => decide_eq_false fun x => hh (x.2.1 _ (List.getElem_mem hi)))
  have HQ := Lib.hid (show ∀ i (hi : i < s.queues.length), ¬ s.queues[i].users.l.length ≤ 40 → decide ((s.nodes.length ≤ 40 ∧ s.parts.length ≤ 20 ∧ s.queues.length ≤ 20) ∧ (∀ p ∈ s.parts, p.l.length ≤ 40) ∧ ∀ q ∈ s.queues, q.users.l.length ≤ 40) = false from
    fun i hi hh => decide_eq_false fun x => hh (x.2.2 _ (List.getElem_mem hi)))
  generalize decide ((s.nodes.length ≤ 40 ∧ s.parts.length ≤ 20 ∧ s.queues.length ≤ 20) ∧ (∀ p ∈ s.parts, p.l.length ≤ 40) ∧ ∀ q ∈ s.queues, q.users.l.length ≤ 40) = r at HT HP HQ ⊢
  have g0 : decide (40 < (s.nodes.length : Int)) = false := by simp; omega
  have g1 : decide (20 < (s.parts.length : Int)) = false := by simp; omega
  have g2 : decide (20 < (s.queues.length : Int)) = false := by simp; omega
  rw [hpa, hqa]
  clear hpa hqa
  go_enter Try.func19, Try.ntmps19
  go_wp2
  go_loopw [26] (fun x wr => ∃ k : Nat, k ≤ s.parts.length ∧ x = .int .i64 k ∧ wr = w.alloc (.cells #[.slice s.na s.nodes.length s.nc, .slice pa s.parts.length s.pc, .slice qa s.queues.length s.qc, .int .i64 s.users, .int .i64 s.age, .int .i64 s.size, .int .i64 s.qos, .int .i64 s.share, .int .i64 s.decay, .int .i64 s.mode, .int .i64 s.jobs, .int .i64 s.ids, .int .i64 s.versions, .int .i64 s.linger, .int .i64 s.keep, .int .i64 s.inn, .int .i64 s.out, .int .i64 s.cache] 28) ∧ Hid (∀ i (hi : i < s.parts.length), i < k → s.parts[i].l.length ≤ 40)) (fun x _ => s.parts.length - (intOf x).toNat)
  case atStart => exact ⟨0, Nat.zero_le _, rfl, rfl, Lib.hid fun i hi h => by omega⟩
  case round =>
    obtain ⟨k, hk, rfl, rfl, HA⟩ := hrel
    by_cases hlt : k < s.parts.length
    · obtain ⟨b, off, ea, hbl, q0⟩ := HR.out.part_ hlt
      rw [HPA.out] at ea
      subst ea
      have HL := Lib.hid (HP.out k hlt)
      have HG := Lib.hid (fun (h : s.parts[k].l.length ≤ 40) i (hi : i < s.parts.length) (h' : i < k + 1) => (show s.parts[i].l.length ≤ 40 by
          rcases Nat.lt_or_ge i k with h'' | h''
          · exact HA.out i hi h''
          · obtain rfl : i = k := by omega
            exact h))
      generalize s.parts[k] = p at q0 HL HG
      by_cases ho : p.l.length ≤ 40
      · have gg : decide (40 < (p.l.length : Int)) = false := by simp; omega
        have HO := Lib.hid (HG.out ho)
        clear ho
        go_wp2
        go_roundw
        case rel => exact ⟨k + 1, by omega, by go_num, by first | rfl | trivial, HO⟩
        case measure => simp [intOf]; omega
      · have gg : decide (40 < (p.l.length : Int)) = true := by simp; omega
        have E := Lib.hid (HL.out ho)
        clear ho
        go_wp2
        go_ret
        exact ⟨by rw [E.out]; rfl, (by repeat' (first | exact Below.refl _ _ | assumption | exact And.left (by assumption) | refine Below.drew ?_ | refine below_drewN ?_ _ | refine Below.setCell ?_ (by first | (simp; done) | (simp; omega) | omega) _ | refine Below.alloc ?_ (by first | (simp; done) | (simp; omega) | omega) _ | refine after (by assumption) (by first | (simp; done) | (simp; omega) | omega) ?_))⟩
    · have HAP := Lib.hid (fun i hi => HA.out i hi (by omega))
      go_wp2
      go_loopw [37] (fun x wr => ∃ k : Nat, k ≤ s.queues.length ∧ x = .int .i64 k ∧ Below w.heap.size w wr ∧ Hid (∀ i (hi : i < s.queues.length), i < k → s.queues[i].users.l.length ≤ 40)) (fun x _ => s.queues.length - (intOf x).toNat)
      case atStart => exact ⟨0, Nat.zero_le _, rfl, (by repeat' (first | exact Below.refl _ _ | assumption | exact And.left (by assumption) | refine Below.drew ?_ | refine below_drewN ?_ _ | refine Below.setCell ?_ (by first | (simp; done) | (simp; omega) | omega) _ | refine Below.alloc ?_ (by first | (simp; done) | (simp; omega) | omega) _ | refine after (by assumption) (by first | (simp; done) | (simp; omega) | omega) ?_)), Lib.hid fun i hi h => by omega⟩
      case round =>
        obtain ⟨j, hj, rfl, hb, HB⟩ := hrel
        have hz := hb.size
        by_cases hlt2 : j < s.queues.length
        · obtain ⟨b, off, ea, hbl, q0, q1, q2, q3, q4, q5⟩ := (HR.out.later hb).queue hlt2
          rw [HQA.out] at ea
          subst ea
          have HL := Lib.hid (HQ.out j hlt2)
          have HG := Lib.hid (fun (h : s.queues[j].users.l.length ≤ 40) i (hi : i < s.queues.length) (h' : i < j + 1) => (show s.queues[i].users.l.length ≤ 40 by
              rcases Nat.lt_or_ge i j with h'' | h''
              · exact HB.out i hi h''
              · obtain rfl : i = j := by omega
                exact h))
          generalize s.queues[j] = q at q0 q1 q2 q3 q4 q5 HL HG
          by_cases ho : q.users.l.length ≤ 40
          · have gg : decide (40 < (q.users.l.length : Int)) = false := by simp; omega
            have HO := Lib.hid (HG.out ho)
            clear ho
            go_wp2
            go_roundw
            case rel => exact ⟨j + 1, by omega, by go_num, (by repeat' (first | exact Below.refl _ _ | assumption | exact And.left (by assumption) | refine Below.drew ?_ | refine below_drewN ?_ _ | refine Below.setCell ?_ (by first | (simp; done) | (simp; omega) | omega) _ | refine Below.alloc ?_ (by first | (simp; done) | (simp; omega) | omega) _ | refine after (by assumption) (by first | (simp; done) | (simp; omega) | omega) ?_)), HO⟩
            case measure => simp [intOf]; omega
          · have gg : decide (40 < (q.users.l.length : Int)) = true := by simp; omega
            have E := Lib.hid (HL.out ho)
            clear ho
            go_wp2
            go_ret
            exact ⟨by rw [E.out]; rfl, (by repeat' (first | exact Below.refl _ _ | assumption | exact And.left (by assumption) | refine Below.drew ?_ | refine below_drewN ?_ _ | refine Below.setCell ?_ (by first | (simp; done) | (simp; omega) | omega) _ | refine Below.alloc ?_ (by first | (simp; done) | (simp; omega) | omega) _ | refine after (by assumption) (by first | (simp; done) | (simp; omega) | omega) ?_))⟩
        · have E := Lib.hid (HT.out HAP.out fun i hi => HB.out i hi (by omega))
          go_wp2
          go_ret
          exact ⟨by rw [E.out]; rfl, (by repeat' (first | exact Below.refl _ _ | assumption | exact And.left (by assumption) | refine Below.drew ?_ | refine below_drewN ?_ _ | refine Below.setCell ?_ (by first | (simp; done) | (simp; omega) | omega) _ | refine Below.alloc ?_ (by first | (simp; done) | (simp; omega) | omega) _ | refine after (by assumption) (by first | (simp; done) | (simp; omega) | omega) ?_))⟩
theorem few (s : S) (w : World) (HR : Rows w s) :
    Calls Try.prog 19 #[.agg #[.slice s.na s.nodes.length s.nc, .slice s.pa s.parts.length s.pc, .slice s.qa s.queues.length s.qc, .int .i64 s.users, .int .i64 s.age, .int .i64 s.size, .int .i64 s.qos, .int .i64 s.share, .int .i64 s.decay, .int .i64 s.mode, .int .i64 s.jobs, .int .i64 s.ids, .int .i64 s.versions, .int .i64 s.linger, .int .i64 s.keep, .int .i64 s.inn, .int .i64 s.out, .int .i64 s.cache]] w fun e w' => e = .returned (.bool (fewBSp s)) ∧ Below w.heap.size w w' := by
  by_cases h : s.nodes.length ≤ 40 ∧ s.parts.length ≤ 20 ∧ s.queues.length ≤ 20
  · exact few_in s _ _ rfl rfl w HR h.1 h.2.1 h.2.2
  · rw [few_split, decide_eq_false (fun x => h x.1)]
    exact few_no s w h
end Go.Proofs.Ytcdajfiohhbdgaa.W
