/-
  Contracts of layer 7's table: what is looked at, one behind the other; Flaw, Right.
-/
import Derived.Test.YtgopjpnlpcmldaaGreatDoorSpecQueues
import Derived.Laws.EntriesVeiled
namespace Go.Proofs.YtgopjpnlpcmldaaGreatDoor.W
set_option linter.unusedVariables false
set_option linter.unusedSimpArgs false
open Go.ChangeShapes Go.WideShapes Go.ChangeAt Go.RowKit

theorem look2 (s : S) (g : Nat) (w : World) (HB : Box w g s) :
    Calls Tryz.prog 63 #[.pointer (some ⟨g, 0, none⟩)] w fun e w' => e = .returned (.bool (soB s 2)) ∧ Below w.heap.size w w' := by
  have h := HB.c3
  have H := Lib.hid (fun b w h => within1 1 8 s.users b w h)
  clear HB
  show Calls Tryz.prog 63 #[.pointer (some ⟨g, 0, none⟩)] w fun e w' => e = .returned (.bool (inB s.users 1 8)) ∧ Below w.heap.size w w'
  go_enter Tryz.func63, Tryz.ntmps63
  go_wp2_with fail
  refine (H.out _ _ (by simp [go_sem])).mono ?_; rintro e w1 ⟨rfl, rfl⟩
  go_wp2
  go_ret
  exact ⟨rfl, (by repeat' (first | exact Below.refl _ _ | assumption | exact And.left (by assumption) | refine Below.drew ?_ | refine below_drewN ?_ _ | refine Below.setCell ?_ (by first | (simp; done) | (simp; omega) | omega) _ | refine Below.alloc ?_ (by first | (simp; done) | (simp; omega) | omega) _ | refine after (by assumption) (by first | (simp; done) | (simp; omega) | omega) ?_))⟩

theorem look5 (s : S) (g : Nat) (w : World) (HB : Box w g s) :
    Calls Tryz.prog 67 #[.pointer (some ⟨g, 0, none⟩)] w fun e w' => e = .returned (.bool (soB s 5)) ∧ Below w.heap.size w w' := by
  have h := HB.c8
  have H := Lib.hid (fun b w h => within1 1 16 s.decay b w h)
  clear HB
  show Calls Tryz.prog 67 #[.pointer (some ⟨g, 0, none⟩)] w fun e w' => e = .returned (.bool (inB s.decay 1 16)) ∧ Below w.heap.size w w'
  go_enter Tryz.func67, Tryz.ntmps67
  go_wp2_with fail
  refine (H.out _ _ (by simp [go_sem])).mono ?_; rintro e w1 ⟨rfl, rfl⟩
  go_wp2
  go_ret
  exact ⟨rfl, (by repeat' (first | exact Below.refl _ _ | assumption | exact And.left (by assumption) | refine Below.drew ?_ | refine below_drewN ?_ _ | refine Below.setCell ?_ (by first | (simp; done) | (simp; omega) | omega) _ | refine Below.alloc ?_ (by first | (simp; done) | (simp; omega) | omega) _ | refine after (by assumption) (by first | (simp; done) | (simp; omega) | omega) ?_))⟩

theorem look7 (s : S) (g : Nat) (w : World) (HB : Box w g s) :
    Calls Tryz.prog 69 #[.pointer (some ⟨g, 0, none⟩)] w fun e w' => e = .returned (.bool (soB s 7)) ∧ Below w.heap.size w w' := by
  have h := HB.c10
  have H := Lib.hid (fun b w h => within1 1 256 s.jobs b w h)
  clear HB
  show Calls Tryz.prog 69 #[.pointer (some ⟨g, 0, none⟩)] w fun e w' => e = .returned (.bool (inB s.jobs 1 256)) ∧ Below w.heap.size w w'
  go_enter Tryz.func69, Tryz.ntmps69
  go_wp2_with fail
  refine (H.out _ _ (by simp [go_sem])).mono ?_; rintro e w1 ⟨rfl, rfl⟩
  go_wp2
  go_ret
  exact ⟨rfl, (by repeat' (first | exact Below.refl _ _ | assumption | exact And.left (by assumption) | refine Below.drew ?_ | refine below_drewN ?_ _ | refine Below.setCell ?_ (by first | (simp; done) | (simp; omega) | omega) _ | refine Below.alloc ?_ (by first | (simp; done) | (simp; omega) | omega) _ | refine after (by assumption) (by first | (simp; done) | (simp; omega) | omega) ?_))⟩

theorem look8 (s : S) (g : Nat) (w : World) (HB : Box w g s) :
    Calls Tryz.prog 70 #[.pointer (some ⟨g, 0, none⟩)] w fun e w' => e = .returned (.bool (soB s 8)) ∧ Below w.heap.size w w' := by
  have h := HB.c11
  have H := Lib.hid (fun b w h => within1 1 1048576 s.ids b w h)
  clear HB
  show Calls Tryz.prog 70 #[.pointer (some ⟨g, 0, none⟩)] w fun e w' => e = .returned (.bool (inB s.ids 1 1048576)) ∧ Below w.heap.size w w'
  go_enter Tryz.func70, Tryz.ntmps70
  go_wp2_with fail
  refine (H.out _ _ (by simp [go_sem])).mono ?_; rintro e w1 ⟨rfl, rfl⟩
  go_wp2
  go_ret
  exact ⟨rfl, (by repeat' (first | exact Below.refl _ _ | assumption | exact And.left (by assumption) | refine Below.drew ?_ | refine below_drewN ?_ _ | refine Below.setCell ?_ (by first | (simp; done) | (simp; omega) | omega) _ | refine Below.alloc ?_ (by first | (simp; done) | (simp; omega) | omega) _ | refine after (by assumption) (by first | (simp; done) | (simp; omega) | omega) ?_))⟩

theorem look9 (s : S) (g : Nat) (w : World) (HB : Box w g s) :
    Calls Tryz.prog 71 #[.pointer (some ⟨g, 0, none⟩)] w fun e w' => e = .returned (.bool (soB s 9)) ∧ Below w.heap.size w w' := by
  have h := HB.c12
  have H := Lib.hid (fun b w h => within1 1 65536 s.versions b w h)
  clear HB
  show Calls Tryz.prog 71 #[.pointer (some ⟨g, 0, none⟩)] w fun e w' => e = .returned (.bool (inB s.versions 1 65536)) ∧ Below w.heap.size w w'
  go_enter Tryz.func71, Tryz.ntmps71
  go_wp2_with fail
  refine (H.out _ _ (by simp [go_sem])).mono ?_; rintro e w1 ⟨rfl, rfl⟩
  go_wp2
  go_ret
  exact ⟨rfl, (by repeat' (first | exact Below.refl _ _ | assumption | exact And.left (by assumption) | refine Below.drew ?_ | refine below_drewN ?_ _ | refine Below.setCell ?_ (by first | (simp; done) | (simp; omega) | omega) _ | refine Below.alloc ?_ (by first | (simp; done) | (simp; omega) | omega) _ | refine after (by assumption) (by first | (simp; done) | (simp; omega) | omega) ?_))⟩

theorem look10 (s : S) (g : Nat) (w : World) (HB : Box w g s) :
    Calls Tryz.prog 72 #[.pointer (some ⟨g, 0, none⟩)] w fun e w' => e = .returned (.bool (soB s 10)) ∧ Below w.heap.size w w' := by
  have h := HB.c13
  have H := Lib.hid (fun b w h => within1 0 65536 s.linger b w h)
  clear HB
  show Calls Tryz.prog 72 #[.pointer (some ⟨g, 0, none⟩)] w fun e w' => e = .returned (.bool (inB s.linger 0 65536)) ∧ Below w.heap.size w w'
  go_enter Tryz.func72, Tryz.ntmps72
  go_wp2_with fail
  refine (H.out _ _ (by simp [go_sem])).mono ?_; rintro e w1 ⟨rfl, rfl⟩
  go_wp2
  go_ret
  exact ⟨rfl, (by repeat' (first | exact Below.refl _ _ | assumption | exact And.left (by assumption) | refine Below.drew ?_ | refine below_drewN ?_ _ | refine Below.setCell ?_ (by first | (simp; done) | (simp; omega) | omega) _ | refine Below.alloc ?_ (by first | (simp; done) | (simp; omega) | omega) _ | refine after (by assumption) (by first | (simp; done) | (simp; omega) | omega) ?_))⟩

theorem look11 (s : S) (g : Nat) (w : World) (HB : Box w g s) :
    Calls Tryz.prog 73 #[.pointer (some ⟨g, 0, none⟩)] w fun e w' => e = .returned (.bool (soB s 11)) ∧ Below w.heap.size w w' := by
  have h := HB.c14
  have H := Lib.hid (fun b w h => within1 1 16 s.keep b w h)
  clear HB
  show Calls Tryz.prog 73 #[.pointer (some ⟨g, 0, none⟩)] w fun e w' => e = .returned (.bool (inB s.keep 1 16)) ∧ Below w.heap.size w w'
  go_enter Tryz.func73, Tryz.ntmps73
  go_wp2_with fail
  refine (H.out _ _ (by simp [go_sem])).mono ?_; rintro e w1 ⟨rfl, rfl⟩
  go_wp2
  go_ret
  exact ⟨rfl, (by repeat' (first | exact Below.refl _ _ | assumption | exact And.left (by assumption) | refine Below.drew ?_ | refine below_drewN ?_ _ | refine Below.setCell ?_ (by first | (simp; done) | (simp; omega) | omega) _ | refine Below.alloc ?_ (by first | (simp; done) | (simp; omega) | omega) _ | refine after (by assumption) (by first | (simp; done) | (simp; omega) | omega) ?_))⟩

theorem look12 (s : S) (g : Nat) (w : World) (HB : Box w g s) :
    Calls Tryz.prog 74 #[.pointer (some ⟨g, 0, none⟩)] w fun e w' => e = .returned (.bool (soB s 12)) ∧ Below w.heap.size w w' := by
  have h := HB.c15
  have H := Lib.hid (fun b w h => within1 1 8 s.inn b w h)
  clear HB
  show Calls Tryz.prog 74 #[.pointer (some ⟨g, 0, none⟩)] w fun e w' => e = .returned (.bool (inB s.inn 1 8)) ∧ Below w.heap.size w w'
  go_enter Tryz.func74, Tryz.ntmps74
  go_wp2_with fail
  refine (H.out _ _ (by simp [go_sem])).mono ?_; rintro e w1 ⟨rfl, rfl⟩
  go_wp2
  go_ret
  exact ⟨rfl, (by repeat' (first | exact Below.refl _ _ | assumption | exact And.left (by assumption) | refine Below.drew ?_ | refine below_drewN ?_ _ | refine Below.setCell ?_ (by first | (simp; done) | (simp; omega) | omega) _ | refine Below.alloc ?_ (by first | (simp; done) | (simp; omega) | omega) _ | refine after (by assumption) (by first | (simp; done) | (simp; omega) | omega) ?_))⟩

theorem look13 (s : S) (g : Nat) (w : World) (HB : Box w g s) :
    Calls Tryz.prog 75 #[.pointer (some ⟨g, 0, none⟩)] w fun e w' => e = .returned (.bool (soB s 13)) ∧ Below w.heap.size w w' := by
  have h := HB.c16
  have H := Lib.hid (fun b w h => within1 1 16 s.out b w h)
  clear HB
  show Calls Tryz.prog 75 #[.pointer (some ⟨g, 0, none⟩)] w fun e w' => e = .returned (.bool (inB s.out 1 16)) ∧ Below w.heap.size w w'
  go_enter Tryz.func75, Tryz.ntmps75
  go_wp2_with fail
  refine (H.out _ _ (by simp [go_sem])).mono ?_; rintro e w1 ⟨rfl, rfl⟩
  go_wp2
  go_ret
  exact ⟨rfl, (by repeat' (first | exact Below.refl _ _ | assumption | exact And.left (by assumption) | refine Below.drew ?_ | refine below_drewN ?_ _ | refine Below.setCell ?_ (by first | (simp; done) | (simp; omega) | omega) _ | refine Below.alloc ?_ (by first | (simp; done) | (simp; omega) | omega) _ | refine after (by assumption) (by first | (simp; done) | (simp; omega) | omega) ?_))⟩

theorem look14 (s : S) (g : Nat) (w : World) (HB : Box w g s) :
    Calls Tryz.prog 76 #[.pointer (some ⟨g, 0, none⟩)] w fun e w' => e = .returned (.bool (soB s 14)) ∧ Below w.heap.size w w' := by
  have h := HB.c17
  have H := Lib.hid (fun b w h => within1 0 16 s.cache b w h)
  clear HB
  show Calls Tryz.prog 76 #[.pointer (some ⟨g, 0, none⟩)] w fun e w' => e = .returned (.bool (inB s.cache 0 16)) ∧ Below w.heap.size w w'
  go_enter Tryz.func76, Tryz.ntmps76
  go_wp2_with fail
  refine (H.out _ _ (by simp [go_sem])).mono ?_; rintro e w1 ⟨rfl, rfl⟩
  go_wp2
  go_ret
  exact ⟨rfl, (by repeat' (first | exact Below.refl _ _ | assumption | exact And.left (by assumption) | refine Below.drew ?_ | refine below_drewN ?_ _ | refine Below.setCell ?_ (by first | (simp; done) | (simp; omega) | omega) _ | refine Below.alloc ?_ (by first | (simp; done) | (simp; omega) | omega) _ | refine after (by assumption) (by first | (simp; done) | (simp; omega) | omega) ?_))⟩

theorem mode_no {n : Int} (h0 : ¬ n = 1) (h1 : ¬ n = 2) : inB n 1 2 = false := decide_eq_false (by omega)
theorem look6 (s : S) (g : Nat) (w : World) (HB : Box w g s) :
    Calls Tryz.prog 68 #[.pointer (some ⟨g, 0, none⟩)] w fun e w' => e = .returned (.bool (soB s 6)) ∧ Below w.heap.size w w' := by
  have h := HB.c9
  clear HB
  show Calls Tryz.prog 68 #[.pointer (some ⟨g, 0, none⟩)] w fun e w' => e = .returned (.bool (inB s.mode 1 2)) ∧ Below w.heap.size w w'
  generalize s.mode = m at h ⊢
  by_cases h1 : m = 1
  · subst h1
    rw [show inB 1 1 2 = true from rfl]
    go_enter Tryz.func68, Tryz.ntmps68
    go_wp2
    go_ret
    exact ⟨rfl, (by repeat' (first | exact Below.refl _ _ | assumption | exact And.left (by assumption) | refine Below.drew ?_ | refine below_drewN ?_ _ | refine Below.setCell ?_ (by first | (simp; done) | (simp; omega) | omega) _ | refine Below.alloc ?_ (by first | (simp; done) | (simp; omega) | omega) _ | refine after (by assumption) (by first | (simp; done) | (simp; omega) | omega) ?_))⟩
  · by_cases h2 : m = 2
    · subst h2
      rw [show inB 2 1 2 = true from rfl]
      go_enter Tryz.func68, Tryz.ntmps68
      go_wp2
      go_ret
      exact ⟨rfl, (by repeat' (first | exact Below.refl _ _ | assumption | exact And.left (by assumption) | refine Below.drew ?_ | refine below_drewN ?_ _ | refine Below.setCell ?_ (by first | (simp; done) | (simp; omega) | omega) _ | refine Below.alloc ?_ (by first | (simp; done) | (simp; omega) | omega) _ | refine after (by assumption) (by first | (simp; done) | (simp; omega) | omega) ?_))⟩
    · rw [mode_no h1 h2]
      have e1 : (m == 1) = false := by simpa using h1
      have e2 : (m == 2) = false := by simpa using h2
      clear h1 h2
      go_enter Tryz.func68, Tryz.ntmps68
      go_wp2
      go_ret
      exact ⟨rfl, (by repeat' (first | exact Below.refl _ _ | assumption | exact And.left (by assumption) | refine Below.drew ?_ | refine below_drewN ?_ _ | refine Below.setCell ?_ (by first | (simp; done) | (simp; omega) | omega) _ | refine Below.alloc ?_ (by first | (simp; done) | (simp; omega) | omega) _ | refine after (by assumption) (by first | (simp; done) | (simp; omega) | omega) ?_))⟩

theorem within4 (s : S) (b : Nat) (w : World) (h0 : w.cell? ⟨b, 0, none⟩ = some (.int .i64 s.age)) (h1 : w.cell? ⟨b, 1, none⟩ = some (.int .i64 s.size)) (h2 : w.cell? ⟨b, 2, none⟩ = some (.int .i64 s.qos)) (h3 : w.cell? ⟨b, 3, none⟩ = some (.int .i64 s.share)) :
    Calls Tryz.prog 64 #[.int .i64 0, .int .i64 1000, .slice (some ⟨b, 0, none⟩) 4 4] w fun e w' => e = .returned (.bool (weightsB s)) ∧ w = w' := by
  have e : withinB [s.age, s.size, s.qos, s.share] 0 1000 = weightsB s := by
    unfold withinB weightsB
    congr 1
    rw [eq_iff_iff]
    constructor
    · intro h; exact ⟨h 0 (by simp), h 1 (by simp), h 2 (by simp), h 3 (by simp)⟩
    · rintro ⟨h0, h1, h2, h3⟩ i hi'
      match i, hi' with
      | 0, _ => exact h0
      | 1, _ => exact h1
      | 2, _ => exact h2
      | 3, _ => exact h3
      | n + 4, h => simp at h; omega
  rw [← e]
  refine within 0 1000 (some ⟨b, 0, none⟩) 4 [s.age, s.size, s.qos, s.share] w (slAt_lit (xs := [s.age, s.size, s.qos, s.share]) (fun i hi' => ?_) (by simp)) (by simp)
  match i, hi' with
  | 0, _ => exact h0
  | 1, _ => exact h1
  | 2, _ => exact h2
  | 3, _ => exact h3
  | n + 4, h => simp at h; omega
theorem look4 (s : S) (g : Nat) (w : World) (HB : Box w g s) :
    Calls Tryz.prog 66 #[.pointer (some ⟨g, 0, none⟩)] w fun e w' => e = .returned (.bool (soB s 4)) ∧ Below w.heap.size w w' := by
  have h0 := HB.c4
  have h1 := HB.c5
  have h2 := HB.c6
  have h3 := HB.c7
  have H := Lib.hid (fun b w h0 h1 h2 h3 => within4 s b w h0 h1 h2 h3)
  clear HB
  show Calls Tryz.prog 66 #[.pointer (some ⟨g, 0, none⟩)] w fun e w' => e = .returned (.bool (weightsB s)) ∧ Below w.heap.size w w'
  go_enter Tryz.func66, Tryz.ntmps66
  go_wp2_with fail
  refine (H.out _ _ (by simp [go_sem]) (by simp [go_sem]) (by simp [go_sem]) (by simp [go_sem])).mono ?_; rintro e w1 ⟨rfl, rfl⟩
  go_wp2
  go_ret
  exact ⟨rfl, (by repeat' (first | exact Below.refl _ _ | assumption | exact And.left (by assumption) | refine Below.drew ?_ | refine below_drewN ?_ _ | refine Below.setCell ?_ (by first | (simp; done) | (simp; omega) | omega) _ | refine Below.alloc ?_ (by first | (simp; done) | (simp; omega) | omega) _ | refine after (by assumption) (by first | (simp; done) | (simp; omega) | omega) ?_))⟩

/-- the functions of the table -/
def fnOf : Nat → FuncId
  | 0 => 61
  | 1 => 62
  | 2 => 63
  | 3 => 65
  | 4 => 66
  | 5 => 67
  | 6 => 68
  | 7 => 69
  | 8 => 70
  | 9 => 71
  | 10 => 72
  | 11 => 73
  | 12 => 74
  | 13 => 75
  | _ => 76
/-- the table, where it lies -/
def TableAt (w : World) (b : Nat) : Prop := ∀ k, k < 15 → w.cell? ⟨b, k * 2, none⟩ = some (.string (wordB k)) ∧ w.cell? ⟨b, k * 2 + 1, none⟩ = some (.func (.func (fnOf k)) #[] #[])
theorem TableAt.later {w w' : World} {b : Nat} (h : TableAt w b) (hb : Below w.heap.size w w') : TableAt w' b := fun k hk => ⟨carry hb (h k hk).1, carry hb (h k hk).2⟩
set_option maxHeartbeats 1000000 in
theorem looks (w : World) : Calls Tryz.prog 27 #[] w fun e w' => e = .returned (.slice (some ⟨w.heap.size, 0, none⟩) 15 15) ∧ Below w.heap.size w w' ∧ TableAt w' w.heap.size ∧ w.heap.size < w'.heap.size := by
  go_enter Tryz.func27, Tryz.ntmps27
  go_wp2
  go_ret
  refine ⟨rfl, (by repeat' (first | exact Below.refl _ _ | assumption | exact And.left (by assumption) | refine Below.drew ?_ | refine below_drewN ?_ _ | refine Below.setCell ?_ (by first | (simp; done) | (simp; omega) | omega) _ | refine Below.alloc ?_ (by first | (simp; done) | (simp; omega) | omega) _ | refine after (by assumption) (by first | (simp; done) | (simp; omega) | omega) ?_)), fun k hk => ?_, by simp⟩
  match k, hk with
  | 0, _ => exact ⟨by simp [go_sem, wordB], by simp [go_sem, fnOf]⟩
  | 1, _ => exact ⟨by simp [go_sem, wordB], by simp [go_sem, fnOf]⟩
  | 2, _ => exact ⟨by simp [go_sem, wordB], by simp [go_sem, fnOf]⟩
  | 3, _ => exact ⟨by simp [go_sem, wordB], by simp [go_sem, fnOf]⟩
  | 4, _ => exact ⟨by simp [go_sem, wordB], by simp [go_sem, fnOf]⟩
  | 5, _ => exact ⟨by simp [go_sem, wordB], by simp [go_sem, fnOf]⟩
  | 6, _ => exact ⟨by simp [go_sem, wordB], by simp [go_sem, fnOf]⟩
  | 7, _ => exact ⟨by simp [go_sem, wordB], by simp [go_sem, fnOf]⟩
  | 8, _ => exact ⟨by simp [go_sem, wordB], by simp [go_sem, fnOf]⟩
  | 9, _ => exact ⟨by simp [go_sem, wordB], by simp [go_sem, fnOf]⟩
  | 10, _ => exact ⟨by simp [go_sem, wordB], by simp [go_sem, fnOf]⟩
  | 11, _ => exact ⟨by simp [go_sem, wordB], by simp [go_sem, fnOf]⟩
  | 12, _ => exact ⟨by simp [go_sem, wordB], by simp [go_sem, fnOf]⟩
  | 13, _ => exact ⟨by simp [go_sem, wordB], by simp [go_sem, fnOf]⟩
  | 14, _ => exact ⟨by simp [go_sem, wordB], by simp [go_sem, fnOf]⟩

/-- what the spec's own bounds let in -/
structure SmallS (s : S) : Prop where
  parts : ∀ p ∈ s.parts, p.l.length ≤ 100000
  users : ∀ q ∈ s.queues, q.users.l.length ≤ 100000
theorem looked (s : S) (hs : SmallS s) (g : Nat) (w : World) (HB : Box w g s) (HR : Rows w s) : ∀ k, k < 15 → Calls Tryz.prog (fnOf k) #[.pointer (some ⟨g, 0, none⟩)] w fun e w' => e = .returned (.bool (soB s k)) ∧ Below w.heap.size w w'
  | 0, _ => nodesSo s g _ rfl w HB HR
  | 1, _ => partsSo s g _ rfl w HB HR hs.parts
  | 3, _ => queuesSo s g _ _ rfl rfl w HB HR hs.users
  | 2, _ => look2 s g w HB
  | 4, _ => look4 s g w HB
  | 5, _ => look5 s g w HB
  | 6, _ => look6 s g w HB
  | 7, _ => look7 s g w HB
  | 8, _ => look8 s g w HB
  | 9, _ => look9 s g w HB
  | 10, _ => look10 s g w HB
  | 11, _ => look11 s g w HB
  | 12, _ => look12 s g w HB
  | 13, _ => look13 s g w HB
  | 14, _ => look14 s g w HB

theorem run_enter {P : Program} {f : FuncId} {fn : Func} {c : Code} (hf : P.funcs[f]? = some fn) (hname : (fn.name == "runtime.NumGoroutine") = false) (hb : fn.body = some c) (args : Array Value) (w : World) :
    (callFunc f args).run P w = .ok (.enter f args) w := by
  simp only [callFunc]
  simp [hf, hb]
  intro hn
  simp [hn] at hname
theorem looked_in (args : Array Value) (w : World) : ∀ k, k < 15 → (callFunc (fnOf k) args).run Tryz.prog w = .ok (.enter (fnOf k) args) w
  | 0, _ => run_enter Tryz.func61 (by kernel_rfl) rfl args w
  | 1, _ => run_enter Tryz.func62 (by kernel_rfl) rfl args w
  | 2, _ => run_enter Tryz.func63 (by kernel_rfl) rfl args w
  | 3, _ => run_enter Tryz.func65 (by kernel_rfl) rfl args w
  | 4, _ => run_enter Tryz.func66 (by kernel_rfl) rfl args w
  | 5, _ => run_enter Tryz.func67 (by kernel_rfl) rfl args w
  | 6, _ => run_enter Tryz.func68 (by kernel_rfl) rfl args w
  | 7, _ => run_enter Tryz.func69 (by kernel_rfl) rfl args w
  | 8, _ => run_enter Tryz.func70 (by kernel_rfl) rfl args w
  | 9, _ => run_enter Tryz.func71 (by kernel_rfl) rfl args w
  | 10, _ => run_enter Tryz.func72 (by kernel_rfl) rfl args w
  | 11, _ => run_enter Tryz.func73 (by kernel_rfl) rfl args w
  | 12, _ => run_enter Tryz.func74 (by kernel_rfl) rfl args w
  | 13, _ => run_enter Tryz.func75 (by kernel_rfl) rfl args w
  | 14, _ => run_enter Tryz.func76 (by kernel_rfl) rfl args w

set_option maxHeartbeats 2000000 in
theorem flaw (s : S) (hs : SmallS s) (w : World) (HR : Rows w s) :
    Calls Tryz.prog 14 #[.agg #[.slice s.na s.nodes.length s.nc, .slice s.pa s.parts.length s.pc, .slice s.qa s.queues.length s.qc, .int .i64 s.users, .int .i64 s.age, .int .i64 s.size, .int .i64 s.qos, .int .i64 s.share, .int .i64 s.decay, .int .i64 s.mode, .int .i64 s.jobs, .int .i64 s.ids, .int .i64 s.versions, .int .i64 s.linger, .int .i64 s.keep, .int .i64 s.inn, .int .i64 s.out, .int .i64 s.cache]] w fun e w' => e = .returned (.string (flawW s)) ∧ Below w.heap.size w w' := by
  have HR := Lib.hid HR
  have HA := Lib.hid (show (∀ j, j < 15 → soB s j = true) → flawW s = ⟨#[]⟩ from flaw_all)
  have HI := Lib.hid (show ∀ i, i < 15 → (∀ j, j < i → soB s j = true) → soB s i = false → flawW s = wordB i from fun i hi => flaw_at hi)
  have HK := Lib.hid (fun g w hb hr k hk => looked s hs g w hb hr k hk)
  have HX := Lib.hid (fun t => Box.new w s t)
  clear hs
  go_enter Tryz.func14, Tryz.ntmps14
  go_wp2_with fail
  refine (looks _).mono ?_; rintro e w1 ⟨rfl, hb1, ht, hlt1⟩
  have hz1 := hb1.size; try simp at hz1
  simp only [World.size_alloc] at ht hlt1
  have HT := Lib.hid ht
  have HX := Lib.hid ((HX.out 28).later hb1)
  have HR1 := Lib.hid (HR.out.later (show Below w.heap.size w w1 from (by repeat' (first | exact Below.refl _ _ | assumption | exact And.left (by assumption) | refine Below.drew ?_ | refine below_drewN ?_ _ | refine Below.setCell ?_ (by first | (simp; done) | (simp; omega) | omega) _ | refine Below.alloc ?_ (by first | (simp; done) | (simp; omega) | omega) _ | refine after (by assumption) (by first | (simp; done) | (simp; omega) | omega) ?_))))
  clear ht
  go_wp2
  go_loopw [7] (fun x wr => ∃ k : Nat, k ≤ 15 ∧ x = .int .i64 k ∧ Below w1.heap.size w1 wr ∧ Hid (∀ j, j < k → soB s j = true)) (fun x _ => 15 - (intOf x).toNat)
  case atStart => exact ⟨0, Nat.zero_le _, rfl, (by repeat' (first | exact Below.refl _ _ | assumption | exact And.left (by assumption) | refine Below.drew ?_ | refine below_drewN ?_ _ | refine Below.setCell ?_ (by first | (simp; done) | (simp; omega) | omega) _ | refine Below.alloc ?_ (by first | (simp; done) | (simp; omega) | omega) _ | refine after (by assumption) (by first | (simp; done) | (simp; omega) | omega) ?_)), Lib.hid fun i h => by omega⟩
  case round =>
    obtain ⟨k, hk, rfl, hb, HP⟩ := hrel
    have hz := hb.size
    by_cases hlt : k < 15
    · have hk15 : (k : Int) < 15 := by omega
      obtain ⟨t0, t1⟩ := (HT.out.later hb) k hlt
      obtain ⟨wd, hwd⟩ : ∃ wd, wordB k = wd := ⟨_, rfl⟩
      obtain ⟨f, hf⟩ : ∃ f, fnOf k = f := ⟨_, rfl⟩
      have HL := Lib.hid (fun w' hb' hr' => HK.out w.heap.size w' hb' hr' k hlt)
      rw [hwd] at t0
      have hin := fun args w => looked_in args w k hlt
      rw [hf] at t1 HL hin
      have HWD := Lib.hid hwd
      clear hwd hf
      cases hso : soB s k with
      | true =>
        have HO := Lib.hid hso
        rw [hso] at HL
        clear hso
        go_wp2_with fail
        refine (HL.out _ (((HX.out.later hb).later ((by repeat' (first | exact Below.refl _ _ | assumption | exact And.left (by assumption) | refine Below.drew ?_ | refine below_drewN ?_ _ | refine Below.setCell ?_ (by first | (simp; done) | (simp; omega) | omega) _ | refine Below.alloc ?_ (by first | (simp; done) | (simp; omega) | omega) _ | refine after (by assumption) (by first | (simp; done) | (simp; omega) | omega) ?_))))) ((HR1.out.later hb).later ((by repeat' (first | exact Below.refl _ _ | assumption | exact And.left (by assumption) | refine Below.drew ?_ | refine below_drewN ?_ _ | refine Below.setCell ?_ (by first | (simp; done) | (simp; omega) | omega) _ | refine Below.alloc ?_ (by first | (simp; done) | (simp; omega) | omega) _ | refine after (by assumption) (by first | (simp; done) | (simp; omega) | omega) ?_))))).mono ?_; rintro e w2 ⟨rfl, hb2⟩
        have hz2 := hb2.size; try simp at hz2
        go_wp2
        go_roundw
        case rel => exact ⟨k + 1, by omega, by go_num, (by repeat' (first | exact Below.refl _ _ | assumption | exact And.left (by assumption) | refine Below.drew ?_ | refine below_drewN ?_ _ | refine Below.setCell ?_ (by first | (simp; done) | (simp; omega) | omega) _ | refine Below.alloc ?_ (by first | (simp; done) | (simp; omega) | omega) _ | refine after (by assumption) (by first | (simp; done) | (simp; omega) | omega) ?_)), Lib.hid fun j hj => by
            rcases Nat.lt_or_ge j k with h' | h'
            · exact HP.out j h'
            · obtain rfl : j = k := by omega
              exact HO.out⟩
        case measure => simp [intOf]; omega
      | false =>
        have E := Lib.hid (HI.out k hlt HP.out hso)
        rw [hso] at HL
        clear hso
        go_wp2_with fail
        generalize hw4 : wr.alloc _ = w4
        have hb4 : Below wr.heap.size wr w4 := by rw [← hw4]; exact (by repeat' (first | exact Below.refl _ _ | assumption | exact And.left (by assumption) | refine Below.drew ?_ | refine below_drewN ?_ _ | refine Below.setCell ?_ (by first | (simp; done) | (simp; omega) | omega) _ | refine Below.alloc ?_ (by first | (simp; done) | (simp; omega) | omega) _ | refine after (by assumption) (by first | (simp; done) | (simp; omega) | omega) ?_))
        have k0 : w4.cell? ⟨wr.heap.size, 0, none⟩ = some (.string wd) := by rw [← hw4]; simp [go_sem]
        clear hw4
        refine (HL.out _ ((HX.out.later hb).later hb4) ((HR1.out.later hb).later hb4)).mono ?_; rintro e w2 ⟨rfl, hb2⟩
        have hz4 := hb4.size
        have hz2 := hb2.size
        have q0 := carry hb2 k0
        go_wp2
        go_ret
        exact ⟨by rw [E.out, HWD.out]; rfl, (by repeat' (first | exact Below.refl _ _ | assumption | exact And.left (by assumption) | refine Below.drew ?_ | refine below_drewN ?_ _ | refine Below.setCell ?_ (by first | (simp; done) | (simp; omega) | omega) _ | refine Below.alloc ?_ (by first | (simp; done) | (simp; omega) | omega) _ | refine after (by assumption) (by first | (simp; done) | (simp; omega) | omega) ?_))⟩
    · have E := Lib.hid (HA.out fun j hj => HP.out j (by omega))
      go_wp2
      go_ret
      exact ⟨by rw [E.out]; rfl, (by repeat' (first | exact Below.refl _ _ | assumption | exact And.left (by assumption) | refine Below.drew ?_ | refine below_drewN ?_ _ | refine Below.setCell ?_ (by first | (simp; done) | (simp; omega) | omega) _ | refine Below.alloc ?_ (by first | (simp; done) | (simp; omega) | omega) _ | refine after (by assumption) (by first | (simp; done) | (simp; omega) | omega) ?_))⟩
end Go.Proofs.YtgopjpnlpcmldaaGreatDoor.W
