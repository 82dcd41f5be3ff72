/-
  Contracts of ask's small words: Query, isKind, isNumber; and of numbers: where a request has those that its kind has.
-/
import Derived.Test.YtkeboafejebanaaAskMem
import Derived.BigRegion
namespace Go.Proofs.Ytkeboafejebanaa.W
set_option linter.unusedVariables false
set_option linter.unusedSimpArgs false
open Go.ChangeShapes Go.WideShapes Go.ChangeAt Go.RowKit

theorem isKind (k : Int) (w : World) : Calls Try.prog 20 #[.int .i64 k] w fun e w' => e = .returned (.bool (kindB k)) ∧ w = w' := by
  unfold kindB
  by_cases h0 : 1 ≤ k
  · by_cases h1 : k ≤ 12
    · rw [show decide (1 ≤ k ∧ k ≤ 12) = true from decide_eq_true ⟨h0, h1⟩]
      go_enter Try.func20, Try.ntmps20
      go_wp2
      go_ret
      exact ⟨rfl, rfl⟩
    · rw [show decide (1 ≤ k ∧ k ≤ 12) = false from decide_eq_false fun x => h1 x.2]
      go_enter Try.func20, Try.ntmps20
      go_wp2
      go_ret
      exact ⟨rfl, rfl⟩
  · rw [show decide (1 ≤ k ∧ k ≤ 12) = false from decide_eq_false fun x => h0 x.1]
    go_enter Try.func20, Try.ntmps20
    go_wp2
    go_ret
    exact ⟨rfl, rfl⟩
theorem isNumber (k : Int) (w : World) : Calls Try.prog 22 #[.int .i64 k] w fun e w' => e = .returned (.bool (okN k)) ∧ w = w' := by
  unfold okN
  by_cases h0 : 0 ≤ k
  · by_cases h1 : k ≤ 281474976710656
    · rw [show decide (0 ≤ k ∧ k ≤ 281474976710656) = true from decide_eq_true ⟨h0, h1⟩]
      go_enter Try.func22, Try.ntmps22
      go_wp2
      go_ret
      exact ⟨rfl, rfl⟩
    · rw [show decide (0 ≤ k ∧ k ≤ 281474976710656) = false from decide_eq_false fun x => h1 x.2]
      go_enter Try.func22, Try.ntmps22
      go_wp2
      go_ret
      exact ⟨rfl, rfl⟩
  · rw [show decide (0 ≤ k ∧ k ≤ 281474976710656) = false from decide_eq_false fun x => h0 x.1]
    go_enter Try.func22, Try.ntmps22
    go_wp2
    go_ret
    exact ⟨rfl, rfl⟩
theorem query (k : Int) (w : World) : Calls Try.prog 10 #[.int .i64 k] w fun e w' => e = .returned (.bool (queryB k)) ∧ w = w' := by
  unfold queryB
  by_cases h : 8 ≤ k ∧ k ≤ 10
  · have h3 : k = 8 ∨ k = 9 ∨ k = 10 := by omega
    rw [show decide (8 ≤ k ∧ k ≤ 10) = true from decide_eq_true h]
    clear h
    rcases h3 with rfl | rfl | rfl
    all_goals
      go_enter Try.func10, Try.ntmps10
      go_wp2
      go_ret
      exact ⟨rfl, rfl⟩
  · rw [show decide (8 ≤ k ∧ k ≤ 10) = false from decide_eq_false h]
    have h1 : (k == 8) = false := by simp; omega
    have h2 : (k == 9) = false := by simp; omega
    have h3 : (k == 10) = false := by simp; omega
    clear h
    go_enter Try.func10, Try.ntmps10
    go_wp2
    go_ret
    exact ⟨rfl, rfl⟩
set_option maxHeartbeats 4000000 in
theorem numbers0 (g : Nat) (w : World) (h : w.cell? ⟨g, 0, none⟩ = some (.int .i64 0)) :
    Calls Try.prog 17 #[.pointer (some ⟨g, 0, none⟩)] w fun e w' => ∃ v, e = .returned v ∧ w'.ownsRow w.heap.size 46 1 v 0 (ptrsV g []) ∧ Below w.heap.size w w' := by
  obtain ⟨i0, hi, hz0, hz1, hz2⟩ := info_parts infoP
  go_enter Try.func17, Try.ntmps17
  go_wp2
  go_ret
  exact ⟨_, rfl, World.ownsRow_nil _ _ _ _, (Below.refl _ _)⟩
set_option maxHeartbeats 4000000 in
theorem numbers1 (g : Nat) (w : World) (h : w.cell? ⟨g, 0, none⟩ = some (.int .i64 1)) :
    Calls Try.prog 17 #[.pointer (some ⟨g, 0, none⟩)] w fun e w' => ∃ v, e = .returned v ∧ w'.ownsRow w.heap.size 46 1 v 8 (ptrsV g [3, 4, 5, 6, 7, 8, 9, 10]) ∧ Below w.heap.size w w' := by
  obtain ⟨i0, hi, hz0, hz1, hz2⟩ := info_parts infoP
  go_enter Try.func17, Try.ntmps17
  go_wp2_with (at_builtin; refine pushL _ _ 43 46 8 (.pointer none) i0 Try.underlying43 hi hz0 hz1 hz2 rfl (by decide) w.heap.size w.heap.size 0 1 [] _ _ _ w _ rfl rfl rfl rfl rfl (World.ownsRow_nil _ _ _ _) (Below.refl _ _) (Nat.le_refl _) (Nat.le_refl _) (by simp [Value.oneCell']) (by decide) ?_)
  intro v1 w1 hown1 hb1 _
  have hc1 := carry hb1 h
  have hy1 := hb1.size
  have HO1 := Lib.hid hown1
  clear hown1
  go_wp2_with fail
  go_region_law (refine step_append_new _ _ 43 46 8 (.pointer none) i0 Try.underlying43 hi hz0 hz1 hz2 rfl (by decide) w.heap.size w.heap.size 1 6 _ _ _ _ w _ rfl rfl rfl rfl rfl HO1.out (below_drewN hb1 1) (Nat.le_refl _) hy1 (by simp [Value.oneCell']) (by decide) ?_; intro v2 w2 hown2 hb2 _)
  have hc2 := carry hb2 h
  have hy2 := hb2.size
  have HO2 := Lib.hid hown2
  clear hown2 HO1 hc1
  go_wp2_with (at_builtin; refine pushL _ _ 43 46 8 (.pointer none) i0 Try.underlying43 hi hz0 hz1 hz2 rfl (by decide) w.heap.size w.heap.size 7 1 _ _ _ _ w _ rfl rfl rfl rfl rfl HO2.out hb2 (Nat.le_refl _) hy2 (by simp [Value.oneCell']) (by decide) ?_)
  intro v3 w3 hown3 hb3 _
  have hc3 := carry hb3 h
  have hy3 := hb3.size
  have HO3 := Lib.hid hown3
  clear hown3 HO2 hc2
  go_wp2
  go_ret
  exact ⟨_, rfl, HO3.out, hb3⟩
set_option maxHeartbeats 4000000 in
theorem numbers2 (g : Nat) (w : World) (h : w.cell? ⟨g, 0, none⟩ = some (.int .i64 2)) :
    Calls Try.prog 17 #[.pointer (some ⟨g, 0, none⟩)] w fun e w' => ∃ v, e = .returned v ∧ w'.ownsRow w.heap.size 46 1 v 8 (ptrsV g [1, 2, 4, 5, 6, 7, 8, 9]) ∧ Below w.heap.size w w' := by
  obtain ⟨i0, hi, hz0, hz1, hz2⟩ := info_parts infoP
  go_enter Try.func17, Try.ntmps17
  go_wp2_with fail
  go_region_law (refine step_append_new _ _ 43 46 8 (.pointer none) i0 Try.underlying43 hi hz0 hz1 hz2 rfl (by decide) w.heap.size w.heap.size 0 2 [] _ _ _ w _ rfl rfl rfl rfl rfl (World.ownsRow_nil _ _ _ _) (below_drewN (Below.refl _ _) 1) (Nat.le_refl _) (Nat.le_refl _) (by simp [Value.oneCell']) (by decide) ?_; intro v1 w1 hown1 hb1 _)
  have hc1 := carry hb1 h
  have hy1 := hb1.size
  have HO1 := Lib.hid hown1
  clear hown1
  go_wp2_with fail
  go_region_law (refine step_append_new _ _ 43 46 8 (.pointer none) i0 Try.underlying43 hi hz0 hz1 hz2 rfl (by decide) w.heap.size w.heap.size 2 6 _ _ _ _ w _ rfl rfl rfl rfl rfl HO1.out (below_drewN hb1 1) (Nat.le_refl _) hy1 (by simp [Value.oneCell']) (by decide) ?_; intro v2 w2 hown2 hb2 _)
  have hc2 := carry hb2 h
  have hy2 := hb2.size
  have HO2 := Lib.hid hown2
  clear hown2 HO1 hc1
  go_wp2
  go_ret
  exact ⟨_, rfl, HO2.out, hb2⟩
set_option maxHeartbeats 4000000 in
theorem numbers3 (g : Nat) (w : World) (h : w.cell? ⟨g, 0, none⟩ = some (.int .i64 3)) :
    Calls Try.prog 17 #[.pointer (some ⟨g, 0, none⟩)] w fun e w' => ∃ v, e = .returned v ∧ w'.ownsRow w.heap.size 46 1 v 2 (ptrsV g [1, 2]) ∧ Below w.heap.size w w' := by
  obtain ⟨i0, hi, hz0, hz1, hz2⟩ := info_parts infoP
  go_enter Try.func17, Try.ntmps17
  go_wp2_with fail
  go_region_law (refine step_append_new _ _ 43 46 8 (.pointer none) i0 Try.underlying43 hi hz0 hz1 hz2 rfl (by decide) w.heap.size w.heap.size 0 2 [] _ _ _ w _ rfl rfl rfl rfl rfl (World.ownsRow_nil _ _ _ _) (below_drewN (Below.refl _ _) 1) (Nat.le_refl _) (Nat.le_refl _) (by simp [Value.oneCell']) (by decide) ?_; intro v1 w1 hown1 hb1 _)
  have hc1 := carry hb1 h
  have hy1 := hb1.size
  have HO1 := Lib.hid hown1
  clear hown1
  go_wp2
  go_ret
  exact ⟨_, rfl, HO1.out, hb1⟩
set_option maxHeartbeats 4000000 in
theorem numbers4 (g : Nat) (w : World) (h : w.cell? ⟨g, 0, none⟩ = some (.int .i64 4)) :
    Calls Try.prog 17 #[.pointer (some ⟨g, 0, none⟩)] w fun e w' => ∃ v, e = .returned v ∧ w'.ownsRow w.heap.size 46 1 v 2 (ptrsV g [1, 2]) ∧ Below w.heap.size w w' := by
  obtain ⟨i0, hi, hz0, hz1, hz2⟩ := info_parts infoP
  go_enter Try.func17, Try.ntmps17
  go_wp2_with fail
  go_region_law (refine step_append_new _ _ 43 46 8 (.pointer none) i0 Try.underlying43 hi hz0 hz1 hz2 rfl (by decide) w.heap.size w.heap.size 0 2 [] _ _ _ w _ rfl rfl rfl rfl rfl (World.ownsRow_nil _ _ _ _) (below_drewN (Below.refl _ _) 1) (Nat.le_refl _) (Nat.le_refl _) (by simp [Value.oneCell']) (by decide) ?_; intro v1 w1 hown1 hb1 _)
  have hc1 := carry hb1 h
  have hy1 := hb1.size
  have HO1 := Lib.hid hown1
  clear hown1
  go_wp2
  go_ret
  exact ⟨_, rfl, HO1.out, hb1⟩
set_option maxHeartbeats 4000000 in
theorem numbers5 (g : Nat) (w : World) (h : w.cell? ⟨g, 0, none⟩ = some (.int .i64 5)) :
    Calls Try.prog 17 #[.pointer (some ⟨g, 0, none⟩)] w fun e w' => ∃ v, e = .returned v ∧ w'.ownsRow w.heap.size 46 1 v 2 (ptrsV g [1, 2]) ∧ Below w.heap.size w w' := by
  obtain ⟨i0, hi, hz0, hz1, hz2⟩ := info_parts infoP
  go_enter Try.func17, Try.ntmps17
  go_wp2_with fail
  go_region_law (refine step_append_new _ _ 43 46 8 (.pointer none) i0 Try.underlying43 hi hz0 hz1 hz2 rfl (by decide) w.heap.size w.heap.size 0 2 [] _ _ _ w _ rfl rfl rfl rfl rfl (World.ownsRow_nil _ _ _ _) (below_drewN (Below.refl _ _) 1) (Nat.le_refl _) (Nat.le_refl _) (by simp [Value.oneCell']) (by decide) ?_; intro v1 w1 hown1 hb1 _)
  have hc1 := carry hb1 h
  have hy1 := hb1.size
  have HO1 := Lib.hid hown1
  clear hown1
  go_wp2
  go_ret
  exact ⟨_, rfl, HO1.out, hb1⟩
set_option maxHeartbeats 4000000 in
theorem numbers6 (g : Nat) (w : World) (h : w.cell? ⟨g, 0, none⟩ = some (.int .i64 6)) :
    Calls Try.prog 17 #[.pointer (some ⟨g, 0, none⟩)] w fun e w' => ∃ v, e = .returned v ∧ w'.ownsRow w.heap.size 46 1 v 2 (ptrsV g [1, 2]) ∧ Below w.heap.size w w' := by
  obtain ⟨i0, hi, hz0, hz1, hz2⟩ := info_parts infoP
  go_enter Try.func17, Try.ntmps17
  go_wp2_with fail
  go_region_law (refine step_append_new _ _ 43 46 8 (.pointer none) i0 Try.underlying43 hi hz0 hz1 hz2 rfl (by decide) w.heap.size w.heap.size 0 2 [] _ _ _ w _ rfl rfl rfl rfl rfl (World.ownsRow_nil _ _ _ _) (below_drewN (Below.refl _ _) 1) (Nat.le_refl _) (Nat.le_refl _) (by simp [Value.oneCell']) (by decide) ?_; intro v1 w1 hown1 hb1 _)
  have hc1 := carry hb1 h
  have hy1 := hb1.size
  have HO1 := Lib.hid hown1
  clear hown1
  go_wp2
  go_ret
  exact ⟨_, rfl, HO1.out, hb1⟩
set_option maxHeartbeats 4000000 in
theorem numbers7 (g : Nat) (w : World) (h : w.cell? ⟨g, 0, none⟩ = some (.int .i64 7)) :
    Calls Try.prog 17 #[.pointer (some ⟨g, 0, none⟩)] w fun e w' => ∃ v, e = .returned v ∧ w'.ownsRow w.heap.size 46 1 v 3 (ptrsV g [1, 2, 3]) ∧ Below w.heap.size w w' := by
  obtain ⟨i0, hi, hz0, hz1, hz2⟩ := info_parts infoP
  go_enter Try.func17, Try.ntmps17
  go_wp2_with fail
  go_region_law (refine step_append_new _ _ 43 46 8 (.pointer none) i0 Try.underlying43 hi hz0 hz1 hz2 rfl (by decide) w.heap.size w.heap.size 0 2 [] _ _ _ w _ rfl rfl rfl rfl rfl (World.ownsRow_nil _ _ _ _) (below_drewN (Below.refl _ _) 1) (Nat.le_refl _) (Nat.le_refl _) (by simp [Value.oneCell']) (by decide) ?_; intro v1 w1 hown1 hb1 _)
  have hc1 := carry hb1 h
  have hy1 := hb1.size
  have HO1 := Lib.hid hown1
  clear hown1
  go_wp2_with (at_builtin; refine pushL _ _ 43 46 8 (.pointer none) i0 Try.underlying43 hi hz0 hz1 hz2 rfl (by decide) w.heap.size w.heap.size 2 1 _ _ _ _ w _ rfl rfl rfl rfl rfl HO1.out hb1 (Nat.le_refl _) hy1 (by simp [Value.oneCell']) (by decide) ?_)
  intro v2 w2 hown2 hb2 _
  have hc2 := carry hb2 h
  have hy2 := hb2.size
  have HO2 := Lib.hid hown2
  clear hown2 HO1 hc1
  go_wp2
  go_ret
  exact ⟨_, rfl, HO2.out, hb2⟩
set_option maxHeartbeats 4000000 in
theorem numbers8 (g : Nat) (w : World) (h : w.cell? ⟨g, 0, none⟩ = some (.int .i64 8)) :
    Calls Try.prog 17 #[.pointer (some ⟨g, 0, none⟩)] w fun e w' => ∃ v, e = .returned v ∧ w'.ownsRow w.heap.size 46 1 v 1 (ptrsV g [1]) ∧ Below w.heap.size w w' := by
  obtain ⟨i0, hi, hz0, hz1, hz2⟩ := info_parts infoP
  go_enter Try.func17, Try.ntmps17
  go_wp2_with (at_builtin; refine pushL _ _ 43 46 8 (.pointer none) i0 Try.underlying43 hi hz0 hz1 hz2 rfl (by decide) w.heap.size w.heap.size 0 1 [] _ _ _ w _ rfl rfl rfl rfl rfl (World.ownsRow_nil _ _ _ _) (Below.refl _ _) (Nat.le_refl _) (Nat.le_refl _) (by simp [Value.oneCell']) (by decide) ?_)
  intro v1 w1 hown1 hb1 _
  have hc1 := carry hb1 h
  have hy1 := hb1.size
  have HO1 := Lib.hid hown1
  clear hown1
  go_wp2
  go_ret
  exact ⟨_, rfl, HO1.out, hb1⟩
set_option maxHeartbeats 4000000 in
theorem numbers9 (g : Nat) (w : World) (h : w.cell? ⟨g, 0, none⟩ = some (.int .i64 9)) :
    Calls Try.prog 17 #[.pointer (some ⟨g, 0, none⟩)] w fun e w' => ∃ v, e = .returned v ∧ w'.ownsRow w.heap.size 46 1 v 1 (ptrsV g [3]) ∧ Below w.heap.size w w' := by
  obtain ⟨i0, hi, hz0, hz1, hz2⟩ := info_parts infoP
  go_enter Try.func17, Try.ntmps17
  go_wp2_with (at_builtin; refine pushL _ _ 43 46 8 (.pointer none) i0 Try.underlying43 hi hz0 hz1 hz2 rfl (by decide) w.heap.size w.heap.size 0 1 [] _ _ _ w _ rfl rfl rfl rfl rfl (World.ownsRow_nil _ _ _ _) (Below.refl _ _) (Nat.le_refl _) (Nat.le_refl _) (by simp [Value.oneCell']) (by decide) ?_)
  intro v1 w1 hown1 hb1 _
  have hc1 := carry hb1 h
  have hy1 := hb1.size
  have HO1 := Lib.hid hown1
  clear hown1
  go_wp2
  go_ret
  exact ⟨_, rfl, HO1.out, hb1⟩
set_option maxHeartbeats 4000000 in
theorem numbers10 (g : Nat) (w : World) (h : w.cell? ⟨g, 0, none⟩ = some (.int .i64 10)) :
    Calls Try.prog 17 #[.pointer (some ⟨g, 0, none⟩)] w fun e w' => ∃ v, e = .returned v ∧ w'.ownsRow w.heap.size 46 1 v 0 (ptrsV g []) ∧ Below w.heap.size w w' := by
  obtain ⟨i0, hi, hz0, hz1, hz2⟩ := info_parts infoP
  go_enter Try.func17, Try.ntmps17
  go_wp2
  go_ret
  exact ⟨_, rfl, World.ownsRow_nil _ _ _ _, (Below.refl _ _)⟩
set_option maxHeartbeats 4000000 in
theorem numbers11 (g : Nat) (w : World) (h : w.cell? ⟨g, 0, none⟩ = some (.int .i64 11)) :
    Calls Try.prog 17 #[.pointer (some ⟨g, 0, none⟩)] w fun e w' => ∃ v, e = .returned v ∧ w'.ownsRow w.heap.size 46 1 v 3 (ptrsV g [11, 12, 13]) ∧ Below w.heap.size w w' := by
  obtain ⟨i0, hi, hz0, hz1, hz2⟩ := info_parts infoP
  go_enter Try.func17, Try.ntmps17
  go_wp2_with fail
  go_region_law (refine step_append_new _ _ 43 46 8 (.pointer none) i0 Try.underlying43 hi hz0 hz1 hz2 rfl (by decide) w.heap.size w.heap.size 0 3 [] _ _ _ w _ rfl rfl rfl rfl rfl (World.ownsRow_nil _ _ _ _) (below_drewN (Below.refl _ _) 1) (Nat.le_refl _) (Nat.le_refl _) (by simp [Value.oneCell']) (by decide) ?_; intro v1 w1 hown1 hb1 _)
  have hc1 := carry hb1 h
  have hy1 := hb1.size
  have HO1 := Lib.hid hown1
  clear hown1
  go_wp2
  go_ret
  exact ⟨_, rfl, HO1.out, hb1⟩
set_option maxHeartbeats 4000000 in
theorem numbers12 (g : Nat) (w : World) (h : w.cell? ⟨g, 0, none⟩ = some (.int .i64 12)) :
    Calls Try.prog 17 #[.pointer (some ⟨g, 0, none⟩)] w fun e w' => ∃ v, e = .returned v ∧ w'.ownsRow w.heap.size 46 1 v 1 (ptrsV g [14]) ∧ Below w.heap.size w w' := by
  obtain ⟨i0, hi, hz0, hz1, hz2⟩ := info_parts infoP
  go_enter Try.func17, Try.ntmps17
  go_wp2_with (at_builtin; refine pushL _ _ 43 46 8 (.pointer none) i0 Try.underlying43 hi hz0 hz1 hz2 rfl (by decide) w.heap.size w.heap.size 0 1 [] _ _ _ w _ rfl rfl rfl rfl rfl (World.ownsRow_nil _ _ _ _) (Below.refl _ _) (Nat.le_refl _) (Nat.le_refl _) (by simp [Value.oneCell']) (by decide) ?_)
  intro v1 w1 hown1 hb1 _
  have hc1 := carry hb1 h
  have hy1 := hb1.size
  have HO1 := Lib.hid hown1
  clear hown1
  go_wp2
  go_ret
  exact ⟨_, rfl, HO1.out, hb1⟩
/-- where a request has the numbers of its kind -/
theorem numbers (g : Nat) (k : Int) (hk : kindB k = true ∨ k = 0) (w : World) (h : w.cell? ⟨g, 0, none⟩ = some (.int .i64 k)) :
    Calls Try.prog 17 #[.pointer (some ⟨g, 0, none⟩)] w fun e w' => ∃ v, e = .returned v ∧ w'.ownsRow w.heap.size 46 1 v (fieldsN k).length (ptrsV g (fieldsN k)) ∧ Below w.heap.size w w' := by
  have h3 : k = 0 ∨ k = 1 ∨ k = 2 ∨ k = 3 ∨ k = 4 ∨ k = 5 ∨ k = 6 ∨ k = 7 ∨ k = 8 ∨ k = 9 ∨ k = 10 ∨ k = 11 ∨ k = 12 := by
    rcases hk with hk | hk
    · have := of_decide_eq_true hk; omega
    · exact .inl hk
  rcases h3 with rfl | rfl | rfl | rfl | rfl | rfl | rfl | rfl | rfl | rfl | rfl | rfl | rfl
  · exact numbers0 g w h
  · exact numbers1 g w h
  · exact numbers2 g w h
  · exact numbers3 g w h
  · exact numbers4 g w h
  · exact numbers5 g w h
  · exact numbers6 g w h
  · exact numbers7 g w h
  · exact numbers8 g w h
  · exact numbers9 g w h
  · exact numbers10 g w h
  · exact numbers11 g w h
  · exact numbers12 g w h
end Go.Proofs.Ytkeboafejebanaa.W
