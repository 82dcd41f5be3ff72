/-
  Contract of reply.Right.
-/
import Derived.Test.YtbnlchbklpgejaaDoorReplyMem
namespace Go.Proofs.YtbnlchbklpgejaaDoor.W
set_option linter.unusedVariables false
set_option linter.unusedSimpArgs false
open Go.ChangeShapes Go.WideShapes Go.ChangeAt Go.RowKit

def okAt (r : Rp) (i : Nat) : Prop := 0 ≤ (fourL r).getD i 0 ∧ (fourL r).getD i 0 ≤ fourMax.getD i 0
theorem fourB_of {r : Rp} (h : ∀ i, i < 4 → okAt r i) : fourB r = true := by
  have h0 := h 0 (by decide)
  have h1 := h 1 (by decide)
  have h2 := h 2 (by decide)
  have h3 := h 3 (by decide)
  unfold okAt fourL fourMax at h0 h1 h2 h3
  simp at h0 h1 h2 h3
  unfold fourB okN
  simp [h0, h1, h2, h3]
theorem fourB_no {r : Rp} (i : Nat) (hi : i < 4) (h : ¬ okAt r i) : rightP r = false := by
  cases e : rightP r with
  | false => rfl
  | true =>
    exfalso
    have := rightP_is e
    have hk := this.key
    have he := this.err
    have hj := (okN_iff _).1 this.job
    have hv := (okN_iff _).1 this.ver
    apply h
    unfold okAt fourL fourMax
    match i, hi with
    | 0, _ => simpa using hk
    | 1, _ => simpa using he
    | 2, _ => simpa using hj
    | 3, _ => simpa using hv
theorem okAt_more {r : Rp} {k : Nat} (h : ∀ i, i < k → okAt r i) (hk : okAt r k) : ∀ i, i < k + 1 → okAt r i := fun i hi => by
  rcases Nat.lt_succ_iff_lt_or_eq.1 hi with h1 | rfl
  · exact h i h1
  · exact hk
theorem ix0 (a b c d : Value) (w : World) : (Instr.index 41 (.agg #[a, b, c, d]) (.int .i64 0)).run Tryd.prog w = .ok a w := by kernel_rfl
theorem ix1 (a b c d : Value) (w : World) : (Instr.index 41 (.agg #[a, b, c, d]) (.int .i64 1)).run Tryd.prog w = .ok b w := by kernel_rfl
theorem ix2 (a b c d : Value) (w : World) : (Instr.index 41 (.agg #[a, b, c, d]) (.int .i64 2)).run Tryd.prog w = .ok c w := by kernel_rfl
theorem ix3 (a b c d : Value) (w : World) : (Instr.index 41 (.agg #[a, b, c, d]) (.int .i64 3)).run Tryd.prog w = .ok d w := by kernel_rfl
set_option maxHeartbeats 2000000 in
theorem replyRight (r : Rp) (w : World) (hS : Std w) (ha : RowAt w r.na (vals r.nums)) :
    Calls Tryd.prog 8 #[.agg #[.int .i64 r.key, .int .i64 r.err, .int .i64 r.job, .int .i64 r.ver, .slice r.na r.nums.length r.nc]] w fun e w' => e = .returned (.bool (rightP r)) ∧ Below w.heap.size w w' := by
  have HF := Lib.hid (fun w => four4 r w)
  have HA := Lib.hid ha
  have HS := Lib.hid hS
  have HN := Lib.hid (fun w' h => numsRight r.na r.nc r.nums w' h)
  clear ha hS
  go_enter Tryd.func8, Tryd.ntmps8
  go_wp2_with fail
  have HB0 := BoxP.new w r
  generalize hw0 : World.alloc w _ = w0 at HB0 ⊢
  have hb0 : Below w.heap.size w w0 := by rw [← hw0]; exact (by repeat' (first | exact Below.refl _ _ | assumption | exact And.left (by assumption) | refine Below.drew ?_ | refine below_drewN ?_ _ | refine Below.setCell ?_ (by first | (simp; done) | (simp; omega) | omega) _ | refine Below.alloc ?_ (by first | (simp; done) | (simp; omega) | omega) _ | refine after (by assumption) (by first | (simp; done) | (simp; omega) | omega) ?_))
  clear hw0
  have hz0 := hb0.size
  refine (HF.out w0).mono ?_; rintro e w1 ⟨rfl, hb1⟩
  have hz1 := hb1.size
  have HB1 := Lib.hid (HB0.on hb1)
  have hW1 : Below w.heap.size w w1 := hb0.trans (hb1.mono hz0)
  have HS1 := Lib.hid (HS.out.on hW1)
  have HA1 := Lib.hid (HA.out.later hW1)
  have c4 := HB1.out.c4
  have m0 := HS1.out.c0
  have m1 := HS1.out.c1
  have m2 := HS1.out.c2
  have m3 := HS1.out.c3
  have mlt := HS1.out.lt
  clear HB0
  go_wp2_with fail
  go_loop [7] (fun i => ∃ k : Nat, k ≤ 4 ∧ i = .int .i64 (k : Int) ∧ Hid (∀ i, i < k → okAt r i)) (fun i => 4 - (intOf i).toNat)
  case atStart => exact ⟨0, Nat.zero_le _, rfl, Lib.hid (fun i hi => absurd hi (Nat.not_lt_zero i))⟩
  case round =>
    obtain ⟨k, hk, rfl, HK⟩ := hrel
    rcases (show k = 0 ∨ k = 1 ∨ k = 2 ∨ k = 3 ∨ k = 4 by omega) with rfl | rfl | rfl | rfl | rfl
    · have i0 := ix0 (.int .i64 r.key) (.int .i64 r.err) (.int .i64 r.job) (.int .i64 r.ver)
      by_cases h0 : r.key < 0
      · have HD : Hid (rightP r = false) := Lib.hid (fourB_no 0 (by decide) (fun h => by have : 0 ≤ r.key := h.1; omega))
        go_wp2_with fail
        go_ret
        exact ⟨by rw [HD.out]; rfl, hW1⟩
      · by_cases h1 : 1073741824 < r.key
        · have HD : Hid (rightP r = false) := Lib.hid (fourB_no 0 (by decide) (fun h => by have : r.key ≤ 1073741824 := h.2; omega))
          go_wp2_with fail
          go_ret
          exact ⟨by rw [HD.out]; rfl, hW1⟩
        · have HK2 : Hid (∀ i, i < 1 → okAt r i) := Lib.hid (okAt_more HK.out ⟨show 0 ≤ r.key by omega, show r.key ≤ 1073741824 by omega⟩)
          go_wp2_with fail
          go_round
          case rel => exact ⟨1, by omega, by go_num, HK2⟩
          case measure => simp [intOf]
    · have i0 := ix1 (.int .i64 r.key) (.int .i64 r.err) (.int .i64 r.job) (.int .i64 r.ver)
      by_cases h0 : r.err < 0
      · have HD : Hid (rightP r = false) := Lib.hid (fourB_no 1 (by decide) (fun h => by have : 0 ≤ r.err := h.1; omega))
        go_wp2_with fail
        go_ret
        exact ⟨by rw [HD.out]; rfl, hW1⟩
      · by_cases h1 : 99 < r.err
        · have HD : Hid (rightP r = false) := Lib.hid (fourB_no 1 (by decide) (fun h => by have : r.err ≤ 99 := h.2; omega))
          go_wp2_with fail
          go_ret
          exact ⟨by rw [HD.out]; rfl, hW1⟩
        · have HK2 : Hid (∀ i, i < 2 → okAt r i) := Lib.hid (okAt_more HK.out ⟨show 0 ≤ r.err by omega, show r.err ≤ 99 by omega⟩)
          go_wp2_with fail
          go_round
          case rel => exact ⟨2, by omega, by go_num, HK2⟩
          case measure => simp [intOf]
    · have i0 := ix2 (.int .i64 r.key) (.int .i64 r.err) (.int .i64 r.job) (.int .i64 r.ver)
      by_cases h0 : r.job < 0
      · have HD : Hid (rightP r = false) := Lib.hid (fourB_no 2 (by decide) (fun h => by have : 0 ≤ r.job := h.1; omega))
        go_wp2_with fail
        go_ret
        exact ⟨by rw [HD.out]; rfl, hW1⟩
      · by_cases h1 : 281474976710656 < r.job
        · have HD : Hid (rightP r = false) := Lib.hid (fourB_no 2 (by decide) (fun h => by have : r.job ≤ 281474976710656 := h.2; omega))
          go_wp2_with fail
          go_ret
          exact ⟨by rw [HD.out]; rfl, hW1⟩
        · have HK2 : Hid (∀ i, i < 3 → okAt r i) := Lib.hid (okAt_more HK.out ⟨show 0 ≤ r.job by omega, show r.job ≤ 281474976710656 by omega⟩)
          go_wp2_with fail
          go_round
          case rel => exact ⟨3, by omega, by go_num, HK2⟩
          case measure => simp [intOf]
    · have i0 := ix3 (.int .i64 r.key) (.int .i64 r.err) (.int .i64 r.job) (.int .i64 r.ver)
      by_cases h0 : r.ver < 0
      · have HD : Hid (rightP r = false) := Lib.hid (fourB_no 3 (by decide) (fun h => by have : 0 ≤ r.ver := h.1; omega))
        go_wp2_with fail
        go_ret
        exact ⟨by rw [HD.out]; rfl, hW1⟩
      · by_cases h1 : 281474976710656 < r.ver
        · have HD : Hid (rightP r = false) := Lib.hid (fourB_no 3 (by decide) (fun h => by have : r.ver ≤ 281474976710656 := h.2; omega))
          go_wp2_with fail
          go_ret
          exact ⟨by rw [HD.out]; rfl, hW1⟩
        · have HK2 : Hid (∀ i, i < 4 → okAt r i) := Lib.hid (okAt_more HK.out ⟨show 0 ≤ r.ver by omega, show r.ver ≤ 281474976710656 by omega⟩)
          go_wp2_with fail
          go_round
          case rel => exact ⟨4, by omega, by go_num, HK2⟩
          case measure => simp [intOf]
    · have HD : Hid (rightP r = manyB r.nums) := Lib.hid (by unfold rightP; rw [fourB_of HK.out, Bool.true_and])
      have K := HN.out w1 HA1.out
      go_wp2_with fail
      refine K.mono ?_; rintro e w2 ⟨rfl, rfl⟩
      go_wp2
      go_ret
      exact ⟨by rw [HD.out]; rfl, hW1⟩
end Go.Proofs.YtbnlchbklpgejaaDoor.W
