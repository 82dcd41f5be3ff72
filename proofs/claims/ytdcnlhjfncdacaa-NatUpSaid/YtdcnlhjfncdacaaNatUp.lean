/-
  For every input the law NatUp returns true and leaves its arguments as they were. No conditions.
-/
import Derived.Test.YtdcnlhjfncdacaaRows
import Derived.WalkKit
import Derived.ProofKit
import Derived.OpenShut
import Derived.ShutString
import Derived.Test.YtdcnlhjfncdacaaWalks
namespace Go.Proofs.Ytdcnlhjfncdacaa.natUp
open Go.ChangeShapes Go.WideShapes Go.ChangeAt Go.RowKit
open Go.ChangeMaps (open_string shut_string)
set_option linter.unusedVariables false      -- a walk need not use every 'w<i>' (that an integer argument fits its kind)

theorem own : ownKnob Try.prog.godebug = none := by kernel_rfl

/-! ### the walk of the law -/
theorem walk (a0 : Int) (a1 : Int) (w0 : (Lit.int .u32 a0).wf = true) (w1 : (Lit.int .u32 a1).wf = true) (w : World) :
    Calls Try.prog 6 #[.int .u32 a0, .int .u32 a1] w fun e w' => e = .returned (.bool true) ∧ Grown w w' := by
  have b0 := bounds_u32 w0
  have b1 := bounds_u32 w1
  by_cases h : a0 < 1 ∨ a1 < 1
  · by_cases h0 : a0 < 1
    · clear h
      go_enter Try.func6, Try.ntmps6
      go_wp2_with (first | (go_at_call 7; refine (W.awake _).mono ?_; rintro e w' ⟨rfl, rfl⟩) | (go_at_call 14; refine (W.up_zero _ _ _ (by omega)).mono ?_; rintro e w' ⟨rfl, rfl⟩))
      go_ret
      exact ⟨rfl, Grown.refl _⟩
    · have h1 : a1 < 1 := by omega
      clear h
      go_enter Try.func6, Try.ntmps6
      go_wp2_with (first | (go_at_call 7; refine (W.awake _).mono ?_; rintro e w' ⟨rfl, rfl⟩) | (go_at_call 14; refine (W.up_zero _ _ _ (by omega)).mono ?_; rintro e w' ⟨rfl, rfl⟩))
      go_ret
      exact ⟨rfl, Grown.refl _⟩
  · obtain ⟨q, hq⟩ : ∃ q, (a0 - 1) / a1 = q := ⟨_, rfl⟩
    have q1 : q * a1 ≤ a0 - 1 := by rw [← hq]; exact Int.ediv_mul_le _ (by omega)
    have q2 : a0 - 1 < (q + 1) * a1 := by rw [← hq]; exact Int.lt_ediv_add_one_mul_self _ (by omega)
    have q3 : (q + 1) * a1 = q * a1 + a1 := by rw [Int.add_mul, Int.one_mul]
    have q0 : 0 ≤ q := by rw [← hq]; exact Int.ediv_nonneg (by omega) (by omega)
    have q5 : 0 ≤ q * a1 := Int.mul_nonneg q0 (by omega)
    have q6 : q ≤ a0 - 1 := by rw [← hq]; exact Int.ediv_le_self _ (by omega)
    have g0 : 1 ≤ a0 := by omega
    have g1 : 1 ≤ a1 := by omega
    have q7 : 0 ≤ (q + 1) * a1 := by omega
    have q8 : (q + 1) * a1 ≤ 9223372036854775807 := by omega
    have q9 : a0 ≤ (q + 1) * a1 := by omega
    have q10 : q * a1 < a0 := by omega
    have q11 : q * a1 ≤ 9223372036854775807 := by omega
    have hc := fun w => W.up_pos a0 a1 w (by omega) (by omega) (by omega) (by omega)
    rw [hq] at hc
    have H := Lib.hid hc
    clear hc hq q3 h q1 q2
    go_enter Try.func6, Try.ntmps6
    go_wp2_with (first | (go_at_call 7; refine (W.awake _).mono ?_; rintro e w' ⟨rfl, rfl⟩) | (go_at_call 14; refine (H.out _).mono ?_; rintro e w' ⟨rfl, rfl⟩))
    go_ret
    exact ⟨rfl, Grown.refl _⟩

/-! ### from the walk to the row -/
set_option maxRecDepth 100000 in
theorem lifted (os : Os) (started : os.Started) (H : Type) (enc : TypeId × Value → H) :
    ReturnsInHanded {} Try.checked os 6 .any (Rows.natUpSpec.pre6 enc Try.prog Try.f6 Rows.natUpRow.domain false) (Rows.natUpSpec.post enc Try.prog Try.f6 false true false false) := by
  refine returnsInHanded_of_change (C := Try.checked) own started (by kernel_rfl) Try.func6
    (ChangeSpec.witness6 (enc := enc) (C := Try.checked) false ⟨#[], #[.int .u32 0, .int .u32 0], []⟩ 8 (by kernel_rfl) (by kernel_rfl) (by kernel_rfl) (by kernel_rfl)) ?_
  intro W base args ds gs before hval0 hW hcnd _
  have hval : ∀ (j : Nat) t v, Try.f6.params[j]? = some t → args[j]? = some v → Value.okWide Try.prog W .any base t v := hval0
  have hW' := hW
  obtain ⟨p, q, hA0, hV, rfl, hfz, hnd⟩ := hW
  have hA : DataW.TrodAll enc Try.prog W 0 (fun _ => true) true Try.f6.params.toList args.toList ds p := hA0
  rw [Try.params6] at hA hval
  obtain ⟨v0, vs0, d0, ds0, p0, q0, hargs, rfl, rfl, h0, r0⟩ := trodAll_cons hA
  obtain ⟨v1, vs1, d1, ds1, p1, q1, rfl, rfl, rfl, h1, r1⟩ := trodAll_cons r0
  obtain ⟨rfl, rfl, rfl⟩ := trodAll_nil r1
  obtain rfl : args = #[v0, v1] := by cases args; simp_all
  obtain ⟨rfl, rfl⟩ := trodVars_none hV
  obtain ⟨a0, rfl, rfl, rfl, w0⟩ := open_int Try.underlying38 (hval 0 38 v0 rfl rfl) h0
  obtain ⟨a1, rfl, rfl, rfl, w1⟩ := open_int Try.underlying38 (hval 1 38 v1 rfl rfl) h1
  clear hA0 hval0
  simp only [List.append_nil] at hW'
  refine (walk a0 a1 w0 w1 W).mono fun e W' ⟨he, hg⟩ => ?_
  subst he
  exact ⟨_, rfl, post_of_same (pa := []) (pv := []) hW' (fun _ _ _ => (trodAll_cons_mk (shut_bool Try.underlying4 _) trodAll_mk0)) (fun sp _ => (trodAll_cons_mk (shut_int Try.underlying38 w0) (trodAll_cons_mk (shut_int Try.underlying38 w1) trodAll_mk0))) (fun _ _ => rfl) rfl
    (hg.frame _) hg.2.1 (ok_one (by kernel_rfl) rfl (okWide_bool_mk Try.underlying4 _))⟩

theorem over : Rows.natUpRow.holds Try.pinned (OpenSpec.ofChange Rows.natUpSpec) :=
  OpenClaim.holds_of_wide 6 Try.f6 rfl rfl rfl rfl rfl rfl rfl ⟨rfl, rfl, rfl, rfl, rfl⟩ rfl rfl rfl rfl rfl (by kernel_rfl) Try.func6 (by kernel_rfl)
    (of_decide_eq_true (by kernel_rfl)) (by unfold Func.isWrapper; first | (rw [if_pos (by decide +kernel)]; kernel_rfl) | (rw [if_neg (by decide +kernel)]; exact ⟨rfl, rfl⟩))
    (fun os started H enc _ => lifted os started H enc)

/-- the statement -/
theorem proved : Rows.NatUpSaid :=
  over
#print axioms proved
end Go.Proofs.Ytdcnlhjfncdacaa.natUp
