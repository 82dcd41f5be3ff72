/-
  For every input the law NatSums returns true and leaves its arguments as they were. No conditions.
-/
import Derived.Test.YtdcnlhjfncdacaaRows
import Derived.WalkKit
import Derived.ProofKit
import Derived.OpenShut
import Derived.ShutString
import Derived.Test.YtdcnlhjfncdacaaWalks
import Derived.Test.YtdcnlhjfncdacaaNat
import Derived.Test.YtdcnlhjfncdacaaNatSum
import Derived.Test.YtdcnlhjfncdacaaInts
import Derived.ChangeOld
import Derived.Below
namespace Go.Proofs.Ytdcnlhjfncdacaa.natSums
open Go.ChangeShapes Go.WideShapes Go.ChangeAt Go.RowKit
open Go.ChangeMaps (open_string shut_string)
set_option linter.unusedVariables false

theorem own : ownKnob Try.prog.godebug = none := by kernel_rfl
theorem laidOut : laidOutB Try.prog = true := by kernel_rfl

/-- WHAT THE WALK IS TOLD OF A SLICE OF INTEGERS THAT CAME IN: it is nil; or it leads to a row of 'cap' cells, the numbers 'zs' (the first 'len' are its elements, the rest its spare room), each fitting its kind. -/
def IsRow (k : IntKind) (w : World) (a : Option Addr) (len cap : Nat) (zs : List Int) : Prop :=
  (a = none ∧ len = 0 ∧ cap = 0 ∧ zs = []) ∨
  ∃ x, a = some x ∧ len ≤ cap ∧ cap ≤ maxLen ∧ zs.length = cap ∧ (∀ i, i < zs.length → w.cell? (x.add i) = some (.int k (zs.getD i 0))) ∧ ∀ n ∈ zs, (Lit.int k n).wf = true

theorem info3 : (Try.prog.info? 3).map (fun i => (i.zero, i.size, i.bytes)) = some (some (.int .i64 0), 1, 8) := by kernel_rfl
/-! ### the walk of the law -/
theorem walk (a0 : Option Addr) (len0 cap0 : Nat) (z0 : List Int) (a1 : Int) (w : World) (w0 : IsRow .i64 w a0 len0 cap0 z0) (w1 : (Lit.int .i64 a1).wf = true) :
    Calls Try.prog 5 #[.slice a0 len0 cap0, .int .i64 a1] w fun e w' => e = .returned (.bool true) ∧ Below w.heap.size w w' := by
  have b1 := bounds_i64 w1
  obtain ⟨xs, rfl, hin, hbs⟩ : ∃ xs : List Int, len0 = xs.length ∧ W.IntsAt w a0 xs ∧ (∀ i (h : i < xs.length), -9223372036854775808 ≤ xs[i] ∧ xs[i] ≤ 9223372036854775807) := by
    rcases w0 with ⟨rfl, rfl, rfl, rfl⟩ | ⟨x, rfl, hl, hm, hz, hcell, hwz⟩
    · exact ⟨[], rfl, .inl rfl, fun i h => by simp at h⟩
    · have hxl : (z0.take len0).length = len0 := by simp; omega
      refine ⟨z0.take len0, hxl.symm, ?_, fun i h => bounds_i64 (hwz _ (List.mem_of_mem_take (List.getElem_mem h)))⟩
      by_cases he : len0 = 0
      · left; subst he; simp
      · right
        obtain ⟨b, off, rfl, hc⟩ := ints_at hcell (by omega)
        refine ⟨b, off, rfl, fun i h => ?_⟩
        have h' : i < z0.length := by simp at h; omega
        have := hc i h'
        simpa [List.getD, h'] using this
  clear w0
  by_cases hbig : 300 < xs.length
  · go_enter Try.func5, Try.ntmps5
    go_wp2_with (go_at_call 7; refine (W.awake _).mono ?_; rintro e w' ⟨rfl, rfl⟩)
    go_ret
    exact ⟨rfl, Below.refl _ _⟩
  have hlen : xs.length ≤ 300 := by omega
  clear hbig
  obtain ⟨i0, hi, hz0, hz1, hz2⟩ := info_parts info3
  have HI := Lib.hid hin
  have HB := Lib.hid hbs
  clear hin hbs
  have Hs := Lib.hid (fun w' (hb : Below w.heap.size w w') => W.sum a0 cap0 xs a1 w' (by omega) b1.2 (fun i h => (HB.out i h).2) (HI.out.later hb))
  have Hr := Lib.hid (fun a cap w' (hr : W.IntsAt w' a xs.reverse) => W.sum a cap xs.reverse a1 w' (by simp; omega) b1.2 (fun i h => by rw [List.getElem_reverse]; exact (HB.out _ _).2) hr)
  rw [W.sumV_reverse, W.sumE_reverse, List.length_reverse] at Hr
  have se := W.sumE_bd xs a1
  go_enter Try.func5, Try.ntmps5
  go_wp2_with (go_at_call 7; refine (W.awake _).mono ?_; rintro e w' ⟨rfl, rfl⟩)
  go_wp2_with fail
  refine (Hs.out _ (Below.refl _ _)).mono ?_; rintro e w' ⟨rfl, rfl⟩
  go_wp2_with fail
  go_loopw [7, 8] (fun v i wr => ∃ k : Nat, k ≤ xs.length ∧ i = .int .i64 (xs.length - 1 - k) ∧ wr.ownsRow w.heap.size 3 1 v k (W.vals (xs.reverse.take k)) ∧ Below w.heap.size w wr) (fun _ i _ => (intOf i + 1).toNat)
  case atStart => exact ⟨0, Nat.zero_le _, by simp, World.ownsRow_nil _ _ _ _, Below.refl _ _⟩
  case round =>
    obtain ⟨k, hk, rfl, hown, hbel⟩ := hrel
    by_cases hlt : k < xs.length
    · obtain ⟨b, off, ha, hbw, hcs⟩ := (HI.out.later hbel).row (by omega)
      have hc := hcs (xs.length - 1 - k) (by omega)
      have hsn := W.reverse_take_snoc xs k hlt
      have HSN := Lib.hid hsn
      clear hsn hcs
      have Ha := Lib.hid ha
      clear ha
      obtain rfl := Ha.out
      go_wp2_with (at_builtin; refine W.push _ _ 35 3 8 (.int .i64 0) i0 Try.underlying35 hi hz0 hz1 hz2 rfl w.heap.size w.heap.size k _ (.int .i64 xs[xs.length - 1 - k]) _ 3 w wr rfl rfl rfl rfl hown hbel (Nat.le_refl _) (Nat.le_refl _) rfl (by omega) (by omega) ?_)
      intro v' w1 hown1 hbel1
      have hown2 : w1.ownsRow w.heap.size 3 1 v' (k + 1) (W.vals (xs.reverse.take (k + 1))) := by
        rw [HSN.out, W.vals_snoc]; exact hown1
      clear hown1 hown hbel hc
      go_wp2
      go_roundw
      case rel => exact ⟨k + 1, by omega, by go_num, hown2, hbel1⟩
      case measure => simp [intOf]; omega
    · have hkk : k = xs.length := by omega
      subst hkk
      have hown2 := hown
      rw [List.take_of_length_le (by simp), show xs.length = xs.reverse.length by simp] at hown2
      obtain ⟨a', cap', rfl, hin'⟩ := W.own_ints hown2
      have hc := Lib.hid (Hr.out a' cap' wr hin')
      have HI2 := Lib.hid (HI.out.later hbel)
      have A0 := Lib.hid (fun (h : W.wrongAt a1 xs xs.length = true) => W.sum_arg (xs := xs) (l := a1) ((W.wrongAt_all a1 xs).1 h))
      have A1 := Lib.hid (fun (h : W.wrongAt a1 xs xs.length = false) g => W.sum_over (xs := xs) (l := a1) (fun x => by rw [(W.wrongAt_all a1 xs).2 x] at h; cases h) g)
      have A2 := Lib.hid (fun (h : W.wrongAt a1 xs xs.length = false) g => W.sum_ok (xs := xs) (l := a1) (fun x => by rw [(W.wrongAt_all a1 xs).2 x] at h; cases h) g)
      have w0 := W.wrongAt_zero a1 xs
      have W0 := Lib.hid w0
      clear w0 hown hin'
      go_wp2_with (go_at_call 16; refine hc.out.mono ?_; rintro e w' ⟨rfl, rfl⟩)
      go_loop [11, 62] (fun t i => ∃ k : Nat, k ≤ xs.length ∧ i = .int .i64 k ∧ t = .bool (W.wrongAt a1 xs k)) (fun _ i => xs.length - (intOf i).toNat)
      case atStart => exact ⟨0, Nat.zero_le _, rfl, by rw [W0.out]⟩
      case round =>
        obtain ⟨k, hk, rfl, rfl⟩ := hrel
        by_cases hlt : k < xs.length
        · obtain ⟨b, off, ha, hbw, hcs⟩ := HI2.out.row (by omega)
          have hc := hcs k hlt
          have WM := Lib.hid (W.wrongAt_more a1 xs k hlt)
          clear hcs
          subst ha
          cases hw : W.wrongAt a1 xs k with
          | true =>
            have hw2 := Lib.hid (show W.wrongAt a1 xs (k + 1) = true by rw [WM.out, hw]; rfl)
            clear hw
            go_wp2
            go_round
            case rel => exact ⟨k + 1, by omega, by go_num, by rw [hw2.out]⟩
            case measure => simp [intOf]; omega
          | false =>
            by_cases hx : xs[k] < 0
            · have hw2 := Lib.hid (show W.wrongAt a1 xs (k + 1) = true by rw [WM.out, hw]; simp; omega)
              clear hw
              go_wp2
              go_round
              case rel => exact ⟨k + 1, by omega, by go_num, by rw [hw2.out]⟩
              case measure => simp [intOf]; omega
            · have hw2 := Lib.hid (show W.wrongAt a1 xs (k + 1) = false by rw [WM.out, hw]; simp; omega)
              clear hw
              go_wp2
              go_round
              case rel => exact ⟨k + 1, by omega, by go_num, by rw [hw2.out]⟩
              case measure => simp [intOf]; omega
        · have hkk : k = xs.length := by omega
          subst hkk
          cases hw : W.wrongAt a1 xs xs.length with
          | true =>
            have s0 := A0.out hw
            have s1 : (W.sumV xs a1 == 0) = true := by rw [s0.1]; rfl
            have s2 : (W.sumE xs a1 == 2) = true := by rw [s0.2]; rfl
            clear hw s0
            go_wp2
            go_ret
            exact ⟨rfl, hbel⟩
          | false =>
            have hor : ¬ (a1 < 0 ∨ W.anyNeg xs = true) := fun x => by rw [(W.wrongAt_all a1 xs).2 x] at hw; cases hw
            have ha0 : 0 ≤ a1 := by omega
            have HN : Hid (W.anyNeg xs = false) := Lib.hid (by cases e : W.anyNeg xs with | false => rfl | true => exact absurd (.inr e) hor)
            have B1 := Lib.hid (A1.out hw)
            have B2 := Lib.hid (A2.out hw)
            clear hw hor A0 A1 A2
            go_wp2_with fail
            go_loop [14, 81] (fun t i => ∃ k : Nat, k ≤ xs.length ∧ i = .int .i64 k ∧ t = .int .i64 (W.total (xs.take k)) ∧ W.total (xs.take k) ≤ a1) (fun _ i => xs.length - (intOf i).toNat)
            case atStart => exact ⟨0, Nat.zero_le _, rfl, rfl, ha0⟩
            case round =>
              obtain ⟨k, hk, rfl, rfl, ht⟩ := hrel
              have hp := (W.total_part xs k HN.out).1
              by_cases hlt : k < xs.length
              · obtain ⟨b, off, ha, hbw, hcs⟩ := HI2.out.row (by omega)
                have hc := hcs k hlt
                have hb := (HB.out k hlt).2
                clear hcs
                subst ha
                have Ha := Lib.hid (fun w => W.radd (W.total (xs.take k)) xs[k] a1 w (by omega) hb b1.2)
                by_cases g : a1 < W.total (xs.take (k + 1))
                · have st := W.step_over xs k a1 hlt HN.out ha0 g
                  rw [st.1, st.2.1] at Ha
                  have s0 := B1.out st.2.2
                  have s1 : (W.sumV xs a1 == 0) = true := by rw [s0.1]; rfl
                  have s2 : (W.sumE xs a1 == 20) = true := by rw [s0.2]; rfl
                  clear st g s0
                  go_wp2_with (go_at_call 12; refine (Ha.out _).mono ?_; rintro e w' ⟨rfl, rfl⟩)
                  go_ret
                  exact ⟨rfl, hbel⟩
                · have st := W.step_ok xs k a1 hlt HN.out ha0 g
                  rw [st.1, st.2] at Ha
                  have g' : W.total (xs.take (k + 1)) ≤ a1 := by omega
                  clear st g
                  go_wp2_with (go_at_call 12; refine (Ha.out _).mono ?_; rintro e w' ⟨rfl, rfl⟩)
                  go_round
                  case rel => exact ⟨k + 1, by omega, by go_num, rfl, g'⟩
                  case measure => simp [intOf]; omega
              · have e := congrArg W.total (List.take_of_length_le (show xs.length ≤ k by omega))
                have s0 := B2.out (by omega)
                have s1 : (W.sumV xs a1 == W.total (xs.take k)) = true := by rw [s0.1, e]; simp
                have s2 : (W.sumE xs a1 == 0) = true := by rw [s0.2]; rfl
                clear e s0
                go_wp2
                go_ret
                exact ⟨rfl, hbel⟩

/-! ### from the walk to the row -/
set_option maxRecDepth 100000 in
theorem lifted (os : Os) (started : os.Started) (H : Type) (enc : TypeId × Value → H) :
    ReturnsInHanded {} Try.checked os 5 .any (Rows.natSumsSpec.pre6 enc Try.prog Try.f5 Rows.natSumsRow.domain false) (Rows.natSumsSpec.post enc Try.prog Try.f5 false true false false) := by
  refine returnsInHanded_of_change (C := Try.checked) own started (by kernel_rfl) Try.func5
    (ChangeSpec.witness6 (enc := enc) (C := Try.checked) false ⟨#[], #[.slice none 0 0, .int .i64 0], []⟩ 8 (by kernel_rfl) (by kernel_rfl) (by kernel_rfl) (by kernel_rfl)) ?_
  intro W base args ds gs before hval0 hW hcnd _
  have hval : ∀ (j : Nat) t v, Try.f5.params[j]? = some t → args[j]? = some v → Value.okWide Try.prog W .any base t v := hval0
  have hW' := hW
  obtain ⟨p, q, hA0, hV, rfl, hfz, hnd⟩ := hW
  have hA : DataW.TrodAll enc Try.prog W 0 (fun _ => true) true Try.f5.params.toList args.toList ds p := hA0
  rw [Try.params5] at hA hval
  obtain ⟨v0, vs0, d0, ds0, p0, q0, hargs, rfl, rfl, h0, r0⟩ := trodAll_cons hA
  obtain ⟨v1, vs1, d1, ds1, p1, q1, rfl, rfl, rfl, h1, r1⟩ := trodAll_cons r0
  obtain ⟨rfl, rfl, rfl⟩ := trodAll_nil r1
  obtain rfl : args = #[v0, v1] := by cases args; simp_all
  obtain ⟨rfl, rfl⟩ := trodVars_none hV
  obtain ⟨a0, len0, cap0, rfl⟩ := okWide_slice Try.underlying35 (hval 0 35 v0 rfl rfl)
  have k0 := h0
  have lt0 : ∀ x ∈ p0, x.block < W.heap.size := by obtain ⟨m, hm⟩ := k0; exact DataW.trod_lt m _ _ _ hm
  obtain ⟨z0, w0⟩ : ∃ zs, IsRow .i64 W a0 len0 cap0 zs := by
    obtain ⟨fuel, hf⟩ := h0
    rcases open_ints Try.underlying35 Try.underlying3 (by kernel_rfl) hf with ⟨hcs, _⟩ | ⟨x, l, c, zs, hcs, _, hl, hm, hz, _, hcell, hwz⟩
    · simp [Value.cells] at hcs
      obtain ⟨rfl, rfl, rfl⟩ := hcs
      exact ⟨[], .inl ⟨rfl, rfl, rfl, rfl⟩⟩
    · simp [Value.cells] at hcs
      obtain ⟨rfl, rfl, rfl⟩ := hcs
      exact ⟨zs, .inr ⟨_, rfl, hl, hm, by simpa using hz, hcell, hwz⟩⟩
  obtain ⟨a1, rfl, rfl, rfl, w1⟩ := open_int Try.underlying3 (hval 1 3 v1 rfl rfl) h1
  clear hA0 hval0
  refine (walk a0 len0 cap0 z0 a1 W w0 w1).mono fun e W' ⟨he, bel⟩ => ?_
  subst he
  exact ⟨_, rfl, _, _, _, [], _, [], hW', trodAll_mk1 (shut_bool Try.underlying4 _), (trodAll_cons_mk (Below.trod laidOut (by kernel_rfl) (of_decide_eq_true (by kernel_rfl)) k0 bel lt0) (trodAll_cons_mk (shut_int Try.underlying3 w1) trodAll_mk0)), rfl, bel.frame _, fun h => by cases h⟩

theorem over : Rows.natSumsRow.holds Try.pinned (OpenSpec.ofChange Rows.natSumsSpec) :=
  OpenClaim.holds_of_wide 5 Try.f5 rfl rfl rfl rfl rfl rfl rfl ⟨rfl, rfl, rfl, rfl, rfl⟩ rfl rfl rfl rfl rfl (by kernel_rfl) Try.func5 (by kernel_rfl)
    (of_decide_eq_true (by kernel_rfl)) (by unfold Func.isWrapper; first | (rw [if_pos (by decide +kernel)]; kernel_rfl) | (rw [if_neg (by decide +kernel)]; exact ⟨rfl, rfl⟩))
    (fun os started H enc _ => lifted os started H enc)

/-- the statement -/
theorem proved : Rows.NatSumsSaid := over
#print axioms proved
end Go.Proofs.Ytdcnlhjfncdacaa.natSums
