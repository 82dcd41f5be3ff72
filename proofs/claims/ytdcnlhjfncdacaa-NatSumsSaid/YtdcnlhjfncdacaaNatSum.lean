/-
  Contracts of nat.anyBelowZero and nat.Sum over a slice that reads as a list of integers.
-/
import Derived.Test.YtdcnlhjfncdacaaNat
import Derived.Test.YtdcnlhjfncdacaaNatSumSpec
import Derived.WalkKit
import Derived.ProofKit
import Derived.WalkLawsBesides
import Derived.Lib.Hide
namespace Go.Proofs.Ytdcnlhjfncdacaa.W
set_option linter.unusedVariables false
open Go.ChangeShapes Go.WideShapes Go.ChangeAt Go.RowKit

/-- a slice that reads as these integers; where there are none, it may be nil -/
def IntsAt (w : World) (a : Option Addr) (xs : List Int) : Prop :=
  xs = [] ∨ ∃ b off, a = some ⟨b, off, none⟩ ∧ ∀ i (h : i < xs.length), w.cell? ⟨b, off + i, none⟩ = some (.int .i64 xs[i])

theorem neg_nil (a : Option Addr) (cap : Nat) (w : World) :
    Calls Try.prog 17 #[.slice a 0 cap] w fun e w' => e = .returned (.bool false) ∧ w = w' := by
  go_enter Try.func17, Try.ntmps17
  go_wp2
  refine wp_loop_rounds 1 ?_
  rw [rounds_succ]
  go_wp2
  go_ret
  exact ⟨rfl, rfl⟩
theorem neg_row (b off cap : Nat) (xs : List Int) (w : World) (hm : xs.length ≤ 9223372036854775807)
    (hc : ∀ i (h : i < xs.length), w.cell? ⟨b, off + i, none⟩ = some (.int .i64 xs[i])) :
    Calls Try.prog 17 #[.slice (some ⟨b, off, none⟩) xs.length cap] w fun e w' => e = .returned (.bool (anyNeg xs)) ∧ w = w' := by
  have HC := Lib.hid hc
  clear hc
  go_enter Try.func17, Try.ntmps17
  go_wp2
  go_loop [7] (fun i => ∃ k : Nat, k ≤ xs.length ∧ i = .int .i64 k ∧ Hid (anyNeg (xs.take k) = false)) (fun i => xs.length - (intOf i).toNat)
  case atStart => exact ⟨0, Nat.zero_le _, rfl, Lib.hid rfl⟩
  case round =>
    obtain ⟨k, hk, rfl, hn⟩ := hrel
    by_cases hlt : k < xs.length
    · have hc := HC.out k hlt
      by_cases hx : xs[k] < 0
      · have ht := Lib.hid (anyNeg_at xs k hlt hx)
        go_wp2
        go_ret
        exact ⟨by first | (rw [ht.out]; done) | (rw [ht.out]; rfl), rfl⟩
      · have ht := Lib.hid (show anyNeg (xs.take (k + 1)) = false by rw [anyNeg_snoc xs k hlt, hn.out]; simp; omega)
        clear hn
        go_wp2
        go_round
        case rel => exact ⟨k + 1, by omega, by go_num, ht⟩
        case measure => simp [intOf]; omega
    · have ht := Lib.hid (show anyNeg xs = false by have := hn.out; rwa [List.take_of_length_le (by omega)] at this)
      clear hn
      go_wp2
      go_ret
      exact ⟨by first | (rw [ht.out]; done) | (rw [ht.out]; rfl), rfl⟩
theorem neg (a : Option Addr) (cap : Nat) (xs : List Int) (w : World) (hm : xs.length ≤ 9223372036854775807) (h : IntsAt w a xs) :
    Calls Try.prog 17 #[.slice a xs.length cap] w fun e w' => e = .returned (.bool (anyNeg xs)) ∧ w = w' := by
  rcases h with rfl | ⟨b, off, rfl, hc⟩
  · exact neg_nil a cap w
  · exact neg_row b off cap xs w hm hc

theorem sum_nil (a : Option Addr) (cap : Nat) (l : Int) (w : World) (hl : l ≤ 9223372036854775807) :
    Calls Try.prog 16 #[.slice a 0 cap, .int .i64 l] w fun e w' => e = .returned (.tuple #[.int .i64 (sumV [] l), .int .i64 (sumE [] l)]) ∧ w = w' := by
  by_cases h : l < 0
  · have hs := Lib.hid (sum_arg (xs := []) (l := l) (.inl h))
    go_enter Try.func16, Try.ntmps16
    go_wp2
    go_ret2
    exact ⟨by first | (rw [hs.out.1, hs.out.2]; done) | (rw [hs.out.1, hs.out.2]; rfl), rfl⟩
  · have hs := Lib.hid (sum_ok (xs := []) (l := l) (by simp [anyNeg]; omega) (by simp [total]; omega))
    go_enter Try.func16, Try.ntmps16
    go_wp2_with (go_at_call 17; refine (neg_nil _ _ _).mono ?_; rintro e w' ⟨rfl, rfl⟩)
    refine wp_loop_rounds 1 ?_
    rw [rounds_succ]
    go_wp2
    go_ret2
    exact ⟨by first | (rw [hs.out.1, hs.out.2]; done) | (rw [hs.out.1, hs.out.2]; rfl), rfl⟩
theorem sum_row (b off cap : Nat) (xs : List Int) (l : Int) (w : World) (hm : xs.length ≤ 9223372036854775807) (hl : l ≤ 9223372036854775807)
    (hb : ∀ i (h : i < xs.length), xs[i] ≤ 9223372036854775807)
    (hc : ∀ i (h : i < xs.length), w.cell? ⟨b, off + i, none⟩ = some (.int .i64 xs[i])) :
    Calls Try.prog 16 #[.slice (some ⟨b, off, none⟩) xs.length cap, .int .i64 l] w fun e w' => e = .returned (.tuple #[.int .i64 (sumV xs l), .int .i64 (sumE xs l)]) ∧ w = w' := by
  have HC := Lib.hid hc
  have HB := Lib.hid hb
  clear hc hb
  by_cases h : l < 0
  · have hs := Lib.hid (sum_arg (xs := xs) (l := l) (.inl h))
    go_enter Try.func16, Try.ntmps16
    go_wp2
    go_ret2
    exact ⟨by first | (rw [hs.out.1, hs.out.2]; done) | (rw [hs.out.1, hs.out.2]; rfl), rfl⟩
  · have Hn := Lib.hid (fun w' (hw : w = w') => neg_row b off cap xs w' hm (by subst hw; exact HC.out))
    cases hn : anyNeg xs with
    | true =>
      have hs := Lib.hid (sum_arg (xs := xs) (l := l) (.inr hn))
      have Hc := Lib.hid (Hn.out w rfl)
      rw [hn] at Hc
      clear hn Hn
      go_enter Try.func16, Try.ntmps16
      go_wp2_with (go_at_call 17; refine (Hc.out).mono ?_; rintro e w' ⟨rfl, rfl⟩)
      go_ret2
      exact ⟨by first | (rw [hs.out.1, hs.out.2]; done) | (rw [hs.out.1, hs.out.2]; rfl), rfl⟩
    | false =>
      have Hc := Lib.hid (Hn.out w rfl)
      rw [hn] at Hc
      have HN := Lib.hid hn
      have hl0 : 0 ≤ l := by omega
      have hs1 := Lib.hid (fun g => sum_over (xs := xs) (l := l) (by rw [hn]; simp; omega) g)
      have hs2 := Lib.hid (fun g => sum_ok (xs := xs) (l := l) (by rw [hn]; simp; omega) g)
      clear hn Hn h
      go_enter Try.func16, Try.ntmps16
      go_wp2_with (go_at_call 17; refine (Hc.out).mono ?_; rintro e w' ⟨rfl, rfl⟩)
      go_loop [6, 19] (fun t i => ∃ k : Nat, k ≤ xs.length ∧ i = .int .i64 k ∧ t = .int .i64 (total (xs.take k)) ∧ total (xs.take k) ≤ l) (fun _ i => xs.length - (intOf i).toNat)
      case atStart => exact ⟨0, Nat.zero_le _, rfl, rfl, hl0⟩
      case round =>
        obtain ⟨k, hk, rfl, rfl, ht⟩ := hrel
        have hp := (total_part xs k HN.out).1
        by_cases hlt : k < xs.length
        · have hc := HC.out k hlt
          have hb := HB.out k hlt
          have Ha := Lib.hid (fun w => add (total (xs.take k)) xs[k] l w (by omega) hb hl)
          by_cases g : l < total (xs.take (k + 1))
          · have st := step_over xs k l hlt HN.out hl0 g
            rw [st.1, st.2.1] at Ha
            have hs := Lib.hid (hs1.out st.2.2)
            clear st g
            go_wp2_with (go_at_call 10; refine (Ha.out _).mono ?_; rintro e w' ⟨rfl, rfl⟩)
            go_ret2
            exact ⟨by first | (rw [hs.out.1, hs.out.2]; done) | (rw [hs.out.1, hs.out.2]; rfl), rfl⟩
          · have st := step_ok xs k l hlt HN.out hl0 g
            rw [st.1, st.2] at Ha
            have g' : total (xs.take (k + 1)) ≤ l := by omega
            clear st g
            go_wp2_with (go_at_call 10; refine (Ha.out _).mono ?_; rintro e w' ⟨rfl, rfl⟩)
            go_round
            case rel => exact ⟨k + 1, by omega, by go_num, rfl, g'⟩
            case measure => simp [intOf]; omega
        · have e := congrArg total (List.take_of_length_le (show xs.length ≤ k by omega))
          have hs := Lib.hid (hs2.out (by omega))
          have E := Lib.hid e
          clear e
          go_wp2
          go_ret2
          exact ⟨by first | (rw [hs.out.1, hs.out.2, E.out]; done) | (rw [hs.out.1, hs.out.2, E.out]; rfl), rfl⟩
theorem sum (a : Option Addr) (cap : Nat) (xs : List Int) (l : Int) (w : World) (hm : xs.length ≤ 9223372036854775807) (hl : l ≤ 9223372036854775807)
    (hb : ∀ i (h : i < xs.length), xs[i] ≤ 9223372036854775807) (h : IntsAt w a xs) :
    Calls Try.prog 16 #[.slice a xs.length cap, .int .i64 l] w fun e w' => e = .returned (.tuple #[.int .i64 (sumV xs l), .int .i64 (sumE xs l)]) ∧ w = w' := by
  rcases h with rfl | ⟨b, off, rfl, hc⟩
  · exact sum_nil a cap l w hl
  · exact sum_row b off cap xs l w hm hl hb hc
end Go.Proofs.Ytdcnlhjfncdacaa.W
