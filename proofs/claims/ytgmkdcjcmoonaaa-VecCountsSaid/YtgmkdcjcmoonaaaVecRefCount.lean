/-
  Contract of drayageref02.Count: added again and again, as long as it fits.
-/
import Derived.Test.YtgmkdcjcmoonaaaVecRef
import Derived.Test.YtgmkdcjcmoonaaaVecCountSpec
namespace Go.Proofs.Ytgmkdcjcmoonaaa.W
set_option linter.unusedVariables false
set_option linter.unusedSimpArgs false
open Go.ChangeShapes Go.WideShapes Go.ChangeAt Go.RowKit

set_option maxHeartbeats 4000000 in
theorem rcount_no (f n : V) (w : World) (h : ¬ (f.Ok ∧ n.Ok ∧ ¬ n.is0)) :
    Calls Try.prog 19 #[(.agg #[.int .i64 f.cpu, .int .i64 f.mem, .int .i64 f.gpu, .int .i64 f.lic]), (.agg #[.int .i64 n.cpu, .int .i64 n.mem, .int .i64 n.gpu, .int .i64 n.lic])] w fun e w' => e = .returned (.int .i64 0) ∧ Below w.heap.size w w' := by
  have HA := Lib.hid (fun w => rright f w)
  have HB := Lib.hid (fun w => rright n w)
  have HZ := Lib.hid (fun w => rfits n V.zero w)
  by_cases h0 : f.Ok
  · rw [right_yes h0] at HA
    by_cases h1 : n.Ok
    · rw [right_yes h1] at HB
      have h2 : n.is0 := by
        by_cases x : n.is0
        · exact x
        · exact absurd ⟨h0, h1, x⟩ h
      rw [is0_le n h1, decide_eq_true h2] at HZ
      clear h h0 h1 h2
      go_enter Try.func19, Try.ntmps19
      go_wp2_with fail
      refine (HA.out _).mono ?_; rintro e w1 ⟨rfl, hb1⟩; obtain ⟨hc1, hf1⟩ := bcell hb1; have hz1 := hb1.size; (try simp at hz1); have lt_w1_0 : w.heap.size < w1.heap.size := (by omega); have lt_w1_1 : w.heap.size + 1 < w1.heap.size := (by omega)
      go_wp2_with fail
      refine (HB.out _).mono ?_; rintro e w2 ⟨rfl, hb2⟩; obtain ⟨hc2, hf2⟩ := bcell hb2; have hz2 := hb2.size; (try simp at hz2); have lt_w2_0 : w.heap.size < w2.heap.size := (by omega); have lt_w2_1 : w.heap.size + 1 < w2.heap.size := (by omega)
      go_wp2_with fail
      refine (HZ.out _).mono ?_; rintro e w3 ⟨rfl, hb3⟩; obtain ⟨hc3, hf3⟩ := bcell hb3; have hz3 := hb3.size; (try simp at hz3); have lt_w3_0 : w.heap.size < w3.heap.size := (by omega); have lt_w3_1 : w.heap.size + 1 < w3.heap.size := (by omega)
      go_wp2
      go_ret
      exact ⟨rfl, (by repeat' (first | exact Below.refl _ _ | assumption | exact And.left (by assumption) | refine Below.drew ?_ | refine below_drewN ?_ _ | refine Below.setCell ?_ (by first | (simp; done) | (simp; omega) | omega) _ | refine Below.alloc ?_ (by first | (simp; done) | (simp; omega) | omega) _ | refine after (by assumption) (by first | (simp; done) | (simp; omega) | omega) ?_))⟩
    · rw [right_no h1] at HB
      clear h h0 h1
      go_enter Try.func19, Try.ntmps19
      go_wp2_with fail
      refine (HA.out _).mono ?_; rintro e w1 ⟨rfl, hb1⟩; obtain ⟨hc1, hf1⟩ := bcell hb1; have hz1 := hb1.size; (try simp at hz1); have lt_w1_0 : w.heap.size < w1.heap.size := (by omega); have lt_w1_1 : w.heap.size + 1 < w1.heap.size := (by omega)
      go_wp2_with fail
      refine (HB.out _).mono ?_; rintro e w2 ⟨rfl, hb2⟩; obtain ⟨hc2, hf2⟩ := bcell hb2; have hz2 := hb2.size; (try simp at hz2); have lt_w2_0 : w.heap.size < w2.heap.size := (by omega); have lt_w2_1 : w.heap.size + 1 < w2.heap.size := (by omega)
      go_wp2
      go_ret
      exact ⟨rfl, (by repeat' (first | exact Below.refl _ _ | assumption | exact And.left (by assumption) | refine Below.drew ?_ | refine below_drewN ?_ _ | refine Below.setCell ?_ (by first | (simp; done) | (simp; omega) | omega) _ | refine Below.alloc ?_ (by first | (simp; done) | (simp; omega) | omega) _ | refine after (by assumption) (by first | (simp; done) | (simp; omega) | omega) ?_))⟩
  · rw [right_no h0] at HA
    clear h h0
    go_enter Try.func19, Try.ntmps19
    go_wp2_with fail
    refine (HA.out _).mono ?_; rintro e w1 ⟨rfl, hb1⟩; obtain ⟨hc1, hf1⟩ := bcell hb1; have hz1 := hb1.size; (try simp at hz1); have lt_w1_0 : w.heap.size < w1.heap.size := (by omega); have lt_w1_1 : w.heap.size + 1 < w1.heap.size := (by omega)
    go_wp2
    go_ret
    exact ⟨rfl, (by repeat' (first | exact Below.refl _ _ | assumption | exact And.left (by assumption) | refine Below.drew ?_ | refine below_drewN ?_ _ | refine Below.setCell ?_ (by first | (simp; done) | (simp; omega) | omega) _ | refine Below.alloc ?_ (by first | (simp; done) | (simp; omega) | omega) _ | refine after (by assumption) (by first | (simp; done) | (simp; omega) | omega) ?_))⟩

set_option maxHeartbeats 8000000 in
theorem rcount_in (f n : V) (w : World) (h0 : f.Ok) (h1 : n.Ok) (h2 : ¬ n.is0) :
    Calls Try.prog 19 #[(.agg #[.int .i64 f.cpu, .int .i64 f.mem, .int .i64 f.gpu, .int .i64 f.lic]), (.agg #[.int .i64 n.cpu, .int .i64 n.mem, .int .i64 n.gpu, .int .i64 n.lic])] w fun e w' => e = .returned (.int .i64 (times4 f n)) ∧ Below w.heap.size w w' := by
  have HA := Lib.hid (fun w => rright f w)
  have HB := Lib.hid (fun w => rright n w)
  have HZ := Lib.hid (fun w => rfits n V.zero w)
  rw [right_yes h0] at HA
  rw [right_yes h1] at HB
  rw [is0_le n h1, decide_eq_false h2] at HZ
  have bd := times4_bd h0 h1
  have FT := Lib.hid (fun (k : Int) (h : k + 1 ≤ 64) w => rfits (n.by (k + 1)) f w)
  have AD := Lib.hid (fun (k : Int) (h : 0 ≤ k ∧ k ≤ 64) w => radd (n.by (k + 1)) n w (by rw [by_succ]; exact by_in64 h1 (by omega) (by omega)))
  have YES := Lib.hid (fun (k : Int) (h : k + 1 ≤ times4 f n) => fits_yes ((count_le h0 h1 (k := k + 1) (by omega)).2 h))
  have NO := Lib.hid (fun (k : Int) (h : ¬ k + 1 ≤ times4 f n) (h' : k + 1 ≤ 64) => fits_no (fun x => h ((count_le h0 h1 (k := k + 1) h').1 x)))
  clear h0 h1 h2
  go_enter Try.func19, Try.ntmps19
  go_wp2_with fail
  refine (HA.out _).mono ?_; rintro e w1 ⟨rfl, hb1⟩; obtain ⟨hc1, hf1⟩ := bcell hb1; have hz1 := hb1.size; (try simp at hz1); have lt_w1_0 : w.heap.size < w1.heap.size := (by omega); have lt_w1_1 : w.heap.size + 1 < w1.heap.size := (by omega)
  go_wp2_with fail
  refine (HB.out _).mono ?_; rintro e w2 ⟨rfl, hb2⟩; obtain ⟨hc2, hf2⟩ := bcell hb2; have hz2 := hb2.size; (try simp at hz2); have lt_w2_0 : w.heap.size < w2.heap.size := (by omega); have lt_w2_1 : w.heap.size + 1 < w2.heap.size := (by omega)
  go_wp2_with fail
  refine (HZ.out _).mono ?_; rintro e w3 ⟨rfl, hb3⟩; obtain ⟨hc3, hf3⟩ := bcell hb3; have hz3 := hb3.size; (try simp at hz3); have lt_w3_0 : w.heap.size < w3.heap.size := (by omega); have lt_w3_1 : w.heap.size + 1 < w3.heap.size := (by omega)
  go_wp2_with fail
  have A0 := Lib.hid (show ∀ wr, Below w3.heap.size w3 wr → wr.cell? ⟨w.heap.size, 0, none⟩ = some (.int .i64 f.cpu) ∧ wr.cell? ⟨w.heap.size, 1, none⟩ = some (.int .i64 f.mem) ∧ wr.cell? ⟨w.heap.size, 2, none⟩ = some (.int .i64 f.gpu) ∧ wr.cell? ⟨w.heap.size, 3, none⟩ = some (.int .i64 f.lic)
    from fun wr hb => ⟨(by repeat' (first | assumption | (simp [go_sem]; done) | refine carry (by assumption) ?_ | refine carry_alloc ?_ _)), (by repeat' (first | assumption | (simp [go_sem]; done) | refine carry (by assumption) ?_ | refine carry_alloc ?_ _)), (by repeat' (first | assumption | (simp [go_sem]; done) | refine carry (by assumption) ?_ | refine carry_alloc ?_ _)), (by repeat' (first | assumption | (simp [go_sem]; done) | refine carry (by assumption) ?_ | refine carry_alloc ?_ _))⟩)
  have B0 := Lib.hid (show ∀ wr, Below w3.heap.size w3 wr → wr.cell? ⟨w.heap.size + 1, 0, none⟩ = some (.int .i64 n.cpu) ∧ wr.cell? ⟨w.heap.size + 1, 1, none⟩ = some (.int .i64 n.mem) ∧ wr.cell? ⟨w.heap.size + 1, 2, none⟩ = some (.int .i64 n.gpu) ∧ wr.cell? ⟨w.heap.size + 1, 3, none⟩ = some (.int .i64 n.lic)
    from fun wr hb => ⟨(by repeat' (first | assumption | (simp [go_sem]; done) | refine carry (by assumption) ?_ | refine carry_alloc ?_ _)), (by repeat' (first | assumption | (simp [go_sem]; done) | refine carry (by assumption) ?_ | refine carry_alloc ?_ _)), (by repeat' (first | assumption | (simp [go_sem]; done) | refine carry (by assumption) ?_ | refine carry_alloc ?_ _)), (by repeat' (first | assumption | (simp [go_sem]; done) | refine carry (by assumption) ?_ | refine carry_alloc ?_ _))⟩)
  clear hc1 hf1 hc2 hf2 hc3 hf3
  go_loopw [5] (fun x wr => ∃ k : Nat, (k : Int) ≤ times4 f n ∧ x = .int .i64 k ∧ Below w3.heap.size w3 wr ∧ Res4 wr w3.heap.size (n.by (k + 1))) (fun x _ => (64 - intOf x).toNat)
  case atStart =>
    refine ⟨0, by omega, rfl, (by repeat' (first | exact Below.refl _ _ | assumption | exact And.left (by assumption) | refine Below.drew ?_ | refine below_drewN ?_ _ | refine Below.setCell ?_ (by first | (simp; done) | (simp; omega) | omega) _ | refine Below.alloc ?_ (by first | (simp; done) | (simp; omega) | omega) _ | refine after (by assumption) (by first | (simp; done) | (simp; omega) | omega) ?_)), ?_⟩
    rw [show ((0 : Nat) : Int) + 1 = 1 from rfl, by_one]
    exact ⟨by simp [go_sem], by simp [go_sem], by simp [go_sem], by simp [go_sem], by simp [go_sem], by simp [go_sem], by simp [go_sem], by simp [go_sem]⟩
  case round =>
    obtain ⟨k, hk, rfl, hb, hr⟩ := hrel
    have hzr := hb.size
    obtain ⟨a0, a1, a2, a3⟩ := A0.out wr hb
    obtain ⟨b0, b1, b2, b3⟩ := B0.out wr hb
    obtain ⟨r0, r1, r2, r3, s0, s1, s2, s3⟩ := hr
    by_cases hlt : (k : Int) < 64
    · by_cases hle : (k : Int) + 1 ≤ times4 f n
      · have F1 := FT.out k (by omega)
        rw [YES.out k hle] at F1
        have H1 := Lib.hid F1
        clear F1
        have L := Lib.hid (AD.out k (by omega))
        rw [by_succ] at L
        go_wp2_with fail
        refine (H1.out _).mono ?_; rintro e w4 ⟨rfl, hb4⟩
        have hb4' := hb.trans (hb4.mono hb.size)
        have hr := (Res4.mk r0 r1 r2 r3 s0 s1 s2 s3 : Res4 wr w3.heap.size (n.by (k + 1))).later hb4
        clear a0 a1 a2 a3 b0 b1 b2 b3 r0 r1 r2 r3 s0 s1 s2 s3
        obtain ⟨b0, b1, b2, b3⟩ := B0.out w4 hb4'
        have HR := Lib.hid hr
        obtain ⟨r0, r1, r2, r3, s0, s1, s2, s3⟩ := hr
        go_wp2_with fail
        refine (L.out _).mono ?_; rintro e w5 ⟨rfl, hb5⟩
        have hb5' := hb4'.trans (hb5.mono hb4'.size)
        have hr := HR.out.later hb5
        clear b0 b1 b2 b3 r0 r1 r2 r3 s0 s1 s2 s3 HR
        have HR := Lib.hid hr
        obtain ⟨r0, r1, r2, r3, s0, s1, s2, s3⟩ := hr
        go_wp2
        go_roundw
        case rel => exact ⟨k + 1, by omega, by go_num, (by repeat' (first | exact Below.refl _ _ | assumption | exact And.left (by assumption) | refine Below.drew ?_ | refine below_drewN ?_ _ | refine Below.setCell ?_ (by first | (simp; done) | (simp; omega) | omega) _ | refine Below.alloc ?_ (by first | (simp; done) | (simp; omega) | omega) _ | refine after (by assumption) (by first | (simp; done) | (simp; omega) | omega) ?_)), HR.out.stored _⟩
        case measure => simp [intOf]; omega
      · have e : (k : Int) = times4 f n := by omega
        have F1 := FT.out k (by omega)
        rw [NO.out k (by omega) (by omega)] at F1
        have H1 := Lib.hid F1
        have E := Lib.hid e
        clear F1 e
        go_wp2_with fail
        refine (H1.out _).mono ?_; rintro e w4 ⟨rfl, hb4⟩
        go_wp2
        go_ret
        exact ⟨by first | (rw [E.out]; done) | (rw [E.out]; rfl), (by repeat' (first | exact Below.refl _ _ | assumption | exact And.left (by assumption) | refine Below.drew ?_ | refine below_drewN ?_ _ | refine Below.setCell ?_ (by first | (simp; done) | (simp; omega) | omega) _ | refine Below.alloc ?_ (by first | (simp; done) | (simp; omega) | omega) _ | refine after (by assumption) (by first | (simp; done) | (simp; omega) | omega) ?_))⟩
    · have e : (k : Int) = times4 f n := by omega
      have E := Lib.hid e
      clear e
      go_wp2
      go_ret
      exact ⟨by first | (rw [E.out]; done) | (rw [E.out]; rfl), (by repeat' (first | exact Below.refl _ _ | assumption | exact And.left (by assumption) | refine Below.drew ?_ | refine below_drewN ?_ _ | refine Below.setCell ?_ (by first | (simp; done) | (simp; omega) | omega) _ | refine Below.alloc ?_ (by first | (simp; done) | (simp; omega) | omega) _ | refine after (by assumption) (by first | (simp; done) | (simp; omega) | omega) ?_))⟩

theorem rcount (f n : V) (w : World) :
    Calls Try.prog 19 #[(.agg #[.int .i64 f.cpu, .int .i64 f.mem, .int .i64 f.gpu, .int .i64 f.lic]), (.agg #[.int .i64 n.cpu, .int .i64 n.mem, .int .i64 n.gpu, .int .i64 n.lic])] w fun e w' => e = .returned (.int .i64 (countV f n)) ∧ Below w.heap.size w w' := by
  by_cases h : f.Ok ∧ n.Ok ∧ ¬ n.is0
  · rw [count_in h]; exact rcount_in f n w h.1 h.2.1 h.2.2
  · rw [count_no h]; exact rcount_no f n w h
end Go.Proofs.Ytgmkdcjcmoonaaa.W
