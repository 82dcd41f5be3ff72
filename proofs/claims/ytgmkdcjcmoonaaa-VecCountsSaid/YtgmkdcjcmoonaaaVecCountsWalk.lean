/-
  The walk of VecCounts.
-/
import Derived.Test.YtgmkdcjcmoonaaaLaw02
import Derived.Test.YtgmkdcjcmoonaaaVecTimes
import Derived.Test.YtgmkdcjcmoonaaaVecRefCount
import Derived.Test.YtgmkdcjcmoonaaaFrameV
namespace Go.Proofs.Ytgmkdcjcmoonaaa.W
set_option linter.unusedVariables false
set_option linter.unusedSimpArgs false
open Go.ChangeShapes Go.WideShapes Go.ChangeAt Go.RowKit

set_option maxHeartbeats 4000000 in
theorem counts_bad (a b : V) (n : Int) (w : World) (hn : n ≤ 9223372036854775807) (h : ¬ (b.Ok ∧ 0 ≤ n)) :
    Calls Try.prog 5 #[(.agg #[.int .i64 a.cpu, .int .i64 a.mem, .int .i64 a.gpu, .int .i64 a.lic]), (.agg #[.int .i64 b.cpu, .int .i64 b.mem, .int .i64 b.gpu, .int .i64 b.lic]), .int .i64 n] w fun e w' => e = .returned (.bool true) ∧ Below w.heap.size w w' := by
  have T := Lib.hid (fun w => times b n w hn)
  rw [(times_arg h).1, (times_arg h).2] at T
  have HB := Lib.hid (fun w => rright b w)
  by_cases h0 : b.Ok
  · have h1 : n < 0 := by
      by_cases x : n < 0
      · exact x
      · exact absurd ⟨h0, by omega⟩ h
    rw [right_yes h0] at HB
    clear h h0
    go_enter Try.func5, Try.ntmps5
    go_wp2_with fail
    refine (awake _).mono ?_; rintro e w1 ⟨rfl, hb1⟩; obtain ⟨hc1, hf1⟩ := bcell hb1; have hz1 := hb1.size; (try simp at hz1); have lt_w1_0 : w.heap.size < w1.heap.size := (by omega); have lt_w1_1 : w.heap.size + 1 < w1.heap.size := (by omega)
    go_wp2_with fail
    refine (count a b _).mono ?_; rintro e w2 ⟨rfl, hb2⟩; obtain ⟨hc2, hf2⟩ := bcell hb2; have hz2 := hb2.size; (try simp at hz2); have lt_w2_0 : w.heap.size < w2.heap.size := (by omega); have lt_w2_1 : w.heap.size + 1 < w2.heap.size := (by omega)
    go_wp2_with fail
    refine (rcount a b _).mono ?_; rintro e w3 ⟨rfl, hb3⟩; obtain ⟨hc3, hf3⟩ := bcell hb3; have hz3 := hb3.size; (try simp at hz3); have lt_w3_0 : w.heap.size < w3.heap.size := (by omega); have lt_w3_1 : w.heap.size + 1 < w3.heap.size := (by omega)
    go_wp2_with fail
    refine (T.out _).mono ?_; rintro e w4 ⟨rfl, hb4⟩; obtain ⟨hc4, hf4⟩ := bcell hb4; have hz4 := hb4.size; (try simp at hz4); have lt_w4_0 : w.heap.size < w4.heap.size := (by omega); have lt_w4_1 : w.heap.size + 1 < w4.heap.size := (by omega)
    go_wp2_with fail
    refine (HB.out _).mono ?_; rintro e w5 ⟨rfl, hb5⟩; obtain ⟨hc5, hf5⟩ := bcell hb5; have hz5 := hb5.size; (try simp at hz5); have lt_w5_0 : w.heap.size < w5.heap.size := (by omega); have lt_w5_1 : w.heap.size + 1 < w5.heap.size := (by omega); have lt_5_w4 : w4.heap.size < w5.heap.size := (by omega)
    go_wp2
    go_ret
    exact ⟨by simp [V.zero], (by repeat' (first | exact Below.refl _ _ | assumption | exact And.left (by assumption) | refine Below.drew ?_ | refine below_drewN ?_ _ | refine Below.setCell ?_ (by first | (simp; done) | (simp; omega) | omega) _ | refine Below.alloc ?_ (by first | (simp; done) | (simp; omega) | omega) _ | refine after (by assumption) (by first | (simp; done) | (simp; omega) | omega) ?_))⟩
  · rw [right_no h0] at HB
    clear h h0
    go_enter Try.func5, Try.ntmps5
    go_wp2_with fail
    refine (awake _).mono ?_; rintro e w1 ⟨rfl, hb1⟩; obtain ⟨hc1, hf1⟩ := bcell hb1; have hz1 := hb1.size; (try simp at hz1); have lt_w1_0 : w.heap.size < w1.heap.size := (by omega); have lt_w1_1 : w.heap.size + 1 < w1.heap.size := (by omega)
    go_wp2_with fail
    refine (count a b _).mono ?_; rintro e w2 ⟨rfl, hb2⟩; obtain ⟨hc2, hf2⟩ := bcell hb2; have hz2 := hb2.size; (try simp at hz2); have lt_w2_0 : w.heap.size < w2.heap.size := (by omega); have lt_w2_1 : w.heap.size + 1 < w2.heap.size := (by omega)
    go_wp2_with fail
    refine (rcount a b _).mono ?_; rintro e w3 ⟨rfl, hb3⟩; obtain ⟨hc3, hf3⟩ := bcell hb3; have hz3 := hb3.size; (try simp at hz3); have lt_w3_0 : w.heap.size < w3.heap.size := (by omega); have lt_w3_1 : w.heap.size + 1 < w3.heap.size := (by omega)
    go_wp2_with fail
    refine (T.out _).mono ?_; rintro e w4 ⟨rfl, hb4⟩; obtain ⟨hc4, hf4⟩ := bcell hb4; have hz4 := hb4.size; (try simp at hz4); have lt_w4_0 : w.heap.size < w4.heap.size := (by omega); have lt_w4_1 : w.heap.size + 1 < w4.heap.size := (by omega)
    go_wp2_with fail
    refine (HB.out _).mono ?_; rintro e w5 ⟨rfl, hb5⟩; obtain ⟨hc5, hf5⟩ := bcell hb5; have hz5 := hb5.size; (try simp at hz5); have lt_w5_0 : w.heap.size < w5.heap.size := (by omega); have lt_w5_1 : w.heap.size + 1 < w5.heap.size := (by omega); have lt_5_w4 : w4.heap.size < w5.heap.size := (by omega)
    go_wp2
    go_ret
    exact ⟨by simp [V.zero], (by repeat' (first | exact Below.refl _ _ | assumption | exact And.left (by assumption) | refine Below.drew ?_ | refine below_drewN ?_ _ | refine Below.setCell ?_ (by first | (simp; done) | (simp; omega) | omega) _ | refine Below.alloc ?_ (by first | (simp; done) | (simp; omega) | omega) _ | refine after (by assumption) (by first | (simp; done) | (simp; omega) | omega) ?_))⟩

/-- what is so of the greatest number of times that one fits: the walk's tests, and what the two products come to -/
def Greatest (a b : V) : Prop :=
  (countV a b == 0) = true ∨
  ((countV a b == 0) = false ∧ timesR b (countV a b) = b.by (countV a b) ∧ timesE b (countV a b) = 0 ∧ fitsB (b.by (countV a b)) a = true ∧
    ((countV a b == 64) = true ∨ (countV a b == 64) = false ∧ (timesE b (countV a b + 1) = 20 ∨ timesE b (countV a b + 1) = 0 ∧ fitsB (timesR b (countV a b + 1)) a = false)))
theorem greatest (a b : V) : Greatest a b := by
  by_cases h : a.Ok ∧ b.Ok ∧ ¬ b.is0
  · have hk := countV_bd a b
    have e := count_in h
    by_cases z : countV a b = 0
    · left; simpa using z
    · right
      have hf : V.Le (b.by (countV a b)) a := (count_le h.1 h.2.1 hk.2).2 (by omega)
      have ho := by_ok h.1 h.2.1 hk.1 hf
      have t := times_in (a := b) (n := countV a b) ⟨h.2.1, hk.1⟩
      refine ⟨by simpa using z, by rw [t.1, (out_ok ho).1], by rw [t.2, (out_ok ho).2], fits_yes hf, ?_⟩
      by_cases z2 : countV a b = 64
      · left; simpa using z2
      · right
        refine ⟨by simpa using z2, ?_⟩
        have t1 := times_in (a := b) (n := countV a b + 1) ⟨h.2.1, by omega⟩
        have nf : ¬ V.Le (b.by (countV a b + 1)) a := fun x => by
          have := (count_le h.1 h.2.1 (k := countV a b + 1) (by omega)).1 x
          omega
        by_cases o : (b.by (countV a b + 1)).Ok
        · right; rw [t1.1, t1.2, (out_ok o).1, (out_ok o).2]; exact ⟨rfl, fits_no nf⟩
        · left; rw [t1.2, (out_over o).2]
  · left; rw [count_no h]; rfl

set_option maxRecDepth 100000 in
set_option maxHeartbeats 16000000 in
theorem counts_good (a b : V) (n : Int) (w : World) (hn : n ≤ 9223372036854775807) (h0 : b.Ok) (h1 : 0 ≤ n) :
    Calls Try.prog 5 #[(.agg #[.int .i64 a.cpu, .int .i64 a.mem, .int .i64 a.gpu, .int .i64 a.lic]), (.agg #[.int .i64 b.cpu, .int .i64 b.mem, .int .i64 b.gpu, .int .i64 b.lic]), .int .i64 n] w fun e w' => e = .returned (.bool true) ∧ Below w.heap.size w w' := by
  have T := Lib.hid (fun w => times b n w hn)
  rw [(times_in ⟨h0, h1⟩).1, (times_in ⟨h0, h1⟩).2] at T
  have HB := Lib.hid (fun w => rright b w)
  rw [right_yes h0] at HB
  have G := Lib.hid (greatest a b)
  have kb := countV_bd a b
  have ⟨kb0, kb1⟩ := kb
  clear kb
  have AD := Lib.hid (fun (i : Int) (h : 0 ≤ i ∧ i ≤ 100) w => radd (b.by i) b w (by rw [by_succ]; exact by_in64 h0 (by omega) (by omega)))
  have TD := Lib.hid (fun w => told (b.by n) w)
  have T1 := Lib.hid (fun w => times b (countV a b) w (by omega))
  have T2 := Lib.hid (fun w => times b (countV a b + 1) w (by omega))
  clear h0
  go_enter Try.func5, Try.ntmps5
  go_wp2_with fail
  refine (awake _).mono ?_; rintro e w1 ⟨rfl, hb1⟩; obtain ⟨hc1, hf1⟩ := bcell hb1; have hz1 := hb1.size; (try simp at hz1); have lt_w1_0 : w.heap.size < w1.heap.size := (by omega); have lt_w1_1 : w.heap.size + 1 < w1.heap.size := (by omega)
  go_wp2_with fail
  refine (count a b _).mono ?_; rintro e w2 ⟨rfl, hb2⟩; obtain ⟨hc2, hf2⟩ := bcell hb2; have hz2 := hb2.size; (try simp at hz2); have lt_w2_0 : w.heap.size < w2.heap.size := (by omega); have lt_w2_1 : w.heap.size + 1 < w2.heap.size := (by omega)
  go_wp2_with fail
  refine (rcount a b _).mono ?_; rintro e w3 ⟨rfl, hb3⟩; obtain ⟨hc3, hf3⟩ := bcell hb3; have hz3 := hb3.size; (try simp at hz3); have lt_w3_0 : w.heap.size < w3.heap.size := (by omega); have lt_w3_1 : w.heap.size + 1 < w3.heap.size := (by omega)
  go_wp2_with fail
  refine (T.out _).mono ?_; rintro e w4 ⟨rfl, hb4⟩; obtain ⟨hc4, hf4⟩ := bcell hb4; have hz4 := hb4.size; (try simp at hz4); have lt_w4_0 : w.heap.size < w4.heap.size := (by omega); have lt_w4_1 : w.heap.size + 1 < w4.heap.size := (by omega)
  go_wp2_with fail
  refine (HB.out _).mono ?_; rintro e w5 ⟨rfl, hb5⟩; obtain ⟨hc5, hf5⟩ := bcell hb5; have hz5 := hb5.size; (try simp at hz5); have lt_w5_0 : w.heap.size < w5.heap.size := (by omega); have lt_w5_1 : w.heap.size + 1 < w5.heap.size := (by omega); have lt_5_w4 : w4.heap.size < w5.heap.size := (by omega)
  go_upto_if 47 with fail
  have A0 := Lib.hid (show ∀ wr, Below w5.heap.size w5 wr → wr.cell? ⟨w.heap.size, 0, none⟩ = some (.int .i64 a.cpu) ∧ wr.cell? ⟨w.heap.size, 1, none⟩ = some (.int .i64 a.mem) ∧ wr.cell? ⟨w.heap.size, 2, none⟩ = some (.int .i64 a.gpu) ∧ wr.cell? ⟨w.heap.size, 3, none⟩ = some (.int .i64 a.lic)
    from fun wr hb => ⟨(by repeat' (first | assumption | (simp [go_sem]; done) | refine carry (by assumption) ?_ | refine carry_alloc ?_ _)), (by repeat' (first | assumption | (simp [go_sem]; done) | refine carry (by assumption) ?_ | refine carry_alloc ?_ _)), (by repeat' (first | assumption | (simp [go_sem]; done) | refine carry (by assumption) ?_ | refine carry_alloc ?_ _)), (by repeat' (first | assumption | (simp [go_sem]; done) | refine carry (by assumption) ?_ | refine carry_alloc ?_ _))⟩)
  have B0 := Lib.hid (show ∀ wr, Below w5.heap.size w5 wr → wr.cell? ⟨w.heap.size + 1, 0, none⟩ = some (.int .i64 b.cpu) ∧ wr.cell? ⟨w.heap.size + 1, 1, none⟩ = some (.int .i64 b.mem) ∧ wr.cell? ⟨w.heap.size + 1, 2, none⟩ = some (.int .i64 b.gpu) ∧ wr.cell? ⟨w.heap.size + 1, 3, none⟩ = some (.int .i64 b.lic)
    from fun wr hb => ⟨(by repeat' (first | assumption | (simp [go_sem]; done) | refine carry (by assumption) ?_ | refine carry_alloc ?_ _)), (by repeat' (first | assumption | (simp [go_sem]; done) | refine carry (by assumption) ?_ | refine carry_alloc ?_ _)), (by repeat' (first | assumption | (simp [go_sem]; done) | refine carry (by assumption) ?_ | refine carry_alloc ?_ _)), (by repeat' (first | assumption | (simp [go_sem]; done) | refine carry (by assumption) ?_ | refine carry_alloc ?_ _))⟩)
  have M0 := Lib.hid (show ∀ wr, Below w5.heap.size w5 wr → wr.cell? ⟨w4.heap.size, 0, none⟩ = some (.int .i64 (outR (b.by n)).cpu) ∧ wr.cell? ⟨w4.heap.size, 1, none⟩ = some (.int .i64 (outR (b.by n)).mem) ∧ wr.cell? ⟨w4.heap.size, 2, none⟩ = some (.int .i64 (outR (b.by n)).gpu) ∧ wr.cell? ⟨w4.heap.size, 3, none⟩ = some (.int .i64 (outR (b.by n)).lic)
    from fun wr hb => ⟨(by repeat' (first | assumption | (simp [go_sem]; done) | refine carry (by assumption) ?_ | refine carry_alloc ?_ _)), (by repeat' (first | assumption | (simp [go_sem]; done) | refine carry (by assumption) ?_ | refine carry_alloc ?_ _)), (by repeat' (first | assumption | (simp [go_sem]; done) | refine carry (by assumption) ?_ | refine carry_alloc ?_ _)), (by repeat' (first | assumption | (simp [go_sem]; done) | refine carry (by assumption) ?_ | refine carry_alloc ?_ _))⟩)
  go_cut [] (fun wx => Below w5.heap.size w5 wx)
  case first =>
    by_cases g : n ≤ 100
    · clear hc1 hf1 hc2 hf2 hc3 hf3 hc4 hf4 hc5 hf5
      simp only [decide_eq_true g]
      go_wp2_with fail
      go_loopw [11] (fun x wr => ∃ i : Nat, (i : Int) ≤ n ∧ x = .int .i64 i ∧ Below w5.heap.size w5 wr ∧ Res4 wr w5.heap.size (b.by i)) (fun x _ => (n - intOf x).toNat)
      case atStart =>
        refine ⟨0, by omega, rfl, (by repeat' (first | exact Below.refl _ _ | assumption | exact And.left (by assumption) | refine Below.drew ?_ | refine below_drewN ?_ _ | refine Below.setCell ?_ (by first | (simp; done) | (simp; omega) | omega) _ | refine Below.alloc ?_ (by first | (simp; done) | (simp; omega) | omega) _ | refine after (by assumption) (by first | (simp; done) | (simp; omega) | omega) ?_)), ?_⟩
        rw [show ((0 : Nat) : Int) = 0 from rfl, by_zero]
        exact ⟨by simp [go_sem, V.zero], by simp [go_sem, V.zero], by simp [go_sem, V.zero], by simp [go_sem, V.zero], by simp [go_sem], by simp [go_sem], by simp [go_sem], by simp [go_sem]⟩
      case round =>
        obtain ⟨i, hk, rfl, hb, hr⟩ := hrel
        have hzr := hb.size
        by_cases hlt : (i : Int) < n
        · obtain ⟨b0, b1, b2, b3⟩ := B0.out wr hb
          have HR := Lib.hid hr
          obtain ⟨r0, r1, r2, r3, s0, s1, s2, s3⟩ := hr
          have L := Lib.hid (AD.out i (by omega))
          rw [by_succ] at L
          go_wp2_with fail
          refine (L.out _).mono ?_; rintro e w6 ⟨rfl, hb6⟩
          have hb6' := hb.trans (hb6.mono hb.size)
          have hr := HR.out.later hb6
          clear b0 b1 b2 b3 r0 r1 r2 r3 s0 s1 s2 s3 HR
          have HR := Lib.hid hr
          obtain ⟨r0, r1, r2, r3, s0, s1, s2, s3⟩ := hr
          go_wp2
          go_roundw
          case rel => exact ⟨i + 1, by omega, by go_num, (by repeat' (first | exact Below.refl _ _ | assumption | exact And.left (by assumption) | refine Below.drew ?_ | refine below_drewN ?_ _ | refine Below.setCell ?_ (by first | (simp; done) | (simp; omega) | omega) _ | refine Below.alloc ?_ (by first | (simp; done) | (simp; omega) | omega) _ | refine after (by assumption) (by first | (simp; done) | (simp; omega) | omega) ?_)), HR.out.stored _⟩
          case measure => simp [intOf]; omega
        · have hr' : Res4 wr w5.heap.size (b.by n) := by rw [show n = (i : Int) by omega]; exact hr
          clear hr
          obtain ⟨r0, r1, r2, r3, s0, s1, s2, s3⟩ := hr'
          obtain ⟨m0, m1, m2, m3⟩ := M0.out wr hb
          go_wp2_with fail
          refine (TD.out _).mono ?_; rintro e w6 ⟨rfl, hb6⟩
          go_wp2_with fail
          go_meet
          exact hb.trans (hb6.mono hb.size)
    · go_wp2_with fail
      go_meet
      exact (by repeat' (first | exact Below.refl _ _ | assumption | exact And.left (by assumption) | refine Below.drew ?_ | refine below_drewN ?_ _ | refine Below.setCell ?_ (by first | (simp; done) | (simp; omega) | omega) _ | refine Below.alloc ?_ (by first | (simp; done) | (simp; omega) | omega) _ | refine after (by assumption) (by first | (simp; done) | (simp; omega) | omega) ?_))
  case rest =>
    obtain ⟨a0, a1, a2, a3⟩ := A0.out wc hcut
    obtain ⟨b0, b1, b2, b3⟩ := B0.out wc hcut
    clear hc1 hf1 hc2 hf2 hc3 hf3 hc4 hf4 hc5 hf5
    have hzc := hcut.size
    have lt_wc_0 : w.heap.size < wc.heap.size := (by omega); have lt_wc_1 : w.heap.size + 1 < wc.heap.size := (by omega)
    rcases G.out with z | ⟨z, e0, e1, e2, q⟩
    · go_wp2
      go_ret
      exact ⟨rfl, (by repeat' (first | exact Below.refl _ _ | assumption | exact And.left (by assumption) | refine Below.drew ?_ | refine below_drewN ?_ _ | refine Below.setCell ?_ (by first | (simp; done) | (simp; omega) | omega) _ | refine Below.alloc ?_ (by first | (simp; done) | (simp; omega) | omega) _ | refine after (by assumption) (by first | (simp; done) | (simp; omega) | omega) ?_))⟩
    · have U1 := Lib.hid T1.out
      have H1 := U1.out
      rw [e0, e1] at H1
      clear U1 T1
      have T1 := Lib.hid H1
      have F1 := Lib.hid (fun w => fits (b.by (countV a b)) a w)
      have H2 := F1.out
      rw [e2] at H2
      clear F1
      have F1 := Lib.hid H2
      clear H1 H2 e0 e1 e2
      rcases q with y | ⟨y, q⟩
      · go_wp2_with fail
        refine (T1.out _).mono ?_; rintro e w6 ⟨rfl, hb6⟩
        have hb6' := hcut.trans (hb6.mono hcut.size)
        obtain ⟨hc6, hf6⟩ := bcell hb6
        have hz6 := hb6.size
        obtain ⟨b0, b1, b2, b3⟩ := B0.out w6 hb6'
        have lt_w6_0 : w.heap.size < w6.heap.size := (by omega); have lt_w6_1 : w.heap.size + 1 < w6.heap.size := (by omega)
        go_wp2_with fail
        refine (T2.out _).mono ?_; rintro e w7 ⟨rfl, hb7⟩
        have hs6 := hb6'.size; have hb7' : Below w5.heap.size w5 w7 := (by repeat' (first | exact Below.refl _ _ | assumption | exact And.left (by assumption) | refine Below.drew ?_ | refine below_drewN ?_ _ | refine Below.setCell ?_ (by first | (simp; done) | (simp; omega) | omega) _ | refine Below.alloc ?_ (by first | (simp; done) | (simp; omega) | omega) _ | refine after (by assumption) (by first | (simp; done) | (simp; omega) | omega) ?_))
        obtain ⟨hc7, hf7⟩ := bcell hb7
        have hz7 := hb7.size
        have lt_7_6 : w6.heap.size < w7.heap.size := by simp at hz7; omega
        obtain ⟨a0, a1, a2, a3⟩ := A0.out w7 hb7'
        have lt_w7_0 : w.heap.size < w7.heap.size := (by omega); have lt_w7_1 : w.heap.size + 1 < w7.heap.size := (by omega)
        go_wp2_with fail
        refine (F1.out _).mono ?_; rintro e w8 ⟨rfl, hb8⟩; obtain ⟨hc8, hf8⟩ := bcell hb8; have hz8 := hb8.size; (try simp at hz8); have lt_w8_0 : w.heap.size < w8.heap.size := (by omega); have lt_w8_1 : w.heap.size + 1 < w8.heap.size := (by omega); have lt_8_w6 : w6.heap.size < w8.heap.size := (by omega); have lt_8_w7 : w7.heap.size < w8.heap.size := (by omega)
        go_wp2
        go_ret
        exact ⟨by simp, (by repeat' (first | exact Below.refl _ _ | assumption | exact And.left (by assumption) | refine Below.drew ?_ | refine below_drewN ?_ _ | refine Below.setCell ?_ (by first | (simp; done) | (simp; omega) | omega) _ | refine Below.alloc ?_ (by first | (simp; done) | (simp; omega) | omega) _ | refine after (by assumption) (by first | (simp; done) | (simp; omega) | omega) ?_))⟩
      · have F2 := Lib.hid (fun w => fits (timesR b (countV a b + 1)) a w)
        rcases q with q | ⟨q, q'⟩
        · have H1 := T2.out
          rw [q] at H1
          clear T2
          have T2 := Lib.hid H1
          clear H1 q F2
          go_wp2_with fail
          refine (T1.out _).mono ?_; rintro e w6 ⟨rfl, hb6⟩
          have hb6' := hcut.trans (hb6.mono hcut.size)
          obtain ⟨hc6, hf6⟩ := bcell hb6
          have hz6 := hb6.size
          obtain ⟨b0, b1, b2, b3⟩ := B0.out w6 hb6'
          have lt_w6_0 : w.heap.size < w6.heap.size := (by omega); have lt_w6_1 : w.heap.size + 1 < w6.heap.size := (by omega)
          go_wp2_with fail
          refine (T2.out _).mono ?_; rintro e w7 ⟨rfl, hb7⟩
          have hs6 := hb6'.size; have hb7' : Below w5.heap.size w5 w7 := (by repeat' (first | exact Below.refl _ _ | assumption | exact And.left (by assumption) | refine Below.drew ?_ | refine below_drewN ?_ _ | refine Below.setCell ?_ (by first | (simp; done) | (simp; omega) | omega) _ | refine Below.alloc ?_ (by first | (simp; done) | (simp; omega) | omega) _ | refine after (by assumption) (by first | (simp; done) | (simp; omega) | omega) ?_))
          obtain ⟨hc7, hf7⟩ := bcell hb7
          have hz7 := hb7.size
          have lt_7_6 : w6.heap.size < w7.heap.size := by simp at hz7; omega
          obtain ⟨a0, a1, a2, a3⟩ := A0.out w7 hb7'
          have lt_w7_0 : w.heap.size < w7.heap.size := (by omega); have lt_w7_1 : w.heap.size + 1 < w7.heap.size := (by omega)
          go_wp2_with fail
          refine (F1.out _).mono ?_; rintro e w8 ⟨rfl, hb8⟩; obtain ⟨hc8, hf8⟩ := bcell hb8; have hz8 := hb8.size; (try simp at hz8); have lt_w8_0 : w.heap.size < w8.heap.size := (by omega); have lt_w8_1 : w.heap.size + 1 < w8.heap.size := (by omega); have lt_8_w6 : w6.heap.size < w8.heap.size := (by omega); have lt_8_w7 : w7.heap.size < w8.heap.size := (by omega)
          go_wp2
          go_ret
          exact ⟨by simp, (by repeat' (first | exact Below.refl _ _ | assumption | exact And.left (by assumption) | refine Below.drew ?_ | refine below_drewN ?_ _ | refine Below.setCell ?_ (by first | (simp; done) | (simp; omega) | omega) _ | refine Below.alloc ?_ (by first | (simp; done) | (simp; omega) | omega) _ | refine after (by assumption) (by first | (simp; done) | (simp; omega) | omega) ?_))⟩
        · have H1 := T2.out
          rw [q] at H1
          clear T2
          have T2 := Lib.hid H1
          have H2 := F2.out
          rw [q'] at H2
          clear F2
          have F2 := Lib.hid H2
          clear H1 H2 q q'
          go_wp2_with fail
          refine (T1.out _).mono ?_; rintro e w6 ⟨rfl, hb6⟩
          have hb6' := hcut.trans (hb6.mono hcut.size)
          obtain ⟨hc6, hf6⟩ := bcell hb6
          have hz6 := hb6.size
          obtain ⟨b0, b1, b2, b3⟩ := B0.out w6 hb6'
          have lt_w6_0 : w.heap.size < w6.heap.size := (by omega); have lt_w6_1 : w.heap.size + 1 < w6.heap.size := (by omega)
          go_wp2_with fail
          refine (T2.out _).mono ?_; rintro e w7 ⟨rfl, hb7⟩
          have hs6 := hb6'.size; have hb7' : Below w5.heap.size w5 w7 := (by repeat' (first | exact Below.refl _ _ | assumption | exact And.left (by assumption) | refine Below.drew ?_ | refine below_drewN ?_ _ | refine Below.setCell ?_ (by first | (simp; done) | (simp; omega) | omega) _ | refine Below.alloc ?_ (by first | (simp; done) | (simp; omega) | omega) _ | refine after (by assumption) (by first | (simp; done) | (simp; omega) | omega) ?_))
          obtain ⟨hc7, hf7⟩ := bcell hb7
          have hz7 := hb7.size
          have lt_7_6 : w6.heap.size < w7.heap.size := by simp at hz7; omega
          obtain ⟨a0, a1, a2, a3⟩ := A0.out w7 hb7'
          have lt_w7_0 : w.heap.size < w7.heap.size := (by omega); have lt_w7_1 : w.heap.size + 1 < w7.heap.size := (by omega)
          go_wp2_with fail
          refine (F1.out _).mono ?_; rintro e w8 ⟨rfl, hb8⟩; obtain ⟨hc8, hf8⟩ := bcell hb8; have hz8 := hb8.size; (try simp at hz8); have lt_w8_0 : w.heap.size < w8.heap.size := (by omega); have lt_w8_1 : w.heap.size + 1 < w8.heap.size := (by omega); have lt_8_w6 : w6.heap.size < w8.heap.size := (by omega); have lt_8_w7 : w7.heap.size < w8.heap.size := (by omega)
          go_wp2_with fail
          have hs7 := hb7'.size; have hb8' : Below w5.heap.size w5 w8 := (by repeat' (first | exact Below.refl _ _ | assumption | exact And.left (by assumption) | refine Below.drew ?_ | refine below_drewN ?_ _ | refine Below.setCell ?_ (by first | (simp; done) | (simp; omega) | omega) _ | refine Below.alloc ?_ (by first | (simp; done) | (simp; omega) | omega) _ | refine after (by assumption) (by first | (simp; done) | (simp; omega) | omega) ?_))
          obtain ⟨a0, a1, a2, a3⟩ := A0.out w8 hb8'
          refine (F2.out _).mono ?_; rintro e w9 ⟨rfl, hb9⟩; obtain ⟨hc9, hf9⟩ := bcell hb9; have hz9 := hb9.size; (try simp at hz9); have lt_w9_0 : w.heap.size < w9.heap.size := (by omega); have lt_w9_1 : w.heap.size + 1 < w9.heap.size := (by omega); have lt_9_w6 : w6.heap.size < w9.heap.size := (by omega); have lt_9_w7 : w7.heap.size < w9.heap.size := (by omega)
          go_wp2
          go_ret
          exact ⟨by simp, (by repeat' (first | exact Below.refl _ _ | assumption | exact And.left (by assumption) | refine Below.drew ?_ | refine below_drewN ?_ _ | refine Below.setCell ?_ (by first | (simp; done) | (simp; omega) | omega) _ | refine Below.alloc ?_ (by first | (simp; done) | (simp; omega) | omega) _ | refine after (by assumption) (by first | (simp; done) | (simp; omega) | omega) ?_))⟩

theorem vecCounts_walk (v0 : Value) (v1 : Value) (v2 : Value) (w : World) (F0 : FRes v0) (F1 : FRes v1) (F2 : FInt .i64 v2) :
    Calls Try.prog 5 #[v0, v1, v2] w fun e w' => e = .returned (.bool true) ∧ Below w.heap.size w w' := by
  obtain ⟨a, rfl, _⟩ := F0
  obtain ⟨b, rfl, _⟩ := F1
  obtain ⟨n, rfl, hn⟩ := F2
  have hn' := (in64_of_wf hn).2
  by_cases h : b.Ok ∧ 0 ≤ n
  · exact counts_good a b n w hn' h.1 h.2
  · exact counts_bad a b n w hn' h
end Go.Proofs.Ytgmkdcjcmoonaaa.W
