/-
  Contracts of the document's Right and Write of replies.
-/
import Derived.Test.YtbnlchbklpgejaaDoorReplyRight
import Derived.Test.YtbnlchbklpgejaaDoorReplyWrite
import Derived.Test.YtbnlchbklpgejaaDoorCodecRef
namespace Go.Proofs.YtbnlchbklpgejaaDoor.W
set_option linter.unusedVariables false
set_option linter.unusedSimpArgs false
open Go.ChangeShapes Go.WideShapes Go.ChangeAt Go.RowKit

theorem rrightB (n : Int) (w : World) : Calls Tryd.prog 20 #[.int .i64 n] w fun e w' => e = .returned (.bool (okN n)) ∧ w' = w := by
  by_cases h : 0 ≤ n ∧ n ≤ 281474976710656
  · rw [show okN n = true from decide_eq_true h]; exact rright_yes n h w
  · rw [show okN n = false from decide_eq_false h]; exact rright_no n h w
set_option maxHeartbeats 2000000 in
theorem refRightP (r : Rp) (hl : r.nums.length ≤ 1048576) (w : World) (ha : RowAt w r.na (vals r.nums)) :
    Calls Tryd.prog 9 #[.agg #[.int .i64 r.key, .int .i64 r.err, .int .i64 r.job, .int .i64 r.ver, .slice r.na r.nums.length r.nc]] w fun e w' => e = .returned (.bool (rightP r)) ∧ Below w.heap.size w w' := by
  have HRR := Lib.hid rrightB
  have HA := Lib.hid ha
  have HNO : Hid (okL r.nums = false → rightP r = false) := Lib.hid (fun h => by unfold rightP manyB; rw [h]; simp)
  clear ha
  go_enter Tryd.func9, Tryd.ntmps9
  go_wp2_with fail
  have HB0 := BoxP.new w r
  generalize hw0 : World.alloc w _ = w0 at HB0 ⊢
  have hb0 : Below w.heap.size w w0 := by rw [← hw0]; exact (by repeat' (first | exact Below.refl _ _ | assumption | exact And.left (by assumption) | refine Below.drew ?_ | refine below_drewN ?_ _ | refine Below.setCell ?_ (by first | (simp; done) | (simp; omega) | omega) _ | refine Below.alloc ?_ (by first | (simp; done) | (simp; omega) | omega) _ | refine after (by assumption) (by first | (simp; done) | (simp; omega) | omega) ?_))
  clear hw0
  have HB := Lib.hid HB0
  have HA1 := Lib.hid (HA.out.later hb0)
  have c0 := HB.out.c0
  have c1 := HB.out.c1
  have c2 := HB.out.c2
  have c3 := HB.out.c3
  have c4 := HB.out.c4
  have hblt := HB.out.lt
  clear HB0
  go_loop [3] (fun i => ∃ k : Nat, k ≤ r.nums.length ∧ i = .int .i64 (k : Int) ∧ Hid (okL (r.nums.take k) = true)) (fun i => r.nums.length - (intOf i).toNat)
  case atStart => exact ⟨0, Nat.zero_le _, rfl, Lib.hid rfl⟩
  case round =>
    obtain ⟨k, hk, rfl, HK⟩ := hrel
    by_cases hlt : k < r.nums.length
    · obtain ⟨b, off, ha, hbw, hcs⟩ := HA1.out.row (by rw [vals_len]; omega)
      have hc := hcs k _ (vals_at r.nums k hlt)
      have hsn := okL_snoc2 r.nums k hlt
      have HBd := Lib.hid (fun h => okL_bad (xs := r.nums) (k := k) hlt h)
      obtain ⟨x, hxe⟩ : ∃ x, x = r.nums[k] := ⟨_, rfl⟩
      rw [← hxe] at hc hsn HBd
      have Ha := Lib.hid ha
      clear ha hcs hxe
      rw [Ha.out] at c4
      have K := HRR.out x w0
      cases ho : okN x with
      | true =>
        have HK2 : Hid (okL (r.nums.take (k + 1)) = true) := Lib.hid (by rw [hsn, HK.out, ho]; rfl)
        rw [ho] at K
        clear hsn HBd ho
        go_wp2_with fail
        refine K.mono ?_; rintro e w4 ⟨rfl, rfl⟩
        clear K
        go_wp2_with fail
        go_round
        case rel => exact ⟨k + 1, by omega, by go_num, HK2⟩
        case measure => simp [intOf]; omega
      | false =>
        have HF : Hid (rightP r = false) := Lib.hid (HNO.out (HBd.out ho))
        rw [ho] at K
        clear hsn HBd ho
        go_wp2_with fail
        refine K.mono ?_; rintro e w4 ⟨rfl, rfl⟩
        clear K
        go_wp2
        go_ret
        exact ⟨by rw [HF.out]; rfl, hb0⟩
    · have hkk : k = r.nums.length := by omega
      subst hkk
      have HY : Hid (rightP r = (fourB r && decide (r.nums.length ≤ 64))) := Lib.hid (by unfold rightP manyB; rw [okL_take_last HK.out, Bool.and_true])
      by_cases g0 : 0 ≤ r.key
      · have d0 : decide (0 ≤ r.key) = true := decide_eq_true g0
        by_cases g1 : r.key ≤ 1073741824
        · have d1 : decide (r.key ≤ 1073741824) = true := decide_eq_true g1
          by_cases g2 : 0 ≤ r.err
          · have d2 : decide (0 ≤ r.err) = true := decide_eq_true g2
            by_cases g3 : r.err ≤ 99
            · have d3 : decide (r.err ≤ 99) = true := decide_eq_true g3
              have K4 := HRR.out r.job w0
              by_cases g4 : okN r.job = true
              · rw [g4] at K4
                have K5 := HRR.out r.ver w0
                by_cases g5 : okN r.ver = true
                · rw [g5] at K5
                  by_cases g6 : r.nums.length ≤ 64
                  · have d6 : ((r.nums.length : Int) ≤ 64) := by omega
                    have d6b : decide ((r.nums.length : Int) ≤ 64) = true := decide_eq_true d6
                    have HD : Hid (rightP r = true) := Lib.hid (by rw [HY.out]; unfold fourB; rw [decide_eq_true ⟨g0, g1⟩, decide_eq_true ⟨g2, g3⟩, g4, g5, decide_eq_true g6]; rfl)
                    go_wp2_with fail
                    refine K4.mono ?_; rintro e w4 ⟨rfl, rfl⟩
                    clear K4
                    go_wp2_with fail
                    refine K5.mono ?_; rintro e w5 ⟨rfl, rfl⟩
                    clear K5
                    go_wp2_with fail
                    go_ret
                    exact ⟨by rw [HD.out]; rfl, hb0⟩
                  · have HD : Hid (rightP r = false) := Lib.hid (by
                      cases e : rightP r with
                      | false => rfl
                      | true =>
                        exfalso
                        have hq := rightP_is e
                        exact g6 (by first | exact hq.key.1 | exact hq.key.2 | exact hq.err.1 | exact hq.err.2 | exact hq.job | exact hq.ver | exact hq.few))
                    have d6 : ¬ ((r.nums.length : Int) ≤ 64) := by omega
                    have d6b : decide ((r.nums.length : Int) ≤ 64) = false := decide_eq_false d6
                    go_wp2_with fail
                    refine K4.mono ?_; rintro e w4 ⟨rfl, rfl⟩
                    clear K4
                    go_wp2_with fail
                    refine K5.mono ?_; rintro e w5 ⟨rfl, rfl⟩
                    clear K5
                    go_wp2_with fail
                    go_ret
                    exact ⟨by rw [HD.out]; rfl, hb0⟩
                · have HD : Hid (rightP r = false) := Lib.hid (by
                    cases e : rightP r with
                    | false => rfl
                    | true =>
                      exfalso
                      have hq := rightP_is e
                      exact g5 (by first | exact hq.key.1 | exact hq.key.2 | exact hq.err.1 | exact hq.err.2 | exact hq.job | exact hq.ver | exact hq.few))
                  have gf := Bool.eq_false_iff.2 g5
                  rw [gf] at K5
                  go_wp2_with fail
                  refine K4.mono ?_; rintro e w4 ⟨rfl, rfl⟩
                  clear K4
                  go_wp2_with fail
                  refine K5.mono ?_; rintro e w5 ⟨rfl, rfl⟩
                  clear K5
                  go_wp2_with fail
                  go_ret
                  exact ⟨by rw [HD.out]; rfl, hb0⟩
              · have HD : Hid (rightP r = false) := Lib.hid (by
                  cases e : rightP r with
                  | false => rfl
                  | true =>
                    exfalso
                    have hq := rightP_is e
                    exact g4 (by first | exact hq.key.1 | exact hq.key.2 | exact hq.err.1 | exact hq.err.2 | exact hq.job | exact hq.ver | exact hq.few))
                have gf := Bool.eq_false_iff.2 g4
                rw [gf] at K4
                go_wp2_with fail
                refine K4.mono ?_; rintro e w4 ⟨rfl, rfl⟩
                clear K4
                go_wp2_with fail
                go_ret
                exact ⟨by rw [HD.out]; rfl, hb0⟩
            · have HD : Hid (rightP r = false) := Lib.hid (by
                cases e : rightP r with
                | false => rfl
                | true =>
                  exfalso
                  have hq := rightP_is e
                  exact g3 (by first | exact hq.key.1 | exact hq.key.2 | exact hq.err.1 | exact hq.err.2 | exact hq.job | exact hq.ver | exact hq.few))
              have d3 : decide (r.err ≤ 99) = false := decide_eq_false g3
              go_wp2_with fail
              go_ret
              exact ⟨by rw [HD.out]; rfl, hb0⟩
          · have HD : Hid (rightP r = false) := Lib.hid (by
              cases e : rightP r with
              | false => rfl
              | true =>
                exfalso
                have hq := rightP_is e
                exact g2 (by first | exact hq.key.1 | exact hq.key.2 | exact hq.err.1 | exact hq.err.2 | exact hq.job | exact hq.ver | exact hq.few))
            have d2 : decide (0 ≤ r.err) = false := decide_eq_false g2
            go_wp2_with fail
            go_ret
            exact ⟨by rw [HD.out]; rfl, hb0⟩
        · have HD : Hid (rightP r = false) := Lib.hid (by
            cases e : rightP r with
            | false => rfl
            | true =>
              exfalso
              have hq := rightP_is e
              exact g1 (by first | exact hq.key.1 | exact hq.key.2 | exact hq.err.1 | exact hq.err.2 | exact hq.job | exact hq.ver | exact hq.few))
          have d1 : decide (r.key ≤ 1073741824) = false := decide_eq_false g1
          go_wp2_with fail
          go_ret
          exact ⟨by rw [HD.out]; rfl, hb0⟩
      · have HD : Hid (rightP r = false) := Lib.hid (by
          cases e : rightP r with
          | false => rfl
          | true =>
            exfalso
            have hq := rightP_is e
            exact g0 (by first | exact hq.key.1 | exact hq.key.2 | exact hq.err.1 | exact hq.err.2 | exact hq.job | exact hq.ver | exact hq.few))
        have d0 : decide (0 ≤ r.key) = false := decide_eq_false g0
        go_wp2_with fail
        go_ret
        exact ⟨by rw [HD.out]; rfl, hb0⟩
theorem own5P (w : World) (o : Obj) (a b c d e : Int) {B : Nat} (hB : B ≤ w.heap.size) : World.ownsRow ((w.alloc o).alloc (.cells #[.int .i64 a, .int .i64 b, .int .i64 c, .int .i64 d, .int .i64 e] 3)) B 3 1 (.slice (some ⟨w.heap.size + 1, 0, none⟩) 5 5) 5 (vals [a, b, c, d, e]) := by
  have h := heap_alloc_new (w.alloc o) (.cells #[.int .i64 a, .int .i64 b, .int .i64 c, .int .i64 d, .int .i64 e] 3)
  simp only [World.size_alloc] at h
  exact ⟨rfl, .inr ⟨w.heap.size + 1, 5, _, rfl, by omega, h, Nat.le_refl _, (by unfold maxLen; omega), rfl, by simp [vals]⟩⟩
set_option maxRecDepth 100000 in
set_option maxHeartbeats 2000000 in
theorem refWriteP (r : Rp) (w : World) (hc : r.na = none → r.nc = 0) (ha : RowAt w r.na (vals r.nums)) (h : rightP r = true) :
    Calls Tryd.prog 14 #[.agg #[.int .i64 r.key, .int .i64 r.err, .int .i64 r.job, .int .i64 r.ver, .slice r.na r.nums.length r.nc]] w fun e w' => ∃ v, e = .returned v ∧ w'.ownsRow w.heap.size 5 1 v (writeP r).length (bytesV (writeP r)) ∧ Below w.heap.size w w' := by
  have hr := rightP_is h
  have HA := Lib.hid ha
  have HC := Lib.hid hc
  have hfew := hr.few
  have hnl := numsP_len r
  have HPut := Lib.hid (fun (A : Option Addr) c w' hA => rput A c (numsP r) (by omega) (numsP_ok hr) w' hA)
  obtain ⟨i0, hi, hz0, hz1, hz2⟩ := info_parts infoI
  have HNL := Lib.hid hnl
  have HV : Hid (vals [r.key, r.err, r.job, r.ver, (r.nums.length : Int)] ++ vals r.nums = vals (numsP r)) := Lib.hid (by unfold numsP; rw [vals_app])
  have HO := Lib.hid (own5P w (.cells #[.int .i64 r.key, .int .i64 r.err, .int .i64 r.job, .int .i64 r.ver, .slice r.na r.nums.length r.nc] 25) r.key r.err r.job r.ver (r.nums.length : Int) (Nat.le_refl _))
  have HB := Lib.hid ((BoxP.new w r).alloc (.cells #[.int .i64 r.key, .int .i64 r.err, .int .i64 r.job, .int .i64 r.ver, .int .i64 (r.nums.length : Int)] 3))
  clear h ha hc hr hnl
  go_enter Tryd.func14, Tryd.ntmps14
  have hW : Below w.heap.size w ((w.alloc (.cells #[.int .i64 r.key, .int .i64 r.err, .int .i64 r.job, .int .i64 r.ver, .slice r.na r.nums.length r.nc] 25)).alloc (.cells #[.int .i64 r.key, .int .i64 r.err, .int .i64 r.job, .int .i64 r.ver, .int .i64 (r.nums.length : Int)] 3)) := (by repeat' (first | exact Below.refl _ _ | assumption | exact And.left (by assumption) | refine Below.drew ?_ | refine below_drewN ?_ _ | refine Below.setCell ?_ (by first | (simp; done) | (simp; omega) | omega) _ | refine Below.alloc ?_ (by first | (simp; done) | (simp; omega) | omega) _ | refine after (by assumption) (by first | (simp; done) | (simp; omega) | omega) ?_))
  go_wp2_with (at_builtin; refine pushAnyN _ _ 23 3 8 (by decide) (.int .i64 0) i0 Tryd.underlying23 hi hz0 hz1 hz2 rfl w.heap.size w.heap.size 5 r.nums.length r.nc _ (vals r.nums) _ r.na w _ rfl rfl rfl rfl (vals_len _).symm HC.out HO.out (HA.out.later hW) hW (Nat.le_refl _) hW.size (vals_one _) (by omega) ?_)
  intro v6 w6 hown6 hb6
  have hown6' : w6.ownsRow w.heap.size 3 1 v6 (numsP r).length (vals (numsP r)) := by
    rw [← HV.out, HNL.out]
    exact hown6
  obtain ⟨A6, c6, rfl, hc6, hrow6, _⟩ := own_form hown6'
  have K := HPut.out A6 c6 w6 hrow6
  have hz6 := hb6.size
  clear hown6 hown6' hrow6 HO HB
  go_wp2_with fail
  refine K.mono ?_; rintro e w7 ⟨v7, rfl, hown7, hb7⟩
  have HO7 := Lib.hid (own_more hown7 (show w.heap.size ≤ w6.heap.size by omega))
  have hbel7 : Below w.heap.size w w7 := hb6.trans (hb7.mono hz6)
  clear hown7 K
  go_wp2
  go_ret
  exact ⟨_, rfl, HO7.out, hbel7⟩
end Go.Proofs.YtbnlchbklpgejaaDoor.W
