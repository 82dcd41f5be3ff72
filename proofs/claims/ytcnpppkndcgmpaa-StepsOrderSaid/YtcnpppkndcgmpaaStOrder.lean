/-
  The walk of StepsOrder.
-/
import Derived.Test.YtcnpppkndcgmpaaStAwake
import Derived.Test.YtcnpppkndcgmpaaFrameSt
namespace Go.Proofs.Ytcnpppkndcgmpaa.W
set_option linter.unusedVariables false
set_option linter.unusedSimpArgs false
open Go.ChangeShapes Go.WideShapes Go.ChangeAt Go.RowKit

instance (l : List St) (a : Int × Int) (x : V) (b : Int × Int) (y : V) : Decidable (Both l a x b y) := by unfold Both; infer_instance
theorem turnE_no {m : Bool} {l : List St} {f t : Int} {need : V} (h : ¬ (ArgsOk l f t need ∧ Fine m l f t need)) : ∃ E : Int, turnE m l f t need = E ∧ (E == 0) = false ∧ (E != 0) = true := by
  by_cases hA : ArgsOk l f t need
  · exact ⟨20, (turn_over hA (fun g => h ⟨hA, g⟩)).2, rfl, rfl⟩
  · exact ⟨2, (turn_arg hA).2, rfl, rfl⟩
set_option maxHeartbeats 8000000 in
theorem sBoth (a : Option Addr) (cap : Nat) (l : List St) (hl : l.length ≤ 1000) (a0 a1 b0 b1 : Int) (x y : V) (w : World) (HA0 : StAt w a cap l) :
    Calls Try.prog 24 #[.slice a l.length cap, .agg #[.int .i64 a0, .int .i64 a1, .int .i64 b0, .int .i64 b1, .int .i64 x.cpu, .int .i64 x.mem, .int .i64 x.gpu, .int .i64 x.lic, .int .i64 y.cpu, .int .i64 y.mem, .int .i64 y.gpu, .int .i64 y.lic]] w
      fun e w' => ∃ v, e = .returned (.tuple #[v, .bool (decide (Both l (a0, a1) x (b0, b1) y))]) ∧ (Both l (a0, a1) x (b0, b1) y → w'.ownsRow w.heap.size 34 5 v (bothR l (a0, a1) x (b0, b1) y).length (stsV (bothR l (a0, a1) x (b0, b1) y))) ∧ Below w.heap.size w w' := by
  have HA := Lib.hid HA0
  have HT := Lib.hid (fun w' h => sTake a cap l (by omega) a0 a1 x w' h)
  have hlen := turnR_len false l a0 a1 x
  by_cases h1 : ArgsOk l a0 a1 x ∧ Fine false l a0 a1 x
  · rw [(turn_in h1.1 h1.2).2] at HT
    have HT2 := Lib.hid (fun a' c' w' h => sTake a' c' (turnR false l a0 a1 x) (by omega) b0 b1 y w' h)
    by_cases h2 : ArgsOk (turnR false l a0 a1 x) b0 b1 y ∧ Fine false (turnR false l a0 a1 x) b0 b1 y
    · rw [(turn_in h2.1 h2.2).2] at HT2
      have HB : Hid (decide (Both l (a0, a1) x (b0, b1) y) = true ∧ bothR l (a0, a1) x (b0, b1) y = turnR false (turnR false l a0 a1 x) b0 b1 y) := Lib.hid ⟨decide_eq_true ⟨h1, h2⟩, rfl⟩
      clear HA0 h1 h2
      generalize turnR false (turnR false l a0 a1 x) b0 b1 y = R2 at *
      generalize turnR false l a0 a1 x = R1 at *
      go_enter Try.func24, Try.ntmps24
      go_wp2_with fail
      refine (HT.out _ (HA.out.later ?_)).mono ?_; exact (by repeat' (first | exact Below.refl _ _ | assumption | exact And.left (by assumption) | refine Below.drew ?_ | refine below_drewN ?_ _ | refine Below.setCell ?_ (by first | (simp; done) | (simp; omega) | omega) _ | refine Below.alloc ?_ (by first | (simp; done) | (simp; omega) | omega) _ | refine after (by assumption) (by first | (simp; done) | (simp; omega) | omega) ?_))
      rintro e w1 ⟨v1, rfl, hO1, hb1⟩
      obtain ⟨g1, c1, rfl, hs1⟩ := own_st (l := R1) hO1
      have HS1 := Lib.hid hs1
      clear hO1 hs1
      obtain ⟨hc1, hf1⟩ := bcell hb1
      have hz1 := hb1.size; (try simp at hz1)
      have hl1 : w.heap.size < w1.heap.size := by omega
      go_wp2_with fail
      refine (HT2.out g1 c1 w1 HS1.out).mono ?_
      rintro e w2 ⟨v2, rfl, hO2, hb2⟩
      have HO2 := Lib.hid hO2
      clear hO2
      go_wp2
      go_ret2
      exact ⟨v2, by rw [HB.out.1]; rfl, fun _ => by rw [HB.out.2]; exact own_more HO2.out (by omega), (by repeat' (first | exact Below.refl _ _ | assumption | exact And.left (by assumption) | refine Below.drew ?_ | refine below_drewN ?_ _ | refine Below.setCell ?_ (by first | (simp; done) | (simp; omega) | omega) _ | refine Below.alloc ?_ (by first | (simp; done) | (simp; omega) | omega) _ | refine after (by assumption) (by first | (simp; done) | (simp; omega) | omega) ?_))⟩
    · have HB : Hid (¬ Both l (a0, a1) x (b0, b1) y) := Lib.hid (fun h => h2 h.2)
      obtain ⟨E, hE, hE0, hE1⟩ := turnE_no h2
      rw [hE] at HT2
      clear HA0 h1 h2 hE
      generalize turnR false (turnR false l a0 a1 x) b0 b1 y = R2 at *
      generalize turnR false l a0 a1 x = R1 at *
      go_enter Try.func24, Try.ntmps24
      go_wp2_with fail
      refine (HT.out _ (HA.out.later ?_)).mono ?_; exact (by repeat' (first | exact Below.refl _ _ | assumption | exact And.left (by assumption) | refine Below.drew ?_ | refine below_drewN ?_ _ | refine Below.setCell ?_ (by first | (simp; done) | (simp; omega) | omega) _ | refine Below.alloc ?_ (by first | (simp; done) | (simp; omega) | omega) _ | refine after (by assumption) (by first | (simp; done) | (simp; omega) | omega) ?_))
      rintro e w1 ⟨v1, rfl, hO1, hb1⟩
      obtain ⟨g1, c1, rfl, hs1⟩ := own_st (l := R1) hO1
      have HS1 := Lib.hid hs1
      clear hO1 hs1
      obtain ⟨hc1, hf1⟩ := bcell hb1
      have hz1 := hb1.size; (try simp at hz1)
      have hl1 : w.heap.size < w1.heap.size := by omega
      go_wp2_with fail
      refine (HT2.out g1 c1 w1 HS1.out).mono ?_
      rintro e w2 ⟨v2, rfl, hO2, hb2⟩
      clear hO2
      go_wp2
      go_ret2
      exact ⟨v2, by rw [decide_eq_false HB.out]; rfl, fun h => absurd h HB.out, (by repeat' (first | exact Below.refl _ _ | assumption | exact And.left (by assumption) | refine Below.drew ?_ | refine below_drewN ?_ _ | refine Below.setCell ?_ (by first | (simp; done) | (simp; omega) | omega) _ | refine Below.alloc ?_ (by first | (simp; done) | (simp; omega) | omega) _ | refine after (by assumption) (by first | (simp; done) | (simp; omega) | omega) ?_))⟩
  · have HB : Hid (¬ Both l (a0, a1) x (b0, b1) y) := Lib.hid (fun h => h1 h.1)
    obtain ⟨E, hE, hE0, hE1⟩ := turnE_no h1
    rw [hE] at HT
    clear HA0 h1 hE
    go_enter Try.func24, Try.ntmps24
    go_wp2_with fail
    refine (HT.out _ (HA.out.later ?_)).mono ?_; exact (by repeat' (first | exact Below.refl _ _ | assumption | exact And.left (by assumption) | refine Below.drew ?_ | refine below_drewN ?_ _ | refine Below.setCell ?_ (by first | (simp; done) | (simp; omega) | omega) _ | refine Below.alloc ?_ (by first | (simp; done) | (simp; omega) | omega) _ | refine after (by assumption) (by first | (simp; done) | (simp; omega) | omega) ?_))
    rintro e w1 ⟨v1, rfl, hO1, hb1⟩
    clear hO1
    go_wp2
    go_ret2
    exact ⟨_, by rw [decide_eq_false HB.out]; rfl, fun h => absurd h HB.out, (by repeat' (first | exact Below.refl _ _ | assumption | exact And.left (by assumption) | refine Below.drew ?_ | refine below_drewN ?_ _ | refine Below.setCell ?_ (by first | (simp; done) | (simp; omega) | omega) _ | refine Below.alloc ?_ (by first | (simp; done) | (simp; omega) | omega) _ | refine after (by assumption) (by first | (simp; done) | (simp; omega) | omega) ?_))⟩

set_option maxHeartbeats 8000000 in
theorem order10 (a : Option Addr) (cap : Nat) (l : List St) (a0 a1 b0 b1 : Int) (x y : V) (w : World) (HA0 : StAt w a cap l) :
    Calls Try.prog 6 #[.slice a l.length cap, .agg #[.int .i64 a0, .int .i64 a1, .int .i64 b0, .int .i64 b1, .int .i64 x.cpu, .int .i64 x.mem, .int .i64 x.gpu, .int .i64 x.lic, .int .i64 y.cpu, .int .i64 y.mem, .int .i64 y.gpu, .int .i64 y.lic]] w
      fun e w' => e = .returned (.bool true) ∧ Below w.heap.size w w' := by
  have HA := Lib.hid HA0
  by_cases hl : l.length ≤ 40
  · have H1 := Lib.hid (fun w' h => sBoth a cap l (by omega) a0 a1 b0 b1 x y w' h)
    have H2 := Lib.hid (fun w' h => sBoth a cap l (by omega) b0 b1 a0 a1 y x w' h)
    by_cases hB : Both l (a0, a1) x (b0, b1) y
    · have hlen : (bothR l (a0, a1) x (b0, b1) y).length ≤ 44 := by
        have e1 := turnR_len false l a0 a1 x
        have e2 := turnR_len false (turnR false l a0 a1 x) b0 b1 y
        show (turnR false (turnR false l a0 a1 x) b0 b1 y).length ≤ 44
        omega
      have e := both_same hB
      have hB2 := both_turn hB
      rw [decide_eq_true hB] at H1
      rw [decide_eq_true hB2, ← e] at H2
      have HS := Lib.hid (fun a1' a2' c1' c2' w' h1 h2 => rSame a1' a2' c1' c2' (bothR l (a0, a1) x (b0, b1) y) (bothR l (a0, a1) x (b0, b1) y) (by omega) (by omega) w' h1 h2)
      rw [decide_eq_true (rfl : bothR l (a0, a1) x (b0, b1) y = bothR l (a0, a1) x (b0, b1) y)] at HS
      have HY := Lib.hid hB
      have HY2 := Lib.hid hB2
      clear HA0 hB hB2 e
      generalize bothR l (a0, a1) x (b0, b1) y = R at *
      go_enter Try.func6, Try.ntmps6
      go_wp2_with fail
      refine (awakeSt _).mono ?_; rintro e w1 ⟨rfl, hb1⟩; obtain ⟨hc1, hf1⟩ := bcell hb1; have hz1 := hb1.size; (try simp at hz1); have lt_w1_0 : w.heap.size < w1.heap.size := (by omega)
      go_wp2_with fail
      refine (H1.out _ (HA.out.later ?_)).mono ?_; exact (by repeat' (first | exact Below.refl _ _ | assumption | exact And.left (by assumption) | refine Below.drew ?_ | refine below_drewN ?_ _ | refine Below.setCell ?_ (by first | (simp; done) | (simp; omega) | omega) _ | refine Below.alloc ?_ (by first | (simp; done) | (simp; omega) | omega) _ | refine after (by assumption) (by first | (simp; done) | (simp; omega) | omega) ?_))
      rintro e w2 ⟨v2, rfl, hO2, hb2⟩
      obtain ⟨g2, c2, rfl, hs2⟩ := own_st (l := R) (hO2 HY.out)
      have HS2 := Lib.hid hs2
      clear hO2 hs2
      obtain ⟨hc2, hf2⟩ := bcell hb2
      have hz2 := hb2.size; (try simp at hz2)
      have hl2 : w.heap.size < w2.heap.size := by omega
      have hW2 : Below w.heap.size w w2 := (by repeat' (first | exact Below.refl _ _ | assumption | exact And.left (by assumption) | refine Below.drew ?_ | refine below_drewN ?_ _ | refine Below.setCell ?_ (by first | (simp; done) | (simp; omega) | omega) _ | refine Below.alloc ?_ (by first | (simp; done) | (simp; omega) | omega) _ | refine after (by assumption) (by first | (simp; done) | (simp; omega) | omega) ?_))
      go_wp2_with fail
      refine (H2.out _ (HA.out.later hW2)).mono ?_
      rintro e w3 ⟨v3, rfl, hO3, hb3⟩
      obtain ⟨g3, c3, rfl, hs3⟩ := own_st (l := R) (hO3 HY2.out)
      have HS3 := Lib.hid hs3
      clear hO3 hs3
      go_wp2_with fail
      refine (HS.out g2 g3 c2 c3 w3 (HS2.out.later hb3) HS3.out).mono ?_
      rintro e w4 ⟨rfl, hb4⟩
      go_wp2
      go_ret
      have hW3 := hW2.trans (hb3.mono hW2.size)
      exact ⟨rfl, hW3.trans (hb4.mono hW3.size)⟩
    · have hB2 : ¬ Both l (b0, b1) y (a0, a1) x := fun h => hB (both_turn h)
      rw [decide_eq_false hB] at H1
      rw [decide_eq_false hB2] at H2
      clear HA0 hB hB2
      go_enter Try.func6, Try.ntmps6
      go_wp2_with fail
      refine (awakeSt _).mono ?_; rintro e w1 ⟨rfl, hb1⟩; obtain ⟨hc1, hf1⟩ := bcell hb1; have hz1 := hb1.size; (try simp at hz1); have lt_w1_0 : w.heap.size < w1.heap.size := (by omega)
      go_wp2_with fail
      refine (H1.out _ (HA.out.later ?_)).mono ?_; exact (by repeat' (first | exact Below.refl _ _ | assumption | exact And.left (by assumption) | refine Below.drew ?_ | refine below_drewN ?_ _ | refine Below.setCell ?_ (by first | (simp; done) | (simp; omega) | omega) _ | refine Below.alloc ?_ (by first | (simp; done) | (simp; omega) | omega) _ | refine after (by assumption) (by first | (simp; done) | (simp; omega) | omega) ?_))
      rintro e w2 ⟨v2, rfl, hO2, hb2⟩
      clear hO2
      obtain ⟨hc2, hf2⟩ := bcell hb2
      have hz2 := hb2.size; (try simp at hz2)
      have hl2 : w.heap.size < w2.heap.size := by omega
      have hW2 : Below w.heap.size w w2 := (by repeat' (first | exact Below.refl _ _ | assumption | exact And.left (by assumption) | refine Below.drew ?_ | refine below_drewN ?_ _ | refine Below.setCell ?_ (by first | (simp; done) | (simp; omega) | omega) _ | refine Below.alloc ?_ (by first | (simp; done) | (simp; omega) | omega) _ | refine after (by assumption) (by first | (simp; done) | (simp; omega) | omega) ?_))
      go_wp2_with fail
      refine (H2.out _ (HA.out.later hW2)).mono ?_
      rintro e w3 ⟨v3, rfl, hO3, hb3⟩
      clear hO3
      go_wp2
      go_ret
      exact ⟨rfl, hW2.trans (hb3.mono hW2.size)⟩
  · clear HA0
    go_enter Try.func6, Try.ntmps6
    go_wp2_with fail
    refine (awakeSt _).mono ?_; rintro e w1 ⟨rfl, hb1⟩; obtain ⟨hc1, hf1⟩ := bcell hb1; have hz1 := hb1.size; (try simp at hz1); have lt_w1_0 : w.heap.size < w1.heap.size := (by omega)
    go_wp2
    go_ret
    exact ⟨rfl, (by repeat' (first | exact Below.refl _ _ | assumption | exact And.left (by assumption) | refine Below.drew ?_ | refine below_drewN ?_ _ | refine Below.setCell ?_ (by first | (simp; done) | (simp; omega) | omega) _ | refine Below.alloc ?_ (by first | (simp; done) | (simp; omega) | omega) _ | refine after (by assumption) (by first | (simp; done) | (simp; omega) | omega) ?_))⟩
theorem stepsOrder_walk (v0 v1 : Value) (w : World) (F0 : FSteps w v0) (F1 : FTwo v1) :
    Calls Try.prog 6 #[v0, v1] w fun e w' => e = .returned (.bool true) ∧ Below w.heap.size w w' := by
  obtain ⟨a, cap, l, rfl, hA⟩ := F0
  obtain ⟨a0, a1, b0, b1, x, y, rfl⟩ := F1
  exact order10 a cap l a0 a1 b0 b1 x y w hA
end Go.Proofs.Ytcnpppkndcgmpaa.W
