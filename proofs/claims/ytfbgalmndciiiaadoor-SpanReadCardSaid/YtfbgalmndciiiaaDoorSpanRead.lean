/-
  Contract of span.Read: a text's length.
-/
import Derived.Test.YtfbgalmndciiiaaDoorSpanText
import Derived.Test.YtfbgalmndciiiaaDoorSpanRRead
namespace Go.Proofs.YtfbgalmndciiiaaDoor.W
set_option linter.unusedVariables false
set_option linter.unusedSimpArgs false
open Go.ChangeShapes Go.WideShapes Go.ChangeAt Go.RowKit

set_option maxHeartbeats 4000000 in
set_option maxRecDepth 100000 in
theorem read (l : List UInt8) (hl : l.length ≤ 140737488355328) (w : World) (hS : Std w) :
    Calls Tryd.prog 9 #[.string (bs l)] w fun e w' => e = .returned (.tuple #[.int .i64 ((readOf (spanN l) l).1 : Nat), .int .i64 ((readOf (spanN l) l).2 : Nat)]) ∧ Below w.heap.size w w' := by
  have hz := bs_size l
  obtain ⟨k1, k2, _⟩ := cutAt_len 58 l
  obtain ⟨k3, k4, _⟩ := cutAt_len 58 (cutAt 58 l).2.1
  have H1 := Lib.hid (fun w => cCut l 58 w (by omega))
  have H2 := Lib.hid (fun w => cCut (cutAt 58 l).2.1 58 w (by omega))
  have N1 := Lib.hid (fun w hS => number (cutAt 58 l).1 (by omega) w hS)
  have N2 := Lib.hid (fun w hS => number (cutAt 58 (cutAt 58 l).2.1).1 (by omega) w hS)
  have N3 := Lib.hid (fun w hS => number (cutAt 58 (cutAt 58 l).2.1).2.1 (by omega) w hS)
  have b1 := numOf_le (cutAt 58 l).1
  have b2 := numOf_le (cutAt 58 (cutAt 58 l).2.1).1
  have b3 := numOf_le (cutAt 58 (cutAt 58 l).2.1).2.1
  have hN : spanN l = 3600 * numOf (cutAt 58 l).1 + 60 * numOf (cutAt 58 (cutAt 58 l).2.1).1 + numOf (cutAt 58 (cutAt 58 l).2.1).2.1 := rfl
  generalize (cutAt 58 l).1 = p1 at *
  generalize (cutAt 58 l).2.2 = q1 at *
  generalize (cutAt 58 l).2.1 = l2 at *
  generalize (cutAt 58 l2).1 = p2 at *
  generalize (cutAt 58 l2).2.2 = q2 at *
  generalize (cutAt 58 l2).2.1 = p3 at *
  generalize numOf p1 = n1 at *
  generalize numOf p2 = n2 at *
  generalize numOf p3 = n3 at *
  obtain ⟨N, eN⟩ : ∃ N, N = spanN l := ⟨_, rfl⟩
  have hNi : N = 3600 * n1 + 60 * n2 + n3 := eN.trans hN
  have T1 := Lib.hid (fun h w hS => text_yes N h w hS)
  have T2 := Lib.hid (fun h w => text_no (N : Int) h w)
  have HE : Hid (N ≤ 65536 → stext N = l → readOf (spanN l) l = (N, 0)) := Lib.hid (fun h1 h2 => by rw [← eN]; exact readOf_yes ⟨h1, h2⟩)
  have HO : Hid (¬ (N ≤ 65536 ∧ stext N = l) → readOf (spanN l) l = (0, 11)) := Lib.hid (fun h => by rw [← eN]; exact readOf_no h)
  have he : ((bs (stext N)).toList == (bs l).toList) = decide (stext N = l) := eq_bs _ _
  have hNb : N ≤ 240000000 := by omega
  clear hN eN
  go_enter Tryd.func9, Tryd.ntmps9
  go_wp2_with fail
  refine (H1.out _).mono ?_; rintro e w1 ⟨rfl, hb1⟩
  have hS1 := hS.on hb1
  have z1 := hb1.size
  go_wp2_with fail
  refine (H2.out _).mono ?_; rintro e w2 ⟨rfl, hb2⟩
  have hS2 := hS1.on hb2
  have z2 := hb2.size
  go_wp2_with fail
  refine (N1.out _ hS2).mono ?_; rintro e w3 ⟨rfl, hb3⟩
  have hS3 := hS2.on hb3
  have z3 := hb3.size
  go_wp2_with fail
  refine (N2.out _ hS3).mono ?_; rintro e w4 ⟨rfl, hb4⟩
  have hS4 := hS3.on hb4
  have z4 := hb4.size
  go_wp2_with fail
  refine (N3.out _ hS4).mono ?_; rintro e w5 ⟨rfl, hb5⟩
  have hS5 := hS4.on hb5
  have z5 := hb5.size
  have hB : Below w.heap.size w w5 := after hb5 (by omega) (after hb4 (by omega) (after hb3 (by omega) (after hb2 (by omega) hb1)))
  have eI : (3600 : Int) * (n1 : Int) + 60 * (n2 : Int) + (n3 : Int) = (N : Int) := by omega
  clear hb1 hb2 hb3 hb4 hb5 hNi
  by_cases hbig : N ≤ 65536
  · have T := T1.out hbig
    clear T1 T2
    by_cases heq : stext N = l
    · have hr := Lib.hid (HE.out hbig heq)
      rw [decide_eq_true heq] at he
      clear heq HE HO
      go_wp2_with fail
      refine (T _ hS5).mono ?_; rintro e w6 ⟨rfl, hb6⟩
      go_wp2
      go_ret2
      exact ⟨by rw [hr.out]; rfl, after hb6 (by omega) hB⟩
    · have hr := Lib.hid (HO.out (fun x => heq x.2))
      rw [decide_eq_false heq] at he
      clear heq HE HO
      go_wp2_with fail
      refine (T _ hS5).mono ?_; rintro e w6 ⟨rfl, hb6⟩
      go_wp2
      go_ret2
      exact ⟨by rw [hr.out]; rfl, after hb6 (by omega) hB⟩
  · have T := T2.out (Or.inr (by omega))
    have hr := Lib.hid (HO.out (fun x => hbig x.1))
    clear T1 T2 HE HO he
    go_wp2_with fail
    refine (T _).mono ?_; rintro e w6 ⟨rfl, hb6⟩
    go_wp2
    go_ret2
    exact ⟨by rw [hr.out]; rfl, after hb6 (by omega) hB⟩

end Go.Proofs.YtfbgalmndciiiaaDoor.W
