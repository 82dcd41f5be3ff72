/-
  The walk of ReplyRefuses.
-/
import Derived.Test.YtbnlchbklpgejaaDoorReplyAwake
import Derived.Test.YtbnlchbklpgejaaDoorFrameRep
namespace Go.Proofs.YtbnlchbklpgejaaDoor.W
set_option linter.unusedVariables false
set_option linter.unusedSimpArgs false
open Go.ChangeShapes Go.WideShapes Go.ChangeAt Go.RowKit

set_option maxRecDepth 100000 in
set_option maxHeartbeats 3000000 in
theorem replyRefuses_in (key er : Int) (w : World) (hS : Std w) :
    Calls Tryd.prog 5 #[.int .i64 key, .int .i64 er] w fun e w' => e = .returned (.bool true) ∧ Below w.heap.size w w' := by
  have HAW := Lib.hid awake9
  have HRF := Lib.hid (refusal key er)
  have HRT := Lib.hid (right_ref key er)
  have HT := Lib.hid hS
  have KS := fun w' => refSameP (refP key er) (refP key er) (by simp [refP]) (by simp [refP]) w' (.inl rfl) (.inl rfl)
  rw [sameP_refl] at KS
  have HSM : Hid (∀ w', Calls Tryd.prog 11 #[.agg #[.int .i64 (refP key er).key, .int .i64 (refP key er).err, .int .i64 (refP key er).job, .int .i64 (refP key er).ver, .slice (refP key er).na (refP key er).nums.length (refP key er).nc], .agg #[.int .i64 key, .int .i64 er, .int .i64 0, .int .i64 0, .slice none 0 0]] w' fun e w'' => e = .returned (.bool true) ∧ Below w'.heap.size w' w'') := Lib.hid KS
  have HRG := Lib.hid (fun w' hs => replyRight (refP key er) w' hs (.inl rfl))
  clear hS KS
  generalize refP key er = r at HRF HSM HRG HRT
  go_enter Tryd.func5, Tryd.ntmps5
  go_wp2_with fail
  refine (HAW.out w HT.out).mono ?_; rintro e w1 ⟨rfl, hW1⟩
  go_wp2_with fail
  refine (HRF.out w1).mono ?_; rintro e w2 ⟨rfl, hb2⟩
  have hW2 : Below w.heap.size w w2 := hW1.trans (hb2.mono hW1.size)
  clear hb2
  by_cases g0 : 0 ≤ key
  · have d0 : decide (0 ≤ key) = true := decide_eq_true g0
    by_cases g1 : key ≤ 1073741824
    · have d1 : decide (key ≤ 1073741824) = true := decide_eq_true g1
      by_cases g2 : 0 ≤ er
      · have d2 : decide (0 ≤ er) = true := decide_eq_true g2
        by_cases g3 : er ≤ 99
        · have d3 : decide (er ≤ 99) = true := decide_eq_true g3
          have HD : rightP r = true := by rw [HRT.out, decide_eq_true (⟨g0, g1⟩ : 0 ≤ key ∧ key ≤ 1073741824), decide_eq_true (⟨g2, g3⟩ : 0 ≤ er ∧ er ≤ 99)]; rfl
          rw [HD] at HRG
          clear HD
          go_wp2_with (first
            | ((with_reducible refine wpList_store_row rfl 25 (.tmp 5) (.tmp 10) rfl w2.heap.size _ rfl rfl 25 #[.int .i64 0, .int .i64 0, .int .i64 0, .int .i64 0, .slice none 0 0] (by repeat (first | (refine heap_top (by first | omega | (simp only [World.size_alloc]; done) | (simp only [World.size_alloc]; omega))) | refine heap_up ?_)) (by kernel_rfl) (by simp) (by simp [Value.oneCell']) ?_)
               generalize hw3 : World.setRow _ _ _ = w3
               have hb3 : Below w2.heap.size w2 w3 := by rw [← hw3]; exact below_setRow ((by repeat' (first | exact Below.refl _ _ | assumption | exact And.left (by assumption) | refine Below.drew ?_ | refine below_drewN ?_ _ | refine Below.setCell ?_ (by first | (simp; done) | (simp; omega) | omega) _ | refine Below.alloc ?_ (by first | (simp; done) | (simp; omega) | omega) _ | refine after (by assumption) (by first | (simp; done) | (simp; omega) | omega) ?_))) (Nat.le_refl _) _
               have HX3 : Hid (BoxP w3 w2.heap.size r) := Lib.hid ⟨by rw [← hw3]; exact setRow_heap _ _ _ _ _ _ (by repeat (first | (refine heap_top (by first | omega | (simp only [World.size_alloc]; done) | (simp only [World.size_alloc]; omega))) | refine heap_up ?_))⟩
               clear hw3)
            | with_reducible refine wpList_load_p (r := r) rfl (.tmp 5) rfl rfl HX3.out ?_)
          have hW3 : Below w.heap.size w w3 := hW2.trans (hb3.mono hW2.size)
          refine (HSM.out w3).mono ?_; rintro e w4 ⟨rfl, hb4⟩
          have hW4 : Below w.heap.size w w4 := hW3.trans (hb4.mono hW3.size)
          have HX4 := Lib.hid (HX3.out.on hb4)
          clear hb3 hb4 HX3
          go_wp2_with (first
            | with_reducible refine wpList_load_p (r := r) rfl (.tmp 5) rfl rfl HX4.out ?_
            | refine wpList_load_p_g (r := r) (.tmp 5) rfl rfl HX4.out rfl ?_)
          refine (HRG.out w4 (HT.out.on hW4)).mono ?_; rintro e w5 ⟨rfl, hb5⟩
          have hW5 : Below w.heap.size w w5 := hW4.trans (hb5.mono hW4.size)
          go_wp2
          go_ret
          exact ⟨rfl, hW5⟩
        · have HD : rightP r = false := by rw [HRT.out]; simp only [Bool.and_eq_false_iff, decide_eq_false_iff_not]; omega
          have d3 : decide (er ≤ 99) = false := decide_eq_false g3
          rw [HD] at HRG
          clear HD
          go_wp2_with (first
            | ((with_reducible refine wpList_store_row rfl 25 (.tmp 5) (.tmp 10) rfl w2.heap.size _ rfl rfl 25 #[.int .i64 0, .int .i64 0, .int .i64 0, .int .i64 0, .slice none 0 0] (by repeat (first | (refine heap_top (by first | omega | (simp only [World.size_alloc]; done) | (simp only [World.size_alloc]; omega))) | refine heap_up ?_)) (by kernel_rfl) (by simp) (by simp [Value.oneCell']) ?_)
               generalize hw3 : World.setRow _ _ _ = w3
               have hb3 : Below w2.heap.size w2 w3 := by rw [← hw3]; exact below_setRow ((by repeat' (first | exact Below.refl _ _ | assumption | exact And.left (by assumption) | refine Below.drew ?_ | refine below_drewN ?_ _ | refine Below.setCell ?_ (by first | (simp; done) | (simp; omega) | omega) _ | refine Below.alloc ?_ (by first | (simp; done) | (simp; omega) | omega) _ | refine after (by assumption) (by first | (simp; done) | (simp; omega) | omega) ?_))) (Nat.le_refl _) _
               have HX3 : Hid (BoxP w3 w2.heap.size r) := Lib.hid ⟨by rw [← hw3]; exact setRow_heap _ _ _ _ _ _ (by repeat (first | (refine heap_top (by first | omega | (simp only [World.size_alloc]; done) | (simp only [World.size_alloc]; omega))) | refine heap_up ?_))⟩
               clear hw3)
            | with_reducible refine wpList_load_p (r := r) rfl (.tmp 5) rfl rfl HX3.out ?_)
          have hW3 : Below w.heap.size w w3 := hW2.trans (hb3.mono hW2.size)
          refine (HSM.out w3).mono ?_; rintro e w4 ⟨rfl, hb4⟩
          have hW4 : Below w.heap.size w w4 := hW3.trans (hb4.mono hW3.size)
          have HX4 := Lib.hid (HX3.out.on hb4)
          clear hb3 hb4 HX3
          go_wp2_with (first
            | with_reducible refine wpList_load_p (r := r) rfl (.tmp 5) rfl rfl HX4.out ?_
            | refine wpList_load_p_g (r := r) (.tmp 5) rfl rfl HX4.out rfl ?_)
          refine (HRG.out w4 (HT.out.on hW4)).mono ?_; rintro e w5 ⟨rfl, hb5⟩
          have hW5 : Below w.heap.size w w5 := hW4.trans (hb5.mono hW4.size)
          go_wp2
          go_ret
          exact ⟨rfl, hW5⟩
      · have HD : rightP r = false := by rw [HRT.out]; simp only [Bool.and_eq_false_iff, decide_eq_false_iff_not]; omega
        have d2 : decide (0 ≤ er) = false := decide_eq_false g2
        rw [HD] at HRG
        clear HD
        go_wp2_with (first
          | ((with_reducible refine wpList_store_row rfl 25 (.tmp 5) (.tmp 10) rfl w2.heap.size _ rfl rfl 25 #[.int .i64 0, .int .i64 0, .int .i64 0, .int .i64 0, .slice none 0 0] (by repeat (first | (refine heap_top (by first | omega | (simp only [World.size_alloc]; done) | (simp only [World.size_alloc]; omega))) | refine heap_up ?_)) (by kernel_rfl) (by simp) (by simp [Value.oneCell']) ?_)
             generalize hw3 : World.setRow _ _ _ = w3
             have hb3 : Below w2.heap.size w2 w3 := by rw [← hw3]; exact below_setRow ((by repeat' (first | exact Below.refl _ _ | assumption | exact And.left (by assumption) | refine Below.drew ?_ | refine below_drewN ?_ _ | refine Below.setCell ?_ (by first | (simp; done) | (simp; omega) | omega) _ | refine Below.alloc ?_ (by first | (simp; done) | (simp; omega) | omega) _ | refine after (by assumption) (by first | (simp; done) | (simp; omega) | omega) ?_))) (Nat.le_refl _) _
             have HX3 : Hid (BoxP w3 w2.heap.size r) := Lib.hid ⟨by rw [← hw3]; exact setRow_heap _ _ _ _ _ _ (by repeat (first | (refine heap_top (by first | omega | (simp only [World.size_alloc]; done) | (simp only [World.size_alloc]; omega))) | refine heap_up ?_))⟩
             clear hw3)
          | with_reducible refine wpList_load_p (r := r) rfl (.tmp 5) rfl rfl HX3.out ?_)
        have hW3 : Below w.heap.size w w3 := hW2.trans (hb3.mono hW2.size)
        refine (HSM.out w3).mono ?_; rintro e w4 ⟨rfl, hb4⟩
        have hW4 : Below w.heap.size w w4 := hW3.trans (hb4.mono hW3.size)
        have HX4 := Lib.hid (HX3.out.on hb4)
        clear hb3 hb4 HX3
        go_wp2_with (first
          | with_reducible refine wpList_load_p (r := r) rfl (.tmp 5) rfl rfl HX4.out ?_
          | refine wpList_load_p_g (r := r) (.tmp 5) rfl rfl HX4.out rfl ?_)
        refine (HRG.out w4 (HT.out.on hW4)).mono ?_; rintro e w5 ⟨rfl, hb5⟩
        have hW5 : Below w.heap.size w w5 := hW4.trans (hb5.mono hW4.size)
        go_wp2
        go_ret
        exact ⟨rfl, hW5⟩
    · have HD : rightP r = false := by rw [HRT.out]; simp only [Bool.and_eq_false_iff, decide_eq_false_iff_not]; omega
      have d1 : decide (key ≤ 1073741824) = false := decide_eq_false g1
      rw [HD] at HRG
      clear HD
      go_wp2_with (first
        | ((with_reducible refine wpList_store_row rfl 25 (.tmp 5) (.tmp 10) rfl w2.heap.size _ rfl rfl 25 #[.int .i64 0, .int .i64 0, .int .i64 0, .int .i64 0, .slice none 0 0] (by repeat (first | (refine heap_top (by first | omega | (simp only [World.size_alloc]; done) | (simp only [World.size_alloc]; omega))) | refine heap_up ?_)) (by kernel_rfl) (by simp) (by simp [Value.oneCell']) ?_)
           generalize hw3 : World.setRow _ _ _ = w3
           have hb3 : Below w2.heap.size w2 w3 := by rw [← hw3]; exact below_setRow ((by repeat' (first | exact Below.refl _ _ | assumption | exact And.left (by assumption) | refine Below.drew ?_ | refine below_drewN ?_ _ | refine Below.setCell ?_ (by first | (simp; done) | (simp; omega) | omega) _ | refine Below.alloc ?_ (by first | (simp; done) | (simp; omega) | omega) _ | refine after (by assumption) (by first | (simp; done) | (simp; omega) | omega) ?_))) (Nat.le_refl _) _
           have HX3 : Hid (BoxP w3 w2.heap.size r) := Lib.hid ⟨by rw [← hw3]; exact setRow_heap _ _ _ _ _ _ (by repeat (first | (refine heap_top (by first | omega | (simp only [World.size_alloc]; done) | (simp only [World.size_alloc]; omega))) | refine heap_up ?_))⟩
           clear hw3)
        | with_reducible refine wpList_load_p (r := r) rfl (.tmp 5) rfl rfl HX3.out ?_)
      have hW3 : Below w.heap.size w w3 := hW2.trans (hb3.mono hW2.size)
      refine (HSM.out w3).mono ?_; rintro e w4 ⟨rfl, hb4⟩
      have hW4 : Below w.heap.size w w4 := hW3.trans (hb4.mono hW3.size)
      have HX4 := Lib.hid (HX3.out.on hb4)
      clear hb3 hb4 HX3
      go_wp2_with (first
        | with_reducible refine wpList_load_p (r := r) rfl (.tmp 5) rfl rfl HX4.out ?_
        | refine wpList_load_p_g (r := r) (.tmp 5) rfl rfl HX4.out rfl ?_)
      refine (HRG.out w4 (HT.out.on hW4)).mono ?_; rintro e w5 ⟨rfl, hb5⟩
      have hW5 : Below w.heap.size w w5 := hW4.trans (hb5.mono hW4.size)
      go_wp2
      go_ret
      exact ⟨rfl, hW5⟩
  · have HD : rightP r = false := by rw [HRT.out]; simp only [Bool.and_eq_false_iff, decide_eq_false_iff_not]; omega
    have d0 : decide (0 ≤ key) = false := decide_eq_false g0
    rw [HD] at HRG
    clear HD
    go_wp2_with (first
      | ((with_reducible refine wpList_store_row rfl 25 (.tmp 5) (.tmp 10) rfl w2.heap.size _ rfl rfl 25 #[.int .i64 0, .int .i64 0, .int .i64 0, .int .i64 0, .slice none 0 0] (by repeat (first | (refine heap_top (by first | omega | (simp only [World.size_alloc]; done) | (simp only [World.size_alloc]; omega))) | refine heap_up ?_)) (by kernel_rfl) (by simp) (by simp [Value.oneCell']) ?_)
         generalize hw3 : World.setRow _ _ _ = w3
         have hb3 : Below w2.heap.size w2 w3 := by rw [← hw3]; exact below_setRow ((by repeat' (first | exact Below.refl _ _ | assumption | exact And.left (by assumption) | refine Below.drew ?_ | refine below_drewN ?_ _ | refine Below.setCell ?_ (by first | (simp; done) | (simp; omega) | omega) _ | refine Below.alloc ?_ (by first | (simp; done) | (simp; omega) | omega) _ | refine after (by assumption) (by first | (simp; done) | (simp; omega) | omega) ?_))) (Nat.le_refl _) _
         have HX3 : Hid (BoxP w3 w2.heap.size r) := Lib.hid ⟨by rw [← hw3]; exact setRow_heap _ _ _ _ _ _ (by repeat (first | (refine heap_top (by first | omega | (simp only [World.size_alloc]; done) | (simp only [World.size_alloc]; omega))) | refine heap_up ?_))⟩
         clear hw3)
      | with_reducible refine wpList_load_p (r := r) rfl (.tmp 5) rfl rfl HX3.out ?_)
    have hW3 : Below w.heap.size w w3 := hW2.trans (hb3.mono hW2.size)
    refine (HSM.out w3).mono ?_; rintro e w4 ⟨rfl, hb4⟩
    have hW4 : Below w.heap.size w w4 := hW3.trans (hb4.mono hW3.size)
    have HX4 := Lib.hid (HX3.out.on hb4)
    clear hb3 hb4 HX3
    go_wp2_with (first
      | with_reducible refine wpList_load_p (r := r) rfl (.tmp 5) rfl rfl HX4.out ?_
      | refine wpList_load_p_g (r := r) (.tmp 5) rfl rfl HX4.out rfl ?_)
    refine (HRG.out w4 (HT.out.on hW4)).mono ?_; rintro e w5 ⟨rfl, hb5⟩
    have hW5 : Below w.heap.size w w5 := hW4.trans (hb5.mono hW4.size)
    go_wp2
    go_ret
    exact ⟨rfl, hW5⟩
theorem replyRefuses_walk (v0 : Value) (v1 : Value) (w : World) (F0 : FInt .i64 v0) (F1 : FInt .i64 v1) (hS : Std w) :
    Calls Tryd.prog 5 #[v0, v1] w fun e w' => e = .returned (.bool true) ∧ Below w.heap.size w w' := by
  obtain ⟨x, rfl, _⟩ := F0
  obtain ⟨y, rfl, _⟩ := F1
  exact replyRefuses_in x y w hS
end Go.Proofs.YtbnlchbklpgejaaDoor.W
