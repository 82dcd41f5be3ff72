/-
  The walks of the laws of layer 3: awake, UnitsText, UnitsRead.
-/
import Derived.Test.YtcnenpkmlindaaaDoorUnitsRRead
import Derived.Test.YtcnenpkmlindaaaDoorFrameV
namespace Go.Proofs.YtcnenpkmlindaaaDoor.W
set_option linter.unusedVariables false
set_option linter.unusedSimpArgs false
open Go.ChangeShapes Go.WideShapes Go.ChangeAt Go.RowKit

theorem uRead (l : List UInt8) (hl : l.length ≤ 1000000) (w : World) (hS : Std w) :
    Calls Tryd.prog 8 #[.string (bs l)] w fun e w' => e = .returned (.tuple #[(.agg #[.int .i64 (readV l).cpu, .int .i64 (readV l).mem, .int .i64 (readV l).gpu, .int .i64 (readV l).lic]), .int .i64 (readE l)]) ∧ Below w.heap.size w w' := by
  by_cases h : l = unone
  · subst h
    have e : readV unone = V.zero ∧ readE unone = 0 := readV_some (show readU unone = some [0, 0, 0, 0] from rfl)
    rw [e.1, e.2]
    exact uRead_none w
  · exact uRead_loop l hl h w hS

/-! the chapter's example -/
def exA : V := ⟨4, 16, 0, 1⟩
def exT : List UInt8 := [99, 112, 117, 61, 52, 44, 109, 101, 109, 61, 49, 54, 44, 108, 105, 99, 61, 49]
def exG : List UInt8 := [103, 112, 117, 61, 50]
theorem exA_ok : exA.Ok := by unfold exA; decide
theorem exA_text : utext exA.ns = exT := by
  have d4 : Lib.decDigits 4 = [52] := Lib.decDigits_one (by omega)
  have d1 : Lib.decDigits 1 = [49] := Lib.decDigits_one (by omega)
  have d16 : Lib.decDigits 16 = [49, 54] := Lib.decDigits_two (by omega) (by omega)
  have e : exA.ns = [4, 16, 0, 1] := rfl
  rw [e]
  simp [utext, uparts, uwords, upart, ujoin, d4, d1, d16, exT]
theorem exG_read : readV exG = ⟨0, 0, 2, 0⟩ ∧ readE exG = 0 := readV_some (show readU exG = some [0, 0, 2, 0] by decide)

set_option maxHeartbeats 4000000 in
theorem awake (w : World) (hS : Std w) :
    Calls Tryd.prog 5 #[] w fun e w' => e = .returned (.bool true) ∧ Below w.heap.size w w' := by
  have H1 := Lib.hid (fun w hS => uText_yes exA exA_ok w hS)
  rw [exA_text] at H1
  have H2 := Lib.hid (fun w hS => uRead exG (by unfold exG; simp) w hS)
  rw [exG_read.1, exG_read.2] at H2
  have HW := Lib.hid uWords
  have he : ((bs exT).toList == [99, 112, 117, 61, 52, 44, 109, 101, 109, 61, 49, 54, 44, 108, 105, 99, 61, 49]) = true := by rw [Lib.toList_data, bs_list]; rfl
  go_enter Tryd.func5, Tryd.ntmps5
  go_wp2_with fail
  refine (H1.out _ hS).mono ?_; rintro e w1 ⟨rfl, hb1⟩
  have hS1 := hS.on hb1
  go_wp2_with fail
  refine (H2.out _ hS1).mono ?_; rintro e w2 ⟨rfl, hb2⟩
  have hz1 := hb1.size
  have hz2 := hb2.size
  go_wp2_with fail
  refine (HW.out _).mono ?_; rintro e w3 ⟨rfl, hb3, _, _⟩
  go_wp2
  go_ret
  exact ⟨rfl, (by repeat' (first | exact Below.refl _ _ | assumption | exact And.left (by assumption) | refine Below.drew ?_ | refine below_drewN ?_ _ | refine Below.setCell ?_ (by first | (simp; done) | (simp; omega) | omega) _ | refine Below.alloc ?_ (by first | (simp; done) | (simp; omega) | omega) _ | refine after (by assumption) (by first | (simp; done) | (simp; omega) | omega) ?_))⟩


set_option maxHeartbeats 4000000 in
theorem text_no (a : V) (h : ¬ a.Ok) (w : World) (hS : Std w) :
    Calls Tryd.prog 3 #[(.agg #[.int .i64 a.cpu, .int .i64 a.mem, .int .i64 a.gpu, .int .i64 a.lic])] w fun e w' => e = .returned (.bool true) ∧ Below w.heap.size w w' := by
  have H1 := Lib.hid (fun w => uText_no a h w)
  have H2 := Lib.hid (fun w => rright a w)
  rw [right_no h] at H2
  have he := empty_nil
  clear h
  go_enter Tryd.func3, Tryd.ntmps3
  go_wp2_with fail
  have hS0 : Std (w.alloc (.cells #[.int .i64 a.cpu, .int .i64 a.mem, .int .i64 a.gpu, .int .i64 a.lic] 23)) := hS.on (by repeat' (first | exact Below.refl _ _ | assumption | exact And.left (by assumption) | refine Below.drew ?_ | refine below_drewN ?_ _ | refine Below.setCell ?_ (by first | (simp; done) | (simp; omega) | omega) _ | refine Below.alloc ?_ (by first | (simp; done) | (simp; omega) | omega) _ | refine after (by assumption) (by first | (simp; done) | (simp; omega) | omega) ?_))
  refine (awake _ hS0).mono ?_; rintro e w1 ⟨rfl, hb1⟩; obtain ⟨hc1, hf1⟩ := bcell hb1; have hz1 := hb1.size; (try simp at hz1); have lt_w1_0 : w.heap.size < w1.heap.size := (by omega)
  go_wp2_with fail
  refine (H1.out _).mono ?_; rintro e w2 ⟨rfl, hb2⟩; obtain ⟨hc2, hf2⟩ := bcell hb2; have hz2 := hb2.size; (try simp at hz2); have lt_w2_0 : w.heap.size < w2.heap.size := (by omega)
  go_wp2_with fail
  refine (H2.out _).mono ?_; rintro e w3 ⟨rfl, hb3⟩; obtain ⟨hc3, hf3⟩ := bcell hb3; have hz3 := hb3.size; (try simp at hz3); have lt_w3_0 : w.heap.size < w3.heap.size := (by omega)
  go_wp2
  go_ret
  exact ⟨rfl, (by repeat' (first | exact Below.refl _ _ | assumption | exact And.left (by assumption) | refine Below.drew ?_ | refine below_drewN ?_ _ | refine Below.setCell ?_ (by first | (simp; done) | (simp; omega) | omega) _ | refine Below.alloc ?_ (by first | (simp; done) | (simp; omega) | omega) _ | refine after (by assumption) (by first | (simp; done) | (simp; omega) | omega) ?_))⟩

set_option maxHeartbeats 4000000 in
theorem text_yes (a : V) (h : a.Ok) (w : World) (hS : Std w) :
    Calls Tryd.prog 3 #[(.agg #[.int .i64 a.cpu, .int .i64 a.mem, .int .i64 a.gpu, .int .i64 a.lic])] w fun e w' => e = .returned (.bool true) ∧ Below w.heap.size w w' := by
  have H1 := Lib.hid (fun w hS => uText_yes a h w hS)
  have H2 := Lib.hid (fun w => rright a w)
  rw [right_yes h] at H2
  have hl := utext_len h.bounds
  have H3 := Lib.hid (fun w hS => uRead (utext a.ns) (by omega) w hS)
  have hr : readV (utext a.ns) = a ∧ readE (utext a.ns) = 0 := by
    have := readV_some (readU_complete a.ns_len h.bounds)
    rw [h.back] at this
    exact this
  rw [hr.1, hr.2] at H3
  have H4 := Lib.hid (fun w => rText a h w)
  have he : ((bs (utext a.ns)).toList == (bs (utext a.ns)).toList) = true := by simp
  obtain ⟨tx, htx⟩ : ∃ tx, tx = utext a.ns := ⟨_, rfl⟩
  rw [← htx] at H1 H3 H4 he
  clear h hl hr htx
  go_enter Tryd.func3, Tryd.ntmps3
  go_wp2_with fail
  have hS0 : Std (w.alloc (.cells #[.int .i64 a.cpu, .int .i64 a.mem, .int .i64 a.gpu, .int .i64 a.lic] 23)) := hS.on (by repeat' (first | exact Below.refl _ _ | assumption | exact And.left (by assumption) | refine Below.drew ?_ | refine below_drewN ?_ _ | refine Below.setCell ?_ (by first | (simp; done) | (simp; omega) | omega) _ | refine Below.alloc ?_ (by first | (simp; done) | (simp; omega) | omega) _ | refine after (by assumption) (by first | (simp; done) | (simp; omega) | omega) ?_))
  refine (awake _ hS0).mono ?_; rintro e w1 ⟨rfl, hb1⟩; obtain ⟨hc1, hf1⟩ := bcell hb1; have hz1 := hb1.size; (try simp at hz1); have lt_w1_0 : w.heap.size < w1.heap.size := (by omega)
  have hS1 := hS0.on hb1
  go_wp2_with fail
  refine (H1.out _ hS1).mono ?_; rintro e w2 ⟨rfl, hb2⟩; obtain ⟨hc2, hf2⟩ := bcell hb2; have hz2 := hb2.size; (try simp at hz2); have lt_w2_0 : w.heap.size < w2.heap.size := (by omega)
  have hS2 := hS1.on hb2
  go_wp2_with fail
  refine (H2.out _).mono ?_; rintro e w3 ⟨rfl, hb3⟩; obtain ⟨hc3, hf3⟩ := bcell hb3; have hz3 := hb3.size; (try simp at hz3); have lt_w3_0 : w.heap.size < w3.heap.size := (by omega)
  have hS3 := hS2.on hb3
  go_wp2_with fail
  refine (H3.out _ hS3).mono ?_; rintro e w4 ⟨rfl, hb4⟩; obtain ⟨hc4, hf4⟩ := bcell hb4; have hz4 := hb4.size; (try simp at hz4); have lt_w4_0 : w.heap.size < w4.heap.size := (by omega)
  go_wp2_with fail
  refine (H4.out _).mono ?_; rintro e w5 ⟨rfl, hb5⟩; obtain ⟨hc5, hf5⟩ := bcell hb5; have hz5 := hb5.size; (try simp at hz5); have lt_w5_0 : w.heap.size < w5.heap.size := (by omega); have lt_5_w4 : w4.heap.size < w5.heap.size := (by omega)
  go_wp2
  go_ret
  exact ⟨by simp, (by repeat' (first | exact Below.refl _ _ | assumption | exact And.left (by assumption) | refine Below.drew ?_ | refine below_drewN ?_ _ | refine Below.setCell ?_ (by first | (simp; done) | (simp; omega) | omega) _ | refine Below.alloc ?_ (by first | (simp; done) | (simp; omega) | omega) _ | refine after (by assumption) (by first | (simp; done) | (simp; omega) | omega) ?_))⟩

theorem unitsText_walk (v0 : Value) (w : World) (h0 : FRes v0) (hS : Std w) :
    Calls Tryd.prog 3 #[v0] w fun e w' => e = .returned (.bool true) ∧ Below w.heap.size w w' := by
  obtain ⟨a, rfl, _⟩ := h0
  by_cases h : a.Ok
  · exact text_yes a h w hS
  · exact text_no a h w hS

set_option maxHeartbeats 4000000 in
theorem read_long (l : List UInt8) (h : 200 < l.length) (hm : l.length ≤ maxLen) (w : World) (hS : Std w) :
    Calls Tryd.prog 4 #[.string (bs l)] w fun e w' => e = .returned (.bool true) ∧ Below w.heap.size w w' := by
  have hz := bs_size l
  unfold maxLen at hm
  go_enter Tryd.func4, Tryd.ntmps4
  go_wp2_with fail
  refine (awake _ hS).mono ?_; rintro e w1 ⟨rfl, hb1⟩; obtain ⟨hc1, hf1⟩ := bcell hb1; have hz1 := hb1.size; (try simp at hz1)
  go_wp2
  go_ret
  exact ⟨rfl, (by repeat' (first | exact Below.refl _ _ | assumption | exact And.left (by assumption) | refine Below.drew ?_ | refine below_drewN ?_ _ | refine Below.setCell ?_ (by first | (simp; done) | (simp; omega) | omega) _ | refine Below.alloc ?_ (by first | (simp; done) | (simp; omega) | omega) _ | refine after (by assumption) (by first | (simp; done) | (simp; omega) | omega) ?_))⟩

set_option maxHeartbeats 4000000 in
theorem read_none (l : List UInt8) (h : l.length ≤ 200) (hr : readU l = none) (w : World) (hS : Std w) :
    Calls Tryd.prog 4 #[.string (bs l)] w fun e w' => e = .returned (.bool true) ∧ Below w.heap.size w w' := by
  have hz := bs_size l
  have H1 := Lib.hid (fun w hS => uRead l (by omega) w hS)
  have H2 := Lib.hid (fun w => rRead l (by omega) w)
  rw [(readV_none hr).1, (readV_none hr).2] at H1 H2
  clear hr
  go_enter Tryd.func4, Tryd.ntmps4
  go_wp2_with fail
  refine (awake _ hS).mono ?_; rintro e w1 ⟨rfl, hb1⟩; obtain ⟨hc1, hf1⟩ := bcell hb1; have hz1 := hb1.size; (try simp at hz1)
  have hS1 := hS.on hb1
  go_wp2_with fail
  refine (H1.out _ hS1).mono ?_; rintro e w2 ⟨rfl, hb2⟩; obtain ⟨hc2, hf2⟩ := bcell hb2; have hz2 := hb2.size; (try simp at hz2)
  go_wp2_with fail
  refine (H2.out _).mono ?_; rintro e w3 ⟨rfl, hb3⟩; obtain ⟨hc3, hf3⟩ := bcell hb3; have hz3 := hb3.size; (try simp at hz3); have lt_3_w2 : w2.heap.size < w3.heap.size := (by omega)
  go_wp2
  go_ret
  exact ⟨by simp [V.zero], (by repeat' (first | exact Below.refl _ _ | assumption | exact And.left (by assumption) | refine Below.drew ?_ | refine below_drewN ?_ _ | refine Below.setCell ?_ (by first | (simp; done) | (simp; omega) | omega) _ | refine Below.alloc ?_ (by first | (simp; done) | (simp; omega) | omega) _ | refine after (by assumption) (by first | (simp; done) | (simp; omega) | omega) ?_))⟩

set_option maxHeartbeats 4000000 in
theorem read_some (l : List UInt8) (h : l.length ≤ 200) (a : V) (ha : a.Ok) (ht : utext a.ns = l) (hr : readV l = a ∧ readE l = 0) (w : World) (hS : Std w) :
    Calls Tryd.prog 4 #[.string (bs l)] w fun e w' => e = .returned (.bool true) ∧ Below w.heap.size w w' := by
  have hz := bs_size l
  have H1 := Lib.hid (fun w hS => uRead l (by omega) w hS)
  have H2 := Lib.hid (fun w => rRead l (by omega) w)
  rw [hr.1, hr.2] at H1 H2
  have H3 := Lib.hid (fun w hS => uText_yes a ha w hS)
  rw [ht] at H3
  have he : ((bs l).toList == (bs l).toList) = true := by simp
  clear hr ht ha
  go_enter Tryd.func4, Tryd.ntmps4
  go_wp2_with fail
  refine (awake _ hS).mono ?_; rintro e w1 ⟨rfl, hb1⟩; obtain ⟨hc1, hf1⟩ := bcell hb1; have hz1 := hb1.size; (try simp at hz1)
  have hS1 := hS.on hb1
  go_wp2_with fail
  refine (H1.out _ hS1).mono ?_; rintro e w2 ⟨rfl, hb2⟩; obtain ⟨hc2, hf2⟩ := bcell hb2; have hz2 := hb2.size; (try simp at hz2)
  have hS2 := hS1.on hb2
  go_wp2_with fail
  refine (H2.out _).mono ?_; rintro e w3 ⟨rfl, hb3⟩; obtain ⟨hc3, hf3⟩ := bcell hb3; have hz3 := hb3.size; (try simp at hz3); have lt_3_w2 : w2.heap.size < w3.heap.size := (by omega)
  go_wp2_with fail
  have hS3 : Std (w3.alloc (.cells #[.int .i64 a.cpu, .int .i64 a.mem, .int .i64 a.gpu, .int .i64 a.lic] 23)) := hS.on (by repeat' (first | exact Below.refl _ _ | assumption | exact And.left (by assumption) | refine Below.drew ?_ | refine below_drewN ?_ _ | refine Below.setCell ?_ (by first | (simp; done) | (simp; omega) | omega) _ | refine Below.alloc ?_ (by first | (simp; done) | (simp; omega) | omega) _ | refine after (by assumption) (by first | (simp; done) | (simp; omega) | omega) ?_))
  refine (H3.out _ hS3).mono ?_; rintro e w4 ⟨rfl, hb4⟩; obtain ⟨hc4, hf4⟩ := bcell hb4; have hz4 := hb4.size; (try simp at hz4); have lt_4_w2 : w2.heap.size < w4.heap.size := (by omega); have lt_4_w3 : w3.heap.size < w4.heap.size := (by omega)
  go_wp2
  go_ret
  exact ⟨by simp, (by repeat' (first | exact Below.refl _ _ | assumption | exact And.left (by assumption) | refine Below.drew ?_ | refine below_drewN ?_ _ | refine Below.setCell ?_ (by first | (simp; done) | (simp; omega) | omega) _ | refine Below.alloc ?_ (by first | (simp; done) | (simp; omega) | omega) _ | refine after (by assumption) (by first | (simp; done) | (simp; omega) | omega) ?_))⟩

theorem unitsRead_walk (v0 : Value) (w : World) (h0 : FStr v0) (hS : Std w) :
    Calls Tryd.prog 4 #[v0] w fun e w' => e = .returned (.bool true) ∧ Below w.heap.size w w' := by
  obtain ⟨s, rfl, hs⟩ := h0
  obtain ⟨l, rfl⟩ : ∃ l, s = bs l := ⟨s.data.toList, (bs_back s).symm⟩
  rw [bs_size] at hs
  by_cases hl : l.length ≤ 200
  · cases hr : readU l with
    | none => exact read_none l hl hr w hS
    | some ns =>
      obtain ⟨h1, h2, h3⟩ := readU_sound hr
      obtain ⟨o1, o2⟩ := vOf_ok h1 h2
      exact read_some l hl (vOf ns) o1 (by rw [o2, h3]) (readV_some hr) w hS
  · exact read_long l (by omega) hs w hS

end Go.Proofs.YtcnenpkmlindaaaDoor.W
