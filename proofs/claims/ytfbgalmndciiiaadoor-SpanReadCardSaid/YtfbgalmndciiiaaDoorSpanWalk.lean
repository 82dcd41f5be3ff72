/-
  The walks of the laws of layer 4: awake, SpanText, SpanRead.
-/
import Derived.Test.YtfbgalmndciiiaaDoorSpanRead
import Derived.Test.YtfbgalmndciiiaaDoorFrameS
namespace Go.Proofs.YtfbgalmndciiiaaDoor.W
set_option linter.unusedVariables false
set_option linter.unusedSimpArgs false
open Go.ChangeShapes Go.WideShapes Go.ChangeAt Go.RowKit

set_option maxHeartbeats 4000000 in
theorem awake (w : World) (hS : Std w) :
    Calls Tryd.prog 5 #[] w fun e w' => e = .returned (.bool true) ∧ Below w.heap.size w w' := by
  have H1 := Lib.hid (fun w hS => text_yes 3723 (by omega) w hS)
  have H2 := Lib.hid (fun w hS => read (stext 7) (by have := stext_len (n := 7) (by omega); omega) w hS)
  rw [spanN_text (n := 7) (by omega), readOf_yes (N := 7) (l := stext 7) ⟨by omega, rfl⟩] at H2
  have he : ((bs (stext 3723)).toList == [49, 58, 48, 50, 58, 48, 51]) = true := by rw [Lib.toList_data, bs_list, ex_text]; rfl
  have e2 : bs (stext 7) = ⟨#[48, 58, 48, 48, 58, 48, 55]⟩ := by rw [ex_seven]; rfl
  rw [e2] at H2
  clear e2
  go_enter Tryd.func5, Tryd.ntmps5
  go_wp2_with fail
  refine (H1.out _ hS).mono ?_; rintro e w1 ⟨rfl, hb1⟩
  have hS1 := hS.on hb1
  have z1 := hb1.size
  go_wp2_with fail
  refine (H2.out _ hS1).mono ?_; rintro e w2 ⟨rfl, hb2⟩
  go_wp2
  go_ret
  exact ⟨rfl, after hb2 (by omega) hb1⟩

set_option maxHeartbeats 4000000 in
theorem spanText_neg (n : Int) (h : n < 0) (w : World) (hS : Std w) :
    Calls Tryd.prog 3 #[.int .i64 n] w fun e w' => e = .returned (.bool true) ∧ Below w.heap.size w w' := by
  have HA := Lib.hid awake
  have H1 := Lib.hid (fun w => parts_no n h w)
  have H2 := Lib.hid (fun w => rparts_no n h w)
  have H3 := Lib.hid (fun w => text_no n (Or.inl h) w)
  have he : ((bs []).toList == []) = true := by rw [Lib.toList_data, bs_list]; rfl
  have he' := empty_nil
  go_enter Tryd.func3, Tryd.ntmps3
  go_wp2_with fail
  refine (HA.out _ hS).mono ?_; rintro e w1 ⟨rfl, hb1⟩
  have hS1 := hS.on hb1
  have z1 := hb1.size
  go_wp2_with fail
  refine (H1.out _).mono ?_; rintro e w2 ⟨rfl, rfl⟩
  go_wp2_with fail
  refine (H2.out _).mono ?_; rintro e w2 ⟨rfl, rfl⟩
  go_wp2_with fail
  refine (H3.out _).mono ?_; rintro e w2 ⟨rfl, hb2⟩
  go_wp2
  go_ret
  exact ⟨rfl, after hb2 (by omega) hb1⟩
set_option maxHeartbeats 4000000 in
theorem spanText_big (n : Nat) (h : 65536 < n) (hn : n ≤ 9223372036854775807) (w : World) (hS : Std w) :
    Calls Tryd.prog 3 #[.int .i64 n] w fun e w' => e = .returned (.bool true) ∧ Below w.heap.size w w' := by
  have HA := Lib.hid awake
  have H1 := Lib.hid (fun w => parts_yes n hn w)
  have H2 := Lib.hid (fun w => rparts_yes n hn w)
  have H3 := Lib.hid (fun w => text_no (n : Int) (Or.inr (by omega)) w)
  have he : ((bs []).toList == []) = true := by rw [Lib.toList_data, bs_list]; rfl
  have he' := empty_nil
  generalize n / 3600 = a at H1 H2
  generalize n % 3600 / 60 = b at H1 H2
  generalize n % 60 = c at H1 H2
  go_enter Tryd.func3, Tryd.ntmps3
  go_wp2_with fail
  refine (HA.out _ hS).mono ?_; rintro e w1 ⟨rfl, hb1⟩
  have hS1 := hS.on hb1
  have z1 := hb1.size
  go_wp2_with fail
  refine (H1.out _).mono ?_; rintro e w2 ⟨rfl, rfl⟩
  go_wp2_with fail
  refine (H2.out _).mono ?_; rintro e w2 ⟨rfl, rfl⟩
  go_wp2_with fail
  refine (H3.out _).mono ?_; rintro e w2 ⟨rfl, hb2⟩
  go_wp2
  go_ret
  exact ⟨rfl, after hb2 (by omega) hb1⟩
set_option maxHeartbeats 4000000 in
theorem spanText_yes (n : Nat) (h : n ≤ 65536) (w : World) (hS : Std w) :
    Calls Tryd.prog 3 #[.int .i64 n] w fun e w' => e = .returned (.bool true) ∧ Below w.heap.size w w' := by
  have HA := Lib.hid awake
  have H1 := Lib.hid (fun w => parts_yes n (by omega) w)
  have H2 := Lib.hid (fun w => rparts_yes n (by omega) w)
  have H3 := Lib.hid (fun w hS => text_yes n h w hS)
  have H4 := Lib.hid (fun w hS => read (stext n) (by have := stext_len h; omega) w hS)
  rw [spanN_text h, readOf_yes (N := n) (l := stext n) ⟨h, rfl⟩] at H4
  have H5 := Lib.hid (fun w => rtext n h w)
  have he : ((bs (stext n)).toList == (bs (stext n)).toList) = true := by rw [eq_bs]; exact decide_eq_true rfl
  generalize stext n = tx at H3 H4 H5 he
  generalize n / 3600 = a at H1 H2
  generalize n % 3600 / 60 = b at H1 H2
  generalize n % 60 = c at H1 H2
  go_enter Tryd.func3, Tryd.ntmps3
  go_wp2_with fail
  refine (HA.out _ hS).mono ?_; rintro e w1 ⟨rfl, hb1⟩
  have hS1 := hS.on hb1
  have z1 := hb1.size
  go_wp2_with fail
  refine (H1.out _).mono ?_; rintro e w2 ⟨rfl, rfl⟩
  go_wp2_with fail
  refine (H2.out _).mono ?_; rintro e w2 ⟨rfl, rfl⟩
  go_wp2_with fail
  refine (H3.out _ hS1).mono ?_; rintro e w2 ⟨rfl, hb2⟩
  have hS2 := hS1.on hb2
  have z2 := hb2.size
  go_wp2_with fail
  refine (H4.out _ hS2).mono ?_; rintro e w3 ⟨rfl, hb3⟩
  have z3 := hb3.size
  go_wp2_with fail
  refine (H5.out _).mono ?_; rintro e w4 ⟨rfl, hb4⟩
  go_wp2
  go_ret
  exact ⟨by simp, after hb4 (by omega) (after hb3 (by omega) (after hb2 (by omega) hb1))⟩

theorem spanText_walk (v0 : Value) (w : World) (h0 : FInt .i64 v0) (hS : Std w) :
    Calls Tryd.prog 3 #[v0] w fun e w' => e = .returned (.bool true) ∧ Below w.heap.size w w' := by
  obtain ⟨n, rfl, hwf⟩ := h0
  obtain ⟨h1, h2⟩ := bounds_i64 hwf
  by_cases hn : n < 0
  · exact spanText_neg n hn w hS
  · obtain ⟨m, rfl⟩ : ∃ m : Nat, n = (m : Int) := ⟨n.toNat, by omega⟩
    by_cases hb : m ≤ 65536
    · exact spanText_yes m hb w hS
    · exact spanText_big m (by omega) (by omega) w hS

set_option maxHeartbeats 4000000 in
theorem spanRead_no (l : List UInt8) (hl : l.length ≤ 140737488355328) (hr : readOf (spanN l) l = (0, 11)) (w : World) (hS : Std w) :
    Calls Tryd.prog 4 #[.string (bs l)] w fun e w' => e = .returned (.bool true) ∧ Below w.heap.size w w' := by
  have HA := Lib.hid awake
  have H1 := Lib.hid (fun w hS => read l hl w hS)
  have H2 := Lib.hid (fun w => rread l (by omega) w)
  rw [hr] at H1
  rw [← read_same, hr] at H2
  clear hr
  go_enter Tryd.func4, Tryd.ntmps4
  go_wp2_with fail
  refine (HA.out _ hS).mono ?_; rintro e w1 ⟨rfl, hb1⟩
  have hS1 := hS.on hb1
  have z1 := hb1.size
  go_wp2_with fail
  refine (H1.out _ hS1).mono ?_; rintro e w2 ⟨rfl, hb2⟩
  have z2 := hb2.size
  go_wp2_with fail
  refine (H2.out _).mono ?_; rintro e w3 ⟨rfl, hb3⟩
  go_wp2
  go_ret
  exact ⟨rfl, after hb3 (by omega) (after hb2 (by omega) hb1)⟩
set_option maxHeartbeats 4000000 in
theorem spanRead_yes (l : List UInt8) (hl : l.length ≤ 140737488355328) (n : Nat) (hn : n ≤ 65536) (ht : stext n = l) (hr : readOf (spanN l) l = (n, 0)) (w : World) (hS : Std w) :
    Calls Tryd.prog 4 #[.string (bs l)] w fun e w' => e = .returned (.bool true) ∧ Below w.heap.size w w' := by
  have HA := Lib.hid awake
  have H1 := Lib.hid (fun w hS => read l hl w hS)
  have H2 := Lib.hid (fun w => rread l (by omega) w)
  have H3 := Lib.hid (fun w hS => text_yes n hn w hS)
  rw [hr] at H1
  rw [← read_same, hr] at H2
  rw [ht] at H3
  have he : ((bs l).toList == (bs l).toList) = true := by rw [eq_bs]; exact decide_eq_true rfl
  clear hr ht
  go_enter Tryd.func4, Tryd.ntmps4
  go_wp2_with fail
  refine (HA.out _ hS).mono ?_; rintro e w1 ⟨rfl, hb1⟩
  have hS1 := hS.on hb1
  have z1 := hb1.size
  go_wp2_with fail
  refine (H1.out _ hS1).mono ?_; rintro e w2 ⟨rfl, hb2⟩
  have hS2 := hS1.on hb2
  have z2 := hb2.size
  go_wp2_with fail
  refine (H2.out _).mono ?_; rintro e w3 ⟨rfl, hb3⟩
  have hS3 := hS2.on hb3
  have z3 := hb3.size
  go_wp2_with fail
  refine (H3.out _ hS3).mono ?_; rintro e w4 ⟨rfl, hb4⟩
  go_wp2
  go_ret
  exact ⟨by simp, after hb4 (by omega) (after hb3 (by omega) (after hb2 (by omega) hb1))⟩

theorem spanRead_walk (v0 : Value) (w : World) (h0 : FStrR v0) (hS : Std w) :
    Calls Tryd.prog 4 #[v0] w fun e w' => e = .returned (.bool true) ∧ Below w.heap.size w w' := by
  obtain ⟨s, rfl, hs⟩ := h0
  obtain ⟨l, rfl⟩ : ∃ l, s = bs l := ⟨s.data.toList, (bs_back s).symm⟩
  rw [bs_size] at hs
  by_cases h : spanN l ≤ 65536 ∧ stext (spanN l) = l
  · exact spanRead_yes l hs _ h.1 h.2 (readOf_yes h) w hS
  · exact spanRead_no l hs (readOf_no h) w hS

end Go.Proofs.YtfbgalmndciiiaaDoor.W
