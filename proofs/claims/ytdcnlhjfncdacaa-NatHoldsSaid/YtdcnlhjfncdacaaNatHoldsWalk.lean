/-
  The walk of NatHolds: Hold of integers and of texts.
-/
import Derived.Test.YtdcnlhjfncdacaaWalks
import Derived.Test.YtdcnlhjfncdacaaFrame
namespace Go.Proofs.Ytdcnlhjfncdacaa.W
set_option linter.unusedVariables false
open Go.ChangeShapes Go.WideShapes Go.ChangeAt Go.RowKit

def holdI (n lo hi : Int) : Int := if n < lo then lo else if hi < n then hi else n
def ltS (a b : ByteArray) : Bool := Op.bytesLess a.toList b.toList
def gtS (a b : ByteArray) : Bool := !Op.bytesLess a.toList b.toList && !(a.toList == b.toList)
def holdS (n lo hi : ByteArray) : ByteArray := if ltS n lo then lo else if gtS n hi then hi else n

theorem hold_int (n lo hi : Int) (w : World) : Calls Try.prog 9 #[.int .i64 n, .int .i64 lo, .int .i64 hi] w fun e w' => e = .returned (.int .i64 (holdI n lo hi)) ∧ w = w' := by
  by_cases h : n < lo
  · have e := Lib.hid (show holdI n lo hi = lo by unfold holdI; rw [if_pos h])
    go_enter Try.func9, Try.ntmps9
    go_wp2
    go_ret
    exact ⟨by rw [e.out]; rfl, rfl⟩
  · by_cases g : hi < n
    · have e := Lib.hid (show holdI n lo hi = hi by unfold holdI; rw [if_neg h, if_pos g])
      go_enter Try.func9, Try.ntmps9
      go_wp2
      go_ret
      exact ⟨by rw [e.out]; rfl, rfl⟩
    · have e := Lib.hid (show holdI n lo hi = n by unfold holdI; rw [if_neg h, if_neg g])
      go_enter Try.func9, Try.ntmps9
      go_wp2
      go_ret
      exact ⟨by rw [e.out]; rfl, rfl⟩
theorem holdS_lo {n lo hi : ByteArray} (h : Op.bytesLess n.toList lo.toList = true) : holdS n lo hi = lo := if_pos h
theorem holdS_hi {n lo hi : ByteArray} (h : Op.bytesLess n.toList lo.toList = false) (g : (!Op.bytesLess n.toList hi.toList) = true ∧ (!(n.toList == hi.toList)) = true) : holdS n lo hi = hi := by
  unfold holdS ltS gtS; rw [h, g.1, g.2]; rfl
theorem holdS_n {n lo hi : ByteArray} (h : Op.bytesLess n.toList lo.toList = false) (g : (!Op.bytesLess n.toList hi.toList) = false ∨ (!(n.toList == hi.toList)) = false) : holdS n lo hi = n := by
  unfold holdS ltS gtS; rw [h]; rcases g with g | g <;> rw [g] <;> simp
theorem ret_str {a b : ByteArray} (h : a = b) : Ending.returned (.string a) = .returned (.string b) := by rw [h]
theorem hold_str (n lo hi : ByteArray) (w : World) : Calls Try.prog 8 #[.string n, .string lo, .string hi] w fun e w' => e = .returned (.string (holdS n lo hi)) ∧ w = w' := by
  go_enter Try.func8, Try.ntmps8
  go_wp2
  · go_ret
    exact ⟨ret_str (holdS_lo ‹_›).symm, rfl⟩
  · go_ret
    exact ⟨ret_str (holdS_hi ‹_› ‹_›).symm, rfl⟩
  · go_ret
    exact ⟨ret_str (holdS_n ‹_› ‹_›).symm, rfl⟩

/-- the nearest one, as the law looks for it -/
def wantI (n l0 l1 : Int) : Int := if n < l0 then l0 else if l1 < n then l1 else n

set_option maxHeartbeats 400000 in
theorem natHolds_walk (v0 : Value) (v1 : Value) (v2 : Value) (w : World) (F0 : FInt .i64 v0) (F1 : FAgg 2 (FInt .i64) v1) (F2 : FAgg 3 FStr v2) :
    Calls Try.prog 3 #[v0, v1, v2] w fun e w' => e = .returned (.bool true) ∧ Below w.heap.size w w' := by
  obtain ⟨n, rfl, wn⟩ := F0
  obtain ⟨_, _, rfl, ⟨l0, rfl, w0⟩, ⟨l1, rfl, w1⟩⟩ := F1.two
  obtain ⟨_, _, _, rfl, ⟨s0, rfl, _⟩, ⟨s1, rfl, _⟩, ⟨s2, rfl, _⟩⟩ := F2.three
  clear F1 F2
  have hb : Below w.heap.size w ((w.alloc (.cells #[.int .i64 l0, .int .i64 l1] 22)).alloc (.cells #[.string s0, .string s1, .string s2] 23)) :=
    ((Below.refl _ _).alloc (Nat.le_refl _) _).alloc (by simp) _
  have i1 : n < l0 → holdI n l0 l1 = l0 := fun h => if_pos h
  have i2 : ¬ n < l0 → l1 < n → holdI n l0 l1 = l1 := fun h g => by unfold holdI; rw [if_neg h, if_pos g]
  have i3 : ¬ n < l0 → ¬ l1 < n → holdI n l0 l1 = n := fun h g => by unfold holdI; rw [if_neg h, if_neg g]
  have key : ∃ m : Int, holdI n l0 l1 = m ∧ ((n < l0 ∧ m = l0) ∨ (¬ n < l0 ∧ l1 < n ∧ m = l1) ∨ (¬ n < l0 ∧ ¬ l1 < n ∧ m = n)) := by
    by_cases a : n < l0
    · exact ⟨_, i1 a, .inl ⟨a, rfl⟩⟩
    · by_cases b : l1 < n
      · exact ⟨_, i2 a b, .inr (.inl ⟨a, b, rfl⟩)⟩
      · exact ⟨_, i3 a b, .inr (.inr ⟨a, b, rfl⟩)⟩
  obtain ⟨m, hm, hor⟩ := key
  have hi := fun w => hold_int n l0 l1 w
  rw [hm] at hi
  have Hi := Lib.hid hi
  have hs := fun w => hold_str s0 s1 s2 w
  clear i1 i2 i3 hm hi
  have hss : (Op.bytesLess s0.toList s1.toList = true ∧ holdS s0 s1 s2 = s1) ∨ (Op.bytesLess s0.toList s1.toList = false ∧ (!Op.bytesLess s0.toList s2.toList) = true ∧ (!(s0.toList == s2.toList)) = true ∧ holdS s0 s1 s2 = s2) ∨
      (Op.bytesLess s0.toList s1.toList = false ∧ (!Op.bytesLess s0.toList s2.toList && !(s0.toList == s2.toList)) = false ∧ holdS s0 s1 s2 = s0) := by
    cases a : Op.bytesLess s0.toList s1.toList with
    | true => exact .inl ⟨rfl, holdS_lo a⟩
    | false =>
      cases b : (!Op.bytesLess s0.toList s2.toList && !(s0.toList == s2.toList)) with
      | true =>
        have b' : (!Op.bytesLess s0.toList s2.toList) = true ∧ (!(s0.toList == s2.toList)) = true := by simpa using b
        exact .inr (.inl ⟨rfl, b'.1, b'.2, holdS_hi a b'⟩)
      | false =>
        exact .inr (.inr ⟨rfl, rfl, holdS_n a (Bool.and_eq_false_iff.1 b)⟩)
  have fin : ∀ m x : Int, m = x → (m == x) = true := fun m x h => by simp [h]
  rcases hss with ⟨c0, e⟩ | ⟨c0, c1, c2, e⟩ | ⟨c0, c1, e⟩
  all_goals
    rw [e] at hs
    have Hs := Lib.hid hs
    clear hs e
  all_goals
    rcases hor with ⟨a, rfl⟩ | ⟨a, b, rfl⟩ | ⟨a, b, rfl⟩
    · by_cases b : l1 < n
      all_goals
        go_enter Try.func3, Try.ntmps3
        go_wp2_with (first | (go_at_call 7; refine (awake _).mono ?_; rintro e w' ⟨rfl, rfl⟩) | (go_at_call 8; refine (Hs.out _).mono ?_; rintro e w' ⟨rfl, rfl⟩) | (go_at_call 9; refine (Hi.out _).mono ?_; rintro e w' ⟨rfl, rfl⟩))
        go_ret
        exact ⟨rfl, hb⟩
    all_goals
      go_enter Try.func3, Try.ntmps3
      go_wp2_with (first | (go_at_call 7; refine (awake _).mono ?_; rintro e w' ⟨rfl, rfl⟩) | (go_at_call 8; refine (Hs.out _).mono ?_; rintro e w' ⟨rfl, rfl⟩) | (go_at_call 9; refine (Hi.out _).mono ?_; rintro e w' ⟨rfl, rfl⟩))
      go_ret
      exact ⟨rfl, hb⟩
end Go.Proofs.Ytdcnlhjfncdacaa.W
