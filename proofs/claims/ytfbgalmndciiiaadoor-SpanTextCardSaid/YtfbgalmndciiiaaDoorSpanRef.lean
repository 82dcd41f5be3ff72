/-
  Contracts of span.Parts and of the reference of layer 4: Parts, Digits, two, Text.
-/
import Derived.Test.YtfbgalmndciiiaaDoorSpanSpec
import Derived.Test.YtfbgalmndciiiaaDoorVec
import Derived.Lib.QuietBelow
namespace Go.Proofs.YtfbgalmndciiiaaDoor.W
set_option linter.unusedVariables false
set_option linter.unusedSimpArgs false
open Go.ChangeShapes Go.WideShapes Go.ChangeAt Go.RowKit

/-- a contract that ends in 'Below', in a world of the class of a region that reads -/
theorem quiet_below {P : Program} {f : FuncId} {args : Array Value} {w : World} {d : Nat} {os : Array Obj} {v : Value}
    (h : ∀ w', Calls P f args w' fun e w'' => e = .returned v ∧ Below w'.heap.size w' w'') : Calls P f args (Go.Sort.grow (redrawn w d) os) fun e w'' => e = .returned v ∧ ∃ p : Regrown, w'' = Go.Sort.grow (redrawn w p.d) p.os :=
  Calls.regrown_of (h _)

theorem parts_no (n : Int) (h : n < 0) (w : World) :
    Calls Tryd.prog 6 #[.int .i64 n] w fun e w' => e = .returned (.tuple #[.int .i64 0, .int .i64 0, .int .i64 0]) ∧ w = w' := by
  go_enter Tryd.func6, Tryd.ntmps6
  go_wp2
  go_ret3
  exact ⟨rfl, rfl⟩
theorem parts_yes (n : Nat) (h : n ≤ 9223372036854775807) (w : World) :
    Calls Tryd.prog 6 #[.int .i64 n] w fun e w' => e = .returned (.tuple #[.int .i64 ((n / 3600 : Nat) : Int), .int .i64 ((n % 3600 / 60 : Nat) : Int), .int .i64 ((n % 60 : Nat) : Int)]) ∧ w = w' := by
  go_enter Tryd.func6, Tryd.ntmps6
  go_wp2
  go_ret3
  exact ⟨by simp, rfl⟩

theorem rparts_no (n : Int) (h : n < 0) (w : World) :
    Calls Tryd.prog 7 #[.int .i64 n] w fun e w' => e = .returned (.tuple #[.int .i64 0, .int .i64 0, .int .i64 0]) ∧ w = w' := by
  go_enter Tryd.func7, Tryd.ntmps7
  go_wp2
  go_ret3
  exact ⟨rfl, rfl⟩
theorem rparts_yes (n : Nat) (h : n ≤ 9223372036854775807) (w : World) :
    Calls Tryd.prog 7 #[.int .i64 n] w fun e w' => e = .returned (.tuple #[.int .i64 ((n / 3600 : Nat) : Int), .int .i64 ((n % 3600 / 60 : Nat) : Int), .int .i64 ((n % 60 : Nat) : Int)]) ∧ w = w' := by
  have e : (n : Int) % 3600 - 60 * ((n : Int) % 3600 / 60) = ((n % 60 : Nat) : Int) := by omega
  go_enter Tryd.func7, Tryd.ntmps7
  go_wp2
  go_ret3
  exact ⟨by simp, rfl⟩

theorem digits_size (a b : List UInt8) : (bs a ++ bs b).size = a.length + b.length := by rw [bs_app, bs_size, List.length_append]

/-- where the loop stands: acc is written, m is left -/
def DigSt (n0 m : Nat) (acc : List UInt8) : Prop := (acc = [] ∧ m = n0) ∨ (acc ≠ [] ∧ (m = 0 → Lib.decDigits n0 = acc) ∧ (0 < m → Lib.decDigits n0 = Lib.decDigits m ++ acc))
theorem DigSt.step {n0 m : Nat} {acc : List UInt8} (h : DigSt n0 m acc) (hm : acc = [] ∨ 0 < m) : DigSt n0 (m / 10) (UInt8.ofNat (48 + m % 10) :: acc) := by
  have key : Lib.decDigits n0 = Lib.decDigits m ++ acc := by
    rcases h with ⟨h1, h2⟩ | ⟨h1, h2, h3⟩
    · rw [h1, h2, List.append_nil]
    · rcases hm with hm | hm
      · exact absurd hm h1
      · exact h3 hm
  refine Or.inr ⟨by simp, ?_, ?_⟩
  · intro hz
    have hlt : m < 10 := by omega
    rw [key, Lib.decDigits_one hlt, show m % 10 = m by omega]
    rfl
  · intro hp
    rw [key]
    conv => lhs; rw [Lib.decDigits, dif_neg (by omega)]
    simp
theorem DigSt.fin {n0 m : Nat} {acc : List UInt8} (h : DigSt n0 m acc) (h1 : acc ≠ []) (hm : m = 0) : Lib.decDigits n0 = acc := by
  rcases h with ⟨h2, _⟩ | ⟨_, h2, _⟩
  · exact absurd h2 h1
  · exact h2 hm

theorem conv_byte (w : World) (d : UInt8) (v : Int) (hv : v = (d.toNat : Int)) : (convert 41 9 (.slice (some ⟨w.heap.size, 0, none⟩) 1 1)).run Tryd.prog (w.alloc (.cells #[.int .u8 v] 5)) = .ok (.string (bs [d])) (w.alloc (.cells #[.int .u8 v] 5)) := by
  subst hv
  refine run_convert_bytes_back (P := Tryd.prog) (w.alloc (.cells #[.int .u8 (d.toNat : Int)] 5)) 41 9 5 ⟨w.heap.size, 0, none⟩ 1 [d] Tryd.underlying41 Tryd.underlying5 Tryd.underlying9 ?_
  intro j hj
  have : j = 0 := by simpa using hj
  subst this
  have e : (⟨w.heap.size, 0, none⟩ : Addr).add 0 = ⟨w.heap.size, 0, none⟩ := by simp [Addr.add]
  rw [e]
  simp [World.cell?_alloc_new]
theorem add_bs (w : World) (a b : List UInt8) (h : a.length + b.length ≤ 9223372036854775807) : (Op.stringOp .add (bs a) (bs b)).run Tryd.prog w = .ok (.string (bs (a ++ b))) w := by
  rw [run_string_add_sum w _ _ (by rw [bs_size, bs_size]; omega), bs_app]
theorem empty_nil : (bs []).toList.isEmpty = true := by rw [Lib.toList_data, bs_list]; rfl
theorem empty_cons (c : UInt8) (t : List UInt8) : (bs (c :: t)).toList.isEmpty = false := by rw [Lib.toList_data, bs_list]; rfl

set_option maxHeartbeats 2000000 in
set_option maxRecDepth 100000 in
theorem digits (n0 : Nat) (hn0 : n0 ≤ 1048576) (w : World) :
    Calls Tryd.prog 16 #[.int .i64 n0] w fun e w' => e = .returned (.string (bs (Lib.decDigits n0))) ∧ Below w.heap.size w w' := by
  go_enter Tryd.func16, Tryd.ntmps16
  go_wp2
  go_loopw [0, 3] (fun v0 v3 wr => ∃ (m : Nat) (acc : List UInt8), v0 = .int .i64 m ∧ v3 = .string (bs acc) ∧ m ≤ 1048576 ∧ acc.length ≤ 4294967280 - 8 * m ∧ Hid (DigSt n0 m acc) ∧ Below w.heap.size w wr) (fun v0 v3 wr => 2 * (intOf v0).toNat + (match v3 with | .string s => if s.toList.isEmpty then 1 else 0 | _ => 0))
  case atStart => exact ⟨n0, [], rfl, rfl, hn0, by simp, Lib.hid (Or.inl ⟨rfl, rfl⟩), Below.refl _ _⟩
  case round =>
    obtain ⟨m, acc, rfl, rfl, hm, hacc, HS, hbw⟩ := hrel
    obtain ⟨d, hd⟩ : ∃ d, d = UInt8.ofNat (48 + m % 10) := ⟨_, rfl⟩
    have hx : (48 : Int) + (m : Int) % 10 = (d.toNat : Int) := by rw [hd, dig_toNat (by omega)]; omega
    have hcv : ∀ w' : World, _ := fun w' => conv_byte w' _ _ hx
    have hadd : ∀ w' : World, _ := fun w' => add_bs w' [d] acc (by simp; omega)
    simp only [List.singleton_append] at hadd
    have hem := empty_cons d acc
    have hst : (acc = [] ∨ 0 < m) → DigSt n0 (m / 10) (d :: acc) := fun h => by rw [hd]; exact HS.out.step h
    have hfin := fun h h' => HS.out.fin (acc := acc) h h'
    clear hx hd HS
    cases acc with
    | nil =>
      have HS2 := Lib.hid (hst (Or.inl rfl))
      have he := empty_nil
      clear hst hfin
      by_cases h0 : 0 < m
      · go_wp2
        go_roundw
        case rel => exact ⟨m / 10, _, by go_num, rfl, by omega, by simp; omega, HS2, hbw.alloc hbw.size _⟩
        case measure => simp [intOf, hem, he]; omega
      · go_wp2
        go_roundw
        case rel => exact ⟨m / 10, _, by go_num, rfl, by omega, by simp; omega, HS2, hbw.alloc hbw.size _⟩
        case measure => simp [intOf, hem, he]; omega
    | cons c t =>
      have he := empty_cons c t
      by_cases h0 : 0 < m
      · have HS2 := Lib.hid (hst (Or.inr h0))
        clear hst hfin
        go_wp2
        go_roundw
        case rel => exact ⟨m / 10, _, by go_num, rfl, by omega, by simp at hacc ⊢; omega, HS2, hbw.alloc hbw.size _⟩
        case measure => simp [intOf, hem, he]; omega
      · have HF := Lib.hid (hfin (by simp) (by omega))
        clear hst hfin
        go_wp2
        go_ret
        exact ⟨by rw [HF.out]; rfl, hbw⟩



set_option maxHeartbeats 1000000 in
theorem rtwo (m : Nat) (h : m < 60) (w : World) :
    Calls Tryd.prog 17 #[.int .i64 m] w fun e w' => e = .returned (.string (bs (dig2 m))) ∧ Below w.heap.size w w' := by
  have HD := Lib.hid (digits m (by omega))
  by_cases h10 : m < 10
  · have ha : ∀ w', (Op.stringOp .add ⟨#[48]⟩ (bs (Lib.decDigits m))).run Tryd.prog w' = .ok (.string (bs (dig2 m))) w' := fun w' => by
      have := add_bs w' [48] (Lib.decDigits m) (by rw [Lib.decDigits_one h10]; simp)
      rw [Lib.decDigits_one h10] at this ⊢
      unfold dig2
      rw [show m / 10 = 0 by omega, show m % 10 = m by omega]
      exact this
    go_enter Tryd.func17, Tryd.ntmps17
    go_wp2_with fail
    refine (HD.out _).mono ?_; rintro e w1 ⟨rfl, hb1⟩
    go_wp2
    go_ret
    exact ⟨rfl, hb1⟩
  · have hd : Lib.decDigits m = dig2 m := Lib.decDigits_two h10 (by omega)
    rw [hd] at HD
    go_enter Tryd.func17, Tryd.ntmps17
    go_wp2_with fail
    refine (HD.out _).mono ?_; rintro e w1 ⟨rfl, hb1⟩
    go_wp2
    go_ret
    exact ⟨rfl, hb1⟩

set_option maxHeartbeats 4000000 in
set_option maxRecDepth 100000 in
theorem rtext (n : Nat) (h : n ≤ 65536) (w : World) :
    Calls Tryd.prog 10 #[.int .i64 n] w fun e w' => e = .returned (.string (bs (stext n))) ∧ Below w.heap.size w w' := by
  have HP := Lib.hid (fun w => rparts_yes n (by omega) w)
  obtain ⟨hh, ehh⟩ : ∃ hh, hh = n / 3600 := ⟨_, rfl⟩
  obtain ⟨mm, emm⟩ : ∃ mm, mm = n % 3600 / 60 := ⟨_, rfl⟩
  obtain ⟨rr, err⟩ : ∃ rr, rr = n % 60 := ⟨_, rfl⟩
  rw [← ehh, ← emm, ← err] at HP
  obtain ⟨dd, edd⟩ : ∃ dd, dd = Lib.decDigits hh := ⟨_, rfl⟩
  have HD : ∀ w', _ := fun w' => digits hh (by omega) w'
  have HM : ∀ w', _ := fun w' => rtwo mm (by omega) w'
  have HR : ∀ w', _ := fun w' => rtwo rr (by omega) w'
  rw [← edd] at HD
  have hld : dd.length ≤ 2 := by
    rw [edd]
    rcases dec_small (h := hh) (by omega) with ⟨_, e⟩ | ⟨_, e⟩ <;> rw [e] <;> simp
  obtain ⟨d1, ed1⟩ : ∃ d1, d1 = dig2 mm := ⟨_, rfl⟩
  obtain ⟨d2, ed2⟩ : ∃ d2, d2 = dig2 rr := ⟨_, rfl⟩
  have hl1 : d1.length = 2 := by rw [ed1]; rfl
  have hl2 : d2.length = 2 := by rw [ed2]; rfl
  rw [← ed1] at HM
  rw [← ed2] at HR
  obtain ⟨x1, hx1⟩ : ∃ x1, x1 = dd ++ [58] := ⟨_, rfl⟩
  obtain ⟨x2, hx2⟩ : ∃ x2, x2 = x1 ++ d1 := ⟨_, rfl⟩
  obtain ⟨x3, hx3⟩ : ∃ x3, x3 = x2 ++ [58] := ⟨_, rfl⟩
  obtain ⟨x4, hx4⟩ : ∃ x4, x4 = x3 ++ d2 := ⟨_, rfl⟩
  have m1 : x1.length ≤ 3 := by rw [hx1, List.length_append, List.length_singleton]; omega
  have m2 : x2.length ≤ 5 := by rw [hx2, List.length_append]; omega
  have m3 : x3.length ≤ 6 := by rw [hx3, List.length_append, List.length_singleton]; omega
  have hs : Hid (stext n = x4) := Lib.hid (by
    unfold stext pairL
    rw [← ehh, ← emm, ← err, ← edd, ← ed1, ← ed2, hx4, hx3, hx2, hx1]
    simp)
  have ha1 : ∀ w', (Op.stringOp .add (bs dd) ⟨#[58]⟩).run Tryd.prog w' = .ok (.string (bs x1)) w' := fun w' => by rw [hx1]; exact add_bs w' dd [58] (by simp; omega)
  have ha2 : ∀ w', (Op.stringOp .add (bs x1) (bs d1)).run Tryd.prog w' = .ok (.string (bs x2)) w' := fun w' => by rw [hx2]; exact add_bs w' x1 d1 (by omega)
  have ha3 : ∀ w', (Op.stringOp .add (bs x2) ⟨#[58]⟩).run Tryd.prog w' = .ok (.string (bs x3)) w' := fun w' => by rw [hx3]; exact add_bs w' x2 [58] (by simp; omega)
  have ha4 : ∀ w', (Op.stringOp .add (bs x3) (bs d2)).run Tryd.prog w' = .ok (.string (bs x4)) w' := fun w' => by rw [hx4]; exact add_bs w' x3 d2 (by omega)
  clear hx1 hx2 hx3 hx4 ed1 ed2 edd emm err ehh
  go_enter Tryd.func10, Tryd.ntmps10
  go_wp2_with fail
  refine (HP.out _).mono ?_; rintro e w1 ⟨rfl, rfl⟩
  go_wp2_with fail
  refine (HD _).mono ?_; rintro e w2 ⟨rfl, hb2⟩
  go_wp2_with fail
  refine (HM _).mono ?_; rintro e w3 ⟨rfl, hb3⟩
  go_wp2_with fail
  refine (HR _).mono ?_; rintro e w4 ⟨rfl, hb4⟩
  have z2 := hb2.size
  have z3 := hb3.size
  have hb5 : Below w.heap.size w w4 := after hb4 (by omega) (after hb3 (by omega) hb2)
  go_wp2
  go_ret
  exact ⟨by rw [hs.out]; rfl, hb5⟩

end Go.Proofs.YtfbgalmndciiiaaDoor.W
