/-
  Contract of drayageref04.Read: a text's length, byte by byte; then it is looked whether that is its text.
-/
import Derived.Test.YtfbgalmndciiiaaDoorSpanRef
namespace Go.Proofs.YtfbgalmndciiiaaDoor.W
set_option linter.unusedVariables false
set_option linter.unusedSimpArgs false
open Go.ChangeShapes Go.WideShapes Go.ChangeAt Go.RowKit

theorem eq_bs (a b : List UInt8) : ((bs a).toList == (bs b).toList) = decide (a = b) := by
  rw [Lib.toList_data, Lib.toList_data, bs_list, bs_list]
  by_cases h : a = b <;> simp [h]
theorem bs_at (l : List UInt8) (i : Nat) (h : i < l.length) (h' : i < (bs l).size) : (bs l)[i]'h' = l[i] := by
  simp [bs, ByteArray.getElem_eq_getElem_data]
  rfl
theorem foldR_snoc (l : List UInt8) (k : Nat) (h : k < l.length) : foldR (l.take (k + 1)) = stepR (foldR (l.take k)) (l[k]'h) := by
  unfold foldR
  rw [List.take_add_one, List.getElem?_eq_getElem h, Option.toList_some, List.foldl_append, List.foldl_cons, List.foldl_nil]
theorem pow60 {k : Nat} (h : k ≤ 8) : 60 ^ k ≤ 167961600000000 := by
  have h1 : 60 ^ k ≤ 60 ^ 8 := Nat.pow_le_pow_right (by omega) h
  have h2 : 60 ^ 8 = 167961600000000 := by decide
  omega
theorem pow60' {k : Nat} (h : k ≤ 9) : 60 ^ k ≤ 10077696000000000 := by
  have h1 : 60 ^ k ≤ 60 ^ 9 := Nat.pow_le_pow_right (by omega) h
  have h2 : 60 ^ 9 = 10077696000000000 := by decide
  omega

set_option maxHeartbeats 4000000 in
set_option maxRecDepth 100000 in
theorem rread (l : List UInt8) (hl : l.length ≤ 140737488355328) (w : World) :
    Calls Tryd.prog 11 #[.string (bs l)] w fun e w' => e = .returned (.tuple #[.int .i64 ((readOf (refN l) l).1 : Nat), .int .i64 ((readOf (refN l) l).2 : Nat)]) ∧ Below w.heap.size w w' := by
  have hz := bs_size l
  have HT := Lib.hid (fun n hn w => rtext n hn w)
  go_enter Tryd.func11, Tryd.ntmps11
  go_wp2_with fail
  go_loop [4, 5, 6] (fun v4 v5 v6 => ∃ (k n p : Nat), v4 = .int .i64 n ∧ v5 = .int .i64 p ∧ v6 = .int .i64 k ∧ k ≤ l.length ∧ k ≤ 9 ∧ n + p + 1 ≤ 60 ^ k ∧ Hid ((n, p) = foldR (l.take k))) (fun _ _ v6 => 9 - (intOf v6).toNat)
  case atStart => exact ⟨0, 0, 0, rfl, rfl, rfl, by omega, by omega, by decide, Lib.hid rfl⟩
  case round =>
    obtain ⟨k, n, p, rfl, rfl, rfl, hk, hk9, hb, HF⟩ := hrel
    have hq' := pow60' hk9
    -- what comes of it where the loop ends here
    have fin : (k = l.length ∨ k = 9) → refN l = n + p := by
      intro h
      have e : l.take 9 = l.take k := by
        rcases h with h | h
        · rw [List.take_of_length_le (by omega), List.take_of_length_le (by omega)]
        · rw [h]
      unfold refN
      rw [e, ← HF.out]
    by_cases hp : k < l.length
    · by_cases h9 : k < 9
      · have hp' : k < (bs l).size := by omega
        have hc256 : (l[k]'hp).toNat < 256 := (l[k]'hp).toNat_lt
        obtain ⟨x, hx⟩ : ∃ x : Nat, x = (l[k]'hp).toNat := ⟨_, rfl⟩
        have hix : ∀ w, (Instr.index 9 (.string (bs l)) (.int .i64 (k : Int))).run Tryd.prog w = .ok (.int .u8 (x : Int)) w := fun w => by
          rw [run_index_string _ _ _ _ _ Tryd.underlying9, dif_pos ⟨by omega, by omega⟩]
          have : ∀ j (h : j < (bs l).size), j = k → (bs l)[j].toNat = x := fun j h e => by subst e; rw [hx]; exact congrArg UInt8.toNat (bs_at l j hp h)
          rw [this _ _ (by omega)]
        have hs := foldR_snoc l k hp
        rw [← HF.out] at hs
        unfold stepR at hs
        rw [← hx] at hc256 hs
        have hq := pow60 (k := k) (by omega)
        have hq1 : 60 ^ (k + 1) = 60 * 60 ^ k := by rw [Nat.pow_succ, Nat.mul_comm]
        generalize 60 ^ k = q at hb hq hq1 hq'
        clear hx fin HF
        by_cases h58 : x = 58
        · rw [if_pos h58] at hs
          have HF2 := Lib.hid hs.symm
          clear hs
          subst h58
          go_wp2
          go_round
          case rel => exact ⟨k + 1, (n + p) * 60, 0, by go_num, by go_num, by go_num, by omega, by omega, by omega, HF2⟩
          case measure => simp [intOf]; omega
        · rw [if_neg h58] at hs
          have HF2 := Lib.hid hs.symm
          clear hs
          go_wp2
          go_round
          case rel => exact ⟨k + 1, n, 10 * p + x % 48 % 10, by go_num, by go_num, by go_num, by omega, by omega, by omega, HF2⟩
          case measure => simp [intOf]; omega
      · have F := Lib.hid (fin (Or.inr (by omega)))
        clear fin HF
        obtain ⟨N, hN⟩ : ∃ N, N = n + p := ⟨_, rfl⟩
        have F' : refN l = N := F.out.trans hN.symm
        have hNi : (n : Int) + (p : Int) = (N : Int) := by omega
        by_cases hbig : N ≤ 65536
        · have HT2 := fun w => HT.out N hbig w
          have he : ((bs (stext N)).toList == (bs l).toList) = decide (stext N = l) := eq_bs _ _
          by_cases heq : stext N = l
          · have hr := Lib.hid (show readOf (refN l) l = (N, 0) by rw [F']; exact readOf_yes ⟨hbig, heq⟩)
            rw [decide_eq_true heq] at he
            clear heq hN F F' hb HT
            go_wp2_with fail
            refine (HT2 _).mono ?_; rintro e w1 ⟨rfl, hb1⟩
            go_wp2
            go_ret2
            exact ⟨by rw [hr.out]; rfl, hb1⟩
          · have hr := Lib.hid (show readOf (refN l) l = (0, 11) by rw [F']; exact readOf_no (fun x => heq x.2))
            rw [decide_eq_false heq] at he
            clear heq hN F F' hb HT
            go_wp2_with fail
            refine (HT2 _).mono ?_; rintro e w1 ⟨rfl, hb1⟩
            go_wp2
            go_ret2
            exact ⟨by rw [hr.out]; rfl, hb1⟩
        · have hr := Lib.hid (show readOf (refN l) l = (0, 11) by rw [F']; exact readOf_no (fun x => hbig x.1))
          have hg : 65536 < N ∧ N ≤ 10077696000000000 := by omega
          clear hN F F' hb HT
          go_wp2
          go_ret2
          exact ⟨by rw [hr.out]; rfl, Below.refl _ _⟩
    · have F := Lib.hid (fin (Or.inl (by omega)))
      clear fin HF
      obtain ⟨N, hN⟩ : ∃ N, N = n + p := ⟨_, rfl⟩
      have F' : refN l = N := F.out.trans hN.symm
      have hNi : (n : Int) + (p : Int) = (N : Int) := by omega
      by_cases hbig : N ≤ 65536
      · have HT2 := fun w => HT.out N hbig w
        have he : ((bs (stext N)).toList == (bs l).toList) = decide (stext N = l) := eq_bs _ _
        by_cases heq : stext N = l
        · have hr := Lib.hid (show readOf (refN l) l = (N, 0) by rw [F']; exact readOf_yes ⟨hbig, heq⟩)
          rw [decide_eq_true heq] at he
          clear heq hN F F' hb HT
          go_wp2_with fail
          refine (HT2 _).mono ?_; rintro e w1 ⟨rfl, hb1⟩
          go_wp2
          go_ret2
          exact ⟨by rw [hr.out]; rfl, hb1⟩
        · have hr := Lib.hid (show readOf (refN l) l = (0, 11) by rw [F']; exact readOf_no (fun x => heq x.2))
          rw [decide_eq_false heq] at he
          clear heq hN F F' hb HT
          go_wp2_with fail
          refine (HT2 _).mono ?_; rintro e w1 ⟨rfl, hb1⟩
          go_wp2
          go_ret2
          exact ⟨by rw [hr.out]; rfl, hb1⟩
      · have hr := Lib.hid (show readOf (refN l) l = (0, 11) by rw [F']; exact readOf_no (fun x => hbig x.1))
        have hg : 65536 < N ∧ N ≤ 10077696000000000 := by omega
        clear hN F F' hb HT
        go_wp2
        go_ret2
        exact ⟨by rw [hr.out]; rfl, Below.refl _ _⟩

end Go.Proofs.YtfbgalmndciiiaaDoor.W
