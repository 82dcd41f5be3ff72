/-
  Contracts of the functions that read and write a number's digits: units.number, drayageref03.number, drayageref01.Digits.
-/
import Derived.Test.YtcnenpkmlindaaaDoorUnitsStep
import Derived.Test.YtcnenpkmlindaaaDoorVec
import Derived.Lib.OthersKept
namespace Go.Proofs.YtcnenpkmlindaaaDoor.W
set_option linter.unusedVariables false
set_option linter.unusedSimpArgs false
open Go.ChangeShapes Go.WideShapes Go.ChangeAt Go.RowKit

theorem iterPos_of {w : World} {k : Nat} {s : ByteArray} {p : Nat} (h : w.heap[k]? = some (.stringIter s p)) : w.iterPos k = p := by simp [World.iterPos, h]
theorem bs_at (l : List UInt8) (i : Nat) (h : i < l.length) (h' : i < (bs l).size) : (bs l)[i]'h' = l[i] := by
  simp [bs, ByteArray.getElem_eq_getElem_data]
  rfl
theorem drop_at' (l : List UInt8) (i : Nat) (h : i < l.length) : l.drop i = l[i] :: l.drop (i + 1) := List.drop_eq_getElem_cons h

set_option maxHeartbeats 2000000 in
set_option maxRecDepth 100000 in
theorem unumber (l : List UInt8) (hl : l.length ≤ 4294967280) (w : World) :
    Calls Tryd.prog 18 #[.string (bs l)] w fun e w' => e = .returned (.int .i64 (numL 0 l)) ∧ Below w.heap.size w w' := by
  have hz := bs_size l
  go_enter Tryd.func18, Tryd.ntmps18
  go_wp2
  go_loopw [3] (fun v wr => ∃ (pos n : Nat), v = .int .i64 n ∧ wr.heap[w.heap.size]? = some (.stringIter (bs l) pos) ∧ Below w.heap.size w wr ∧ pos ≤ l.length ∧ n ≤ 1048576 ∧ Hid (numL n (l.drop pos) = numL 0 l)) (fun _ wr => l.length - wr.iterPos w.heap.size)
  case atStart => exact ⟨0, 0, rfl, World.iter_heap w _ 0, (Below.refl _ _).alloc (Nat.le_refl _) _, by omega, by omega, Lib.hid rfl⟩
  case round =>
    obtain ⟨pos, n, rfl, hit, hbw, hp0, hn, HS⟩ := hrel
    have hpos0 := iterPos_of hit
    by_cases hp : pos < l.length
    · have hp' : pos < (bs l).size := by omega
      have hd := drop_at' l pos hp
      have hit2 := Lib.iterAt_heap wr w.heap.size (bs l) pos (pos + (Utf8.decode (bs l) pos).2) hit
      have hbw2 := Lib.below_iterAt hbw (k := w.heap.size) (Nat.le_refl _) (bs l) (pos + (Utf8.decode (bs l) pos).2)
      have hnx : ∀ ty, (Instr.next (.pointer (some ⟨w.heap.size, 0, none⟩)) true ty).run Tryd.prog wr = _ := fun ty => Lib.run_next_any_at wr w.heap.size (bs l) pos ty hit hp'
      obtain ⟨W1, hW1⟩ : ∃ W1, W1 = wr.iterAt w.heap.size (bs l) (pos + (Utf8.decode (bs l) pos).2) := ⟨_, rfl⟩
      rw [← hW1] at hnx hit2 hbw2
      have hle := decode_le (bs l) pos
      have hat := bs_at l pos hp hp'
      have hc256 : l[pos].toNat < 256 := l[pos].toNat_lt
      by_cases ha : l[pos].toNat < 128
      · have hdec := decode_ascii (bs l) pos hp' (by rw [hat]; exact ha)
        rw [hat] at hdec
        rw [hdec] at hnx hit2
        have HN : numL 0 l = numL n (l[pos] :: l.drop (pos + 1)) := by rw [← HS.out, hd]; rfl
        obtain ⟨x, hx⟩ : ∃ x : Nat, x = l[pos].toNat := ⟨_, rfl⟩
        simp only [numL] at HN
        simp only [← hx] at HN hnx ha
        clear hat hdec hit hbw hd HS hle hc256 hx hW1
        by_cases h1 : x < 48
        · rw [if_pos (Or.inl h1)] at HN
          replace HN := Lib.hid HN
          go_wp2
          go_ret
          exact ⟨by rw [HN.out]; rfl, hbw2⟩
        · by_cases h2 : 57 < x
          · rw [if_pos (Or.inr (Or.inl h2))] at HN
            replace HN := Lib.hid HN
            go_wp2
            go_ret
            exact ⟨by rw [HN.out]; rfl, hbw2⟩
          · by_cases h3 : x = 48
            · subst h3
              by_cases h4 : n = 0
              · subst h4
                rw [if_pos (Or.inr (Or.inr ⟨rfl, rfl⟩))] at HN
                replace HN := Lib.hid HN
                go_wp2
                go_ret
                exact ⟨by rw [HN.out]; rfl, hbw2⟩
              · rw [if_neg (by omega)] at HN
                by_cases h5 : 1048576 < 10 * n
                · rw [if_pos (by omega)] at HN
                  replace HN := Lib.hid HN
                  go_wp2
                  go_ret
                  exact ⟨by rw [HN.out]; rfl, hbw2⟩
                · rw [if_neg (by omega)] at HN
                  replace HN := Lib.hid HN
                  go_wp2
                  go_roundw
                  case rel => exact ⟨pos + 1, 10 * n, by go_num, hit2, hbw2, by omega, by omega, Lib.hid HN.out.symm⟩
                  case measure => rw [iterPos_of hit2, hpos0]; omega
            · rw [if_neg (by omega)] at HN
              by_cases h5 : 1048576 < 10 * n + (x - 48)
              · rw [if_pos (by omega)] at HN
                replace HN := Lib.hid HN
                go_wp2
                go_ret
                exact ⟨by rw [HN.out]; rfl, hbw2⟩
              · rw [if_neg (by omega)] at HN
                replace HN := Lib.hid HN
                go_wp2
                go_roundw
                case rel => exact ⟨pos + 1, 10 * n + (x - 48), by go_num, hit2, hbw2, by omega, by omega, Lib.hid HN.out.symm⟩
                case measure => rw [iterPos_of hit2, hpos0]; omega
      · have hhi := (decode_high (bs l) pos hp' (by rw [hat]; omega)).1
        have HN : numL 0 l = 0 := by
          rw [← HS.out, hd]
          simp only [numL]
          rw [if_pos (by omega)]
        replace HN := Lib.hid HN
        obtain ⟨x, hx⟩ : ∃ x : Nat, x = (Utf8.decode (bs l) pos).1 := ⟨_, rfl⟩
        rw [← hx] at hnx hle hhi
        clear hat hit hbw hd HS hc256 hx hW1 ha
        go_wp2
        go_ret
        exact ⟨by rw [HN.out]; rfl, hbw2⟩
    · have hnx : ∀ ty, (Instr.next (.pointer (some ⟨w.heap.size, 0, none⟩)) true ty).run Tryd.prog wr = _ := fun ty => Lib.run_next_end_at wr w.heap.size (bs l) pos ty hit (by omega)
      have HN : numL 0 l = n := by rw [← HS.out, List.drop_of_length_le (by omega)]; rfl
      replace HN := Lib.hid HN
      clear HS
      go_wp2
      go_ret
      exact ⟨by rw [HN.out]; rfl, hbw⟩

theorem pow_le8 {n k : Nat} (h : n < 10 ^ k) (hk : k ≤ 8) : n < 100000000 := by
  have := Nat.pow_le_pow_right (show 0 < 10 by decide) hk
  have e : (10 : Nat) ^ 8 = 100000000 := by decide
  omega
theorem pow_step {n k d : Nat} (h : n < 10 ^ k) (hd : d < 10) : 10 * n + d < 10 ^ (k + 1) := by
  rw [Nat.pow_succ]
  omega
theorem num8_cons (c : UInt8) (t : List UInt8) : num8 (c :: t) = if isDig c then ((numR 8 0 (c :: t) : Nat) : Int) else -1 := rfl
theorem numR_nil (k n : Nat) : numR k n [] = n := by cases k <;> rfl
theorem numR_out (n : Nat) (l : List UInt8) : numR 0 n l = n := by cases l <;> rfl
theorem numR_no (k n : Nat) (c : UInt8) (t : List UInt8) (h : ¬ isDig c) : numR k n (c :: t) = n := by
  cases k with
  | zero => rfl
  | succ k => simp only [numR]; rw [if_neg h]
theorem numR_yes (k n : Nat) (c : UInt8) (t : List UInt8) (h : isDig c) : numR (k + 1) n (c :: t) = numR k (10 * n + (c.toNat - 48)) t := by
  simp only [numR]; rw [if_pos h]

set_option maxHeartbeats 2000000 in
set_option maxRecDepth 100000 in
theorem rnumber (l : List UInt8) (at0 : Nat) (hl : l.length ≤ 4294967280) (h0 : at0 ≤ l.length) (w : World) :
    Calls Tryd.prog 20 #[.string (bs l), .int .i64 at0] w fun e w' => (∃ j : Nat, e = .returned (.tuple #[.int .i64 (num8 (l.drop at0)), .int .i64 j])) ∧ w = w' := by
  have hz := bs_size l
  go_enter Tryd.func20, Tryd.ntmps20
  go_wp2
  go_loop [6, 7] (fun v6 v7 => ∃ (i n : Nat), v6 = .int .i64 n ∧ v7 = .int .i64 i ∧ at0 ≤ i ∧ i ≤ l.length ∧ i ≤ at0 + 8 ∧ n < 10 ^ (i - at0) ∧
    Hid (numR (at0 + 8 - i) n (l.drop i) = numR 8 0 (l.drop at0) ∧ (at0 < i → num8 (l.drop at0) = ((numR 8 0 (l.drop at0) : Nat) : Int)))) (fun _ v7 => l.length - (intOf v7).toNat)
  case atStart => exact ⟨at0, 0, rfl, rfl, by omega, h0, by omega, by rw [Nat.sub_self]; decide, Lib.hid ⟨by rw [show at0 + 8 - at0 = 8 by omega], fun h => absurd h (by omega)⟩⟩
  case round =>
    obtain ⟨i, n, rfl, rfl, hi0, hi1, hi8, hn, HS⟩ := hrel
    have hn8 := pow_le8 hn (by omega)
    -- what comes of it where the loop ends here
    have fin : (∀ c t, l.drop i = c :: t → i < at0 + 8 → ¬ isDig c) → (i = at0 → num8 (l.drop at0) = -1) ∧ (i ≠ at0 → num8 (l.drop at0) = (n : Int)) := by
      intro hs
      refine ⟨?_, ?_⟩
      · intro e
        subst e
        cases hd : l.drop i with
        | nil => rfl
        | cons c t =>
          rw [num8_cons, if_neg (hs c t hd (by omega))]
      · intro e
        rw [HS.out.2 (by omega), ← HS.out.1]
        cases hd : l.drop i with
        | nil => rw [numR_nil]
        | cons c t =>
          by_cases h8 : i < at0 + 8
          · rw [numR_no _ _ _ _ (hs c t hd h8)]
          · rw [show at0 + 8 - i = 0 by omega, numR_out]
    by_cases hp : i < l.length
    · have hp' : i < (bs l).size := by omega
      have hd := drop_at' l i hp
      have hat := bs_at l i hp hp'
      have hc256 : (l[i]'hp).toNat < 256 := (l[i]'hp).toNat_lt
      obtain ⟨x, hx⟩ : ∃ x : Nat, x = (l[i]'hp).toNat := ⟨_, rfl⟩
      have hix : ∀ w, (Instr.index 9 (.string (bs l)) (.int .i64 (i : Int))).run Tryd.prog w = .ok (.int .u8 (x : Int)) w := fun w => by
        rw [run_index_string _ _ _ _ _ Tryd.underlying9, dif_pos ⟨by omega, by omega⟩]
        have : ∀ k (h : k < (bs l).size), k = i → (bs l)[k].toNat = x := fun k h e => by subst e; rw [hx]; exact congrArg UInt8.toNat (bs_at l k hp h)
        rw [this _ _ (by omega)]
      rw [← hx] at hc256
      by_cases h48 : 48 ≤ x
      · by_cases h57 : x ≤ 57
        · by_cases h8 : i < at0 + 8
          · have hdig : isDig (l[i]'hp) := ⟨by omega, by omega⟩
            have e1 : numR (at0 + 8 - i) n (l.drop i) = numR (at0 + 8 - (i + 1)) (10 * n + (x - 48)) (l.drop (i + 1)) := by
              rw [hd, show at0 + 8 - i = (at0 + 8 - (i + 1)) + 1 by omega]
              exact (numR_yes _ _ _ _ hdig).trans (by rw [← hx])
            have hn' : 10 * n + (x - 48) < 10 ^ (i + 1 - at0) := by rw [show i + 1 - at0 = (i - at0) + 1 by omega]; exact pow_step hn (by omega)
            have HS2 : Hid (numR (at0 + 8 - (i + 1)) (10 * n + (x - 48)) (l.drop (i + 1)) = numR 8 0 (l.drop at0) ∧ (at0 < i + 1 → num8 (l.drop at0) = ((numR 8 0 (l.drop at0) : Nat) : Int))) := Lib.hid ⟨by rw [← e1]; exact HS.out.1, fun _ => by
              by_cases he : at0 < i
              · exact HS.out.2 he
              · have : i = at0 := by omega
                subst this
                rw [hd]
                rw [num8_cons, if_pos hdig]⟩
            clear fin HS e1 hat hd hx hdig hn
            go_wp2
            go_round
            case rel => exact ⟨i + 1, 10 * n + (x - 48), by go_num, by go_num, by omega, by omega, by omega, hn', HS2⟩
            case measure => simp [intOf]; omega
          · have F := fin (fun c t e h => absurd h h8)
            have F2 := Lib.hid (F.2 (by omega))
            have hne : ¬ i = at0 := by omega
            clear fin F HS hat hd hx hn
            go_wp2
            go_ret2
            exact ⟨⟨i, by rw [F2.out]; rfl⟩, rfl⟩
        · have F := fin (fun c t e _ => by rw [hd] at e; injection e with e1 e2; rw [← e1]; intro hh; have := hh.2; omega)
          clear fin HS hat hd hx hn
          by_cases he : i = at0
          · have F2 := Lib.hid (F.1 he)
            clear F
            subst he
            go_wp2
            go_ret2
            exact ⟨⟨i, by rw [F2.out]; rfl⟩, rfl⟩
          · have F2 := Lib.hid (F.2 he)
            clear F
            go_wp2
            go_ret2
            exact ⟨⟨i, by rw [F2.out]; rfl⟩, rfl⟩
      · have F := fin (fun c t e _ => by rw [hd] at e; injection e with e1 e2; rw [← e1]; intro hh; have := hh.1; omega)
        clear fin HS hat hd hx hn
        by_cases he : i = at0
        · have F2 := Lib.hid (F.1 he)
          clear F
          subst he
          go_wp2
          go_ret2
          exact ⟨⟨i, by rw [F2.out]; rfl⟩, rfl⟩
        · have F2 := Lib.hid (F.2 he)
          clear F
          go_wp2
          go_ret2
          exact ⟨⟨i, by rw [F2.out]; rfl⟩, rfl⟩
    · have F := fin (fun c t e _ => by rw [List.drop_of_length_le (by omega)] at e; cases e)
      clear fin HS hn
      by_cases he : i = at0
      · have F2 := Lib.hid (F.1 he)
        clear F
        subst he
        go_wp2
        go_ret2
        exact ⟨⟨i, by rw [F2.out]; rfl⟩, rfl⟩
      · have F2 := Lib.hid (F.2 he)
        clear F
        go_wp2
        go_ret2
        exact ⟨⟨i, by rw [F2.out]; rfl⟩, rfl⟩

end Go.Proofs.YtcnenpkmlindaaaDoor.W
