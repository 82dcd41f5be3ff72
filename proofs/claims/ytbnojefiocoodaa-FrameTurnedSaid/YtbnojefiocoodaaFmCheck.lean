/-
  Contracts of frame.check, frame.isLoad, frame.Make where there is no load, and of the document's own check.
-/
import Derived.Test.YtbnojefiocoodaaFmSpec
import Derived.Test.YtbnojefiocoodaaBytes
import Derived.Laws.MakeOwn
import Derived.Laws.Entries
namespace Go.Proofs.Ytbnojefiocoodaa.W
set_option linter.unusedVariables false
set_option linter.unusedSimpArgs false
open Go.ChangeShapes Go.WideShapes Go.ChangeAt Go.RowKit

set_option maxHeartbeats 2000000 in
set_option maxRecDepth 100000 in
theorem check (a : Option Addr) (cap : Nat) (l : List UInt8) (hl : l.length ≤ 100000) (w : World) (ha : RowAt w a (bytesV l)) :
    Calls Try.prog 15 #[.slice a l.length cap] w fun e w' => e = .returned (.int .u8 ((chk l).toNat : Int)) ∧ w' = w := by
  have HA := Lib.hid ha
  clear ha
  go_enter Try.func15, Try.ntmps15
  go_wp2
  go_loop [3, 8] (fun v3 v8 => ∃ k s : Nat, k ≤ l.length ∧ v8 = .int .i64 (k : Int) ∧ v3 = .int .i64 (s : Int) ∧ Hid (s = sumAt 0 (l.take k)) ∧ s ≤ 2550000000000) (fun _ v8 => l.length - (intOf v8).toNat)
  case atStart => exact ⟨0, 0, Nat.zero_le _, rfl, rfl, Lib.hid rfl, by omega⟩
  case round =>
    obtain ⟨k, s, hk, rfl, rfl, HS, hs⟩ := hrel
    by_cases hlt : k < l.length
    · obtain ⟨b, off, ha, hbw, hcs⟩ := HA.out.row (by rw [bytesV_len]; omega)
      have hc := hcs k _ (bytesV_at l k hlt)
      have hst := sumAt_take l k hlt
      have hst2 := sumAt_le0 (l.take (k + 1)) (by rw [List.length_take]; omega)
      have hd : (l[k]'hlt).toNat < 256 := (l[k]'hlt).toNat_lt
      have hy1 : (k + 1) * (l[k]'hlt).toNat ≤ 100000 * 255 := Nat.mul_le_mul (by omega) (by omega)
      rw [← HS.out] at hst
      generalize (l[k]'hlt).toNat = d at hc hst hd hy1
      obtain ⟨y, hy⟩ : ∃ y, y = (k + 1) * d := ⟨_, rfl⟩
      rw [← hy] at hst hy1
      have hm : wrap64 (((k : Int) + 1) * (d : Int)) = (y : Int) := by
        have e : ((k : Int) + 1) * (d : Int) = (y : Int) := by rw [hy]; simp
        rw [e]; unfold wrap64; omega
      rw [hst] at hst2
      have HS2 := Lib.hid hst.symm
      have Ha := Lib.hid ha
      clear ha hcs hy hst
      obtain rfl := Ha.out
      go_wp2
      go_round
      case rel => exact ⟨k + 1, s + y, by omega, by go_num, by go_num, HS2, by omega⟩
      case measure => simp [intOf]; omega
    · have hkk : k = l.length := by omega
      subst hkk
      have hs2 : Hid (s % 251 = (chk l).toNat) := Lib.hid (by rw [chk_nat, HS.out, List.take_length])
      go_wp2
      go_ret
      refine ⟨?_, rfl⟩
      rw [← hs2.out]
      simp

set_option maxHeartbeats 2000000 in
set_option maxRecDepth 100000 in
theorem rcheck (a : Option Addr) (cap : Nat) (l : List UInt8) (hl : l.length ≤ 100000) (w : World) (ha : RowAt w a (bytesV l)) :
    Calls Try.prog 17 #[.slice a l.length cap] w fun e w' => e = .returned (.int .u8 ((chk l).toNat : Int)) ∧ w' = w := by
  have HA := Lib.hid ha
  clear ha
  go_enter Try.func17, Try.ntmps17
  go_wp2
  go_loop [3, 4] (fun v3 v8 => ∃ k s : Nat, k ≤ l.length ∧ v8 = .int .i64 (k : Int) ∧ v3 = .int .i64 (s : Int) ∧ Hid (s = sumAt 0 (l.take k)) ∧ s ≤ 2550000000000) (fun _ v8 => l.length - (intOf v8).toNat)
  case atStart => exact ⟨0, 0, Nat.zero_le _, rfl, rfl, Lib.hid rfl, by omega⟩
  case round =>
    obtain ⟨k, s, hk, rfl, rfl, HS, hs⟩ := hrel
    by_cases hlt : k < l.length
    · obtain ⟨b, off, ha, hbw, hcs⟩ := HA.out.row (by rw [bytesV_len]; omega)
      have hc := hcs k _ (bytesV_at l k hlt)
      have hst := sumAt_take l k hlt
      have hst2 := sumAt_le0 (l.take (k + 1)) (by rw [List.length_take]; omega)
      have hd : (l[k]'hlt).toNat < 256 := (l[k]'hlt).toNat_lt
      have hy1 : (k + 1) * (l[k]'hlt).toNat ≤ 100000 * 255 := Nat.mul_le_mul (by omega) (by omega)
      rw [← HS.out] at hst
      generalize (l[k]'hlt).toNat = d at hc hst hd hy1
      obtain ⟨y, hy⟩ : ∃ y, y = (k + 1) * d := ⟨_, rfl⟩
      rw [← hy] at hst hy1
      have hm : wrap64 (((k : Int) + 1) * (d : Int)) = (y : Int) := by
        have e : ((k : Int) + 1) * (d : Int) = (y : Int) := by rw [hy]; simp
        rw [e]; unfold wrap64; omega
      rw [hst] at hst2
      have HS2 := Lib.hid hst.symm
      have Ha := Lib.hid ha
      clear ha hcs hy hst
      obtain rfl := Ha.out
      go_wp2
      go_round
      case rel => exact ⟨k + 1, s + y, by omega, by go_num, by go_num, HS2, by omega⟩
      case measure => simp [intOf]; omega
    · have hkk : k = l.length := by omega
      subst hkk
      have hs2 : Hid (s % 251 = (chk l).toNat) := Lib.hid (by rw [chk_nat, HS.out, List.take_length])
      go_wp2
      go_ret
      refine ⟨?_, rfl⟩
      rw [← hs2.out]
      simp

theorem isLoad_yes (n : Nat) (h1 : 1 ≤ n) (h2 : n ≤ 240) (w : World) :
    Calls Try.prog 14 #[.int .i64 (n : Int)] w fun e w' => e = .returned (.bool true) ∧ w' = w := by
  go_enter Try.func14, Try.ntmps14
  go_wp2
  go_ret
  exact ⟨by simp; omega, rfl⟩
theorem isLoad_no (n : Nat) (h : n = 0 ∨ 240 < n) (w : World) :
    Calls Try.prog 14 #[.int .i64 (n : Int)] w fun e w' => e = .returned (.bool false) ∧ w' = w := by
  by_cases h0 : n = 0
  · subst h0
    clear h
    go_enter Try.func14, Try.ntmps14
    go_wp2
    go_ret
    exact ⟨rfl, rfl⟩
  · have h1 : 240 < n := by omega
    clear h
    go_enter Try.func14, Try.ntmps14
    go_wp2
    go_ret
    exact ⟨by simp; omega, rfl⟩

theorem hd_vals (n : Nat) (h : n ≤ 1000) : [Value.int .u8 ((n : Int) / 256), .int .u8 ((n : Int) % 256)] = bytesV (hd n) := by
  show _ = [Value.int .u8 ((UInt8.ofNat (n / 256)).toNat : Int), .int .u8 ((UInt8.ofNat (n % 256)).toNat : Int)]
  rw [of_nat (by omega), of_nat (by omega)]
  simp
theorem row_hd (n : Nat) (h : n ≤ 1000) (w : World) (t : TypeId) : RowAt (w.alloc (.cells #[.int .u8 ((n : Int) / 256), .int .u8 ((n : Int) % 256)] t)) (some ⟨w.heap.size, 0, none⟩) (bytesV (hd n)) := by
  rw [← hd_vals n h]; exact row_new w _ t
theorem row_hd' (n : Nat) (h : n ≤ 1000) (w : World) (t : TypeId) {g : Nat} (hg : w.heap.size = g) : RowAt (w.alloc (.cells #[.int .u8 ((n : Int) / 256), .int .u8 ((n : Int) % 256)] t)) (some ⟨g, 0, none⟩) (bytesV (hd n)) := by
  subst hg; exact row_hd n h w t
theorem made_size (n : Nat) : (madeCells #[Value.int .u8 0] n).size = n * 1 := by simp [madeCells]
theorem mk_snoc (l : List UInt8) : bytesV (hd l.length ++ l) ++ [.int .u8 ((chk (hd l.length ++ l)).toNat : Int)] = bytesV (mk l) := by
  unfold mk bytesV
  simp

set_option maxHeartbeats 2000000 in
theorem make_no (a : Option Addr) (cap : Nat) (l : List UInt8) (h : l.length = 0 ∨ 240 < l.length) (w : World) :
    Calls Try.prog 7 #[.slice a l.length cap] w fun e w' => e = .returned (.tuple #[.slice none 0 0, .int .i64 12]) ∧ w' = w := by
  have H := Lib.hid (isLoad_no l.length h)
  clear h
  go_enter Try.func7, Try.ntmps7
  go_wp2_with fail
  refine (H.out w).mono ?_; rintro e w1 ⟨rfl, rfl⟩
  go_wp2
  go_ret2
  exact ⟨rfl, rfl⟩
end Go.Proofs.Ytbnojefiocoodaa.W
