/-
  Contracts of codec.putOne and codec.Put: numbers as bytes, behind any bytes.
-/
import Derived.Test.YtbnlchbklpgejaaDoorBytes
namespace Go.Proofs.YtbnlchbklpgejaaDoor.W
set_option linter.unusedVariables false
set_option linter.unusedSimpArgs false
open Go.ChangeShapes Go.WideShapes Go.ChangeAt Go.RowKit

theorem bytesV_snoc (l : List UInt8) (c : UInt8) : bytesV l ++ [.int .u8 (c.toNat : Int)] = bytesV (l ++ [c]) := by simp [bytesV]

set_option maxHeartbeats 4000000 in
set_option maxRecDepth 100000 in
theorem putOne (B : Nat) (v : Value) (l : List UInt8) (n : Nat) (hn : n ≤ 281474976710656) (hl : l.length ≤ 1048576) (w : World) (hB : B ≤ w.heap.size) (hown : w.ownsRow B 5 1 v l.length (bytesV l)) :
    Calls Tryd.prog 32 #[v, .int .i64 (n : Int)] w fun e w' => ∃ v', e = .returned v' ∧ w'.ownsRow B 5 1 v' (l ++ enc n).length (bytesV (l ++ enc n)) ∧ Below B w w' := by
  obtain ⟨i0, hi, hz0, hz1, hz2⟩ := info_parts info8
  have hen := enc_len n hn
  have H := Lib.hid hown
  clear hown
  go_enter Tryd.func32, Tryd.ntmps32
  go_wp2_with fail
  go_loopw [0, 1] (fun v0 v1 wr => ∃ (m : Nat) (cur : List UInt8), v1 = .int .i64 (m : Int) ∧ m ≤ 281474976710656 ∧ Hid (cur ++ enc m = l ++ enc n) ∧ Hid (wr.ownsRow B 5 1 v0 cur.length (bytesV cur)) ∧ Below B w wr) (fun _ v1 _ => (intOf v1).toNat)
  case atStart => exact ⟨n, l, rfl, hn, Lib.hid rfl, H, Below.refl _ _⟩
  case round =>
    obtain ⟨m, cur, rfl, hm, HE, HO, hbw⟩ := hrel
    have hz := hbw.size
    have hlen : cur.length + (enc m).length = l.length + (enc n).length := by rw [← List.length_append, ← List.length_append, HE.out]
    have hp := enc_len1 m
    clear H
    by_cases h : m < 128
    · have es := Lib.hid (enc_small h)
      have e1 : Hid ((m : Int) = ((UInt8.ofNat m).toNat : Int)) := Lib.hid (by rw [of_nat (by omega)])
      go_wp2_with (at_builtin; refine push _ _ 27 5 1 (.int .u8 0) i0 Tryd.underlying27 hi hz0 hz1 hz2 rfl B B cur.length (bytesV cur) _ _ _ w _ rfl rfl rfl rfl HO.out hbw (Nat.le_refl _) (by omega) rfl (by omega) (by omega) ?_)
      intro v' w1 hown1 hb1
      have hown2 : w1.ownsRow B 5 1 v' (l ++ enc n).length (bytesV (l ++ enc n)) := by
        rw [← HE.out, es.out, ← bytesV_snoc, ← e1.out, List.length_append]
        exact hown1
      have HO2 := Lib.hid hown2
      clear hown1 hown2
      go_wp2
      go_ret
      exact ⟨_, rfl, HO2.out, hb1⟩
    · have eb := Lib.hid (enc_big h)
      have e1 : Hid ((m : Int) % 128 + 128 = ((UInt8.ofNat (128 + m % 128)).toNat : Int)) := Lib.hid (by rw [of_nat (by omega)]; omega)
      go_wp2_with (at_builtin; refine push _ _ 27 5 1 (.int .u8 0) i0 Tryd.underlying27 hi hz0 hz1 hz2 rfl B B cur.length (bytesV cur) _ _ _ w _ rfl rfl rfl rfl HO.out hbw (Nat.le_refl _) (by omega) rfl (by omega) (by omega) ?_)
      intro v' w1 hown1 hb1
      have HO2 : Hid (w1.ownsRow B 5 1 v' (cur ++ [UInt8.ofNat (128 + m % 128)]).length (bytesV (cur ++ [UInt8.ofNat (128 + m % 128)]))) := Lib.hid (by
        rw [← bytesV_snoc, ← e1.out, List.length_append]
        exact hown1)
      have HE2 : Hid ((cur ++ [UInt8.ofNat (128 + m % 128)]) ++ enc (m / 128) = l ++ enc n) := Lib.hid (by rw [← HE.out, eb.out]; simp)
      clear hown1
      go_wp2
      go_roundw
      case rel => exact ⟨m / 128, _, by go_num, by omega, HE2, HO2, hb1⟩
      case measure => simp [intOf]; omega

theorem okL_take_all {xs : List Int} (h : okL xs = false) (g : okL (xs.take xs.length) = true) : False := by
  rw [List.take_length] at g
  rw [g] at h
  cases h
theorem okL_snoc (xs : List Int) (k : Nat) (hk : k < xs.length) : okL (xs.take (k + 1)) = (okL (xs.take k) && okN xs[k]) := by
  unfold okL
  rw [take_snoc xs k hk, List.all_append]
  simp only [List.all_cons, List.all_nil, Bool.and_true]
set_option maxHeartbeats 4000000 in
set_option maxRecDepth 100000 in
theorem put_no (a A : Option Addr) (cap c : Nat) (l : List UInt8) (xs : List Int) (hx : xs.length ≤ 100000) (hin : ∀ i (h : i < xs.length), -9223372036854775808 ≤ xs[i] ∧ xs[i] ≤ 9223372036854775807) (hno : okL xs = false)
    (w : World) (hA : RowAt w A (vals xs)) :
    Calls Tryd.prog 18 #[.slice a l.length cap, .slice A xs.length c] w fun e w' => e = .returned (.tuple #[.slice none 0 0, .int .i64 2]) ∧ Below w.heap.size w w' := by
  have HA := Lib.hid hA
  have HI := Lib.hid hin
  have HN := Lib.hid hno
  clear hA hin hno
  go_enter Tryd.func18, Tryd.ntmps18
  go_wp2_with fail
  go_loop [13] (fun i => ∃ k : Nat, k ≤ xs.length ∧ i = .int .i64 (k : Int) ∧ Hid (okL (xs.take k) = true)) (fun i => xs.length - (intOf i).toNat)
  case atStart => exact ⟨0, Nat.zero_le _, rfl, Lib.hid rfl⟩
  case round =>
    obtain ⟨k, hk, rfl, HK⟩ := hrel
    by_cases hlt : k < xs.length
    · obtain ⟨b, off, ha, hbw, hcs⟩ := HA.out.row (by rw [vals_len]; omega)
      have hc := hcs k _ (vals_at xs k hlt)
      have hxi := HI.out k hlt
      have hsn := okL_snoc xs k hlt
      obtain ⟨x, hxe⟩ : ∃ x, x = xs[k] := ⟨_, rfl⟩
      rw [← hxe] at hc hxi hsn
      have Ha := Lib.hid ha
      clear ha hcs hxe
      obtain rfl := Ha.out
      by_cases h0 : x < 0
      · clear hsn
        go_wp2_with fail
        go_ret2
        exact ⟨rfl, Below.refl _ _⟩
      · by_cases h1 : x > 281474976710656
        · clear hsn
          go_wp2_with fail
          go_ret2
          exact ⟨rfl, Below.refl _ _⟩
        · have HK2 : Hid (okL (xs.take (k + 1)) = true) := Lib.hid (by rw [hsn, HK.out]; simp [okN]; omega)
          clear hsn
          go_wp2_with fail
          go_round
          case rel => exact ⟨k + 1, by omega, by go_num, HK2⟩
          case measure => simp [intOf]; omega
    · have hkk : k = xs.length := by omega
      subst hkk
      exact absurd trivial (fun _ => okL_take_all HN.out HK.out)

set_option maxHeartbeats 4000000 in
set_option maxRecDepth 100000 in
theorem put_yes (a A : Option Addr) (cap c : Nat) (l : List UInt8) (xs : List Int) (hx : xs.length ≤ 100000) (hl : l.length ≤ 100000) (hyes : okL xs = true)
    (w : World) (hcap : a = none → cap = 0) (ha : RowAt w a (bytesV l)) (hA : RowAt w A (vals xs)) :
    Calls Tryd.prog 18 #[.slice a l.length cap, .slice A xs.length c] w fun e w' => ∃ v, e = .returned (.tuple #[v, .int .i64 0]) ∧
      w'.ownsRow w.heap.size 5 1 v (l ++ putL xs).length (bytesV (l ++ putL xs)) ∧ Below w.heap.size w w' := by
  have HC := Lib.hid (clone a cap l w (by omega) hcap ha)
  have HA := Lib.hid hA
  have HY := Lib.hid hyes
  have HP := Lib.hid putOne
  have HL := Lib.hid (fun (k : Nat) (h : k ≤ xs.length) => putL_len (xs := xs.take k) (okL_yes fun i hi => by
    rw [List.getElem_take]
    exact okL_at hyes i (by simp at hi; omega)))
  clear hA ha hyes hcap
  go_enter Tryd.func18, Tryd.ntmps18
  go_wp2_with fail
  go_loop [13] (fun i => ∃ k : Nat, k ≤ xs.length ∧ i = .int .i64 (k : Int)) (fun i => xs.length - (intOf i).toNat)
  case atStart => exact ⟨0, Nat.zero_le _, rfl⟩
  case round =>
    obtain ⟨k, hk, rfl⟩ := hrel
    by_cases hlt : k < xs.length
    · obtain ⟨b, off, ha, hbw, hcs⟩ := HA.out.row (by rw [vals_len]; omega)
      have hc := hcs k _ (vals_at xs k hlt)
      have hxi := okL_at HY.out k hlt
      obtain ⟨x, hxe⟩ : ∃ x, x = xs[k] := ⟨_, rfl⟩
      rw [← hxe] at hc hxi
      have Ha := Lib.hid ha
      clear ha hcs hxe
      obtain rfl := Ha.out
      go_wp2_with fail
      go_round
      case rel => exact ⟨k + 1, by omega, by go_num⟩
      case measure => simp [intOf]; omega
    · go_wp2_with fail
      refine HC.out.mono ?_; rintro e w1 ⟨v1, rfl, hown1, hb1⟩
      have HO1 := Lib.hid hown1
      have HA1 := Lib.hid (HA.out.later hb1)
      have hz1 := hb1.size
      clear hown1
      go_wp2_with fail
      go_loopw [8, 28] (fun v8 v28 wr => ∃ k : Nat, k ≤ xs.length ∧ v28 = .int .i64 (k : Int) ∧ Hid (wr.ownsRow w.heap.size 5 1 v8 (l ++ putL (xs.take k)).length (bytesV (l ++ putL (xs.take k)))) ∧ Below w.heap.size w wr) (fun _ v28 _ => xs.length - (intOf v28).toNat)
      case atStart => exact ⟨0, Nat.zero_le _, rfl, by simpa [putL] using HO1, hb1⟩
      case round =>
        obtain ⟨k, hk, rfl, HO, hbw⟩ := hrel
        have hz := hbw.size
        clear HO1 HA1
        have hll := HL.out k hk
        rw [List.length_take] at hll
        by_cases hlt : k < xs.length
        · obtain ⟨b, off, ha, hbw', hcs⟩ := (HA.out.later hbw).row (by rw [vals_len]; omega)
          have hc := hcs k _ (vals_at xs k hlt)
          have hxi := okL_at HY.out k hlt
          have hsn := Lib.hid (putL_take xs k hlt)
          obtain ⟨x, hxe⟩ : ∃ x, x = xs[k] := ⟨_, rfl⟩
          rw [← hxe] at hc hxi hsn
          obtain ⟨n, rfl⟩ : ∃ n : Nat, x = (n : Int) := ⟨x.toNat, by omega⟩
          have Ha := Lib.hid ha
          clear ha hcs hxe
          obtain rfl := Ha.out
          go_wp2_with fail
          refine (HP.out w.heap.size _ _ n (by omega) (by rw [List.length_append]; omega) _ (by omega) HO.out).mono ?_; rintro e w2 ⟨v2, rfl, hown2, hb2⟩
          have HO2 := Lib.hid hown2
          clear hown2
          go_wp2
          go_roundw
          case rel =>
            refine ⟨k + 1, by omega, by go_num, Lib.hid ?_, hbw.trans hb2⟩
            have h2 := HO2.out
            rw [hsn.out, Int.toNat_natCast, ← List.append_assoc]
            exact h2
          case measure => simp [intOf]; omega
        · have hkk : k = xs.length := by omega
          subst hkk
          have HO2 : Hid (wr.ownsRow w.heap.size 5 1 u8 (l ++ putL xs).length (bytesV (l ++ putL xs))) := Lib.hid (by have := HO.out; rwa [List.take_length] at this)
          go_wp2
          go_ret2
          exact ⟨_, rfl, HO2.out, hbw⟩
end Go.Proofs.YtbnlchbklpgejaaDoor.W
