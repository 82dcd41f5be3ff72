/-
  Contracts of the document's own answers for layer 5: a number's bytes, those of many, may a number be put; and of two slices of bytes that read alike.
-/
import Derived.Test.YtbnlchbklpgejaaDoorCodecPut
import Derived.Deep.QuietTactic
import Derived.BigQuiet
namespace Go.Proofs.YtbnlchbklpgejaaDoor.W
set_option linter.unusedVariables false
set_option linter.unusedSimpArgs false
open Go.ChangeShapes Go.WideShapes Go.ChangeAt Go.RowKit

theorem rright_yes (n : Int) (h : 0 ≤ n ∧ n ≤ 281474976710656) (w : World) :
    Calls Tryd.prog 20 #[.int .i64 n] w fun e w' => e = .returned (.bool true) ∧ w' = w := by
  obtain ⟨h0, h1⟩ := h
  go_enter Tryd.func20, Tryd.ntmps20
  go_wp2
  go_ret
  exact ⟨rfl, rfl⟩
theorem rright_no (n : Int) (h : ¬ (0 ≤ n ∧ n ≤ 281474976710656)) (w : World) :
    Calls Tryd.prog 20 #[.int .i64 n] w fun e w' => e = .returned (.bool false) ∧ w' = w := by
  by_cases h0 : 0 ≤ n
  · have h1 : ¬ n ≤ 281474976710656 := fun x => h ⟨h0, x⟩
    clear h
    go_enter Tryd.func20, Tryd.ntmps20
    go_wp2
    go_ret
    exact ⟨rfl, rfl⟩
  · clear h
    go_enter Tryd.func20, Tryd.ntmps20
    go_wp2
    go_ret
    exact ⟨rfl, rfl⟩

set_option maxHeartbeats 2000000 in
theorem same (a b : Option Addr) (ca cb : Nat) (l : List UInt8) (hl : l.length ≤ 1048576) (w : World) (ha : RowAt w a (bytesV l)) (hb : RowAt w b (bytesV l)) :
    Calls Tryd.prog 13 #[.slice a l.length ca, .slice b l.length cb] w fun e w' => e = .returned (.bool true) ∧ Below w.heap.size w w' := by
  have HA := Lib.hid ha
  have HB := Lib.hid hb
  clear ha hb
  go_enter Tryd.func13, Tryd.ntmps13
  go_wp2
  go_loopw [5] (fun i wr => ∃ k : Nat, k ≤ l.length ∧ i = .int .i64 (k : Int) ∧ Below w.heap.size w wr) (fun i _ => l.length - (intOf i).toNat)
  case atStart => exact ⟨0, Nat.zero_le _, rfl, Below.refl _ _⟩
  case round =>
    obtain ⟨k, hk, rfl, hbw⟩ := hrel
    by_cases hlt : k < l.length
    · obtain ⟨b1, o1, e1, _, c1⟩ := (HA.out.later hbw).row (by rw [bytesV_len]; omega)
      obtain ⟨b2, o2, e2, _, c2⟩ := (HB.out.later hbw).row (by rw [bytesV_len]; omega)
      have d1 := c1 k _ (bytesV_at l k hlt)
      have d2 := c2 k _ (bytesV_at l k hlt)
      generalize (l[k]'hlt).toNat = x at d1 d2
      have E1 := Lib.hid e1
      have E2 := Lib.hid e2
      clear c1 c2 e1 e2
      obtain rfl := E1.out
      obtain rfl := E2.out
      go_wp2_with fail
      go_quiet (fail)
      go_wp2
      go_roundw
      case rel => exact ⟨k + 1, by omega, by go_num, (by repeat' (first | exact Below.refl _ _ | assumption | exact And.left (by assumption) | refine Below.drew ?_ | refine below_drewN ?_ _ | refine Below.setCell ?_ (by first | (simp; done) | (simp; omega) | omega) _ | refine Below.alloc ?_ (by first | (simp; done) | (simp; omega) | omega) _ | refine after (by assumption) (by first | (simp; done) | (simp; omega) | omega) ?_))⟩
      case measure => simp [intOf]; omega
    · go_wp2
      go_ret
      exact ⟨rfl, hbw⟩

set_option maxHeartbeats 2000000 in
set_option maxRecDepth 100000 in
theorem rbytes (n : Nat) : n ≤ 281474976710656 → ∀ (w : World),
    Calls Tryd.prog 37 #[.int .i64 (n : Int)] w fun e w' => ∃ v, e = .returned v ∧ w'.ownsRow w.heap.size 5 1 v (enc n).length (bytesV (enc n)) ∧ Below w.heap.size w w' := by
  induction n using Nat.strongRecOn with
  | _ n ih =>
    intro hn w
    obtain ⟨i0, hi, hz0, hz1, hz2⟩ := info_parts info8
    by_cases h : n < 128
    · have e1 : Hid ((n : Int) = ((UInt8.ofNat n).toNat : Int)) := Lib.hid (by rw [of_nat (by omega)])
      have es := Lib.hid (enc_small h)
      clear ih
      go_enter Tryd.func37, Tryd.ntmps37
      go_wp2
      go_ret
      refine ⟨_, rfl, ?_, (Below.refl _ _).alloc (Nat.le_refl _) _⟩
      have key : bytesV [UInt8.ofNat n] = [.int .u8 (n : Int)] := by
        show [Value.int .u8 ((UInt8.ofNat n).toNat : Int)] = _
        rw [← e1.out]
      rw [es.out, key]
      exact World.ownsRow_lit (base := w.heap.size) (e := 5) (size := 1) w #[.int .u8 (n : Int)] 1 (Nat.le_refl _) (by decide) rfl
    · have HI := Lib.hid (ih (n / 128) (by omega) (by omega))
      have e1 : Hid ((128 : Int) + (n : Int) % 128 = ((UInt8.ofNat (128 + n % 128)).toNat : Int)) := Lib.hid (by rw [of_nat (by omega)]; omega)
      have eb := Lib.hid (enc_big h)
      have hlen := enc_len (n / 128) (by omega)
      have hpos := enc_len1 (n / 128)
      clear ih
      go_enter Tryd.func37, Tryd.ntmps37
      go_wp2_with fail
      refine (HI.out _).mono ?_; rintro e w1 ⟨v1, rfl, hown1, hb1⟩
      have hy1 : w.heap.size + 1 ≤ w1.heap.size := by simpa using hb1.size
      have hown0 := own_later (World.ownsRow_lit (base := w.heap.size) (e := 5) (size := 1) w #[.int .u8 (128 + (n : Int) % 128)] 1 (Nat.le_refl _) (by decide) rfl) hb1
      obtain ⟨a1, cap1, rfl, hcap1, hrow1, hsome⟩ := own_form hown1
      obtain ⟨g, rfl, _, _⟩ := hsome.resolve_left (fun x => by have := x.2.1; omega)
      have hbel : Below w.heap.size w w1 := ((Below.refl _ w).alloc (Nat.le_refl _) _).trans (hb1.mono (by simp))
      have HO0 := Lib.hid hown0
      have HR1 := Lib.hid hrow1
      clear hown1 hown0 hrow1 hsome
      go_wp2_with (at_builtin; refine pushAll _ _ 27 5 (.int .u8 0) i0 Tryd.underlying27 hi hz0 hz1 hz2 rfl w.heap.size w.heap.size 1 _ cap1 _ (bytesV (enc (n / 128))) _ ⟨g, 0, none⟩ w w1 rfl rfl rfl rfl (bytesV_len _).symm HO0.out HR1.out hbel (Nat.le_refl _) (by omega) (bytesV_one _) (by omega) ?_)
      intro v2 w2 hown2 hb2
      have HO2 := Lib.hid hown2
      clear hown2
      go_wp2
      go_ret
      refine ⟨_, rfl, ?_, hb2⟩
      have h2 := HO2.out
      rw [e1.out] at h2
      rw [eb.out, List.length_cons, Nat.add_comm]
      exact h2

set_option maxHeartbeats 4000000 in
set_option maxRecDepth 100000 in
theorem rput (A : Option Addr) (c : Nat) (xs : List Int) (hx : xs.length ≤ 100000) (hyes : okL xs = true) (w : World) (hA : RowAt w A (vals xs)) :
    Calls Tryd.prog 27 #[.slice A xs.length c] w fun e w' => ∃ v, e = .returned v ∧ w'.ownsRow w.heap.size 5 1 v (putL xs).length (bytesV (putL xs)) ∧ Below w.heap.size w w' := by
  obtain ⟨i0, hi, hz0, hz1, hz2⟩ := info_parts info8
  have HA := Lib.hid hA
  have HY := Lib.hid hyes
  have HP := Lib.hid rbytes
  have HL := Lib.hid (fun (k : Nat) (h : k ≤ xs.length) => putL_len (xs := xs.take k) (okL_yes fun i hi => by
    rw [List.getElem_take]
    exact okL_at hyes i (by simp at hi; omega)))
  clear hA hyes
  go_enter Tryd.func27, Tryd.ntmps27
  go_wp2_with fail
  go_loopw [3, 4] (fun v3 v4 wr => ∃ k : Nat, k ≤ xs.length ∧ v4 = .int .i64 (k : Int) ∧ Hid (wr.ownsRow w.heap.size 5 1 v3 (putL (xs.take k)).length (bytesV (putL (xs.take k)))) ∧ Below w.heap.size w wr) (fun _ v4 _ => xs.length - (intOf v4).toNat)
  case atStart => exact ⟨0, Nat.zero_le _, rfl, Lib.hid (World.ownsRow_nil w w.heap.size 5 1), Below.refl _ _⟩
  case round =>
    obtain ⟨k, hk, rfl, HO, hbw⟩ := hrel
    have hz := hbw.size
    have hll := HL.out k hk
    rw [List.length_take] at hll
    by_cases hlt : k < xs.length
    · obtain ⟨b, off, ha, hbw', hcs⟩ := (HA.out.later hbw).row (by rw [vals_len]; omega)
      have hc := hcs k _ (vals_at xs k hlt)
      have hxi := okL_at HY.out k hlt
      have hsn := Lib.hid (putL_take xs k hlt)
      obtain ⟨x, hxe⟩ : ∃ x, x = xs[k] := ⟨_, rfl⟩
      rw [← hxe] at hc hxi hsn
      obtain ⟨n, rfl⟩ : ∃ n : Nat, x = (n : Int) := ⟨x.toNat, by omega⟩
      have hlen := enc_len n (by omega)
      have hpos := enc_len1 n
      have Ha := Lib.hid ha
      clear ha hcs hxe
      obtain rfl := Ha.out
      go_wp2_with fail
      refine (HP.out n (by omega) _).mono ?_; rintro e w1 ⟨v1, rfl, hown1, hb1⟩
      have hy1 := hb1.size
      have HO1 := Lib.hid (own_later HO.out hb1)
      obtain ⟨a1, cap1, rfl, hcap1, hrow1, hsome⟩ := own_form hown1
      obtain ⟨g, rfl, _, _⟩ := hsome.resolve_left (fun x => by have := x.2.1; omega)
      have hbel : Below w.heap.size w w1 := hbw.trans (hb1.mono hz)
      have HR1 := Lib.hid hrow1
      clear hown1 hrow1 hsome HO
      go_wp2_with (at_builtin; refine pushAll _ _ 27 5 (.int .u8 0) i0 Tryd.underlying27 hi hz0 hz1 hz2 rfl w.heap.size w.heap.size (putL (xs.take k)).length _ cap1 (bytesV (putL (xs.take k))) (bytesV (enc n)) _ ⟨g, 0, none⟩ w w1 rfl rfl rfl rfl (bytesV_len _).symm HO1.out HR1.out hbel (Nat.le_refl _) (by omega) (bytesV_one _) (by omega) ?_)
      intro v2 w2 hown2 hb2
      have HO2 : Hid (w2.ownsRow w.heap.size 5 1 v2 (putL (xs.take (k + 1))).length (bytesV (putL (xs.take (k + 1))))) := Lib.hid (by
        rw [hsn.out, Int.toNat_natCast, bytesV_app, List.length_append]
        exact hown2)
      clear hown2
      go_wp2
      go_roundw
      case rel => exact ⟨k + 1, by omega, by go_num, HO2, hb2⟩
      case measure => simp [intOf]; omega
    · have hkk : k = xs.length := by omega
      subst hkk
      have HO2 : Hid (wr.ownsRow w.heap.size 5 1 u3 (putL xs).length (bytesV (putL xs))) := Lib.hid (by have := HO.out; rwa [List.take_length] at this)
      go_wp2
      go_ret
      exact ⟨_, rfl, HO2.out, hbw⟩
end Go.Proofs.YtbnlchbklpgejaaDoor.W
