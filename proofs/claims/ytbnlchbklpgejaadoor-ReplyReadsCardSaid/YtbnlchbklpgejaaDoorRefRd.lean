/-
  Contracts of the document's own reader (layer 5): Number at a place, and the reader's Number, Within, Left, by its plain state.
-/
import Derived.Test.YtbnlchbklpgejaaDoorRefNumS
import Derived.Test.YtbnlchbklpgejaaDoorCodecRef
import Derived.Test.YtbnlchbklpgejaaDoorAskRd
namespace Go.Proofs.YtbnlchbklpgejaaDoor.W
set_option linter.unusedVariables false
set_option linter.unusedSimpArgs false
open Go.ChangeShapes Go.WideShapes Go.ChangeAt Go.RowKit

theorem byte_drop (b : List UInt8) (at' k : Nat) (h : at' + k < b.length) : (b.drop at')[k]'(by rw [List.length_drop]; omega) = b[at' + k] := by simp
set_option maxRecDepth 100000 in
set_option maxHeartbeats 4000000 in
theorem refNumber (A : Option Addr) (cap : Nat) (b : List UInt8) (at' : Nat) (hb : b.length ≤ 100000) (hat : at' ≤ b.length) (w : World) (hA : RowAt w A (bytesV b)) :
    Calls Tryd.prog 38 #[.slice A b.length cap, .int .i64 (at' : Int)] w fun e w' => e = .returned (.tuple #[.int .i64 ((refS (b.drop at')).1 : Nat), .int .i64 ((refS (b.drop at')).2.1 : Nat), .int .i64 ((refS (b.drop at')).2.2 : Nat)]) ∧ Below w.heap.size w w' := by
  have HA := Lib.hid hA
  have HB := Lib.hid rbytes
  have HRy := Lib.hid rright_yes
  have HRn := Lib.hid rright_no
  obtain ⟨l, hl⟩ : ∃ l, l = b.drop at' := ⟨_, rfl⟩
  rw [← hl]
  have hll : l.length = b.length - at' := by rw [hl, List.length_drop]
  have HBD : Hid (∀ k (h : k < l.length), ∃ (g : at' + k < b.length), b[at' + k] = l[k]) := Lib.hid (fun k h => ⟨by omega, by subst hl; simp⟩)
  have hlen : l.length + at' = b.length := by omega
  have HLN := Lib.hid hlen
  have hl1 : l.length + at' ≤ b.length := by omega
  have hl2 : b.length ≤ l.length + at' := by omega
  have HLA := Lib.hid (lead_at l)
  have hle := lead_le l
  have HRS : Hid (refS l = if 8 ≤ leadS l then (0, 0, 11) else if l.length ≤ leadS l then (0, 0, 10) else
    if okN (valF (l.take (leadS l + 1)) : Int) = false ∨ (enc (valF (l.take (leadS l + 1)))).length ≠ leadS l + 1 then (0, 0, 11) else (valF (l.take (leadS l + 1)), leadS l + 1, 0)) := Lib.hid rfl
  clear hA hl hll hlen
  generalize refS l = R at HRS ⊢
  go_enter Tryd.func38, Tryd.ntmps38
  go_wp2_with fail
  go_loop [7] (fun v7 => ∃ k : Nat, k ≤ 8 ∧ k ≤ leadS l ∧ v7 = .int .i64 (k : Int)) (fun v7 => 8 - (intOf v7).toNat)
  case atStart => exact ⟨0, by omega, by omega, rfl⟩
  case round =>
    obtain ⟨k, hk8, hkl, rfl⟩ := hrel
    by_cases hlt : k < l.length
    · obtain ⟨hbk, hbe⟩ := HBD.out k hlt
      obtain ⟨b1, o1, e1, _, hcs⟩ := HA.out.row (by rw [bytesV_len]; omega)
      have c1 := hcs _ _ (bytesV_at b (at' + k) hbk)
      have hla := HLA.out k hlt hkl
      rw [hbe] at c1
      have E1 := Lib.hid e1
      clear e1 hcs hbe
      have d1 : decide ((at' : Int) + (k : Int) < (b.length : Int)) = true := decide_eq_true (by omega)
      have hx2 : (l[k]).toNat < 256 := (l[k]).toNat_lt
      generalize (l[k]).toNat = x at c1 hla hx2
      obtain rfl := E1.out
      by_cases hx : 128 ≤ x
      · have d2 : decide ((128 : Int) ≤ (x : Int)) = true := decide_eq_true (by omega)
        by_cases h8 : k < 8
        · have hk2 : k + 1 ≤ leadS l := hla.1 hx
          clear hla
          go_wp2_with fail
          go_round
          case rel => exact ⟨k + 1, by omega, by omega, by go_num⟩
          case measure => simp [intOf]; omega
        · have hk8' : k = 8 := by omega
          subst hk8'
          have HRR : Hid (R = (0, 0, 11)) := Lib.hid (by rw [HRS.out, if_pos hkl])
          clear hla
          go_wp2_with fail
          go_ret3
          exact ⟨by rw [HRR.out]; rfl, Below.refl _ _⟩
      · have hle2 : leadS l = k := by
          apply Nat.le_antisymm _ hkl
          apply Classical.byContradiction
          intro h
          exact hx (hla.2 (by omega))
        have HLE := Lib.hid hle2
        have d2 : decide ((128 : Int) ≤ (x : Int)) = false := decide_eq_false (by omega)
        by_cases h8 : k = 8
        · subst h8
          have HRR : Hid (R = (0, 0, 11)) := Lib.hid (by rw [HRS.out, if_pos hkl])
          clear hla hle2
          go_wp2_with fail
          go_ret3
          exact ⟨by rw [HRR.out]; rfl, Below.refl _ _⟩
        · have hk7 : k ≤ 7 := by omega
          have hRR : R = if okN (valF (l.take (k + 1)) : Int) = false ∨ (enc (valF (l.take (k + 1)))).length ≠ k + 1 then (0, 0, 11) else (valF (l.take (k + 1)), k + 1, 0) := by
            rw [HRS.out, if_neg (by omega), if_neg (by omega), hle2]
          have htl : (l.take (k + 1)).length = k + 1 := by rw [List.length_take]; omega
          have HBT : Hid (∀ i (h : i < k + 1), ∃ (g : at' + i < b.length), b[at' + i] = (l.take (k + 1)).getD i 0) := Lib.hid (fun i h => by
            obtain ⟨g1, g2⟩ := HBD.out i (by omega)
            refine ⟨g1, ?_⟩
            rw [g2, List.getD_eq_getElem?_getD, List.getElem?_take, if_pos h]
            simp [show i < l.length by omega])
          have HRR := Lib.hid hRR
          clear hla hle2 hRR HBD HRS HLA HLE
          generalize l.take (k + 1) = t at htl HBT HRR
          have HTL := Lib.hid htl
          have HVD : Hid (∀ i, i < k + 1 → valF (t.drop i) = (t.getD i 0).toNat % 128 + 128 * valF (t.drop (i + 1))) := Lib.hid (fun i h => by
            rw [valF_drop t i (by omega)]
            simp [show i < t.length by omega])
          have HVB : Hid (∀ j, 1 ≤ j → valF (t.drop j) ≤ 562949953421312) := Lib.hid (fun j hj => by
            have h1 := valF_lt (t.drop j)
            have h2 : 128 ^ (t.drop j).length ≤ 128 ^ 7 := Nat.pow_le_pow_right (by omega) (by rw [List.length_drop]; omega)
            have h3 : 128 ^ 7 = 562949953421312 := by decide
            omega)
          have HV0 : Hid (valF (t.drop (k + 1)) = 0) := Lib.hid (by rw [List.drop_of_length_le (by omega)]; rfl)
          have hvt := valF_bound t (by omega)
          have d3 : decide ((b.length : Int) ≤ (at' : Int) + (k : Int)) = false := decide_eq_false (by omega)
          have h8' : ((k : Int) == 8) = false := by simp; omega
          clear htl hle hkl
          go_wp2_with fail
          clear d1 c1 d2 hx hx2
          go_loop [8, 9] (fun v8 v9 => ∃ j : Nat, j ≤ k + 1 ∧ v9 = .int .i64 ((j : Int) - 1) ∧ v8 = .int .i64 (valF (t.drop j) : Nat)) (fun _ v9 => (intOf v9 + 1).toNat)
          case atStart => exact ⟨k + 1, by omega, by go_num, by rw [HV0.out]; rfl⟩
          case round =>
            obtain ⟨j, hj, rfl, rfl⟩ := hrel
            by_cases hj0 : j = 0
            · subst hj0
              have HR2 : Hid (R = if okN (valF t : Int) = false ∨ (enc (valF t)).length ≠ k + 1 then (0, 0, 11) else (valF t, k + 1, 0)) := HRR
              rw [show t.drop 0 = t from rfl]
              have e0 : ((0 : Nat) : Int) - 1 = -1 := by omega
              rw [e0]
              clear HRR HVD HVB HBT HV0
              generalize valF t = m at hvt HR2 ⊢
              cases ho : okN (m : Int) with
              | false =>
                have HR3 : Hid (R = (0, 0, 11)) := Lib.hid (by rw [HR2.out, if_pos (.inl ho)])
                have K := HRn.out (m : Int) (by have := of_decide_eq_false ho; exact this) w
                clear ho
                go_wp2_with fail
                refine K.mono ?_; rintro e w1 ⟨rfl, rfl⟩
                go_wp2
                go_ret3
                exact ⟨by rw [HR3.out]; rfl, Below.refl _ _⟩
              | true =>
                have hok := of_decide_eq_true ho
                have K := HRy.out (m : Int) hok w
                have K2 := HB.out m (by omega) w
                have hen := enc_len m (by omega)
                by_cases hel : (enc m).length = k + 1
                · have HR3 : Hid (R = (m, k + 1, 0)) := Lib.hid (by rw [HR2.out, if_neg (by rw [ho]; simp [hel])])
                  have q1 : (((enc m).length : Int) == (k : Int) + 1) = true := by simp; omega
                  have q2 : (((enc m).length : Int) != (k : Int) + 1) = false := by simp; omega
                  clear ho hok hel
                  go_wp2_with fail
                  refine K.mono ?_; rintro e w1 ⟨rfl, rfl⟩
                  go_wp2_with fail
                  refine K2.mono ?_; rintro e w2 ⟨v2, rfl, hown2, hb2⟩
                  obtain ⟨a2, cap2, rfl, _, _, _⟩ := own_form hown2
                  clear hown2
                  go_wp2
                  go_ret3
                  exact ⟨by rw [HR3.out]; rfl, hb2⟩
                · have HR3 : Hid (R = (0, 0, 11)) := Lib.hid (by rw [HR2.out, if_pos (.inr hel)])
                  have q0 : ¬ (((enc m).length : Int) = (k : Int) + 1) := by omega
                  have q1 : (((enc m).length : Int) == (k : Int) + 1) = false := by simpa using q0
                  have q2 : (((enc m).length : Int) != (k : Int) + 1) = true := by simpa using q0
                  clear ho hok hel
                  go_wp2_with fail
                  refine K.mono ?_; rintro e w1 ⟨rfl, rfl⟩
                  go_wp2_with fail
                  refine K2.mono ?_; rintro e w2 ⟨v2, rfl, hown2, hb2⟩
                  obtain ⟨a2, cap2, rfl, _, _, _⟩ := own_form hown2
                  clear hown2
                  go_wp2
                  go_ret3
                  exact ⟨by rw [HR3.out]; rfl, hb2⟩
            · obtain ⟨i, rfl⟩ : ∃ i, j = i + 1 := ⟨j - 1, by omega⟩
              have e0 : ((i + 1 : Nat) : Int) - 1 = (i : Int) := by omega
              rw [e0]
              obtain ⟨hbk, hbe⟩ := HBT.out i (by omega)
              obtain ⟨b2, o2, e2, _, hcs⟩ := HA.out.row (by rw [bytesV_len]; omega)
              have c2 := hcs _ _ (bytesV_at b (at' + i) hbk)
              have hvd := HVD.out i (by omega)
              have hvb := HVB.out (i + 1) (by omega)
              rw [hbe] at c2
              have hy2 : (t.getD i 0).toNat < 256 := (t.getD i 0).toNat_lt
              have HVD2 := Lib.hid hvd
              clear hcs hbe hvd e0
              generalize (t.getD i 0).toNat = y at c2 HVD2 hy2
              generalize valF (t.drop (i + 1)) = m at hvb HVD2 ⊢
              have E2 := Lib.hid e2
              clear e2
              injection E2.out with e3
              injection e3 with e4 e5
              subst e4 e5
              have HV2 : Hid ((valF (t.drop i) : Int) = 128 * (m : Int) + (y : Int) % 128) := Lib.hid (by rw [HVD2.out]; omega)
              clear HVD2
              go_wp2_with fail
              go_round
              case rel => exact ⟨i, by omega, by go_num, by rw [HV2.out]⟩
              case measure => simp [intOf]
    · have hkl2 : k = l.length := by omega
      have hle2 : leadS l = k := by omega
      by_cases h8 : k = 8
      · subst h8
        have HRR : Hid (R = (0, 0, 11)) := Lib.hid (by rw [HRS.out, if_pos hkl])
        have d1 : decide ((at' : Int) + (8 : Int) < (b.length : Int)) = false := decide_eq_false (by omega)
        clear hle2 hkl2
        go_wp2_with fail
        go_ret3
        exact ⟨by rw [HRR.out]; rfl, Below.refl _ _⟩
      · have HRR : Hid (R = (0, 0, 10)) := Lib.hid (by rw [HRS.out, if_neg (by omega), if_pos (by omega)])
        have d1 : decide ((at' : Int) + (k : Int) < (b.length : Int)) = false := decide_eq_false (by omega)
        have d3 : decide ((b.length : Int) ≤ (at' : Int) + (k : Int)) = true := decide_eq_true (by omega)
        have h8' : ((k : Int) == 8) = false := by simp; omega
        clear hle2 hkl2
        go_wp2_with fail
        go_ret3
        exact ⟨by rw [HRR.out]; rfl, Below.refl _ _⟩
/-- the number at a place -/
theorem refNumber1 (A : Option Addr) (cap : Nat) (b : List UInt8) (at' : Nat) (hb : b.length ≤ 100000) (hat : at' ≤ b.length) (w : World) (hA : RowAt w A (bytesV b)) :
    Calls Tryd.prog 38 #[.slice A b.length cap, .int .i64 (at' : Int)] w fun e w' => e = .returned (.tuple #[.int .i64 ((firstS (b.drop at')).1 : Nat), .int .i64 ((firstS (b.drop at')).2.1 : Nat), .int .i64 ((firstS (b.drop at')).2.2 : Nat)]) ∧ Below w.heap.size w w' := by
  rw [firstS_ref]
  exact refNumber A cap b at' hb hat w hA
end Go.Proofs.YtbnlchbklpgejaaDoor.W
