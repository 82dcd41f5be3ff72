/-
  Contracts of span.pairs and span.Text: a length's text.
-/
import Derived.Test.YtfbgalmndciiiaaDoorSpanLib
namespace Go.Proofs.YtfbgalmndciiiaaDoor.W
set_option linter.unusedVariables false
set_option linter.unusedSimpArgs false
open Go.ChangeShapes Go.WideShapes Go.ChangeAt Go.RowKit

theorem cells_snoc (l : List UInt8) (c : UInt8) : Lib.byteCells l ++ [.int .u8 (c.toNat : Int)] = Lib.byteCells (l ++ [c]) := by simp [Lib.byteCells]
theorem cells_len (l : List UInt8) : (Lib.byteCells l).length = l.length := by simp [Lib.byteCells]
/-- what is written when k numbers have been -/
def pairTo (m r : Nat) : Nat → List UInt8
  | 0 => []
  | 1 => 58 :: dig2 m
  | _ => pairL m r
theorem pairTo_len (m r k : Nat) : (pairTo m r k).length ≤ 6 := by
  rcases k with _ | _ | k <;> simp [pairTo, pairL, dig2]
theorem pairTo_succ (m r : Nat) {k : Nat} (hk : k < 2) (x : Nat) (hx : x = if k = 0 then m else r) :
    pairTo m r k ++ [58] ++ [UInt8.ofNat (48 + x / 10)] ++ [UInt8.ofNat (48 + x % 10)] = pairTo m r (k + 1) := by
  subst hx
  rcases k with _ | _ | k
  · rfl
  · rfl
  · omega

set_option maxHeartbeats 4000000 in
set_option maxRecDepth 100000 in
theorem pairs (bk m r : Nat) (hm : m < 60) (hr : r < 60) (w : World) (hbk : bk < w.heap.size) (c0 : w.cell? ⟨bk, 0, none⟩ = some (.int .i64 m)) (c1 : w.cell? ⟨bk, 1, none⟩ = some (.int .i64 r)) :
    Calls Tryd.prog 13 #[.slice (some ⟨bk, 0, none⟩) 2 2] w fun e w' => e = .returned (.string (bs (pairL m r))) ∧ Below w.heap.size w w' := by
  have HW := Lib.hid writeByte
  have HS := Lib.hid Tryd.Builder_String_k
  have hcell : ∀ k, k < 2 → ∃ x : Nat, x < 60 ∧ x = (if k = 0 then m else r) ∧ w.cell? ⟨bk, k, none⟩ = some (.int .i64 (x : Int)) := by
    intro k hk
    rcases k with _ | _ | k
    · exact ⟨m, hm, rfl, c0⟩
    · exact ⟨r, hr, rfl, c1⟩
    · omega
  have HC := Lib.hid hcell
  clear hcell c0 c1
  go_enter Tryd.func13, Tryd.ntmps13
  go_wp2_with fail
  go_loopw [8] (fun v8 wr => ∃ k : Nat, k ≤ 2 ∧ v8 = .int .i64 k ∧ Hid (Lib.IsBuilderF 43 5 w.heap.size w.heap.size (Lib.byteCells (pairTo m r k)) wr) ∧ Below w.heap.size w wr) (fun v8 _ => 2 - (intOf v8).toNat)
  case atStart => exact ⟨0, by omega, rfl, Lib.hid (Lib.IsBuilderF.of (Lib.fresh_isBuilder _ _ _)), (Below.refl _ _).alloc (Nat.le_refl _) _⟩
  case round =>
    obtain ⟨k, hk, rfl, HB, hbw⟩ := hrel
    have hz := hbw.size
    have hlen := pairTo_len m r k
    by_cases hlt : k < 2
    · obtain ⟨x, hx60, hxe, hcx⟩ := HC.out k hlt
      have cA : wr.cell? ⟨bk, k, none⟩ = some (.int .i64 (x : Int)) := (hbw.cell (p := ⟨bk, k, none⟩) hbk).trans hcx
      have hs := Lib.hid (pairTo_succ m r hlt x hxe)
      have e1 : Hid ((48 : Int) + (x : Int) / 10 = ((UInt8.ofNat (48 + x / 10)).toNat : Int)) := Lib.hid (by rw [dig_toNat (by omega)]; omega)
      have e2 : Hid ((48 : Int) + (x : Int) % 10 = ((UInt8.ofNat (48 + x % 10)).toNat : Int)) := Lib.hid (by rw [dig_toNat (by omega)]; omega)
      clear hxe hcx
      go_wp2_with fail
      refine (HW.out w.heap.size w.heap.size _ 58 _ HB.out (by rw [cells_len]; omega) hz).mono ?_; rintro e w1 ⟨rfl, hB1, hb1⟩
      have HB1 := Lib.hid hB1
      have hz1 := hb1.size
      clear hB1 HB
      go_wp2_with fail
      refine (HW.out w.heap.size w.heap.size _ _ _ HB1.out (by rw [List.length_append, cells_len]; simp; omega) (by omega)).mono ?_; rintro e w2 ⟨rfl, hB2, hb2⟩
      have HB2 := Lib.hid hB2
      have hz2 := hb2.size
      clear hB2 HB1
      go_wp2_with fail
      refine (HW.out w.heap.size w.heap.size _ _ _ HB2.out (by rw [List.length_append, List.length_append, cells_len]; simp; omega) (by omega)).mono ?_; rintro e w3 ⟨rfl, hB3, hb3⟩
      have HB3 := Lib.hid hB3
      clear hB3 HB2
      go_wp2
      go_roundw
      case rel =>
        refine ⟨k + 1, by omega, by go_num, Lib.hid ?_, hbw.trans (hb1.trans (hb2.trans hb3))⟩
        have h3 := HB3.out
        rw [e1.out, e2.out, show ((58 : Int)) = ((58 : UInt8).toNat : Int) from rfl, cells_snoc, cells_snoc, cells_snoc, hs.out] at h3
        exact h3
      case measure => simp [intOf]; omega
    · have hk2 : k = 2 := by omega
      subst hk2
      go_wp2_with fail
      refine (HS.out w.heap.size w.heap.size (pairL m r) wr HB.out (by unfold pairL; simp)).mono ?_; rintro e w1 ⟨rfl, _, hb1, _⟩
      go_wp2
      go_ret
      exact ⟨rfl, hbw.trans hb1⟩

set_option maxHeartbeats 2000000 in
theorem text_no (n : Int) (h : n < 0 ∨ 65536 < n) (w : World) :
    Calls Tryd.prog 8 #[.int .i64 n] w fun e w' => e = .returned (.tuple #[.string (bs []), .int .i64 2]) ∧ Below w.heap.size w w' := by
  by_cases h0 : n < 0
  · clear h
    go_enter Tryd.func8, Tryd.ntmps8
    go_wp2
    go_ret2
    exact ⟨rfl, Below.refl _ _⟩
  · have h1 : 65536 < n := by omega
    clear h
    go_enter Tryd.func8, Tryd.ntmps8
    go_wp2
    go_ret2
    exact ⟨rfl, Below.refl _ _⟩

set_option maxHeartbeats 4000000 in
set_option maxRecDepth 100000 in
theorem text_yes (n : Nat) (h : n ≤ 65536) (w : World) (hS : Std w) :
    Calls Tryd.prog 8 #[.int .i64 n] w fun e w' => e = .returned (.tuple #[.string (bs (stext n)), .int .i64 0]) ∧ Below w.heap.size w w' := by
  have HP := Lib.hid (fun w => parts_yes n (by omega) w)
  obtain ⟨hh, ehh⟩ : ∃ hh, hh = n / 3600 := ⟨_, rfl⟩
  obtain ⟨mm, emm⟩ : ∃ mm, mm = n % 3600 / 60 := ⟨_, rfl⟩
  obtain ⟨rr, err⟩ : ∃ rr, rr = n % 60 := ⟨_, rfl⟩
  have l1 : mm < 60 := by omega
  have l2 : rr < 60 := by omega
  have l3 : hh ≤ 18 := by omega
  have hs : Hid (stext n = Lib.decDigits hh ++ pairL mm rr) := Lib.hid (by unfold stext; rw [← ehh, ← emm, ← err])
  rw [← ehh, ← emm, ← err] at HP
  have hld : (Lib.decDigits hh).length ≤ 2 := by
    rcases dec_small l3 with ⟨_, e⟩ | ⟨_, e⟩ <;> rw [e] <;> simp
  have HI := Lib.hid (fun w hS => cItoa hh w hS (by omega))
  have HQ := Lib.hid pairs
  have ha : ∀ w', (Op.stringOp .add (bs (Lib.decDigits hh)) (bs (pairL mm rr))).run Tryd.prog w' = .ok (.string (bs (Lib.decDigits hh ++ pairL mm rr))) w' := fun w' => add_bs w' _ _ (by unfold pairL dig2; simp; omega)
  clear ehh emm err
  go_enter Tryd.func8, Tryd.ntmps8
  go_wp2_with fail
  refine (HP.out _).mono ?_; rintro e w1 ⟨rfl, rfl⟩
  go_wp2_with fail
  refine (HI.out _ hS).mono ?_; rintro e w2 ⟨rfl, hb2⟩
  have hz2 := hb2.size
  go_wp2_with fail
  refine (HQ.out w2.heap.size mm rr l1 l2 _ (by simp) (by simp [go_sem]) (by simp [go_sem])).mono ?_; rintro e w3 ⟨rfl, hb3⟩
  have hz3 := hb3.size
  go_wp2
  go_ret2
  exact ⟨by rw [hs.out]; rfl, (by repeat' (first | exact Below.refl _ _ | assumption | exact And.left (by assumption) | refine Below.drew ?_ | refine below_drewN ?_ _ | refine Below.setCell ?_ (by first | (simp; done) | (simp; omega) | omega) _ | refine Below.alloc ?_ (by first | (simp; done) | (simp; omega) | omega) _ | refine after (by assumption) (by first | (simp; done) | (simp; omega) | omega) ?_))⟩

end Go.Proofs.YtfbgalmndciiiaaDoor.W
