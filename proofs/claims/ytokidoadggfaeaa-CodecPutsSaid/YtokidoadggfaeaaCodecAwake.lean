/-
  The chapter's example, as both laws of layer 5 ask it first.
-/
import Derived.Test.YtokidoadggfaeaaCodecRead
import Derived.Test.YtokidoadggfaeaaCodecRef
namespace Go.Proofs.Ytokidoadggfaeaa.W
set_option linter.unusedVariables false
set_option linter.unusedSimpArgs false
open Go.ChangeShapes Go.WideShapes Go.ChangeAt Go.RowKit

theorem enc300 : enc 300 = [172, 2] := by rw [enc_big (by decide), show 300 / 128 = 2 from rfl, enc_small (by decide)]; rfl
theorem put300 : [9] ++ putL [300] = [9, 172, 2] := by
  rw [putL_cons, putL_nil, show (300 : Int).toNat = 300 from rfl, enc300]; rfl
theorem first300 : firstS [172, 2] = (300, 2, 0) := by
  have h := first_put 300 (by decide) []
  rw [enc300] at h
  exact h

theorem b9 : [Value.int .u8 9] = bytesV [9] := by simp [bytesV]
theorem b3 : [Value.int .u8 9, .int .u8 172, .int .u8 2] = bytesV [9, 172, 2] := by simp [bytesV]
theorem b2 : [Value.int .u8 172, .int .u8 2] = bytesV [172, 2] := by simp [bytesV]
theorem v1 : [Value.int .i64 300] = vals [300] := by simp [vals]
theorem row9 (w : World) (t : TypeId) : RowAt (w.alloc (.cells #[.int .u8 9] t)) (some ⟨w.heap.size, 0, none⟩) (bytesV [9]) := by rw [← b9]; exact row_new w _ t
theorem row3 (w : World) (t : TypeId) : RowAt (w.alloc (.cells #[.int .u8 9, .int .u8 172, .int .u8 2] t)) (some ⟨w.heap.size, 0, none⟩) (bytesV [9, 172, 2]) := by rw [← b3]; exact row_new w _ t
theorem row2 (w : World) (t : TypeId) : RowAt (w.alloc (.cells #[.int .u8 172, .int .u8 2] t)) (some ⟨w.heap.size, 0, none⟩) (bytesV [172, 2]) := by rw [← b2]; exact row_new w _ t
theorem row300 (w : World) (t : TypeId) : RowAt (w.alloc (.cells #[.int .i64 300] t)) (some ⟨w.heap.size, 0, none⟩) (vals [300]) := by rw [← v1]; exact row_new w _ t

/-- a call behind what the caller made -/
theorem after {B : Nat} {w v w1 : World} (h : Below v.heap.size v w1) (hB : B ≤ v.heap.size) (k : Below B w v) : Below B w w1 := k.trans (h.mono hB)
/-- one that a call made, as the callers of codec's functions want it -/
theorem own_read {w : World} {base : Nat} {e : TypeId} {n : Nat} {v : Value} {xs : List Value} (h : w.ownsRow base e 1 v n xs) :
    ∃ a cap, v = .slice a n cap ∧ n ≤ cap ∧ RowAt w a xs ∧ (a = none → cap = 0) := by
  obtain ⟨a, cap, h1, h2, h3, h4⟩ := own_form h
  refine ⟨a, cap, h1, h2, h3, fun ha => ?_⟩
  rcases h4 with ⟨_, _, h⟩ | ⟨g, h, _⟩
  · exact h
  · rw [ha] at h; cases h

set_option maxHeartbeats 400000 in
set_option maxRecDepth 100000 in
theorem awake (w : World) : Calls Try.prog 5 #[] w fun e w' => e = .returned (.bool true) ∧ Below w.heap.size w w' := by
  have HP := Lib.hid (fun (a A : Option Addr) (w : World) => put_yes a A 1 1 [9] [300] (by decide) (by decide) (by decide) w)
  rw [put300] at HP
  have HS := Lib.hid (fun a b ca w => same a b ca 3 [9, 172, 2] (by decide) w)
  have HN := Lib.hid (fun (a : Option Addr) (w : World) => new a 2 [172, 2] w (by decide))
  have HR := Lib.hid (fun g w => number_ok g [172, 2] (by decide) 300 2 (by decide) (by decide) first300 w)
  go_enter Try.func5, Try.ntmps5
  go_wp2_with fail
  have R1 := row9 w 5
  have R2 := row300 (w.alloc (.cells #[.int .u8 9] 5)) 3
  have K := HP.out (some ⟨w.heap.size, 0, none⟩) (some ⟨w.heap.size + 1, 0, none⟩) ((w.alloc (.cells #[.int .u8 9] 5)).alloc (.cells #[.int .i64 300] 3)) (by simp) (R1.alloc _) (by simpa using R2)
  refine K.mono ?_; rintro e w1 ⟨x1, rfl, hown1, hb1⟩
  clear K
  clear R1 R2
  obtain ⟨a1, cap1, rfl, hcap1, hrow1, _⟩ := own_read hown1
  have hy1 : w.heap.size + 2 ≤ w1.heap.size := by simpa using hb1.size
  have hbel1 : Below w.heap.size w w1 := (((Below.refl _ w).alloc (Nat.le_refl _) _).alloc (by simp) _).trans (hb1.mono (by simp; omega))
  clear hown1
  go_wp2_with fail
  have R3 := row3 w1 5
  have K := HS.out _ _ cap1 _ (hrow1.alloc _) R3
  refine K.mono ?_; rintro e w2 ⟨rfl, hb2⟩
  clear K
  clear R3 hrow1
  have hy2 : w1.heap.size + 1 ≤ w2.heap.size := by simpa using hb2.size
  have hbel2 : Below w.heap.size w w2 := (hbel1.alloc (by omega) _).trans (hb2.mono (by simp; omega))
  go_wp2_with fail
  have R4 := row2 w2 5
  have K := HN.out _ _ (fun h => by cases h) R4
  refine K.mono ?_; rintro e w3 ⟨g, rfl, hg, hrd, hb3⟩
  clear K
  clear R4
  have hy3 : w2.heap.size + 1 ≤ w3.heap.size := by simpa using hb3.size
  have hg' : w2.heap.size + 1 ≤ g := by simpa using hg
  have hbel3 : Below w.heap.size w w3 := (hbel2.alloc (by omega) _).trans (hb3.mono (by simp; omega))
  have HD := Lib.hid hrd
  clear hrd hg
  go_wp2_with fail
  refine (HR.out g _ HD.out).mono ?_; rintro e w4 ⟨rfl, _, hgr⟩
  have hbel4 : Below w.heap.size w w4 := hbel3.grown hgr (by omega) (fun k hk => by injection hk with hk; omega)
  go_wp2
  go_ret
  exact ⟨rfl, hbel4⟩
end Go.Proofs.Ytokidoadggfaeaa.W
