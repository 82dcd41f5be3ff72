/-
  The chapter's example, as the laws of layer 8 ask it first.
-/
import Derived.Test.YtkeboafejebanaaAskWrite
import Derived.Test.YtkeboafejebanaaCodecRef
namespace Go.Proofs.Ytkeboafejebanaa.W
set_option linter.unusedVariables false
set_option linter.unusedSimpArgs false
open Go.ChangeShapes Go.WideShapes Go.ChangeAt Go.RowKit

def exQ : Rq := ⟨3, 1, [0, 3, 0, 0, 0, 0, 0, 0, 0, 0, 0, 0, 0, 0, 0], none, 0, []⟩
theorem ex_right : rightQ exQ = true := by decide
theorem ex_write : writeQ exQ = [3, 1, 3, 0] := by
  unfold writeQ
  rw [show numsL exQ = [3, 1, 3, 0] from by decide]
  simp only [putL, List.flatMap_cons, List.flatMap_nil]
  rw [enc_small (by decide), enc_small (by decide), enc_small (by decide)]
  rfl
theorem ex_bytes : [Value.int .u8 3, .int .u8 1, .int .u8 3, .int .u8 0] = bytesV [3, 1, 3, 0] := by simp [bytesV]
set_option maxHeartbeats 1000000 in
theorem awake8 (w : World) : Calls Try.prog 6 #[] w fun e w' => e = .returned (.bool true) ∧ Below w.heap.size w w' := by
  have HW := Lib.hid (fun w' => write_yes exQ rfl w' (.inl rfl) ex_right)
  rw [ex_write] at HW
  have HS := Lib.hid (fun a b ca w' => same a b ca 4 [3, 1, 3, 0] (by decide) w')
  have HQ := Lib.hid query
  go_enter Try.func6, Try.ntmps6
  go_wp2_with (first
    | ((with_reducible refine wpList_store_row rfl 26 (.tmp 1) (.tmp 4) rfl w.heap.size _ rfl rfl 26 #[.int .i64 0, .int .i64 0, .int .i64 0, .int .i64 0, .int .i64 0, .int .i64 0, .int .i64 0, .int .i64 0, .int .i64 0, .int .i64 0, .int .i64 0, .int .i64 0, .slice none 0 0, .int .i64 0, .int .i64 0, .int .i64 0, .int .i64 0] (by repeat (first | (refine heap_top (by first | omega | (simp only [World.size_alloc]; done) | (simp only [World.size_alloc]; omega))) | refine heap_up ?_)) (by kernel_rfl) (by simp) (by simp [Value.oneCell']) ?_)
       generalize hw1 : World.setRow _ _ _ = w1
       have hb1 : Below w.heap.size w w1 := by rw [← hw1]; exact below_setRow ((by repeat' (first | exact Below.refl _ _ | assumption | exact And.left (by assumption) | refine Below.drew ?_ | refine below_drewN ?_ _ | refine Below.setCell ?_ (by first | (simp; done) | (simp; omega) | omega) _ | refine Below.alloc ?_ (by first | (simp; done) | (simp; omega) | omega) _ | refine after (by assumption) (by first | (simp; done) | (simp; omega) | omega) ?_))) (Nat.le_refl _) _
       have HX1 : Hid (BoxQ w1 w.heap.size exQ) := Lib.hid ⟨by rw [← hw1]; exact setRow_heap _ _ _ _ _ _ (by repeat (first | (refine heap_top (by first | omega | (simp only [World.size_alloc]; done) | (simp only [World.size_alloc]; omega))) | refine heap_up ?_))⟩
       clear hw1)
    | with_reducible refine wpList_load_q (q := exQ) rfl (.tmp 1) rfl rfl HX1.out ?_)
  have K := HW.out w1
  refine K.mono ?_; rintro e w2 ⟨v2, rfl, hown2, hb2⟩
  clear K
  obtain ⟨A2, c2, rfl, _, hrow2, _⟩ := RowT.of hown2
  have HR2 := Lib.hid hrow2.row
  have hz1 := hb1.size
  have hz2 := hb2.size
  have hW2 : Below w.heap.size w w2 := hb1.trans (hb2.mono hz1)
  clear hown2 hrow2 hb2
  go_wp2_with fail
  have R4 : RowAt (w2.alloc (.cells #[.int .u8 3, .int .u8 1, .int .u8 3, .int .u8 0] 5)) (some ⟨w2.heap.size, 0, none⟩) (bytesV [3, 1, 3, 0]) := by rw [← ex_bytes]; exact row_new w2 _ _
  have K := HS.out _ _ c2 _ (HR2.out.alloc _) R4
  refine K.mono ?_; rintro e w3 ⟨rfl, hb3⟩
  clear K R4
  have hW3 : Below w.heap.size w w3 := (hW2.alloc (by omega) _).trans (hb3.mono (by simp; omega))
  go_wp2_with fail
  refine (HQ.out 10 _).mono ?_; rintro e w4 ⟨rfl, rfl⟩
  rw [show queryB 10 = true from rfl]
  go_wp2_with fail
  refine (HQ.out 1 _).mono ?_; rintro e w5 ⟨rfl, rfl⟩
  rw [show queryB 1 = false from rfl]
  go_wp2
  go_ret
  exact ⟨rfl, hW3⟩
end Go.Proofs.Ytkeboafejebanaa.W
