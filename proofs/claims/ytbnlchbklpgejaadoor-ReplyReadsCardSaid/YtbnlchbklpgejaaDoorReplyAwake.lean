/-
  Contract of reply.Refusal; the chapter's example, as the laws of layer 9 ask it first; what Write comes to, of any reply.
-/
import Derived.Test.YtbnlchbklpgejaaDoorReplyEq
import Derived.Test.YtbnlchbklpgejaaDoorReplyRead
import Derived.Test.YtbnlchbklpgejaaDoorReplyRef
namespace Go.Proofs.YtbnlchbklpgejaaDoor.W
set_option linter.unusedVariables false
set_option linter.unusedSimpArgs false
open Go.ChangeShapes Go.WideShapes Go.ChangeAt Go.RowKit

def refP (key e : Int) : Rp := ⟨key, e, 0, 0, none, 0, []⟩
theorem right_ref (key e : Int) : rightP (refP key e) = (decide (0 ≤ key ∧ key ≤ 1073741824) && decide (0 ≤ e ∧ e ≤ 99)) := by
  unfold rightP fourB manyB refP
  simp [okN, okL]
/-- a reply is loaded whole, where it is wanted as it turned out -/
theorem wpList_load_p_g {ops : Array Oper} {rest : List Oper} {o : Oper} {a : Act} {w : World} {Q : Exit → Act → World → Prop} {g : Nat} {r : Rp} (x : Operand) (ho : o.op = .load 25 x)
    (hx : a.eval x = .pointer (some ⟨g, 0, none⟩)) (hb : BoxP w g r) (hw : Region.wanted o (yielded ops a.tmps) = true) (h : wpList Tryd.prog ops Q rest (a.put o.dst (.agg #[.int .i64 r.key, .int .i64 r.err, .int .i64 r.job, .int .i64 r.ver, .slice r.na r.nums.length r.nc])) w) : wpList Tryd.prog ops Q (o :: rest) a w :=
  wpList_step fun K hK => by
    simp only [hw, if_true]
    exact wp_load_p x ho hx hb (hK _ _ h)
/-- what Write comes to, of any reply -/
def WriteToP (r : Rp) (w : World) (e : Ending) (w' : World) : Prop :=
  Below w.heap.size w w' ∧ ((rightP r = true ∧ ∃ A c, e = .returned (.tuple #[.slice A (writeP r).length c, .int .i64 0]) ∧ (A = none → c = 0) ∧ RowAt w' A (bytesV (writeP r))) ∨ (rightP r = false ∧ e = .returned (.tuple #[.slice none 0 0, .int .i64 2])))
theorem replyWrite (r : Rp) (w : World) (hS : Std w) (hc : r.na = none → r.nc = 0) (ha : RowAt w r.na (vals r.nums)) : Calls Tryd.prog 7 #[.agg #[.int .i64 r.key, .int .i64 r.err, .int .i64 r.job, .int .i64 r.ver, .slice r.na r.nums.length r.nc]] w (WriteToP r w) := by
  cases h : rightP r with
  | true =>
    refine (writeP_yes r w hS hc ha h).mono ?_
    rintro e w' ⟨v, rfl, hown, hb⟩
    obtain ⟨A, c, rfl, hr, hn, _⟩ := own_form2 hown
    exact ⟨hb, .inl ⟨h, A, c, rfl, hn, hr⟩⟩
  | false =>
    refine (writeP_no r w hS ha h).mono ?_
    rintro e w' ⟨rfl, hb⟩
    exact ⟨hb, .inr ⟨h, rfl⟩⟩
theorem refusal (key e : Int) (w : World) : Calls Tryd.prog 16 #[.int .i64 key, .int .i64 e] w fun x w' => x = .returned (.agg #[.int .i64 (refP key e).key, .int .i64 (refP key e).err, .int .i64 (refP key e).job, .int .i64 (refP key e).ver, .slice (refP key e).na (refP key e).nums.length (refP key e).nc]) ∧ Below w.heap.size w w' := by
  go_enter Tryd.func16, Tryd.ntmps16
  go_wp2_with ((refine wpList_store_row rfl 25 (.tmp 4) (.tmp 7) rfl w.heap.size _ rfl rfl 25 #[.int .i64 0, .int .i64 0, .int .i64 0, .int .i64 0, .slice none 0 0] (by repeat (first | (refine heap_top (by first | omega | (simp only [World.size_alloc]; done) | (simp only [World.size_alloc]; omega))) | refine heap_up ?_)) (by kernel_rfl) (by simp) (by simp [Value.oneCell']) ?_; generalize hw9 : World.setRow _ _ _ = w9))
  have hb9 : Below w.heap.size w w9 := by rw [← hw9]; exact below_setRow ((by repeat' (first | exact Below.refl _ _ | assumption | exact And.left (by assumption) | refine Below.drew ?_ | refine below_drewN ?_ _ | refine Below.setCell ?_ (by first | (simp; done) | (simp; omega) | omega) _ | refine Below.alloc ?_ (by first | (simp; done) | (simp; omega) | omega) _ | refine after (by assumption) (by first | (simp; done) | (simp; omega) | omega) ?_))) (by omega) _
  have hg9 : w9.heap[w.heap.size]? = some (.cells #[.int .i64 key, .int .i64 e, .int .i64 0, .int .i64 0, .slice none 0 0] 25 (0, 0)) := by rw [← hw9]; exact setRow_heap _ _ _ _ _ _ (by repeat (first | (refine heap_top (by first | omega | (simp only [World.size_alloc]; done) | (simp only [World.size_alloc]; omega))) | refine heap_up ?_))
  clear hw9
  go_wp2
  refine bodyPost_ret (results_cell_row (by simp [results, Tryd.results16]; rfl) _ _ w.heap.size _ _ _ _ rfl hg9 Tryd.underlying25 rfl (by kernel_rfl)) rfl ⟨rfl, hb9⟩
theorem exP_right : rightP (refP 7 50) = true := by rw [right_ref]; decide
theorem exP_write : writeP (refP 7 50) = [7, 50, 0, 0, 0] := by
  unfold writeP
  rw [show numsP (refP 7 50) = [7, 50, 0, 0, 0] from by decide]
  simp only [putL, List.flatMap_cons, List.flatMap_nil]
  rw [enc_small (by decide), enc_small (by decide), enc_small (by decide)]
  rfl
theorem exP_bytes : [Value.int .u8 7, .int .u8 50, .int .u8 0, .int .u8 0, .int .u8 0] = bytesV [7, 50, 0, 0, 0] := by simp [bytesV]
set_option maxHeartbeats 1000000 in
theorem awake9 (w : World) (hS : Std w) : Calls Tryd.prog 6 #[] w fun e w' => e = .returned (.bool true) ∧ Below w.heap.size w w' := by
  have HW := Lib.hid (fun w' hs => writeP_yes (refP 7 50) w' hs (fun _ => rfl) (.inl rfl) exP_right)
  rw [exP_write] at HW
  have HS := Lib.hid (fun a b ca w' => same a b ca 5 [7, 50, 0, 0, 0] (by decide) w')
  have HR := Lib.hid (refusal 7 50)
  have HT := Lib.hid hS
  clear hS
  generalize refP 7 50 = r at HW HR
  go_enter Tryd.func6, Tryd.ntmps6
  go_wp2_with fail
  refine (HR.out w).mono ?_; rintro e w1 ⟨rfl, hb1⟩
  have K := HW.out w1 (HT.out.on hb1)
  have hz1 := hb1.size
  go_wp2_with fail
  refine K.mono ?_; rintro e w2 ⟨v2, rfl, hown2, hb2⟩
  clear K
  obtain ⟨A2, c2, rfl, hrow2, _, _⟩ := own_form2 hown2
  have HR2 := Lib.hid hrow2
  have hz2 := hb2.size
  have hW2 : Below w.heap.size w w2 := hb1.trans (hb2.mono hz1)
  clear hown2 hrow2 hb2
  go_wp2_with fail
  have R4 : RowAt (w2.alloc (.cells #[.int .u8 7, .int .u8 50, .int .u8 0, .int .u8 0, .int .u8 0] 5)) (some ⟨w2.heap.size, 0, none⟩) (bytesV [7, 50, 0, 0, 0]) := by rw [← exP_bytes]; exact row_new w2 _ _
  have K := HS.out _ _ c2 _ (HR2.out.alloc _) R4
  refine K.mono ?_; rintro e w3 ⟨rfl, hb3⟩
  clear K R4
  have hW3 : Below w.heap.size w w3 := (hW2.alloc (by omega) _).trans (hb3.mono (by simp; omega))
  go_wp2
  go_ret
  exact ⟨rfl, hW3⟩
end Go.Proofs.YtbnlchbklpgejaaDoor.W
