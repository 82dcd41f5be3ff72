/-
  Contracts of slices.Clone, slices.Grow, slices.Concat over steps.
-/
import Derived.Test.YtcdajfiohhbdgaaStMem
import Derived.Lib.AppendZerosOnto
namespace Go.Proofs.Ytcdajfiohhbdgaa.W
set_option maxRecDepth 100000
set_option linter.unusedVariables false
set_option linter.unusedSimpArgs false
open Go.ChangeShapes Go.WideShapes Go.ChangeAt Go.RowKit

set_option maxHeartbeats 1000000 in
theorem cloneSt (b off cap : Nat) (l : List St) (w : World) (hl : l.length ≤ 100000) (h : RowAt w (some ⟨b, off, none⟩) (stsV l)) :
    Calls Try.prog 89 #[.slice (some ⟨b, off, none⟩) l.length cap] w fun e w' => ∃ v, e = .returned v ∧ w'.ownsRow w.heap.size 101 5 v l.length (stsV l) ∧ Below w.heap.size w w' := by
  obtain ⟨i0, hi, hzz, hzs, hzb⟩ := info_parts infoSt
  have H := Lib.hid h
  clear h
  have q22 : ∀ (w : World) (a : Option Addr) (n c n' c' : Nat), (binOp .eql 79 (.slice a n c) (.slice none n' c')).run Try.prog w = .ok (.bool a.isNone) w := fun w a n c n' c' => Lib.run_eql_slice_nil w _ _ a n c n' c' Try.underlying79
  go_enter Try.func89, Try.ntmps89
  go_wp2_with (at_builtin; refine pushBig _ _ 79 101 5 40 _ i0 Try.underlying79 hi hzz hzs hzb rfl (by decide) (by decide) w.heap.size w.heap.size 0 l.length cap [] (stsV l) _ ⟨b, off, none⟩ w _ rfl rfl rfl rfl (stsV_len l) (World.ownsRow_lit w #[] 0 (Nat.le_refl _) (by decide) rfl) (H.out.alloc _) ((Below.refl _ _).alloc (Nat.le_refl _) _) (Nat.le_refl _) (by simp) (stsV_cells l) (by omega) ?_)
  intro v' w1 hown hb1 _
  go_wp2
  go_ret
  exact ⟨_, rfl, by simpa using hown, hb1⟩

set_option maxHeartbeats 2000000 in
theorem growSt (n : Nat) (h0 : 0 < n) (hn : n ≤ 1000000) (w : World) :
    Calls Try.prog 97 #[.slice none 0 0, .int .i64 (n : Int)] w fun e w' => ∃ v, e = .returned v ∧ w'.ownsRow w.heap.size 101 5 v 0 [] ∧ Below w.heap.size w w' := by
  obtain ⟨i0, hi, hzz, hzs, hzb⟩ := info_parts infoSt
  obtain ⟨z, hz⟩ : ∃ z, z = (Value.agg #[.int .i64 0, .int .i64 0, .int .i64 0, .int .i64 0, .int .i64 0]) := ⟨_, rfl⟩
  have hzc : z.cells.size = 5 := by rw [hz]; rfl
  rw [← hz] at hzz
  have hr := Lib.run_append_grow_zeros (P := Try.prog) w 79 3 79 101 i0 z .i64 .i64 Try.underlying79 Try.underlying3 hi hzz none 0 0 [] (run_firstCells_none w.drew i0.size 0 0 0) n h0 (by omega) (by omega) (by omega) (by rw [hzb]; omega) (growslice_fits (by omega) (by rw [hzb]; omega))
  have hG := grownCap_ge w (0 + n) 0 101
  have hM := grownCap_le_maxLen w (0 + n) 0 101 (by unfold maxLen; omega)
  simp only [Nat.zero_add] at hr hG hM
  generalize grownCap w n 0 101 = G at hr hG hM
  have hcs : (([] : List Value).toArray ++ Builtin.zeroCells z.cells n ++ Builtin.zeroCells z.cells (G - n)).size = G * 5 := by
    rw [Array.size_append, Array.size_append, size_zeroCells, size_zeroCells, hzc]; simp; omega
  generalize ([] : List Value).toArray ++ Builtin.zeroCells z.cells n ++ Builtin.zeroCells z.cells (G - n) = cs at hr hcs
  have HO := Lib.hid (World.ownsRow_made (e := 101) (size := 5) (base := w.heap.size) w.drew cs G (Nat.le_refl _) hM hcs)
  have hGG : G ≤ 9223372036854775807 := by unfold maxLen at hM; omega
  have h1 : (0 : Int) < n := by omega
  have HR := Lib.hid hr
  clear hr hM hcs hz hzc hzz
  go_enter Try.func97, Try.ntmps97
  go_wp2_with (at_builtin; refine Lib.wpList_append_run _ rfl _ _ _ _ rfl _ _ rfl rfl _ _ HR.out ?_)
  all_goals
    go_ret
    exact ⟨_, rfl, HO.out, (Below.refl _ _).drew.alloc (Nat.le_refl _) _⟩

def accL (x y z : List St) (k : Nat) : List St := match k with | 0 => [] | 1 => x | 2 => x ++ y | _ => x ++ y ++ z
set_option maxHeartbeats 4000000 in
theorem concatSt (B b1 o1 c1 b2 o2 c2 b3 o3 c3 : Nat) (x y z : List St) (hx : x.length ≤ 100000) (hy : y.length ≤ 100000) (hz : z.length ≤ 100000) (hpos : 0 < x.length) (w : World)
    (h0 : w.cell? ⟨B, 0, none⟩ = some (.slice (some ⟨b1, o1, none⟩) x.length c1)) (h1 : w.cell? ⟨B, 1, none⟩ = some (.slice (some ⟨b2, o2, none⟩) y.length c2)) (h2 : w.cell? ⟨B, 2, none⟩ = some (.slice (some ⟨b3, o3, none⟩) z.length c3))
    (r1 : RowAt w (some ⟨b1, o1, none⟩) (stsV x)) (r2 : RowAt w (some ⟨b2, o2, none⟩) (stsV y)) (r3 : RowAt w (some ⟨b3, o3, none⟩) (stsV z)) :
    Calls Try.prog 90 #[.slice (some ⟨B, 0, none⟩) 3 3] w fun e w' => ∃ v, e = .returned v ∧ w'.ownsRow w.heap.size 101 5 v (x ++ y ++ z).length (stsV (x ++ y ++ z)) ∧ Below w.heap.size w w' := by
  obtain ⟨i0, hi, hzz, hzs, hzb⟩ := info_parts infoSt
  have R1 := Lib.hid r1
  have R2 := Lib.hid r2
  have R3 := Lib.hid r3
  have HG := Lib.hid (fun w' => growSt (x.length + y.length + z.length) (by omega) (by omega) w')
  have hB : B < w.heap.size := World.block_lt_of_cell? _ _ h0
  clear r1 r2 r3
  generalize hn1 : x.length = n1 at *
  generalize hn2 : y.length = n2 at *
  generalize hn3 : z.length = n3 at *
  have N1 := Lib.hid hn1
  have N2 := Lib.hid hn2
  have N3 := Lib.hid hn3
  clear hn1 hn2 hn3
  go_enter Try.func90, Try.ntmps90
  go_wp2
  go_loop [3, 11] (fun s i => (i = .int .i64 0 ∧ s = .int .i64 0) ∨ (i = .int .i64 1 ∧ s = .int .i64 (n1 : Int)) ∨ (i = .int .i64 2 ∧ s = .int .i64 ((n1 : Int) + n2)) ∨ (i = .int .i64 3 ∧ s = .int .i64 ((n1 : Int) + n2 + n3))) (fun _ i => 3 - (intOf i).toNat)
  case atStart => exact .inl ⟨rfl, rfl⟩
  case round =>
    rcases hrel with ⟨rfl, rfl⟩ | ⟨rfl, rfl⟩ | ⟨rfl, rfl⟩ | ⟨rfl, rfl⟩
    · go_wp2
      go_round
      case rel => exact .inr (.inl ⟨rfl, by go_num⟩)
      case measure => simp [intOf]
    · go_wp2
      go_round
      case rel => exact .inr (.inr (.inl ⟨rfl, by go_num⟩))
      case measure => simp [intOf]
    · go_wp2
      go_round
      case rel => exact .inr (.inr (.inr ⟨rfl, by go_num⟩))
      case measure => simp [intOf]
    · go_wp2_with fail
      have K := HG.out w
      rw [show ((n1 + n2 + n3 : Nat) : Int) = (n1 : Int) + n2 + n3 by omega] at K
      refine K.mono ?_
      rintro e w1 ⟨v1, rfl, hO, hb1⟩
      have HO := Lib.hid hO
      have HB1 := Lib.hid hb1
      clear hO K
      go_wp2
      go_loopw [6, 27] (fun s6 i wr => ∃ k : Nat, k ≤ 3 ∧ i = .int .i64 (k : Int) ∧ Hid (wr.ownsRow w.heap.size 101 5 s6 (accL x y z k).length (stsV (accL x y z k))) ∧ Below w.heap.size w wr) (fun _ i _ => 3 - (intOf i).toNat)
      case atStart => exact ⟨0, by omega, rfl, HO, hb1⟩
      case round =>
        obtain ⟨k, hk, rfl, HI, hb⟩ := hrel
        have g0 := carry hb h0
        have g1 := carry hb h1
        have g2 := carry hb h2
        have hzr := hb.size
        rcases (show k = 0 ∨ k = 1 ∨ k = 2 ∨ k = 3 by omega) with rfl | rfl | rfl | rfl
        · go_wp2_with (at_builtin; refine pushBig _ _ 79 101 5 40 _ i0 Try.underlying79 hi hzz hzs hzb rfl (by decide) (by decide) w.heap.size w.heap.size 0 n1 c1 [] (stsV x) _ ⟨b1, o1, none⟩ w _ rfl rfl rfl rfl (by rw [stsV_len, N1.out]) HI.out (R1.out.later hb) hb (Nat.le_refl _) hzr (stsV_cells x) (by omega) ?_)
          intro v' w3 hown hb3 _
          go_wp2
          go_roundw
          case rel => exact ⟨1, by omega, by go_num, Lib.hid (by show World.ownsRow _ _ _ _ _ x.length (stsV x); rw [N1.out]; simpa using hown), hb3⟩
          case measure => simp [intOf]
        · go_wp2_with (at_builtin; refine pushBig _ _ 79 101 5 40 _ i0 Try.underlying79 hi hzz hzs hzb rfl (by decide) (by decide) w.heap.size w.heap.size x.length n2 c2 (stsV x) (stsV y) _ ⟨b2, o2, none⟩ w _ rfl rfl rfl rfl (by rw [stsV_len, N2.out]) HI.out (R2.out.later hb) hb (Nat.le_refl _) hzr (stsV_cells y) (by rw [N1.out]; omega) ?_)
          intro v' w3 hown hb3 _
          go_wp2
          go_roundw
          case rel => exact ⟨2, by omega, by go_num, Lib.hid (by show World.ownsRow _ _ _ _ _ (x ++ y).length (stsV (x ++ y)); rw [List.length_append, N2.out, stsV_app]; exact hown), hb3⟩
          case measure => simp [intOf]
        · go_wp2_with (at_builtin; refine pushBig _ _ 79 101 5 40 _ i0 Try.underlying79 hi hzz hzs hzb rfl (by decide) (by decide) w.heap.size w.heap.size (x ++ y).length n3 c3 (stsV (x ++ y)) (stsV z) _ ⟨b3, o3, none⟩ w _ rfl rfl rfl rfl (by rw [stsV_len, N3.out]) HI.out (R3.out.later hb) hb (Nat.le_refl _) hzr (stsV_cells z) (by rw [List.length_append, N1.out, N2.out]; omega) ?_)
          intro v' w3 hown hb3 _
          go_wp2
          go_roundw
          case rel => exact ⟨3, by omega, by go_num, Lib.hid (by show World.ownsRow _ _ _ _ _ (x ++ y ++ z).length (stsV (x ++ y ++ z)); rw [show (x ++ y ++ z).length = x.length + y.length + n3 by rw [← N3.out]; simp; omega, stsV_app]; exact hown), hb3⟩
          case measure => simp [intOf]
        · go_wp2
          go_ret
          exact ⟨_, rfl, HI.out, hb⟩
end Go.Proofs.Ytcdajfiohhbdgaa.W
