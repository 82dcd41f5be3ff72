/-
  Contracts of the document's At and Plain over steps.
-/
import Derived.Test.YtcnpppkndcgmpaaStPlain
namespace Go.Proofs.Ytcnpppkndcgmpaa.W
set_option linter.unusedVariables false
set_option linter.unusedSimpArgs false
open Go.ChangeShapes Go.WideShapes Go.ChangeAt Go.RowKit

theorem rise_pair : ∀ {a : Int} {l : List St}, Rise a l → l.Pairwise (fun x y => x.at_ < y.at_)
  | _, [], _ => .nil
  | _, s :: r, h => .cons (fun y hy => (rise_mem h.2.2.2 y hy).1) (rise_pair h.2.2.2)
theorem rise_idx {a : Int} {l : List St} (h : Rise a l) {i j : Nat} (hi : i < l.length) (hj : j < l.length) (hij : i ≤ j) : l[i].at_ ≤ l[j].at_ := by
  rcases Nat.lt_or_ge i j with h' | h'
  · have := List.pairwise_iff_getElem.1 (rise_pair h) i j hi hj h'; omega
  · obtain rfl : i = j := by omega
    exact Int.le_refl _
theorem atL_idx {l : List St} (h : OkS l) {t : Int} {j : Nat} (hj : j < l.length) (hjt : l[j].at_ ≤ t) (hlater : ∀ i (hi : i < l.length), j < i → t < l[i].at_) : atL l t = l[j].free :=
  atS_of h.2 _ (List.getElem_mem hj) hjt (fun x hx hxt => by
    obtain ⟨i, hi, rfl⟩ := List.getElem_of_mem hx
    rcases Nat.lt_or_ge j i with h' | h'
    · have := hlater i hi h'; omega
    · exact rise_idx h.2 hi hj h')
set_option maxHeartbeats 1000000 in
theorem rAt (a : Option Addr) (cap : Nat) (l : List St) (hl : l.length ≤ 100000) (h : OkS l) (t : Int) (w : World) (HA : StAt w a cap l) :
    Calls Try.prog 18 #[.slice a l.length cap, .int .i64 t] w fun e w' => e = .returned (.agg #[.int .i64 (atL l t).cpu, .int .i64 (atL l t).mem, .int .i64 (atL l t).gpu, .int .i64 (atL l t).lic]) ∧ Below w.heap.size w w' := by
  have HR := Lib.hid HA
  have HO := Lib.hid h
  have hpos : 0 < l.length := List.length_pos_iff.2 h.1
  clear HA h
  go_enter Try.func18, Try.ntmps18
  go_wp2
  go_loopw [5] (fun x wr => ∃ i : Int, -1 ≤ i ∧ i < l.length ∧ x = .int .i64 i ∧ Hid (∀ j (hj : j < l.length), i < j → t < l[j].at_) ∧ wr.heap.size = w.heap.size + 1 ∧ Hid (Below w.heap.size w wr) ∧
    (wr.cell? ⟨w.heap.size, 0, none⟩ = some (.int .i64 0) ∧ wr.cell? ⟨w.heap.size, 1, none⟩ = some (.int .i64 0) ∧ wr.cell? ⟨w.heap.size, 2, none⟩ = some (.int .i64 0) ∧ wr.cell? ⟨w.heap.size, 3, none⟩ = some (.int .i64 0)) ∧
    (wr.frozen? ⟨w.heap.size, 0, none⟩ = false ∧ wr.frozen? ⟨w.heap.size, 1, none⟩ = false ∧ wr.frozen? ⟨w.heap.size, 2, none⟩ = false ∧ wr.frozen? ⟨w.heap.size, 3, none⟩ = false)) (fun x _ => (intOf x + 1).toNat)
  case atStart => exact ⟨(l.length : Int) - 1, by omega, by omega, by go_num, Lib.hid (fun j hj hlt => by omega), by simp, Lib.hid ((by repeat' (first | exact Below.refl _ _ | assumption | exact And.left (by assumption) | refine Below.drew ?_ | refine below_drewN ?_ _ | refine Below.setCell ?_ (by first | (simp; done) | (simp; omega) | omega) _ | refine Below.alloc ?_ (by first | (simp; done) | (simp; omega) | omega) _ | refine after (by assumption) (by first | (simp; done) | (simp; omega) | omega) ?_))), by simp [go_sem], by simp [go_sem]⟩
  case round =>
    obtain ⟨i, hi0, hi1, rfl, HI, hsz, HB, ⟨z0, z1, z2, z3⟩, f0, f1, f2, f3⟩ := hrel
    by_cases hn : 0 ≤ i
    · obtain ⟨j, rfl⟩ : ∃ j : Nat, i = (j : Int) := ⟨i.toNat, by omega⟩
      have hj : j < l.length := by omega
      obtain ⟨b, off, ea, hbl, q0, q1, q2, q3, q4⟩ := (HR.out.later HB.out).row.step hj
      have hbz : b < w.heap.size := by
        obtain ⟨b', off', ea', hbl', _⟩ := HR.out.row.step hj
        rw [ea] at ea'
        simp only [Option.some.injEq, Addr.mk.injEq, and_true] at ea'
        obtain ⟨rfl, rfl⟩ := ea'
        exact hbl'
      subst ea
      have hne : b ≠ w.heap.size := by omega
      have HF : Hid (l[j].at_ ≤ t → atL l t = l[j].free) := Lib.hid (fun x => atL_idx HO.out hj x (fun i hi hlt => HI.out i hi (by omega)))
      have HX : Hid (¬ l[j].at_ ≤ t → ∀ i (hi : i < l.length), (j : Int) - 1 < i → t < l[i].at_) := Lib.hid (fun x i hi hlt => by
        rcases Nat.lt_or_ge j i with h' | h'
        · exact HI.out i hi (by omega)
        · obtain rfl : i = j := by omega
          omega)
      clear HI
      generalize l[j] = s at q0 q1 q2 q3 q4 HF HX
      by_cases h1 : s.at_ ≤ t
      · have HF := Lib.hid (HF.out h1)
        have m2 : wr.cell? ⟨b, off + j * 5 + 1 + 1, none⟩ = some (.int .i64 s.free.mem) := q2
        have m3 : wr.cell? ⟨b, off + j * 5 + 1 + 2, none⟩ = some (.int .i64 s.free.gpu) := q3
        have m4 : wr.cell? ⟨b, off + j * 5 + 1 + 3, none⟩ = some (.int .i64 s.free.lic) := q4
        clear HX q2 q3 q4
        go_wp2
        rw [HF.out]
        exact bodyPost_ret (v := (.agg #[.int .i64 s.free.cpu, .int .i64 s.free.mem, .int .i64 s.free.gpu, .int .i64 s.free.lic])) (by simp [results, Try.results18, go_sem, *]) rfl ⟨rfl, by have hb := HB.out; exact (by repeat' (first | exact Below.refl _ _ | assumption | exact And.left (by assumption) | refine Below.drew ?_ | refine below_drewN ?_ _ | refine Below.setCell ?_ (by first | (simp; done) | (simp; omega) | omega) _ | refine Below.alloc ?_ (by first | (simp; done) | (simp; omega) | omega) _ | refine after (by assumption) (by first | (simp; done) | (simp; omega) | omega) ?_))⟩
      · have HX := Lib.hid (HX.out h1)
        clear HF
        go_wp2
        go_roundw
        case rel => exact ⟨(j : Int) - 1, by omega, by omega, by go_num, HX, hsz, HB, ⟨z0, z1, z2, z3⟩, f0, f1, f2, f3⟩
        case measure => simp [intOf]
    · obtain rfl : i = -1 := by omega
      have HZ := Lib.hid (atL_no (l := l) (t := t) hpos (HI.out 0 hpos (by omega)))
      clear HI
      go_wp2
      rw [HZ.out]
      exact bodyPost_ret (v := (.agg #[.int .i64 V.zero.cpu, .int .i64 V.zero.mem, .int .i64 V.zero.gpu, .int .i64 V.zero.lic])) (by simp [results, Try.results18, go_sem, V.zero, *]) rfl ⟨rfl, by have hb := HB.out; exact (by repeat' (first | exact Below.refl _ _ | assumption | exact And.left (by assumption) | refine Below.drew ?_ | refine below_drewN ?_ _ | refine Below.setCell ?_ (by first | (simp; done) | (simp; omega) | omega) _ | refine Below.alloc ?_ (by first | (simp; done) | (simp; omega) | omega) _ | refine after (by assumption) (by first | (simp; done) | (simp; omega) | omega) ?_))⟩
end Go.Proofs.Ytcnpppkndcgmpaa.W
