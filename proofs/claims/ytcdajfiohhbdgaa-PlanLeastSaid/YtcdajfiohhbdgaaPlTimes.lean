/-
  Contract of the document's Times: so many times a vector, of few.
-/
import Derived.Test.YtcdajfiohhbdgaaPlMem
import Derived.Test.YtcdajfiohhbdgaaJ47
namespace Go.Proofs.Ytcdajfiohhbdgaa.W
set_option maxRecDepth 100000
set_option linter.unusedVariables false
set_option linter.unusedSimpArgs false
open Go.ChangeShapes Go.WideShapes Go.ChangeAt Go.RowKit

theorem Res4.new (w : World) (a : V) (t : TypeId) : Res4 (w.alloc (.cells #[.int .i64 a.cpu, .int .i64 a.mem, .int .i64 a.gpu, .int .i64 a.lic] t)) w.heap.size a :=
  ⟨by simp [go_sem], by simp [go_sem], by simp [go_sem], by simp [go_sem], by simp [go_sem], by simp [go_sem], by simp [go_sem], by simp [go_sem]⟩
set_option maxHeartbeats 4000000 in
theorem rVcTimes (need : V) (n : Int) (h0 : 0 ≤ n) (h1 : n ≤ 64) (hn : need.Ok) (w : World) :
    Calls Try.prog 13 #[(.agg #[.int .i64 need.cpu, .int .i64 need.mem, .int .i64 need.gpu, .int .i64 need.lic]), .int .i64 n] w fun e w' => e = .returned (.agg #[.int .i64 (need.by n).cpu, .int .i64 (need.by n).mem, .int .i64 (need.by n).gpu, .int .i64 (need.by n).lic]) ∧ Below w.heap.size w w' := by
  have AD := Lib.hid (fun (k : Int) (h : 0 ≤ k ∧ k ≤ 64) w => radd (need.by k) need w (by rw [by_succ]; exact by_in64 hn (by omega) (by omega)))
  have HZ := Lib.hid (by_zero need)
  clear hn
  go_enter Try.func13, Try.ntmps13
  go_wp2
  generalize hw1 : World.alloc (World.alloc w _) _ = w1
  have hb1 : Below w.heap.size w w1 := by rw [← hw1]; exact (by repeat' (first | exact Below.refl _ _ | assumption | exact And.left (by assumption) | refine Below.drew ?_ | refine below_drewN ?_ _ | refine Below.setCell ?_ (by first | (simp; done) | (simp; omega) | omega) _ | refine Below.alloc ?_ (by first | (simp; done) | (simp; omega) | omega) _ | refine after (by assumption) (by first | (simp; done) | (simp; omega) | omega) ?_))
  have hs1 : w1.heap.size = w.heap.size + 2 := by rw [← hw1]; simp
  have hN : Hid (Res4 w1 w.heap.size need) := Lib.hid (by rw [← hw1]; exact ⟨by simp [go_sem], by simp [go_sem], by simp [go_sem], by simp [go_sem], by simp [go_sem], by simp [go_sem], by simp [go_sem], by simp [go_sem]⟩)
  have hS : Hid (Res4 w1 (w.heap.size + 1) V.zero) := Lib.hid (by rw [← hw1]; exact ⟨by simp [go_sem, V.zero], by simp [go_sem, V.zero], by simp [go_sem, V.zero], by simp [go_sem, V.zero], by simp [go_sem], by simp [go_sem], by simp [go_sem], by simp [go_sem]⟩)
  clear hw1
  have HA0 : Hid (Res4 (w1.alloc (.cells #[.int .i64 0, .int .i64 0, .int .i64 0, .int .i64 0] 34)) w1.heap.size (need.by 0)) := Lib.hid (by rw [HZ.out]; exact Res4.new w1 V.zero _)
  go_loopw [6] (fun x wr => ∃ k : Nat, (k : Int) ≤ n ∧ x = .int .i64 k ∧ Below w1.heap.size w1 wr ∧ Res4 wr (w.heap.size + 2) (need.by k)) (fun x _ => (n - intOf x).toNat)
  case atStart => exact ⟨0, h0, rfl, (by repeat' (first | exact Below.refl _ _ | assumption | exact And.left (by assumption) | refine Below.drew ?_ | refine below_drewN ?_ _ | refine Below.setCell ?_ (by first | (simp; done) | (simp; omega) | omega) _ | refine Below.alloc ?_ (by first | (simp; done) | (simp; omega) | omega) _ | refine after (by assumption) (by first | (simp; done) | (simp; omega) | omega) ?_)), by have := HA0.out; rw [hs1] at this; exact this⟩
  case round =>
    obtain ⟨k, hk, rfl, hb, hr⟩ := hrel
    have hzr := hb.size
    have hlt1 := hr.lt
    by_cases hlt : (k : Int) < n
    · have L := Lib.hid (AD.out k (by omega))
      rw [by_succ] at L
      have HR := Lib.hid hr
      obtain ⟨r0, r1, r2, r3, s0, s1, s2, s3⟩ := hr
      obtain ⟨n0, n1, n2, n3, _, _, _, _⟩ := hN.out.later hb
      go_wp2_with fail
      refine (L.out _).mono ?_; rintro e w5 ⟨rfl, hb5⟩
      have hb5' := hb.trans (hb5.mono hb.size)
      have hr := HR.out.later hb5
      clear r0 r1 r2 r3 s0 s1 s2 s3 HR n0 n1 n2 n3
      have HR := Lib.hid hr
      obtain ⟨r0, r1, r2, r3, s0, s1, s2, s3⟩ := hr
      go_wp2
      go_roundw
      case rel => exact ⟨k + 1, by omega, by go_num, (by repeat' (first | exact Below.refl _ _ | assumption | exact And.left (by assumption) | refine Below.drew ?_ | refine below_drewN ?_ _ | refine Below.setCell ?_ (by first | (simp; done) | (simp; omega) | omega) _ | refine Below.alloc ?_ (by first | (simp; done) | (simp; omega) | omega) _ | refine after (by assumption) (by first | (simp; done) | (simp; omega) | omega) ?_)), HR.out.stored _⟩
      case measure => simp [intOf]; omega
    · have e : (k : Int) = n := by omega
      have hr2 : Res4 wr (w.heap.size + 2) (need.by n) := by rw [← e]; exact hr
      obtain ⟨r0, r1, r2, r3, s0, s1, s2, s3⟩ := hr2
      obtain ⟨n0, n1, n2, n3, m0, m1, m2, m3⟩ := hS.out.later hb
      clear hr
      go_wp2
      exact bodyPost_ret (v := (.agg #[.int .i64 (need.by n).cpu, .int .i64 (need.by n).mem, .int .i64 (need.by n).gpu, .int .i64 (need.by n).lic])) (by simp [results, Try.results13, go_sem, *]) rfl ⟨rfl, (by repeat' (first | exact Below.refl _ _ | assumption | exact And.left (by assumption) | refine Below.drew ?_ | refine below_drewN ?_ _ | refine Below.setCell ?_ (by first | (simp; done) | (simp; omega) | omega) _ | refine Below.alloc ?_ (by first | (simp; done) | (simp; omega) | omega) _ | refine after (by assumption) (by first | (simp; done) | (simp; omega) | omega) ?_))⟩
end Go.Proofs.Ytcdajfiohhbdgaa.W
