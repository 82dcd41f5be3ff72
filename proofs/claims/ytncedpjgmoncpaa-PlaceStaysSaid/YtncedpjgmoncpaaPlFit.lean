/-
  Contracts of place.fit, place.Room.
-/
import Derived.Test.YtncedpjgmoncpaaPlMem
import Derived.Test.YtncedpjgmoncpaaVecCount
namespace Go.Proofs.Ytncedpjgmoncpaa.W
set_option linter.unusedVariables false
set_option linter.unusedSimpArgs false
open Go.ChangeShapes Go.WideShapes Go.ChangeAt Go.RowKit

set_option maxHeartbeats 1000000 in
theorem pFit_in (b off : Nat) (cap n : Nat) (k : Nat) (f need : V) (hk : k < n) (hn : n ≤ 100000) (w : World) (hb : b < w.heap.size)
    (q0 : w.cell? ⟨b, off + k * 4, none⟩ = some (.int .i64 f.cpu)) (q1 : w.cell? ⟨b, off + k * 4 + 1, none⟩ = some (.int .i64 f.mem)) (q2 : w.cell? ⟨b, off + k * 4 + 2, none⟩ = some (.int .i64 f.gpu)) (q3 : w.cell? ⟨b, off + k * 4 + 3, none⟩ = some (.int .i64 f.lic)) :
    Calls Try.prog 23 #[.slice (some ⟨b, off, none⟩) n cap, .int .i64 (k : Int), (.agg #[.int .i64 need.cpu, .int .i64 need.mem, .int .i64 need.gpu, .int .i64 need.lic])] w fun e w' => e = .returned (.int .i64 (countV f need)) ∧ Below w.heap.size w w' := by
  have HC := Lib.hid (fun w => count f need w)
  have hk0 : (0 : Int) ≤ k := by omega
  have hk1 : (k : Int) < n := by omega
  have hkt : ((k : Int)).toNat = k := by omega
  go_enter Try.func23, Try.ntmps23
  go_wp2_with fail
  generalize hw0 : World.alloc w _ = w0
  have hb0 : Below w.heap.size w w0 := by rw [← hw0]; exact (by repeat' (first | exact Below.refl _ _ | assumption | exact And.left (by assumption) | refine Below.drew ?_ | refine below_drewN ?_ _ | refine Below.setCell ?_ (by first | (simp; done) | (simp; omega) | omega) _ | refine Below.alloc ?_ (by first | (simp; done) | (simp; omega) | omega) _ | refine after (by assumption) (by first | (simp; done) | (simp; omega) | omega) ?_))
  have n0 : w0.cell? ⟨w.heap.size, 0, none⟩ = some (.int .i64 need.cpu) := by rw [← hw0]; simp [go_sem]
  have n1 : w0.cell? ⟨w.heap.size, 1, none⟩ = some (.int .i64 need.mem) := by rw [← hw0]; simp [go_sem]
  have n2 : w0.cell? ⟨w.heap.size, 2, none⟩ = some (.int .i64 need.gpu) := by rw [← hw0]; simp [go_sem]
  have n3 : w0.cell? ⟨w.heap.size, 3, none⟩ = some (.int .i64 need.lic) := by rw [← hw0]; simp [go_sem]
  clear hw0
  have ga0 := fun d os => cell_regrown (w := w0) (carry hb0 q0) d os
  have ga1 := fun d os => cell_regrown (w := w0) (carry hb0 q1) d os
  have ga2 := fun d os => cell_regrown (w := w0) (carry hb0 q2) d os
  have ga3 := fun d os => cell_regrown (w := w0) (carry hb0 q3) d os
  have gb0 := fun d os => cell_regrown (w := w0) n0 d os
  have gb1 := fun d os => cell_regrown (w := w0) n1 d os
  have gb2 := fun d os => cell_regrown (w := w0) n2 d os
  have gb3 := fun d os => cell_regrown (w := w0) n3 d os
  refine wp_region_quiet_below (by kernel_rfl) (by kernel_rfl) ?_
  repeat (quiet_step (with_reducible exact quiet_bel HC.out))
  refine wpQuiet_nil ?_
  intro _ hw'
  obtain ⟨⟨dq, osq⟩, rfl⟩ := hw'
  have hb5 := below_regrown w0 dq osq
  generalize Go.Sort.grow (redrawn w0 dq) osq = w5 at hb5 ⊢
  go_wp2
  go_ret
  exact ⟨rfl, hb0.trans (hb5.mono hb0.size)⟩
theorem pFit (a : Option Addr) (cap : Nat) (fs : List V) (hl : fs.length ≤ 100000) (n : Int) (need : V) (w : World) (HA : VcAt w a cap fs) :
    Calls Try.prog 23 #[.slice a fs.length cap, .int .i64 n, (.agg #[.int .i64 need.cpu, .int .i64 need.mem, .int .i64 need.gpu, .int .i64 need.lic])] w fun e w' => e = .returned (.int .i64 (fitN fs need n)) ∧ Below w.heap.size w w' := by
  by_cases h0 : n < 0
  · rw [fitN_low h0]
    clear HA
    go_enter Try.func23, Try.ntmps23
    go_wp2
    go_ret
    exact ⟨rfl, (by repeat' (first | exact Below.refl _ _ | assumption | exact And.left (by assumption) | refine Below.drew ?_ | refine below_drewN ?_ _ | refine Below.setCell ?_ (by first | (simp; done) | (simp; omega) | omega) _ | refine Below.alloc ?_ (by first | (simp; done) | (simp; omega) | omega) _ | refine after (by assumption) (by first | (simp; done) | (simp; omega) | omega) ?_))⟩
  · by_cases h1 : (fs.length : Int) ≤ n
    · rw [fitN_high h1]
      clear HA
      go_enter Try.func23, Try.ntmps23
      go_wp2
      go_ret
      exact ⟨rfl, (by repeat' (first | exact Below.refl _ _ | assumption | exact And.left (by assumption) | refine Below.drew ?_ | refine below_drewN ?_ _ | refine Below.setCell ?_ (by first | (simp; done) | (simp; omega) | omega) _ | refine Below.alloc ?_ (by first | (simp; done) | (simp; omega) | omega) _ | refine after (by assumption) (by first | (simp; done) | (simp; omega) | omega) ?_))⟩
    · obtain ⟨k, rfl⟩ : ∃ k : Nat, n = (k : Int) := ⟨n.toNat, by omega⟩
      have hk : k < fs.length := by omega
      obtain ⟨b, off, ea, hbl, q0, q1, q2, q3⟩ := HA.row.vc hk
      rw [fitN_in hk]
      subst ea
      exact pFit_in b off cap fs.length k fs[k] need hk hl w hbl q0 q1 q2 q3

set_option maxHeartbeats 1000000 in
theorem pRoom (a : Option Addr) (cap : Nat) (fs : List V) (hl : fs.length ≤ 100000) (b : Option Addr) (cb : Nat) (part : List Int) (hp : part.length ≤ 100000) (need : V) (w : World) (HA : VcAt w a cap fs) (HB : NmAt w b cb part) :
    Calls Try.prog 15 #[.slice a fs.length cap, .slice b part.length cb, (.agg #[.int .i64 need.cpu, .int .i64 need.mem, .int .i64 need.gpu, .int .i64 need.lic])] w fun e w' => e = .returned (.int .i64 (roomS fs need part)) ∧ Below w.heap.size w w' := by
  have HR := Lib.hid HA
  have HP := Lib.hid HB
  have HF := Lib.hid (fun n w' h => pFit a cap fs hl n need w' h)
  clear HA HB
  go_enter Try.func15, Try.ntmps15
  go_wp2
  generalize hw0 : World.alloc w _ = w0
  have hb0 : Below w.heap.size w w0 := by rw [← hw0]; exact (by repeat' (first | exact Below.refl _ _ | assumption | exact And.left (by assumption) | refine Below.drew ?_ | refine below_drewN ?_ _ | refine Below.setCell ?_ (by first | (simp; done) | (simp; omega) | omega) _ | refine Below.alloc ?_ (by first | (simp; done) | (simp; omega) | omega) _ | refine after (by assumption) (by first | (simp; done) | (simp; omega) | omega) ?_))
  have n0 : w0.cell? ⟨w.heap.size, 0, none⟩ = some (.int .i64 need.cpu) := by rw [← hw0]; simp [go_sem]
  have n1 : w0.cell? ⟨w.heap.size, 1, none⟩ = some (.int .i64 need.mem) := by rw [← hw0]; simp [go_sem]
  have n2 : w0.cell? ⟨w.heap.size, 2, none⟩ = some (.int .i64 need.gpu) := by rw [← hw0]; simp [go_sem]
  have n3 : w0.cell? ⟨w.heap.size, 3, none⟩ = some (.int .i64 need.lic) := by rw [← hw0]; simp [go_sem]
  clear hw0
  go_loopw [7, 12] (fun v7 x wr => ∃ k : Nat, k ≤ part.length ∧ x = .int .i64 k ∧ ∃ d : Int, v7 = .int .i64 d ∧ Below w0.heap.size w0 wr ∧ 0 ≤ d ∧ d ≤ 64 * k ∧ Hid (roomS fs need part = d + roomS fs need (part.drop k))) (fun _ x _ => part.length - (intOf x).toNat)
  case atStart => exact ⟨0, Nat.zero_le _, rfl, 0, rfl, Below.refl _ _, by omega, by omega, Lib.hid (by simp)⟩
  case round =>
    obtain ⟨k, hk, rfl, d, rfl, hb, hd0, hd1, HI⟩ := hrel
    have hz := hb.size
    have hbw := hb0.trans (hb.mono hb0.size)
    by_cases hlt : k < part.length
    · obtain ⟨b1, off, ea, hbl, q0⟩ := (HP.out.later hbw).row.nm hlt
      subst ea
      have HN : Hid (roomS fs need part = d + (fitN fs need part[k] + roomS fs need (part.drop (k + 1)))) := Lib.hid (by rw [HI.out, drop_at part k hlt]; rfl)
      have hfb := fitN_bd fs need part[k]
      clear HI
      have m0 := carry hb n0
      have m1 := carry hb n1
      have m2 := carry hb n2
      have m3 := carry hb n3
      generalize part[k] = n at q0 HN hfb
      have HF2 := Lib.hid (HF.out n)
      generalize fitN fs need n = f at HN hfb HF2
      go_wp2_with fail
      refine (HF2.out _ (HR.out.later hbw)).mono ?_; rintro e w2 ⟨rfl, hb2⟩
      have hb2' := hb.trans (hb2.mono hz)
      have hz2 := hb2.size
      have hwr : IntKind.i64.wrap (d + f) = d + f := IntWalk.i64_in _ (by omega)
      go_wp2
      go_roundw
      case rel => exact ⟨k + 1, by omega, by go_num, d + f, rfl, hb2', by omega, by omega, Lib.hid (by rw [HN.out, Int.add_assoc])⟩
      case measure => simp [intOf]; omega
    · have hkl : k = part.length := by omega
      have E : Hid (roomS fs need part = d) := Lib.hid (by rw [HI.out, hkl, List.drop_length]; simp [roomS])
      clear HI
      go_wp2
      go_ret
      exact ⟨by rw [E.out]; rfl, hbw⟩
end Go.Proofs.Ytncedpjgmoncpaa.W
