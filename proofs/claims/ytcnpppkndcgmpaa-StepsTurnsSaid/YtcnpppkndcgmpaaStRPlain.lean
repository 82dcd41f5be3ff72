/-
  Contract of the document's Plain over steps.
-/
import Derived.Test.YtcnpppkndcgmpaaStPlain
namespace Go.Proofs.Ytcnpppkndcgmpaa.W
set_option linter.unusedVariables false
set_option linter.unusedSimpArgs false
open Go.ChangeShapes Go.WideShapes Go.ChangeAt Go.RowKit

set_option maxHeartbeats 2000000 in
theorem rPlain (a : Option Addr) (cap : Nat) (l : List St) (hl : l.length ≤ 100000) (w : World) (HA : StAt w a cap l) :
    Calls Try.prog 19 #[.slice a l.length cap] w fun e w' => ∃ v, e = .returned v ∧ w'.ownsRow w.heap.size 34 5 v (plainL l).length (stsV (plainL l)) ∧ Below w.heap.size w w' := by
  obtain ⟨i0, hi, hzz, hzs, hzb⟩ := info_parts infoSt
  have HR := Lib.hid HA
  clear HA
  go_enter Try.func19, Try.ntmps19
  go_wp2
  go_loopw [3, 4] (fun v3 x wr => ∃ k : Nat, k ≤ l.length ∧ x = .int .i64 k ∧ Hid (∃ acc : List St, wr.ownsRow w.heap.size 34 5 v3 acc.length (stsV acc) ∧ acc.length ≤ k ∧ plainL l = acc ++ plainAt l k) ∧ Hid (Below w.heap.size w wr)) (fun _ x _ => l.length - (intOf x).toNat)
  case atStart => exact ⟨0, Nat.zero_le _, rfl, Lib.hid ⟨[], World.ownsRow_nil _ _ _ _, by simp, rfl⟩, Lib.hid (Below.refl _ _)⟩
  case round =>
    obtain ⟨k, hk, rfl, HI, HB⟩ := hrel
    have hz := HB.out.size
    by_cases hlt : k < l.length
    · obtain ⟨b, off, ea, hbl1, p0, p1, p2, p3, p4⟩ := (HR.out.later HB.out).row.step hlt
      subst ea
      have hk1 : (k : Int) < l.length := by omega
      have hkl : k ≤ 100000 := by omega
      by_cases hk0 : k = 0
      · subst hk0
        have HN := Lib.hid (plainAt_one hlt)
        generalize l[0] = s1 at p0 p1 p2 p3 p4 HN
        rw [Nat.zero_mul, Nat.add_zero] at p0 p1 p2 p3 p4
        obtain ⟨acc, hO, hacc, hP⟩ := HI.out
        have HO := Lib.hid hO
        have HPP : Hid (plainL l = acc ++ s1 :: plainAt l 1) := Lib.hid (by
          have : acc = [] := List.eq_nil_of_length_eq_zero (by omega)
          subst this
          rw [HN.out]; rfl)
        clear hO hP HI HN
        generalize hm : acc.length = m at HO hacc
        have HM := Lib.hid hm
        clear hm
        go_wp2_with fail
        go_quiet (fail)
        go_wp2_with (at_builtin; refine pushOne _ _ 22 34 5 40 _ i0 Try.underlying22 hi hzz hzs hzb rfl (by decide) (by decide) w.heap.size w.heap.size m _ _ _ _ w _ rfl rfl rfl rfl rfl (own_later HO.out (below_drewN (Below.refl _ _) _)) (below_drewN HB.out _) (Nat.le_refl _) (show w.heap.size ≤ wr.heap.size from hz) (by simp [Value.oneCell']) (by omega) ?_)
        intro v' w3 hown hb3
        go_wp2
        go_roundw
        case rel => exact ⟨1, by omega, by go_num, Lib.hid ⟨acc ++ [s1], by rw [List.length_append, stsV_app, stsV_one, HM.out]; exact hown, by rw [List.length_append, HM.out]; simp; omega, by rw [HPP.out]; simp⟩, Lib.hid hb3⟩
        case measure => simp [intOf]; omega
      · obtain ⟨j, hj⟩ : ∃ j, k = j + 1 := ⟨k - 1, by omega⟩
        have hjl : j < l.length := by omega
        obtain ⟨b', off', ea', hbl2, r0, r1, r2, r3, r4⟩ := (HR.out.later HB.out).row.step hjl
        simp only [Option.some.injEq, Addr.mk.injEq, and_true] at ea'
        obtain ⟨rfl, rfl⟩ := ea'
        have HN := Lib.hid (plainAt_next hj hlt)
        have hwr : IntKind.i64.wrap ((k : Int) - 1) = (j : Int) := by rw [show (k : Int) - 1 = (j : Int) by omega]; exact IntWalk.i64_in _ (by omega)
        have hj0 : (0 : Int) ≤ j := by omega
        have hj1 : (j : Int) < l.length := by omega
        have hjt : ((j : Int)).toNat = j := by omega
        have hke : (k == 0) = false := by simpa using hk0
        have hkd : decide (k = 0) = false := by simpa using hk0
        have hki : ((k : Int) == 0) = false := by simp; omega
        generalize l[k] = s1 at p0 p1 p2 p3 p4 HN
        generalize l[j] = s2 at r0 r1 r2 r3 r4 HN
        clear hj hk0
        have m2 : wr.cell? ⟨b, off + k * 5 + 1 + 1, none⟩ = some (.int .i64 s1.free.mem) := p2
        have m3 : wr.cell? ⟨b, off + k * 5 + 1 + 2, none⟩ = some (.int .i64 s1.free.gpu) := p3
        have m4 : wr.cell? ⟨b, off + k * 5 + 1 + 3, none⟩ = some (.int .i64 s1.free.lic) := p4
        have n2 : wr.cell? ⟨b, off + j * 5 + 1 + 1, none⟩ = some (.int .i64 s2.free.mem) := r2
        have n3 : wr.cell? ⟨b, off + j * 5 + 1 + 2, none⟩ = some (.int .i64 s2.free.gpu) := r3
        have n4 : wr.cell? ⟨b, off + j * 5 + 1 + 3, none⟩ = some (.int .i64 s2.free.lic) := r4
        clear r2 r3 r4
        by_cases hv : s1.free = s2.free
        · have HX : Hid (∃ acc : List St, wr.ownsRow w.heap.size 34 5 u3 acc.length (stsV acc) ∧ acc.length ≤ k + 1 ∧ plainL l = acc ++ plainAt l (k + 1)) := Lib.hid (by
            obtain ⟨acc, h1, h2, h3⟩ := HI.out
            exact ⟨acc, h1, by omega, by rw [h3, HN.out, if_pos hv]⟩)
          rw [hv] at m2 m3 m4 p1
          clear hv HI HN p2 p3 p4
          go_wp2_with fail
          go_quiet (fail)
          go_wp2
          go_roundw
          case rel => exact ⟨k + 1, by omega, by go_num, Lib.hid (by obtain ⟨acc, h1, h2, h3⟩ := HX.out; exact ⟨acc, h1, h2, h3⟩), Lib.hid (below_drewN HB.out _)⟩
          case measure => simp [intOf]; omega
        · have HX : Hid (∃ acc : List St, wr.ownsRow w.heap.size 34 5 u3 acc.length (stsV acc) ∧ acc.length ≤ k ∧ plainL l = acc ++ s1 :: plainAt l (k + 1)) := Lib.hid (by
            obtain ⟨acc, h1, h2, h3⟩ := HI.out
            exact ⟨acc, h1, h2, by rw [h3, HN.out, if_neg hv]⟩)
          have key := ne_first hv
          clear hv HI HN
          obtain ⟨acc, hO, hacc, hP⟩ := HX.out
          have HO := Lib.hid hO
          have HPP := Lib.hid hP
          clear hO hP HX
          generalize hm : acc.length = m at HO hacc
          have HM := Lib.hid hm
          clear hm
          rcases key with h1 | ⟨h1, h2⟩ | ⟨h1, h2, h3⟩ | ⟨h1, h2, h3, h4⟩
          all_goals
            go_wp2_with fail
            go_quiet (fail)
            go_wp2_with (at_builtin; refine pushOne _ _ 22 34 5 40 _ i0 Try.underlying22 hi hzz hzs hzb rfl (by decide) (by decide) w.heap.size w.heap.size m _ _ _ _ w _ rfl rfl rfl rfl rfl (own_later HO.out (below_drewN (Below.refl _ _) _)) (below_drewN HB.out _) (Nat.le_refl _) (show w.heap.size ≤ wr.heap.size from hz) (by simp [Value.oneCell']) (by omega) ?_)
            intro v' w3 hown hb3
            go_wp2
            go_roundw
            case rel => exact ⟨k + 1, by omega, by go_num, Lib.hid ⟨acc ++ [s1], by rw [List.length_append, stsV_app, stsV_one, HM.out]; exact hown, by rw [List.length_append, HM.out]; simp; omega, by rw [HPP.out]; simp⟩, Lib.hid hb3⟩
            case measure => simp [intOf]; omega
    · have hkl : k = l.length := by omega
      subst hkl
      go_wp2
      go_ret
      obtain ⟨acc, h1, h2, h3⟩ := HI.out
      rw [plainAt_end, List.append_nil] at h3
      exact ⟨u3, rfl, by rw [h3]; exact h1, HB.out⟩
end Go.Proofs.Ytcnpppkndcgmpaa.W
