/-
  Contracts of steps.Plain, of the document's Plain, At and Same over steps.
-/
import Derived.Test.YtcdajfiohhbdgaaStRight
import Derived.Deep.QuietTactic
import Derived.BigQuiet
namespace Go.Proofs.Ytcdajfiohhbdgaa.W
set_option linter.unusedVariables false
set_option linter.unusedSimpArgs false
open Go.ChangeShapes Go.WideShapes Go.ChangeAt Go.RowKit

/-- which of their numbers is the first that differs -/
theorem ne_first {a b : V} (h : ¬ a = b) : (a.cpu == b.cpu) = false ∨ ((a.cpu == b.cpu) = true ∧ (a.mem == b.mem) = false) ∨ ((a.cpu == b.cpu) = true ∧ (a.mem == b.mem) = true ∧ (a.gpu == b.gpu) = false) ∨
    ((a.cpu == b.cpu) = true ∧ (a.mem == b.mem) = true ∧ (a.gpu == b.gpu) = true ∧ (a.lic == b.lic) = false) := by
  have h' : ¬ (a.cpu = b.cpu ∧ a.mem = b.mem ∧ a.gpu = b.gpu ∧ a.lic = b.lic) := fun x => h (V.ext' x.1 x.2.1 x.2.2.1 x.2.2.2)
  simp
  omega
/-- what is left to do, of those from the k-th on -/
def plainAt (l : List St) (k : Nat) : List St := if k = 0 then plainL l else plainF (l.getD (k - 1) default).free (l.drop k)
theorem plainAt_one {l : List St} (h : 0 < l.length) : plainL l = [l[0]] ++ plainAt l 1 := by
  cases l with
  | nil => simp at h
  | cons s r => simp [plainL, plainAt]
theorem plainAt_next {l : List St} {j k : Nat} (hj : k = j + 1) (h : k < l.length) : plainAt l k = if l[k].free = (l[j]'(by omega)).free then plainAt l (k + 1) else l[k] :: plainAt l (k + 1) := by
  subst hj
  have e0 : plainAt l (j + 1) = plainF (l[j]'(by omega)).free (l.drop (j + 1)) := by simp [plainAt, show j < l.length by omega]
  have e1 : plainAt l (j + 1 + 1) = plainF l[j + 1].free (l.drop (j + 1 + 1)) := by simp [plainAt, h]
  rw [e0, e1, drop_at l (j + 1) h, plainF]
theorem plainAt_end {l : List St} : plainAt l l.length = [] := by
  unfold plainAt
  split
  · rename_i h
    rw [List.eq_nil_of_length_eq_zero h]; rfl
  · rw [List.drop_length]; rfl

set_option maxHeartbeats 2000000 in
theorem sPlain_in (b0 off0 : Nat) (cap : Nat) (l : List St) (hl : l.length ≤ 100000) (h : OkS l) (w : World) (HA : StAt w (some ⟨b0, off0, none⟩) cap l) :
    Calls Try.prog 74 #[.slice (some ⟨b0, off0, none⟩) l.length cap] w fun e w' => ∃ v, e = .returned v ∧ w'.ownsRow w.heap.size 101 5 v (plainL l).length (stsV (plainL l)) ∧ Below w.heap.size w w' := by
  obtain ⟨i0, hi, hzz, hzs, hzb⟩ := info_parts infoSt
  have HR := Lib.hid HA
  have HP := Lib.hid (fun w' h => sRight (some ⟨b0, off0, none⟩) cap l hl w' h)
  rw [show rightS l = true from decide_eq_true h] at HP
  have hpos : 0 < l.length := List.length_pos_iff.2 h.1
  clear HA h
  go_enter Try.func74, Try.ntmps74
  go_wp2_with fail
  refine (HP.out _ (HR.out.later ?_)).mono ?_; exact (by repeat' (first | exact Below.refl _ _ | assumption | exact And.left (by assumption) | refine Below.drew ?_ | refine below_drewN ?_ _ | refine Below.setCell ?_ (by first | (simp; done) | (simp; omega) | omega) _ | refine Below.alloc ?_ (by first | (simp; done) | (simp; omega) | omega) _ | refine after (by assumption) (by first | (simp; done) | (simp; omega) | omega) ?_)); rintro e w1 ⟨rfl, hb1⟩; obtain ⟨hc1, hf1⟩ := bcell hb1; have hz1 := hb1.size; (try simp at hz1)
  obtain ⟨b, off, ea, hbl, q0, q1, q2, q3, q4⟩ := (HR.out.later hb1).row.first hpos
  simp only [Option.some.injEq, Addr.mk.injEq, and_true] at ea
  obtain ⟨rfl, rfl⟩ := ea
  have HF := Lib.hid (plainAt_one hpos)
  generalize l[0] = s at q0 q1 q2 q3 q4 HF
  have hW1 := Lib.hid (show Below w.heap.size w w1 from (by repeat' (first | exact Below.refl _ _ | assumption | exact And.left (by assumption) | refine Below.drew ?_ | refine below_drewN ?_ _ | refine Below.setCell ?_ (by first | (simp; done) | (simp; omega) | omega) _ | refine Below.alloc ?_ (by first | (simp; done) | (simp; omega) | omega) _ | refine after (by assumption) (by first | (simp; done) | (simp; omega) | omega) ?_)))
  go_wp2
  have HO0 : Hid ((w1.alloc (.cells #[.int .i64 s.at_, .int .i64 s.free.cpu, .int .i64 s.free.mem, .int .i64 s.free.gpu, .int .i64 s.free.lic] 101)).ownsRow w.heap.size 101 5 (.slice (some ⟨w1.heap.size, 0, none⟩) 1 1) [s].length (stsV [s])) := Lib.hid (World.ownsRow_lit w1 _ 1 (hb1.size) (by decide) rfl)
  have HB0 := Lib.hid (show Below w.heap.size w (w1.alloc (.cells #[.int .i64 s.at_, .int .i64 s.free.cpu, .int .i64 s.free.mem, .int .i64 s.free.gpu, .int .i64 s.free.lic] 101)) from (by repeat' (first | exact Below.refl _ _ | assumption | exact And.left (by assumption) | refine Below.drew ?_ | refine below_drewN ?_ _ | refine Below.setCell ?_ (by first | (simp; done) | (simp; omega) | omega) _ | refine Below.alloc ?_ (by first | (simp; done) | (simp; omega) | omega) _ | refine after (by assumption) (by first | (simp; done) | (simp; omega) | omega) ?_)))
  go_loopw [3, 4] (fun v3 x wr => ∃ k : Nat, 1 ≤ k ∧ k ≤ l.length ∧ x = .int .i64 k ∧ Hid (∃ acc : List St, wr.ownsRow w.heap.size 101 5 v3 acc.length (stsV acc) ∧ acc.length ≤ k ∧ plainL l = acc ++ plainAt l k) ∧ Hid (Below w.heap.size w wr)) (fun _ x _ => l.length - (intOf x).toNat)
  case atStart => exact ⟨1, Nat.le_refl _, hpos, rfl, Lib.hid ⟨[s], HO0.out, by simp, HF.out⟩, HB0⟩
  case round =>
    obtain ⟨k, hk0, hk, rfl, HI, HB⟩ := hrel
    have hz := HB.out.size
    by_cases hlt : k < l.length
    · obtain ⟨j, hj⟩ : ∃ j, k = j + 1 := ⟨k - 1, by omega⟩
      have hjl : j < l.length := by omega
      obtain ⟨b, off, ea, hbl1, p0, p1, p2, p3, p4⟩ := (HR.out.later HB.out).row.step hlt
      obtain ⟨b', off', ea', hbl2, r0, r1, r2, r3, r4⟩ := (HR.out.later HB.out).row.step hjl
      simp only [Option.some.injEq, Addr.mk.injEq, and_true] at ea ea'
      obtain ⟨rfl, rfl⟩ := ea
      obtain ⟨rfl, rfl⟩ := ea'
      have HN := Lib.hid (plainAt_next hj hlt)
      have hwr : IntKind.i64.wrap ((k : Int) - 1) = (j : Int) := by rw [show (k : Int) - 1 = (j : Int) by omega]; exact IntWalk.i64_in _ (by omega)
      have hj0 : (0 : Int) ≤ j := by omega
      have hj1 : (j : Int) < l.length := by omega
      have hjt : ((j : Int)).toNat = j := by omega
      have hk1 : (k : Int) < l.length := by omega
      have hkl : k ≤ 100000 := by omega
      generalize l[k] = s1 at p0 p1 p2 p3 p4 HN
      generalize l[j] = s2 at r0 r1 r2 r3 r4 HN
      clear hj
      have m2 : wr.cell? ⟨b0, off0 + k * 5 + 1 + 1, none⟩ = some (.int .i64 s1.free.mem) := p2
      have m3 : wr.cell? ⟨b0, off0 + k * 5 + 1 + 2, none⟩ = some (.int .i64 s1.free.gpu) := p3
      have m4 : wr.cell? ⟨b0, off0 + k * 5 + 1 + 3, none⟩ = some (.int .i64 s1.free.lic) := p4
      have n2 : wr.cell? ⟨b0, off0 + j * 5 + 1 + 1, none⟩ = some (.int .i64 s2.free.mem) := r2
      have n3 : wr.cell? ⟨b0, off0 + j * 5 + 1 + 2, none⟩ = some (.int .i64 s2.free.gpu) := r3
      have n4 : wr.cell? ⟨b0, off0 + j * 5 + 1 + 3, none⟩ = some (.int .i64 s2.free.lic) := r4
      clear r2 r3 r4
      by_cases hv : s1.free = s2.free
      · have HX : Hid (∃ acc : List St, wr.ownsRow w.heap.size 101 5 u3 acc.length (stsV acc) ∧ acc.length ≤ k + 1 ∧ plainL l = acc ++ plainAt l (k + 1)) := Lib.hid (by
          obtain ⟨acc, h1, h2, h3⟩ := HI.out
          exact ⟨acc, h1, by omega, by rw [h3, HN.out, if_pos hv]⟩)
        rw [hv] at m2 m3 m4 p1
        clear hv HI HN p2 p3 p4
        go_wp2_with fail
        go_quiet (fail)
        go_wp2
        go_roundw
        case rel => exact ⟨k + 1, by omega, by omega, by go_num, Lib.hid (by obtain ⟨acc, h1, h2, h3⟩ := HX.out; exact ⟨acc, h1, h2, h3⟩), Lib.hid (below_drewN HB.out _)⟩
        case measure => simp [intOf]; omega
      · have HX : Hid (∃ acc : List St, wr.ownsRow w.heap.size 101 5 u3 acc.length (stsV acc) ∧ acc.length ≤ k ∧ plainL l = acc ++ s1 :: plainAt l (k + 1)) := Lib.hid (by
          obtain ⟨acc, h1, h2, h3⟩ := HI.out
          exact ⟨acc, h1, h2, by rw [h3, HN.out, if_neg hv]⟩)
        have key := ne_first hv
        clear hv HI HN
        obtain ⟨acc, hO, hacc, hP⟩ := HX.out
        have HO := Lib.hid hO
        have HPP := Lib.hid hP
        clear hO hP HX
        generalize hm : acc.length = m at HO hacc
        have HM := Lib.hid hm
        clear hm
        rcases key with h1 | ⟨h1, h2⟩ | ⟨h1, h2, h3⟩ | ⟨h1, h2, h3, h4⟩
        all_goals
          go_wp2_with fail
          go_quiet (fail)
          go_wp2_with (at_builtin; refine pushOne _ _ 79 101 5 40 _ i0 Try.underlying79 hi hzz hzs hzb rfl (by decide) (by decide) w.heap.size w.heap.size m _ _ _ _ w _ rfl rfl rfl rfl rfl (own_later HO.out (below_drewN (Below.refl _ _) _)) (below_drewN HB.out _) (Nat.le_refl _) (show w.heap.size ≤ wr.heap.size from hz) (by simp [Value.oneCell']) (by omega) ?_)
          intro v' w3 hown hb3
          go_wp2
          go_roundw
          case rel => exact ⟨k + 1, by omega, by omega, by go_num, Lib.hid ⟨acc ++ [s1], by rw [List.length_append, stsV_app, stsV_one, HM.out]; exact hown, by rw [List.length_append, HM.out]; simp; omega, by rw [HPP.out]; simp⟩, Lib.hid hb3⟩
          case measure => simp [intOf]; omega
    · have hkl : k = l.length := by omega
      subst hkl
      go_wp2
      go_ret
      obtain ⟨acc, h1, h2, h3⟩ := HI.out
      rw [plainAt_end, List.append_nil] at h3
      exact ⟨u3, rfl, by rw [h3]; exact h1, HB.out⟩
theorem sPlain (a : Option Addr) (cap : Nat) (l : List St) (hl : l.length ≤ 100000) (w : World) (HA : StAt w a cap l) :
    Calls Try.prog 74 #[.slice a l.length cap] w fun e w' => ∃ v, e = .returned v ∧ w'.ownsRow w.heap.size 101 5 v (plainR l).length (stsV (plainR l)) ∧ Below w.heap.size w w' := by
  by_cases h : OkS l
  · rw [plainR_ok h]
    obtain ⟨b, off, ea, _⟩ := HA.row.first (List.length_pos_iff.2 h.1)
    subst ea
    exact sPlain_in b off cap l hl h w HA
  · rw [plainR_no h]
    have HR := Lib.hid HA
    have HP := Lib.hid (fun w' h => sRight a cap l hl w' h)
    rw [show rightS l = false from decide_eq_false h] at HP
    clear HA h
    go_enter Try.func74, Try.ntmps74
    go_wp2_with fail
    refine (HP.out _ (HR.out.later ?_)).mono ?_; exact (by repeat' (first | exact Below.refl _ _ | assumption | exact And.left (by assumption) | refine Below.drew ?_ | refine below_drewN ?_ _ | refine Below.setCell ?_ (by first | (simp; done) | (simp; omega) | omega) _ | refine Below.alloc ?_ (by first | (simp; done) | (simp; omega) | omega) _ | refine after (by assumption) (by first | (simp; done) | (simp; omega) | omega) ?_)); rintro e w1 ⟨rfl, hb1⟩; obtain ⟨hc1, hf1⟩ := bcell hb1; have hz1 := hb1.size; (try simp at hz1)
    go_wp2
    go_ret
    exact ⟨_, rfl, World.ownsRow_nil _ _ _ _, hb1⟩
end Go.Proofs.Ytcdajfiohhbdgaa.W
