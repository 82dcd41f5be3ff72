/-
  Several texts in one: StLeast, VecAdd, VecSub, StChange.
-/
import Derived.Test.YtcdajfiohhbdgaaStRight
import Derived.Test.YtcdajfiohhbdgaaVecCount
import Derived.Test.YtcdajfiohhbdgaaOrders
import Derived.Test.YtcdajfiohhbdgaaStPlain
import Derived.Test.YtcdajfiohhbdgaaStCut

/-
  Contract of steps.Least.
-/
namespace Go.Proofs.Ytcdajfiohhbdgaa.W
set_option linter.unusedVariables false
set_option linter.unusedSimpArgs false
open Go.ChangeShapes Go.WideShapes Go.ChangeAt Go.RowKit

theorem Res4.far {w : World} {g k : Nat} {a : V} (h : Res4 w g a) (hk : k ≠ g) (o0 o1 o2 o3 : Nat) (x0 x1 x2 x3 : Value) :
    Res4 ((((w.setCell ⟨k, o0, none⟩ x0).setCell ⟨k, o1, none⟩ x1).setCell ⟨k, o2, none⟩ x2).setCell ⟨k, o3, none⟩ x3) g a := by
  obtain ⟨c0, c1, c2, c3, f0, f1, f2, f3⟩ := h
  refine ⟨?_, ?_, ?_, ?_, by simp [go_sem, f0], by simp [go_sem, f1], by simp [go_sem, f2], by simp [go_sem, f3]⟩
  · rw [World.cell?_setCell_far _ _ _ _ hk, World.cell?_setCell_far _ _ _ _ hk, World.cell?_setCell_far _ _ _ _ hk, World.cell?_setCell_far _ _ _ _ hk]; exact c0
  · rw [World.cell?_setCell_far _ _ _ _ hk, World.cell?_setCell_far _ _ _ _ hk, World.cell?_setCell_far _ _ _ _ hk, World.cell?_setCell_far _ _ _ _ hk]; exact c1
  · rw [World.cell?_setCell_far _ _ _ _ hk, World.cell?_setCell_far _ _ _ _ hk, World.cell?_setCell_far _ _ _ _ hk, World.cell?_setCell_far _ _ _ _ hk]; exact c2
  · rw [World.cell?_setCell_far _ _ _ _ hk, World.cell?_setCell_far _ _ _ _ hk, World.cell?_setCell_far _ _ _ _ hk, World.cell?_setCell_far _ _ _ _ hk]; exact c3
theorem Res4.fresh (w : World) (a : V) (t : TypeId) : Res4 (w.alloc (.cells #[.int .i64 a.cpu, .int .i64 a.mem, .int .i64 a.gpu, .int .i64 a.lic] t)) w.heap.size a :=
  ⟨by simp [go_sem], by simp [go_sem], by simp [go_sem], by simp [go_sem], by simp [go_sem], by simp [go_sem], by simp [go_sem], by simp [go_sem]⟩
theorem leastS_no {l : List St} {f t : Int} (h : ¬ (OkS l ∧ begin_ l ≤ f ∧ f < t)) : leastS l f t = V.zero := if_neg h
set_option maxHeartbeats 2000000 in
theorem sLeast_no (a : Option Addr) (cap : Nat) (l : List St) (hl : l.length ≤ 100000) (f t : Int) (w : World) (HA : StAt w a cap l) (hno : ¬ (OkS l ∧ begin_ l ≤ f ∧ f < t)) :
    Calls Try.prog 29 #[.slice a l.length cap, .int .i64 f, .int .i64 t] w fun e w' => e = .returned (.agg #[.int .i64 V.zero.cpu, .int .i64 V.zero.mem, .int .i64 V.zero.gpu, .int .i64 V.zero.lic]) ∧ Below w.heap.size w w' := by
  have HR := Lib.hid HA
  have HP := Lib.hid (fun w' h => sRight a cap l hl w' h)
  by_cases h : OkS l
  · rw [show rightS l = true from decide_eq_true h] at HP
    have hpos : 0 < l.length := List.length_pos_iff.2 h.1
    obtain ⟨b, off, ea, hbl, q0, q1, q2, q3, q4⟩ := HA.row.first hpos
    have hbg := begin_at hpos
    rw [hbg] at hno
    have hno2 : ¬ (l[0].at_ ≤ f ∧ f < t) := fun x => hno ⟨h, x⟩
    generalize l[0] = s at q0 q1 q2 q3 q4 hno2
    clear h HA hno hbg
    subst ea
    by_cases h0 : s.at_ ≤ f
    · have h1 : ¬ f < t := fun x => hno2 ⟨h0, x⟩
      clear hno2
      go_enter Try.func29, Try.ntmps29
      go_wp2_with fail
      refine (HP.out _ (HR.out.later ?_)).mono ?_; exact (by repeat' (first | exact Below.refl _ _ | assumption | exact And.left (by assumption) | refine Below.drew ?_ | refine below_drewN ?_ _ | refine Below.setCell ?_ (by first | (simp; done) | (simp; omega) | omega) _ | refine Below.alloc ?_ (by first | (simp; done) | (simp; omega) | omega) _ | refine after (by assumption) (by first | (simp; done) | (simp; omega) | omega) ?_)); rintro e w1 ⟨rfl, hb1⟩; obtain ⟨hc1, hf1⟩ := bcell hb1; have hz1 := hb1.size; (try simp at hz1); have lt_w1_0 : w.heap.size < w1.heap.size := (by omega)
      go_wp2
      exact bodyPost_ret (v := (.agg #[.int .i64 V.zero.cpu, .int .i64 V.zero.mem, .int .i64 V.zero.gpu, .int .i64 V.zero.lic])) (by simp [results, Try.results29, go_sem, V.zero, *]) rfl ⟨rfl, (by repeat' (first | exact Below.refl _ _ | assumption | exact And.left (by assumption) | refine Below.drew ?_ | refine below_drewN ?_ _ | refine Below.setCell ?_ (by first | (simp; done) | (simp; omega) | omega) _ | refine Below.alloc ?_ (by first | (simp; done) | (simp; omega) | omega) _ | refine after (by assumption) (by first | (simp; done) | (simp; omega) | omega) ?_))⟩
    · clear hno2
      go_enter Try.func29, Try.ntmps29
      go_wp2_with fail
      refine (HP.out _ (HR.out.later ?_)).mono ?_; exact (by repeat' (first | exact Below.refl _ _ | assumption | exact And.left (by assumption) | refine Below.drew ?_ | refine below_drewN ?_ _ | refine Below.setCell ?_ (by first | (simp; done) | (simp; omega) | omega) _ | refine Below.alloc ?_ (by first | (simp; done) | (simp; omega) | omega) _ | refine after (by assumption) (by first | (simp; done) | (simp; omega) | omega) ?_)); rintro e w1 ⟨rfl, hb1⟩; obtain ⟨hc1, hf1⟩ := bcell hb1; have hz1 := hb1.size; (try simp at hz1); have lt_w1_0 : w.heap.size < w1.heap.size := (by omega)
      go_wp2
      exact bodyPost_ret (v := (.agg #[.int .i64 V.zero.cpu, .int .i64 V.zero.mem, .int .i64 V.zero.gpu, .int .i64 V.zero.lic])) (by simp [results, Try.results29, go_sem, V.zero, *]) rfl ⟨rfl, (by repeat' (first | exact Below.refl _ _ | assumption | exact And.left (by assumption) | refine Below.drew ?_ | refine below_drewN ?_ _ | refine Below.setCell ?_ (by first | (simp; done) | (simp; omega) | omega) _ | refine Below.alloc ?_ (by first | (simp; done) | (simp; omega) | omega) _ | refine after (by assumption) (by first | (simp; done) | (simp; omega) | omega) ?_))⟩
  · rw [show rightS l = false from decide_eq_false h] at HP
    clear h HA hno
    go_enter Try.func29, Try.ntmps29
    go_wp2_with fail
    refine (HP.out _ (HR.out.later ?_)).mono ?_; exact (by repeat' (first | exact Below.refl _ _ | assumption | exact And.left (by assumption) | refine Below.drew ?_ | refine below_drewN ?_ _ | refine Below.setCell ?_ (by first | (simp; done) | (simp; omega) | omega) _ | refine Below.alloc ?_ (by first | (simp; done) | (simp; omega) | omega) _ | refine after (by assumption) (by first | (simp; done) | (simp; omega) | omega) ?_)); rintro e w1 ⟨rfl, hb1⟩; obtain ⟨hc1, hf1⟩ := bcell hb1; have hz1 := hb1.size; (try simp at hz1); have lt_w1_0 : w.heap.size < w1.heap.size := (by omega)
    go_wp2
    exact bodyPost_ret (v := (.agg #[.int .i64 V.zero.cpu, .int .i64 V.zero.mem, .int .i64 V.zero.gpu, .int .i64 V.zero.lic])) (by simp [results, Try.results29, go_sem, V.zero, *]) rfl ⟨rfl, (by repeat' (first | exact Below.refl _ _ | assumption | exact And.left (by assumption) | refine Below.drew ?_ | refine below_drewN ?_ _ | refine Below.setCell ?_ (by first | (simp; done) | (simp; omega) | omega) _ | refine Below.alloc ?_ (by first | (simp; done) | (simp; omega) | omega) _ | refine after (by assumption) (by first | (simp; done) | (simp; omega) | omega) ?_))⟩
theorem leastF_next {m : V} {t : Int} {l : List St} {k : Nat} (h : k < l.length) : leastF m t (l.drop k) = leastF (if l[k].at_ < t then m.least l[k].free else m) t (l.drop (k + 1)) := by
  rw [drop_at l k h, leastF]
set_option maxHeartbeats 4000000 in
theorem sLeast_in (b0 off0 : Nat) (cap : Nat) (l : List St) (hl : l.length ≤ 100000) (f t : Int) (w : World) (HA : StAt w (some ⟨b0, off0, none⟩) cap l) (h : OkS l) (h0 : begin_ l ≤ f) (h1 : f < t) :
    Calls Try.prog 29 #[.slice (some ⟨b0, off0, none⟩) l.length cap, .int .i64 f, .int .i64 t] w fun e w' => e = .returned (.agg #[.int .i64 (leastP l f t).cpu, .int .i64 (leastP l f t).mem, .int .i64 (leastP l f t).gpu, .int .i64 (leastP l f t).lic]) ∧ Below w.heap.size w w' := by
  have HR := Lib.hid HA
  have HP := Lib.hid (fun w' h => sRight (some ⟨b0, off0, none⟩) cap l hl w' h)
  rw [show rightS l = true from decide_eq_true h] at HP
  have hpos : 0 < l.length := List.length_pos_iff.2 h.1
  have HL := Lib.hid (fun w' h => sLast (some ⟨b0, off0, none⟩) cap l hl hpos f w' h)
  have hrun : run f l.tail < l.length := by
    have := run_lt f l.tail
    rw [List.length_tail] at this; omega
  have hbg := begin_at hpos
  rw [hbg] at h0
  clear hbg
  have HE : Hid (leastP l f t = leastF l[run f l.tail].free t (l.drop (run f l.tail + 1))) := Lib.hid (by unfold leastP lastOf; simp [hrun])
  obtain ⟨b, off, ea, hbl, q0, q1, q2, q3, q4⟩ := HA.row.first hpos
  simp only [Option.some.injEq, Addr.mk.injEq, and_true] at ea
  obtain ⟨rfl, rfl⟩ := ea
  obtain ⟨b', off', ea', hbl', r0, r1, r2, r3, r4⟩ := HA.row.step hrun
  simp only [Option.some.injEq, Addr.mk.injEq, and_true] at ea'
  obtain ⟨rfl, rfl⟩ := ea'
  generalize run f l.tail = i at hrun r0 r1 r2 r3 r4 HL HE
  generalize l[i] = s1 at r0 r1 r2 r3 r4 HE
  generalize l[0] = s at q0 q1 q2 q3 q4 h0
  have hcap := HA.le
  clear h HA
  go_enter Try.func29, Try.ntmps29
  go_wp2_with fail
  refine (HP.out _ (HR.out.later ?_)).mono ?_; exact (by repeat' (first | exact Below.refl _ _ | assumption | exact And.left (by assumption) | refine Below.drew ?_ | refine below_drewN ?_ _ | refine Below.setCell ?_ (by first | (simp; done) | (simp; omega) | omega) _ | refine Below.alloc ?_ (by first | (simp; done) | (simp; omega) | omega) _ | refine after (by assumption) (by first | (simp; done) | (simp; omega) | omega) ?_)); rintro e w1 ⟨rfl, hb1⟩; obtain ⟨hc1, hf1⟩ := bcell hb1; have hz1 := hb1.size; (try simp at hz1); have lt_w1_0 : w.heap.size < w1.heap.size := (by omega)
  go_wp2_with fail
  refine (HL.out _ (HR.out.later ?_)).mono ?_; exact (by repeat' (first | exact Below.refl _ _ | assumption | exact And.left (by assumption) | refine Below.drew ?_ | refine below_drewN ?_ _ | refine Below.setCell ?_ (by first | (simp; done) | (simp; omega) | omega) _ | refine Below.alloc ?_ (by first | (simp; done) | (simp; omega) | omega) _ | refine after (by assumption) (by first | (simp; done) | (simp; omega) | omega) ?_)); rintro e w2 ⟨rfl, hb2⟩; obtain ⟨hc2, hf2⟩ := bcell hb2; have hz2 := hb2.size; (try simp at hz2); have lt_w2_0 : w.heap.size < w2.heap.size := (by omega)
  have hW : Below w.heap.size w w2 := (by repeat' (first | exact Below.refl _ _ | assumption | exact And.left (by assumption) | refine Below.drew ?_ | refine below_drewN ?_ _ | refine Below.setCell ?_ (by first | (simp; done) | (simp; omega) | omega) _ | refine Below.alloc ?_ (by first | (simp; done) | (simp; omega) | omega) _ | refine after (by assumption) (by first | (simp; done) | (simp; omega) | omega) ?_))
  have m1 := carry hW r1
  have m2 : w2.cell? ⟨b0, off0 + i * 5 + 1 + 1, none⟩ = some (.int .i64 s1.free.mem) := carry hW r2
  have m3 : w2.cell? ⟨b0, off0 + i * 5 + 1 + 2, none⟩ = some (.int .i64 s1.free.gpu) := carry hW r3
  have m4 : w2.cell? ⟨b0, off0 + i * 5 + 1 + 3, none⟩ = some (.int .i64 s1.free.lic) := carry hW r4
  go_upto_region 5 with fail
  generalize hw3 : World.alloc w2 _ = w3
  have hb3 : Below w.heap.size w w3 := by rw [← hw3]; exact hW.alloc hW.size _
  have hr3 : Res4 w3 w2.heap.size s1.free := by rw [← hw3]; exact Res4.fresh _ _ _
  have hz3 : w3.heap.size = w2.heap.size + 1 := by rw [← hw3]; simp
  have hb23 : Below w2.heap.size w2 w3 := by rw [← hw3]; exact (Below.refl _ _).alloc (Nat.le_refl _) _
  clear hw3
  obtain ⟨d, hd⟩ : ∃ d, d = l.drop (i + 1) := ⟨_, rfl⟩
  have hdl : d.length = l.length - (i + 1) := by rw [hd, List.length_drop]
  have HRD := Lib.hid (show ∀ off2, (i + 1 < l.length → off2 = off0 + (i + 1) * 5) → RowAt w (some ⟨b0, off2, none⟩) (stsV d) from fun off2 ho => by
    rcases Nat.lt_or_ge (i + 1) l.length with h' | h'
    · rw [ho h', hd, stsV_drop]
      exact HR.out.row.drop _
    · rw [hd, List.drop_eq_nil_of_le h']; exact .inl rfl)
  rw [← hd] at HE
  clear hd
  have HR3 := Lib.hid hr3
  have HZ3 : Hid (Res4 w3 w.heap.size V.zero) := Lib.hid ((((Res4.fresh w V.zero 34).later hb1).later hb2).later hb23)
  go_cut [39, 40, 41] (fun s39 s40 s41 wx => wx = w3 ∧ ∃ off2 c2, s39 = .slice (some ⟨b0, off2, none⟩) d.length c2 ∧ s40 = .int .i64 (d.length : Int) ∧ s41 = .int .i64 0 ∧ Hid (RowAt w (some ⟨b0, off2, none⟩) (stsV d)))
  case first =>
    by_cases hci : cap = i + 1
    · have hle : i + 1 = l.length := by omega
      have hd0 : d = [] := List.eq_nil_of_length_eq_zero (by omega)
      have HRD0 := HRD.out off0 (by omega)
      clear hdl
      go_wp2_with fail
      go_meet
      exact ⟨rfl, off0, 0, by rw [hd0]; rfl, by rw [hd0]; rfl, rfl, Lib.hid HRD0⟩
    · have HD0 := Lib.hid hdl
      clear hdl
      go_wp2_with fail
      go_meet
      exact ⟨rfl, off0 + (i + 1) * 5, cap - (i + 1), by rw [HD0.out], by rw [HD0.out], rfl, Lib.hid (HRD.out _ (fun _ => rfl))⟩
  case rest =>
    obtain ⟨rfl, off2, c2, rfl, rfl, rfl, HD⟩ := hcut
    have hdl2 : d.length ≤ 100000 := by omega
    clear hdl hcap m1 m2 m3 m4 r0 r1 r2 r3 r4 q0 q1 q2 q3 q4 HRD hr3
    go_wp2_with fail
    go_loopw [41] (fun x wr => ∃ (k : Nat) (m : V), k ≤ d.length ∧ x = .int .i64 (k : Int) ∧ Hid (leastP l f t = leastF m t (d.drop k)) ∧ Hid (Res4 wr w2.heap.size m) ∧ Hid (Res4 wr w.heap.size V.zero) ∧ Hid (Below w.heap.size w wr)) (fun x _ => d.length - (intOf x).toNat)
    case atStart => exact ⟨0, s1.free, Nat.zero_le _, rfl, Lib.hid (by rw [HE.out, List.drop_zero]), HR3, HZ3, Lib.hid hb3⟩
    case round =>
      obtain ⟨k, m, hk, rfl, HI, HM, HZ, HB⟩ := hrel
      have hz := HB.out.size
      have hgl := HM.out.lt
      have hg0 : w.heap.size < w2.heap.size := by have := hb2.size; have := hb1.size; simp at *; omega
      obtain ⟨g0, g1, g2, g3, f0, f1, f2, f3⟩ := HM.out
      by_cases hlt : k < d.length
      · obtain ⟨b, off, ea, hbl3, p0, p1, p2, p3, p4⟩ := (HD.out.later HB.out).step hlt
        simp only [Option.some.injEq, Addr.mk.injEq, and_true] at ea
        obtain ⟨rfl, rfl⟩ := ea
        have HN := Lib.hid (leastF_next (m := m) (t := t) hlt)
        generalize d[k] = s2 at p0 p1 p2 p3 p4 HN
        by_cases h2 : s2.at_ < t
        · have HX : Hid (leastP l f t = leastF (m.least s2.free) t (d.drop (k + 1))) := Lib.hid (by rw [HI.out, HN.out, if_pos h2])
          have HC := Lib.hid (fun w => least m s2.free w)
          clear HI HN
          generalize m.least s2.free = m' at HX HC
          go_wp2_with fail
          refine (HC.out _).mono ?_; rintro e w5 ⟨rfl, hb5⟩
          obtain ⟨hc5, hf5⟩ := bcell hb5
          have hz5 := hb5.size; try simp at hz5
          have hgl5 : w2.heap.size < w5.heap.size := by omega
          have HM5 := Lib.hid (HM.out.later (show Below wr.heap.size wr w5 from (by repeat' (first | exact Below.refl _ _ | assumption | exact And.left (by assumption) | refine Below.drew ?_ | refine below_drewN ?_ _ | refine Below.setCell ?_ (by first | (simp; done) | (simp; omega) | omega) _ | refine Below.alloc ?_ (by first | (simp; done) | (simp; omega) | omega) _ | refine after (by assumption) (by first | (simp; done) | (simp; omega) | omega) ?_))))
          have HZ5 := Lib.hid (HZ.out.later (show Below wr.heap.size wr w5 from (by repeat' (first | exact Below.refl _ _ | assumption | exact And.left (by assumption) | refine Below.drew ?_ | refine below_drewN ?_ _ | refine Below.setCell ?_ (by first | (simp; done) | (simp; omega) | omega) _ | refine Below.alloc ?_ (by first | (simp; done) | (simp; omega) | omega) _ | refine after (by assumption) (by first | (simp; done) | (simp; omega) | omega) ?_))))
          obtain ⟨k0, k1, k2, k3, e0, e1, e2, e3⟩ := HM5.out
          go_wp2
          go_roundw
          case rel => exact ⟨k + 1, m', by omega, by go_num, HX, Lib.hid (HM5.out.stored m'), Lib.hid (HZ5.out.far (by omega) _ _ _ _ _ _ _ _), Lib.hid (by have hb := HB.out; exact (by repeat' (first | exact Below.refl _ _ | assumption | exact And.left (by assumption) | refine Below.drew ?_ | refine below_drewN ?_ _ | refine Below.setCell ?_ (by first | (simp; done) | (simp; omega) | omega) _ | refine Below.alloc ?_ (by first | (simp; done) | (simp; omega) | omega) _ | refine after (by assumption) (by first | (simp; done) | (simp; omega) | omega) ?_)))⟩
          case measure => simp [intOf]; omega
        · have HX : Hid (leastP l f t = leastF m t (d.drop (k + 1))) := Lib.hid (by rw [HI.out, HN.out, if_neg h2])
          clear HI HN
          go_wp2
          go_roundw
          case rel => exact ⟨k + 1, m, by omega, by go_num, HX, Lib.hid (HM.out.later ((Below.refl _ _).alloc (Nat.le_refl _) _)), Lib.hid (HZ.out.later ((Below.refl _ _).alloc (Nat.le_refl _) _)), Lib.hid (HB.out.alloc hz _)⟩
          case measure => simp [intOf]; omega
      · have hkl : k = d.length := by omega
        subst hkl
        have HX : Hid (leastP l f t = m) := Lib.hid (by rw [HI.out, List.drop_length]; rfl)
        clear HI
        obtain ⟨y0, y1, y2, y3, x0, x1, x2, x3⟩ := HZ.out
        go_wp2
        rw [HX.out]
        exact bodyPost_ret (v := (.agg #[.int .i64 m.cpu, .int .i64 m.mem, .int .i64 m.gpu, .int .i64 m.lic])) (by simp [results, Try.results29, go_sem, *]) rfl ⟨rfl, by have hb := HB.out; exact (by repeat' (first | exact Below.refl _ _ | assumption | exact And.left (by assumption) | refine Below.drew ?_ | refine below_drewN ?_ _ | refine Below.setCell ?_ (by first | (simp; done) | (simp; omega) | omega) _ | refine Below.alloc ?_ (by first | (simp; done) | (simp; omega) | omega) _ | refine after (by assumption) (by first | (simp; done) | (simp; omega) | omega) ?_))⟩
theorem sLeast (a : Option Addr) (cap : Nat) (l : List St) (hl : l.length ≤ 100000) (f t : Int) (w : World) (HA : StAt w a cap l) :
    Calls Try.prog 29 #[.slice a l.length cap, .int .i64 f, .int .i64 t] w fun e w' => e = .returned (.agg #[.int .i64 (leastS l f t).cpu, .int .i64 (leastS l f t).mem, .int .i64 (leastS l f t).gpu, .int .i64 (leastS l f t).lic]) ∧ Below w.heap.size w w' := by
  by_cases h : OkS l ∧ begin_ l ≤ f ∧ f < t
  · obtain ⟨b, off, ea, _⟩ := HA.row.first (List.length_pos_iff.2 h.1.1)
    subst ea
    rw [show leastS l f t = leastP l f t from if_pos h]
    exact sLeast_in b off cap l hl f t w HA h.1 h.2.1 h.2.2
  · rw [leastS_no h]
    exact sLeast_no a cap l hl f t w HA h
end Go.Proofs.Ytcdajfiohhbdgaa.W


/-
  Contract of vec.Add: two numbers at once as one complex number.
-/
namespace Go.Proofs.Ytcdajfiohhbdgaa.W
set_option linter.unusedVariables false
set_option linter.unusedSimpArgs false
open Go.ChangeShapes Go.WideShapes Go.ChangeAt Go.RowKit
attribute [local go_sem] run_store_complex

/-- what has come up of 'p, q := pair(a), pair(b)' -/
def TwoPairs (w2 : World) (A PA B PB x0 x1 y0 y1 : Value) (fr : Value → Value → Value → Value → Value → Value → Array Value) (listed : Array Bool) (a : Act) (w : World) : Prop :=
  ∃ (b0 b1 b2 b3 b4 b5 b6 b7 : Bool) (s6 s7 s17 s18 s19 s20 : Value) (g h : Nat) (u0 u1 v0 v1 : Value), listed = #[b0, b1, b2, b3, b4, b5, b6, b7] ∧ a = { tmps := fr s6 s7 s17 s18 s19 s20, defers := [] } ∧
    Below w2.heap.size w2 w ∧ (b0 = true → s17 = A) ∧ (b1 = true → s18 = PA) ∧ (b2 = true → s19 = B) ∧ (b3 = true → s20 = PB) ∧
    (b4 = true → Mine w2 w s6 g u0 u1) ∧ (b5 = true → Mine w2 w s7 h v0 v1) ∧ (b4 = true → b5 = true → g ≠ h) ∧ (b6 = true → b4 = true ∧ u0 = x0 ∧ u1 = x1) ∧ (b7 = true → b5 = true ∧ v0 = y0 ∧ v1 = y1)

end Go.Proofs.Ytcdajfiohhbdgaa.W

/-
  Contract of vec.Sub: two numbers at once as one complex number.
-/
namespace Go.Proofs.Ytcdajfiohhbdgaa.W
set_option linter.unusedVariables false
set_option linter.unusedSimpArgs false
open Go.ChangeShapes Go.WideShapes Go.ChangeAt Go.RowKit
attribute [local go_sem] run_store_complex

set_option maxHeartbeats 8000000 in
theorem sub (a b : V) (w : World) :
    Calls Try.prog 51 #[(.agg #[.int .i64 a.cpu, .int .i64 a.mem, .int .i64 a.gpu, .int .i64 a.lic]), (.agg #[.int .i64 b.cpu, .int .i64 b.mem, .int .i64 b.gpu, .int .i64 b.lic])] w
      fun e w' => e = .returned (.tuple #[(.agg #[.int .i64 (subR a b).cpu, .int .i64 (subR a b).mem, .int .i64 (subR a b).gpu, .int .i64 (subR a b).lic]), .int .i64 (subE a b)]) ∧ Below w.heap.size w w' := by
  by_cases h0 : a.Ok
  · by_cases h1 : b.Ok
    · rw [(sub_in ⟨h0, h1⟩).1, (sub_in ⟨h0, h1⟩).2]
      have HA := Lib.hid (fun w => right a w)
      have HB := Lib.hid (fun w => right b w)
      rw [right_yes h0] at HA
      rw [right_yes h1] at HB
      have s := small_less h0 h1
      have U := Lib.hid (fun w => unpair (a.less b) w s)
      have e0 := fun t w => run_complex_sum (P := Try.prog) w .sub (Or.inr rfl) t .f64 _ _ _ _ _ _ (cdiff_less0 h0 h1)
      have e1 := fun t w => run_complex_sum (P := Try.prog) w .sub (Or.inr rfl) t .f64 _ _ _ _ _ _ (cdiff_less1 h0 h1)
      clear h0 h1 s
      go_enter Try.func51, Try.ntmps51
      go_wp2_with fail
      refine (HA.out _).mono ?_; rintro e w1 ⟨rfl, hb1⟩; obtain ⟨hc1, hf1⟩ := bcell hb1; have hz1 := hb1.size; (try simp at hz1); have lt_w1_0 : w.heap.size < w1.heap.size := (by omega); have lt_w1_1 : w.heap.size + 1 < w1.heap.size := (by omega); have lt_w1_2 : w.heap.size + 1 + 1 < w1.heap.size := (by omega)
      go_wp2_with fail
      refine (HB.out _).mono ?_; rintro e w2 ⟨rfl, hb2⟩; obtain ⟨hc2, hf2⟩ := bcell hb2; have hz2 := hb2.size; (try simp at hz2); have lt_w2_0 : w.heap.size < w2.heap.size := (by omega); have lt_w2_1 : w.heap.size + 1 < w2.heap.size := (by omega); have lt_w2_2 : w.heap.size + 1 + 1 < w2.heap.size := (by omega)
      go_upto_region 3 with fail
      go_cut [6, 7] (fun s6 s7 wx => ∃ g h : Nat, s6 = .pointer (some ⟨g, 0, none⟩) ∧ s7 = .pointer (some ⟨h, 0, none⟩) ∧ Below w2.heap.size w2 wx ∧
        (wx.cell? ⟨g, 0, none⟩ = some (.complex .f64 (fl a.cpu) (fl a.mem)) ∧ wx.cell? ⟨g, 1, none⟩ = some (.complex .f64 (fl a.gpu) (fl a.lic))) ∧
        (wx.cell? ⟨h, 0, none⟩ = some (.complex .f64 (fl b.cpu) (fl b.mem)) ∧ wx.cell? ⟨h, 1, none⟩ = some (.complex .f64 (fl b.gpu) (fl b.lic))))
      case first =>
        have p2 : ∀ w', Below w2.heap.size w2 w' → (w'.cell? ⟨w.heap.size, 0, none⟩ = some (.int .i64 a.cpu) ∧ w'.cell? ⟨w.heap.size, 1, none⟩ = some (.int .i64 a.mem) ∧ w'.cell? ⟨w.heap.size, 2, none⟩ = some (.int .i64 a.gpu) ∧ w'.cell? ⟨w.heap.size, 3, none⟩ = some (.int .i64 a.lic)) := fun w' hb => ⟨(by repeat' (first | assumption | (simp [go_sem]; done) | refine carry (by assumption) ?_ | refine carry_alloc ?_ _)), (by repeat' (first | assumption | (simp [go_sem]; done) | refine carry (by assumption) ?_ | refine carry_alloc ?_ _)), (by repeat' (first | assumption | (simp [go_sem]; done) | refine carry (by assumption) ?_ | refine carry_alloc ?_ _)), (by repeat' (first | assumption | (simp [go_sem]; done) | refine carry (by assumption) ?_ | refine carry_alloc ?_ _))⟩
        have p3 : ∀ w', Below w2.heap.size w2 w' → (w'.cell? ⟨w.heap.size + 1, 0, none⟩ = some (.int .i64 b.cpu) ∧ w'.cell? ⟨w.heap.size + 1, 1, none⟩ = some (.int .i64 b.mem) ∧ w'.cell? ⟨w.heap.size + 1, 2, none⟩ = some (.int .i64 b.gpu) ∧ w'.cell? ⟨w.heap.size + 1, 3, none⟩ = some (.int .i64 b.lic)) := fun w' hb => ⟨(by repeat' (first | assumption | (simp [go_sem]; done) | refine carry (by assumption) ?_ | refine carry_alloc ?_ _)), (by repeat' (first | assumption | (simp [go_sem]; done) | refine carry (by assumption) ?_ | refine carry_alloc ?_ _)), (by repeat' (first | assumption | (simp [go_sem]; done) | refine carry (by assumption) ?_ | refine carry_alloc ?_ _)), (by repeat' (first | assumption | (simp [go_sem]; done) | refine carry (by assumption) ?_ | refine carry_alloc ?_ _))⟩
        have P2 := Lib.hid p2
        have P3 := Lib.hid p3
        clear p2 p3 hc1 hc2 hf1 hf2
        refine region_inv (by kernel_rfl) (TwoPairs w2 (.agg #[.int .i64 a.cpu, .int .i64 a.mem, .int .i64 a.gpu, .int .i64 a.lic]) (.agg #[.complex .f64 (fl a.cpu) (fl a.mem), .complex .f64 (fl a.gpu) (fl a.lic)]) (.agg #[.int .i64 b.cpu, .int .i64 b.mem, .int .i64 b.gpu, .int .i64 b.lic]) (.agg #[.complex .f64 (fl b.cpu) (fl b.mem), .complex .f64 (fl b.gpu) (fl b.lic)])
          (.complex .f64 (fl a.cpu) (fl a.mem)) (.complex .f64 (fl a.gpu) (fl a.lic)) (.complex .f64 (fl b.cpu) (fl b.mem)) (.complex .f64 (fl b.gpu) (fl b.lic))
          (fun s6 s7 s17 s18 s19 s20 => #[(.agg #[.int .i64 a.cpu, .int .i64 a.mem, .int .i64 a.gpu, .int .i64 a.lic]), (.agg #[.int .i64 b.cpu, .int .i64 b.mem, .int .i64 b.gpu, .int .i64 b.lic]), .pointer (some ⟨w.heap.size, 0, none⟩), .pointer (some ⟨w.heap.size + 1, 0, none⟩), .pointer (some ⟨w.heap.size + 1 + 1, 0, none⟩), .int .i64 0, s6, s7,
            (.agg #[.int .i64 a.cpu, .int .i64 a.mem, .int .i64 a.gpu, .int .i64 a.lic]), .bool true, .bool false, .bool false, (.agg #[.int .i64 b.cpu, .int .i64 b.mem, .int .i64 b.gpu, .int .i64 b.lic]), .bool true, .bool false, .bool false, undef, s17, s18, s19, s20, undef, undef, undef, undef, undef, undef, undef, undef, undef, undef, undef, undef, undef, undef])) ?_ ?_ ?_
        · exact ⟨false, false, false, false, false, false, false, false, undef, undef, undef, undef, undef, undef, 0, 0, undef, undef, undef, undef, rfl, rfl, Below.drew (Below.refl _ _), by simp, by simp, by simp, by simp, by simp, by simp, by simp, by simp, by simp⟩
        · rintro listed ac wl ⟨b0, b1, b2, b3, b4, b5, b6, b7, s6, s7, s17, s18, s19, s20, g, h, u0, u1, v0, v1, rfl, rfl, hb, k0, k1, k2, k3, k4, k5, k6, k7, k8⟩ hr
          have key : b6 = true ∧ b7 = true := by
            clear k0 k1 k2 k3 k4 k5 k6 k7 k8
            revert hr
            revert b0 b1 b2 b3 b4 b5 b6 b7
            decide +kernel
          obtain ⟨t4, rfl, rfl⟩ := k7 key.1
          obtain ⟨t5, rfl, rfl⟩ := k8 key.2
          have m := k4 t4
          have n := k5 t5
          clear hr
          dsimp only
          go_wp2_with fail
          go_meet
          exact ⟨g, h, m.eq, n.eq, hb, ⟨m.c0, m.c1⟩, n.c0, n.c1⟩
        · rintro i listed ac wl ⟨b0, b1, b2, b3, b4, b5, b6, b7, s6, s7, s17, s18, s19, s20, g, h, u0, u1, v0, v1, rfl, rfl, hb, k0, k1, k2, k3, k4, k5, k6, k7, k8⟩ hi hd
          match i, hi, hd with
          | 0, hi, hd =>
            obtain ⟨q0, q1, q2, q3⟩ := P2.out wl hb
            refine wpOp_one rfl rfl (fun K hK => ?_)
            go_simp
            exact hK _ _ ⟨true, b1, b2, b3, b4, b5, b6, b7, s6, s7, _, s18, s19, s20, g, h, u0, u1, v0, v1, rfl, rfl, hb, fun _ => rfl, k1, k2, k3, k4, k5, k6, k7, k8⟩
          | 1, hi, hd =>
            obtain ⟨o, ho, hd⟩ := hd
            obtain rfl := Option.some.inj ho
            have d0 : b0 = true := hd { on := 0, ground := .data } (by simp) rfl
            obtain rfl := k0 d0
            refine wpOp_one rfl rfl (fun K hK => ?_)
            go_simp
            refine (pair a _).mono ?_; rintro e w3 ⟨rfl, rfl⟩
            have hb3 : Below wl.heap.size wl ((wl.alloc (.cells #[.int .i64 a.cpu, .int .i64 a.mem, .int .i64 a.gpu, .int .i64 a.lic] 34)).alloc (.cells #[.complex .f64 (fl a.cpu) (fl a.mem), .complex .f64 (fl a.gpu) (fl a.lic)] 117)) := (by repeat' (first | exact Below.refl _ _ | assumption | exact And.left (by assumption) | refine Below.drew ?_ | refine below_drewN ?_ _ | refine Below.setCell ?_ (by first | (simp; done) | (simp; omega) | omega) _ | refine Below.alloc ?_ (by first | (simp; done) | (simp; omega) | omega) _ | refine after (by assumption) (by first | (simp; done) | (simp; omega) | omega) ?_))
            exact hK _ _ ⟨b0, true, b2, b3, b4, b5, b6, b7, s6, s7, _, _, s19, s20, g, h, u0, u1, v0, v1, rfl, rfl, hb.trans (hb3.mono hb.size), k0, fun _ => rfl, k2, k3, fun x => (k4 x).later hb3, fun x => (k5 x).later hb3, k6, k7, k8⟩
          | 2, hi, hd =>
            obtain ⟨q0, q1, q2, q3⟩ := P3.out wl hb
            refine wpOp_one rfl rfl (fun K hK => ?_)
            go_simp
            exact hK _ _ ⟨b0, b1, true, b3, b4, b5, b6, b7, s6, s7, s17, s18, _, s20, g, h, u0, u1, v0, v1, rfl, rfl, hb, k0, k1, fun _ => rfl, k3, k4, k5, k6, k7, k8⟩
          | 3, hi, hd =>
            obtain ⟨o, ho, hd⟩ := hd
            obtain rfl := Option.some.inj ho
            have d0 : b2 = true := hd { on := 2, ground := .data } (by simp) rfl
            obtain rfl := k2 d0
            refine wpOp_one rfl rfl (fun K hK => ?_)
            go_simp
            refine (pair b _).mono ?_; rintro e w3 ⟨rfl, rfl⟩
            have hb3 : Below wl.heap.size wl ((wl.alloc (.cells #[.int .i64 b.cpu, .int .i64 b.mem, .int .i64 b.gpu, .int .i64 b.lic] 34)).alloc (.cells #[.complex .f64 (fl b.cpu) (fl b.mem), .complex .f64 (fl b.gpu) (fl b.lic)] 117)) := (by repeat' (first | exact Below.refl _ _ | assumption | exact And.left (by assumption) | refine Below.drew ?_ | refine below_drewN ?_ _ | refine Below.setCell ?_ (by first | (simp; done) | (simp; omega) | omega) _ | refine Below.alloc ?_ (by first | (simp; done) | (simp; omega) | omega) _ | refine after (by assumption) (by first | (simp; done) | (simp; omega) | omega) ?_))
            exact hK _ _ ⟨b0, b1, b2, true, b4, b5, b6, b7, s6, s7, s17, s18, _, _, g, h, u0, u1, v0, v1, rfl, rfl, hb.trans (hb3.mono hb.size), k0, k1, k2, fun _ => rfl, fun x => (k4 x).later hb3, fun x => (k5 x).later hb3, k6, k7, k8⟩
          | 4, hi, hd =>
            refine wpOp_one rfl rfl (fun K hK => ?_)
            go_simp
            exact hK _ _ ⟨b0, b1, b2, b3, true, b5, b6, b7, _, s7, s17, s18, s19, s20, wl.heap.size, h, .complex .f64 0 0, .complex .f64 0 0, v0, v1, rfl, rfl, hb.alloc hb.size _, k0, k1, k2, k3, fun _ => ⟨rfl, hb.size, by simp [go_sem], by simp [go_sem], by simp [go_sem], by simp [go_sem]⟩,
              fun x => (k5 x).later ((Below.refl _ _).alloc (Nat.le_refl _) _), fun _ x => by have := World.block_lt_of_cell? _ _ (k5 x).c0; simp at this; omega, fun x => absurd (k7 x).1 (by simpa using hi), k8⟩
          | 5, hi, hd =>
            refine wpOp_one rfl rfl (fun K hK => ?_)
            go_simp
            exact hK _ _ ⟨b0, b1, b2, b3, b4, true, b6, b7, s6, _, s17, s18, s19, s20, g, wl.heap.size, u0, u1, .complex .f64 0 0, .complex .f64 0 0, rfl, rfl, hb.alloc hb.size _, k0, k1, k2, k3, fun x => (k4 x).later ((Below.refl _ _).alloc (Nat.le_refl _) _),
              fun _ => ⟨rfl, hb.size, by simp [go_sem], by simp [go_sem], by simp [go_sem], by simp [go_sem]⟩, fun x _ => by have := World.block_lt_of_cell? _ _ (k4 x).c0; simp at this; omega, k7, fun x => absurd (k8 x).1 (by simpa using hi)⟩
          | 6, hi, hd =>
            obtain ⟨o, ho, hd⟩ := hd
            obtain rfl := Option.some.inj ho
            have d1 : b1 = true := hd { on := 1, ground := .data } (by simp) rfl
            have d4 : b4 = true := hd { on := 4, ground := .data } (by simp) rfl
            have d5 : b5 = true := hd { on := 5, ground := .phase } (by simp) rfl
            obtain rfl := k1 d1
            have m := k4 d4
            have e := m.eq
            have c0 := m.c0
            have c1 := m.c1
            have f0 := m.f0
            have f1 := m.f1
            subst e
            refine wpOp_one rfl rfl (fun K hK => ?_)
            have HM := Lib.hid m
            clear m
            go_simp
            exact hK _ _ ⟨b0, b1, b2, b3, b4, b5, true, b7, _, s7, s17, _, s19, s20, g, h, _, _, v0, v1, rfl, rfl, (hb.setCell HM.out.new _).setCell HM.out.new _, k0, fun _ => rfl, k2, k3, fun _ => HM.out.stored _ _,
              fun x => (k5 x).apart (k6 d4 x) _ _, k6, fun _ => ⟨d4, rfl, rfl⟩, k8⟩
          | 7, hi, hd =>
            obtain ⟨o, ho, hd⟩ := hd
            obtain rfl := Option.some.inj ho
            have d3 : b3 = true := hd { on := 3, ground := .data } (by simp) rfl
            have d5 : b5 = true := hd { on := 5, ground := .data } (by simp) rfl
            obtain rfl := k3 d3
            have m := k5 d5
            have e := m.eq
            have c0 := m.c0
            have c1 := m.c1
            have f0 := m.f0
            have f1 := m.f1
            subst e
            refine wpOp_one rfl rfl (fun K hK => ?_)
            have HM := Lib.hid m
            clear m
            go_simp
            exact hK _ _ ⟨b0, b1, b2, b3, b4, b5, b6, true, s6, _, s17, s18, s19, _, g, h, u0, u1, _, _, rfl, rfl, (hb.setCell HM.out.new _).setCell HM.out.new _, k0, k1, k2, fun _ => rfl,
              fun x => (k4 x).apart (Ne.symm (k6 x d5)) _ _, fun _ => HM.out.stored _ _, k6, k7, fun _ => ⟨d5, rfl, rfl⟩⟩
          | n + 8, hi, hd => simp at hi
      case rest =>
        obtain ⟨g, h, rfl, rfl, hb3, ⟨hg0, hg1⟩, hh0, hh1⟩ := hcut
        obtain ⟨hc3, hf3⟩ := bcell hb3
        have hz3 := hb3.size
        have lt_wc_0 : w.heap.size < wc.heap.size := (by omega); have lt_wc_1 : w.heap.size + 1 < wc.heap.size := (by omega); have lt_wc_2 : w.heap.size + 1 + 1 < wc.heap.size := (by omega)
        go_wp2_with (simp only [e0, e1])
        refine (U.out _).mono ?_; rintro e w4 ⟨rfl, hb4⟩; obtain ⟨hc4, hf4⟩ := bcell hb4; have hz4 := hb4.size; (try simp at hz4); have lt_w4_0 : w.heap.size < w4.heap.size := (by omega); have lt_w4_1 : w.heap.size + 1 < w4.heap.size := (by omega); have lt_w4_2 : w.heap.size + 1 + 1 < w4.heap.size := (by omega)
        have q_w4_0 : w4.cell? ⟨w.heap.size + 1 + 1, 0, none⟩ = some (.int .i64 0) := (by repeat' (first | assumption | (simp [go_sem]; done) | refine carry (by assumption) ?_ | refine carry_alloc ?_ _)); have q_w4_1 : w4.cell? ⟨w.heap.size + 1 + 1, 1, none⟩ = some (.int .i64 0) := (by repeat' (first | assumption | (simp [go_sem]; done) | refine carry (by assumption) ?_ | refine carry_alloc ?_ _)); have q_w4_2 : w4.cell? ⟨w.heap.size + 1 + 1, 2, none⟩ = some (.int .i64 0) := (by repeat' (first | assumption | (simp [go_sem]; done) | refine carry (by assumption) ?_ | refine carry_alloc ?_ _)); have q_w4_3 : w4.cell? ⟨w.heap.size + 1 + 1, 3, none⟩ = some (.int .i64 0) := (by repeat' (first | assumption | (simp [go_sem]; done) | refine carry (by assumption) ?_ | refine carry_alloc ?_ _))
        go_wp2
        exact bodyPost_ret (v := .tuple #[(.agg #[.int .i64 (outR (a.less b)).cpu, .int .i64 (outR (a.less b)).mem, .int .i64 (outR (a.less b)).gpu, .int .i64 (outR (a.less b)).lic]), .int .i64 (outE (a.less b))]) (by simp [results, Try.results51, go_sem, *]) rfl ⟨rfl, (by repeat' (first | exact Below.refl _ _ | assumption | exact And.left (by assumption) | refine Below.drew ?_ | refine below_drewN ?_ _ | refine Below.setCell ?_ (by first | (simp; done) | (simp; omega) | omega) _ | refine Below.alloc ?_ (by first | (simp; done) | (simp; omega) | omega) _ | refine after (by assumption) (by first | (simp; done) | (simp; omega) | omega) ?_))⟩
    · rw [(sub_arg (fun x => h1 x.2)).1, (sub_arg (fun x => h1 x.2)).2]
      have HA := Lib.hid (fun w => right a w)
      have HB := Lib.hid (fun w => right b w)
      rw [right_yes h0] at HA
      rw [right_no h1] at HB
      clear h0 h1
      go_enter Try.func51, Try.ntmps51
      go_wp2_with fail
      refine (HA.out _).mono ?_; rintro e w1 ⟨rfl, hb1⟩; obtain ⟨hc1, hf1⟩ := bcell hb1; have hz1 := hb1.size; (try simp at hz1); have lt_w1_0 : w.heap.size < w1.heap.size := (by omega); have lt_w1_1 : w.heap.size + 1 < w1.heap.size := (by omega); have lt_w1_2 : w.heap.size + 1 + 1 < w1.heap.size := (by omega)
      go_wp2_with fail
      refine (HB.out _).mono ?_; rintro e w2 ⟨rfl, hb2⟩; obtain ⟨hc2, hf2⟩ := bcell hb2; have hz2 := hb2.size; (try simp at hz2); have lt_w2_0 : w.heap.size < w2.heap.size := (by omega); have lt_w2_1 : w.heap.size + 1 < w2.heap.size := (by omega); have lt_w2_2 : w.heap.size + 1 + 1 < w2.heap.size := (by omega)
      have q_w2_0 : w2.cell? ⟨w.heap.size + 1 + 1, 0, none⟩ = some (.int .i64 0) := (by repeat' (first | assumption | (simp [go_sem]; done) | refine carry (by assumption) ?_ | refine carry_alloc ?_ _)); have q_w2_1 : w2.cell? ⟨w.heap.size + 1 + 1, 1, none⟩ = some (.int .i64 0) := (by repeat' (first | assumption | (simp [go_sem]; done) | refine carry (by assumption) ?_ | refine carry_alloc ?_ _)); have q_w2_2 : w2.cell? ⟨w.heap.size + 1 + 1, 2, none⟩ = some (.int .i64 0) := (by repeat' (first | assumption | (simp [go_sem]; done) | refine carry (by assumption) ?_ | refine carry_alloc ?_ _)); have q_w2_3 : w2.cell? ⟨w.heap.size + 1 + 1, 3, none⟩ = some (.int .i64 0) := (by repeat' (first | assumption | (simp [go_sem]; done) | refine carry (by assumption) ?_ | refine carry_alloc ?_ _))
      go_wp2
      exact bodyPost_ret (v := .tuple #[(.agg #[.int .i64 V.zero.cpu, .int .i64 V.zero.mem, .int .i64 V.zero.gpu, .int .i64 V.zero.lic]), .int .i64 2]) (by simp [results, Try.results51, go_sem, V.zero, *]) rfl ⟨rfl, (by repeat' (first | exact Below.refl _ _ | assumption | exact And.left (by assumption) | refine Below.drew ?_ | refine below_drewN ?_ _ | refine Below.setCell ?_ (by first | (simp; done) | (simp; omega) | omega) _ | refine Below.alloc ?_ (by first | (simp; done) | (simp; omega) | omega) _ | refine after (by assumption) (by first | (simp; done) | (simp; omega) | omega) ?_))⟩
  · rw [(sub_arg (fun x => h0 x.1)).1, (sub_arg (fun x => h0 x.1)).2]
    have HA := Lib.hid (fun w => right a w)
    rw [right_no h0] at HA
    clear h0
    go_enter Try.func51, Try.ntmps51
    go_wp2_with fail
    refine (HA.out _).mono ?_; rintro e w1 ⟨rfl, hb1⟩; obtain ⟨hc1, hf1⟩ := bcell hb1; have hz1 := hb1.size; (try simp at hz1); have lt_w1_0 : w.heap.size < w1.heap.size := (by omega); have lt_w1_1 : w.heap.size + 1 < w1.heap.size := (by omega); have lt_w1_2 : w.heap.size + 1 + 1 < w1.heap.size := (by omega)
    have q_w1_0 : w1.cell? ⟨w.heap.size + 1 + 1, 0, none⟩ = some (.int .i64 0) := (by repeat' (first | assumption | (simp [go_sem]; done) | refine carry (by assumption) ?_ | refine carry_alloc ?_ _)); have q_w1_1 : w1.cell? ⟨w.heap.size + 1 + 1, 1, none⟩ = some (.int .i64 0) := (by repeat' (first | assumption | (simp [go_sem]; done) | refine carry (by assumption) ?_ | refine carry_alloc ?_ _)); have q_w1_2 : w1.cell? ⟨w.heap.size + 1 + 1, 2, none⟩ = some (.int .i64 0) := (by repeat' (first | assumption | (simp [go_sem]; done) | refine carry (by assumption) ?_ | refine carry_alloc ?_ _)); have q_w1_3 : w1.cell? ⟨w.heap.size + 1 + 1, 3, none⟩ = some (.int .i64 0) := (by repeat' (first | assumption | (simp [go_sem]; done) | refine carry (by assumption) ?_ | refine carry_alloc ?_ _))
    go_wp2
    exact bodyPost_ret (v := .tuple #[(.agg #[.int .i64 V.zero.cpu, .int .i64 V.zero.mem, .int .i64 V.zero.gpu, .int .i64 V.zero.lic]), .int .i64 2]) (by simp [results, Try.results51, go_sem, V.zero, *]) rfl ⟨rfl, (by repeat' (first | exact Below.refl _ _ | assumption | exact And.left (by assumption) | refine Below.drew ?_ | refine below_drewN ?_ _ | refine Below.setCell ?_ (by first | (simp; done) | (simp; omega) | omega) _ | refine Below.alloc ?_ (by first | (simp; done) | (simp; omega) | omega) _ | refine after (by assumption) (by first | (simp; done) | (simp; omega) | omega) ?_))⟩

end Go.Proofs.Ytcdajfiohhbdgaa.W


/-
  Contracts of steps.change, steps.Take, steps.Give.
-/
namespace Go.Proofs.Ytcdajfiohhbdgaa.W
set_option maxRecDepth 100000
set_option linter.unusedVariables false
set_option linter.unusedSimpArgs false
open Go.ChangeShapes Go.WideShapes Go.ChangeAt Go.RowKit

theorem set_free : ∀ (l : List St) (k : Nat) (h : k < l.length) (v : V),
    ((((stsV l).set (k * 5 + 1) (.int .i64 v.cpu)).set (k * 5 + 2) (.int .i64 v.mem)).set (k * 5 + 3) (.int .i64 v.gpu)).set (k * 5 + 4) (.int .i64 v.lic) = stsV (l.set k ⟨l[k].at_, v⟩)
  | s :: r, 0, _, v => rfl
  | s :: r, k + 1, h, v => by
    have e : ∀ j, (k + 1) * 5 + j = (k * 5 + j) + 1 + 1 + 1 + 1 + 1 := fun j => by omega
    rw [e 1, e 2, e 3, e 4]
    have ih := set_free r k (by simpa using h) v
    show ((((stV s ++ stsV r).set _ _).set _ _).set _ _).set _ _ = stV s ++ stsV (r.set k ⟨(r[k]'(by simpa using h)).at_, v⟩)
    rw [← ih]
    rfl
/-- what a store of a step's vector leaves of a row of the call's own -/
theorem own_free {w : World} {B g n c : Nat} {l : List St} (h : w.ownsRow B 101 5 (.slice (some ⟨g, 0, none⟩) n c) n (stsV l)) {k : Nat} (hk : k < l.length) (v : V) :
    ((((w.setCell ⟨g, k * 5 + 1, none⟩ (.int .i64 v.cpu)).setCell ⟨g, k * 5 + 1 + 1, none⟩ (.int .i64 v.mem)).setCell ⟨g, k * 5 + 1 + 2, none⟩ (.int .i64 v.gpu)).setCell ⟨g, k * 5 + 1 + 3, none⟩ (.int .i64 v.lic)).ownsRow B 101 5 (.slice (some ⟨g, 0, none⟩) n c) n (stsV (l.set k ⟨l[k].at_, v⟩)) := by
  rw [← set_free l k hk v]
  exact ((((h.stored (k * 5 + 1) _).1.stored (k * 5 + 2) _).1.stored (k * 5 + 3) _).1.stored (k * 5 + 4) _).1
theorem take_map_skip {g : St → St} {l : List St} {k : Nat} (h : k < l.length) (e : g l[k] = l[k]) : (l.take (k + 1)).map g ++ l.drop (k + 1) = (l.take k).map g ++ l.drop k := by
  rw [take_app l k h, drop_at l k h, List.map_append, List.map_cons, List.map_nil, e]; simp
theorem take_map_set {g : St → St} {l : List St} {k : Nat} (h : k < l.length) (x : St) (e : g l[k] = x) : (l.take (k + 1)).map g ++ l.drop (k + 1) = ((l.take k).map g ++ l.drop k).set k x := by
  have hk : ((l.take k).map g).length = k := by rw [List.length_map, List.length_take]; omega
  rw [List.set_append_right _ _ (by omega), hk, Nat.sub_self, drop_at l k h, take_app l k h, List.map_append, List.map_cons, List.map_nil, e]; simp only [List.append_assoc, List.cons_append, List.nil_append, List.set_cons_zero]
theorem cut_len (l : List St) (t : Int) : (cutL l t).length ≤ l.length + 1 := by
  unfold cutL
  split
  · omega
  · simp only [List.length_append, List.length_take, List.length_cons, List.length_drop]; omega
theorem cut2_len (l : List St) (f t : Int) : (cut2 l f t).length ≤ l.length + 2 := by
  have h1 := cut_len l f
  have h2 := cut_len (cutL l f) t
  unfold cut2; omega
theorem turnR_len (m : Bool) (l : List St) (f t : Int) (need : V) : (turnR m l f t need).length ≤ l.length + 2 := by
  unfold turnR
  split
  · have := plainL_len ((cut2 l f t).map (chg m f t need))
    have := cut2_len l f t
    rw [List.length_map] at *; omega
  · simp
theorem run_enter {P : Program} {f : FuncId} {fn : Func} {c : Code} (hf : P.funcs[f]? = some fn) (hname : (fn.name == "runtime.NumGoroutine") = false) (hb : fn.body = some c) (args : Array Value) (w : World) :
    (callFunc f args).run P w = .ok (.enter f args) w := by
  simp only [callFunc]
  simp [hf, hb]
  intro hn
  simp [hn] at hname
set_option maxHeartbeats 4000000 in
theorem sChange_no (m : Bool) (fn : FuncId) (a : Option Addr) (cap : Nat) (l : List St) (hl : l.length ≤ 80000) (f t : Int) (need : V) (w : World) (HA : StAt w a cap l) (hno : ¬ ArgsOk l f t need) :
    Calls Try.prog 50 #[.slice a l.length cap, .int .i64 f, .int .i64 t, (.agg #[.int .i64 need.cpu, .int .i64 need.mem, .int .i64 need.gpu, .int .i64 need.lic]), .func (.func fn) #[] #[]] w fun e w' => e = .returned (.tuple #[.slice none 0 0, .int .i64 2]) ∧ Below w.heap.size w w' := by
  have HR := Lib.hid HA
  have HP := Lib.hid (fun w' h => sRight a cap l (by omega) w' h)
  have HV := Lib.hid (fun w' => right need w')
  by_cases h : OkS l
  · rw [show rightS l = true from decide_eq_true h] at HP
    have hpos : 0 < l.length := List.length_pos_iff.2 h.1
    obtain ⟨b, off, ea, hbl, q0, q1, q2, q3, q4⟩ := HA.row.first hpos
    have hbg := begin_at hpos
    by_cases hn : need.Ok
    · rw [right_yes hn] at HV
      have hno2 : ¬ (l[0].at_ ≤ f ∧ f < t ∧ t ≤ 281474976710656) := fun x => hno ⟨h, hn, by rw [hbg]; exact x.1, x.2⟩
      generalize l[0] = s at q0 q1 q2 q3 q4 hno2
      clear h HA hno hbg hn
      subst ea
      by_cases h0 : s.at_ ≤ f
      · by_cases h1 : f < t
        · have h2 : ¬ t ≤ 281474976710656 := fun x => hno2 ⟨h0, h1, x⟩
          clear hno2
          go_enter Try.func50, Try.ntmps50
          go_wp2_with fail
          refine (HP.out _ (HR.out.later ?_)).mono ?_; exact (by repeat' (first | exact Below.refl _ _ | assumption | exact And.left (by assumption) | refine Below.drew ?_ | refine below_drewN ?_ _ | refine Below.setCell ?_ (by first | (simp; done) | (simp; omega) | omega) _ | refine Below.alloc ?_ (by first | (simp; done) | (simp; omega) | omega) _ | refine after (by assumption) (by first | (simp; done) | (simp; omega) | omega) ?_)); rintro e w1 ⟨rfl, hb1⟩; obtain ⟨hc1, hf1⟩ := bcell hb1; have hz1 := hb1.size; (try simp at hz1); have lt_w1_0 : w.heap.size < w1.heap.size := (by omega)
          go_wp2_with fail
          refine (HV.out _).mono ?_; rintro e w2 ⟨rfl, hb2⟩; obtain ⟨hc2, hf2⟩ := bcell hb2; have hz2 := hb2.size; (try simp at hz2); have lt_w2_0 : w.heap.size < w2.heap.size := (by omega)
          have g0 : w2.cell? ⟨b, off, none⟩ = some (.int .i64 s.at_) := carry (show Below w.heap.size w w2 from (by repeat' (first | exact Below.refl _ _ | assumption | exact And.left (by assumption) | refine Below.drew ?_ | refine below_drewN ?_ _ | refine Below.setCell ?_ (by first | (simp; done) | (simp; omega) | omega) _ | refine Below.alloc ?_ (by first | (simp; done) | (simp; omega) | omega) _ | refine after (by assumption) (by first | (simp; done) | (simp; omega) | omega) ?_))) q0
          go_wp2
          go_ret2
          exact ⟨rfl, (by repeat' (first | exact Below.refl _ _ | assumption | exact And.left (by assumption) | refine Below.drew ?_ | refine below_drewN ?_ _ | refine Below.setCell ?_ (by first | (simp; done) | (simp; omega) | omega) _ | refine Below.alloc ?_ (by first | (simp; done) | (simp; omega) | omega) _ | refine after (by assumption) (by first | (simp; done) | (simp; omega) | omega) ?_))⟩
        · clear hno2
          go_enter Try.func50, Try.ntmps50
          go_wp2_with fail
          refine (HP.out _ (HR.out.later ?_)).mono ?_; exact (by repeat' (first | exact Below.refl _ _ | assumption | exact And.left (by assumption) | refine Below.drew ?_ | refine below_drewN ?_ _ | refine Below.setCell ?_ (by first | (simp; done) | (simp; omega) | omega) _ | refine Below.alloc ?_ (by first | (simp; done) | (simp; omega) | omega) _ | refine after (by assumption) (by first | (simp; done) | (simp; omega) | omega) ?_)); rintro e w1 ⟨rfl, hb1⟩; obtain ⟨hc1, hf1⟩ := bcell hb1; have hz1 := hb1.size; (try simp at hz1); have lt_w1_0 : w.heap.size < w1.heap.size := (by omega)
          go_wp2_with fail
          refine (HV.out _).mono ?_; rintro e w2 ⟨rfl, hb2⟩; obtain ⟨hc2, hf2⟩ := bcell hb2; have hz2 := hb2.size; (try simp at hz2); have lt_w2_0 : w.heap.size < w2.heap.size := (by omega)
          have g0 : w2.cell? ⟨b, off, none⟩ = some (.int .i64 s.at_) := carry (show Below w.heap.size w w2 from (by repeat' (first | exact Below.refl _ _ | assumption | exact And.left (by assumption) | refine Below.drew ?_ | refine below_drewN ?_ _ | refine Below.setCell ?_ (by first | (simp; done) | (simp; omega) | omega) _ | refine Below.alloc ?_ (by first | (simp; done) | (simp; omega) | omega) _ | refine after (by assumption) (by first | (simp; done) | (simp; omega) | omega) ?_))) q0
          go_wp2
          go_ret2
          exact ⟨rfl, (by repeat' (first | exact Below.refl _ _ | assumption | exact And.left (by assumption) | refine Below.drew ?_ | refine below_drewN ?_ _ | refine Below.setCell ?_ (by first | (simp; done) | (simp; omega) | omega) _ | refine Below.alloc ?_ (by first | (simp; done) | (simp; omega) | omega) _ | refine after (by assumption) (by first | (simp; done) | (simp; omega) | omega) ?_))⟩
      · clear hno2
        go_enter Try.func50, Try.ntmps50
        go_wp2_with fail
        refine (HP.out _ (HR.out.later ?_)).mono ?_; exact (by repeat' (first | exact Below.refl _ _ | assumption | exact And.left (by assumption) | refine Below.drew ?_ | refine below_drewN ?_ _ | refine Below.setCell ?_ (by first | (simp; done) | (simp; omega) | omega) _ | refine Below.alloc ?_ (by first | (simp; done) | (simp; omega) | omega) _ | refine after (by assumption) (by first | (simp; done) | (simp; omega) | omega) ?_)); rintro e w1 ⟨rfl, hb1⟩; obtain ⟨hc1, hf1⟩ := bcell hb1; have hz1 := hb1.size; (try simp at hz1); have lt_w1_0 : w.heap.size < w1.heap.size := (by omega)
        go_wp2_with fail
        refine (HV.out _).mono ?_; rintro e w2 ⟨rfl, hb2⟩; obtain ⟨hc2, hf2⟩ := bcell hb2; have hz2 := hb2.size; (try simp at hz2); have lt_w2_0 : w.heap.size < w2.heap.size := (by omega)
        have g0 : w2.cell? ⟨b, off, none⟩ = some (.int .i64 s.at_) := carry (show Below w.heap.size w w2 from (by repeat' (first | exact Below.refl _ _ | assumption | exact And.left (by assumption) | refine Below.drew ?_ | refine below_drewN ?_ _ | refine Below.setCell ?_ (by first | (simp; done) | (simp; omega) | omega) _ | refine Below.alloc ?_ (by first | (simp; done) | (simp; omega) | omega) _ | refine after (by assumption) (by first | (simp; done) | (simp; omega) | omega) ?_))) q0
        go_wp2
        go_ret2
        exact ⟨rfl, (by repeat' (first | exact Below.refl _ _ | assumption | exact And.left (by assumption) | refine Below.drew ?_ | refine below_drewN ?_ _ | refine Below.setCell ?_ (by first | (simp; done) | (simp; omega) | omega) _ | refine Below.alloc ?_ (by first | (simp; done) | (simp; omega) | omega) _ | refine after (by assumption) (by first | (simp; done) | (simp; omega) | omega) ?_))⟩
    · rw [right_no hn] at HV
      clear h HA hno hbg hn
      subst ea
      go_enter Try.func50, Try.ntmps50
      go_wp2_with fail
      refine (HP.out _ (HR.out.later ?_)).mono ?_; exact (by repeat' (first | exact Below.refl _ _ | assumption | exact And.left (by assumption) | refine Below.drew ?_ | refine below_drewN ?_ _ | refine Below.setCell ?_ (by first | (simp; done) | (simp; omega) | omega) _ | refine Below.alloc ?_ (by first | (simp; done) | (simp; omega) | omega) _ | refine after (by assumption) (by first | (simp; done) | (simp; omega) | omega) ?_)); rintro e w1 ⟨rfl, hb1⟩; obtain ⟨hc1, hf1⟩ := bcell hb1; have hz1 := hb1.size; (try simp at hz1); have lt_w1_0 : w.heap.size < w1.heap.size := (by omega)
      go_wp2_with fail
      refine (HV.out _).mono ?_; rintro e w2 ⟨rfl, hb2⟩; obtain ⟨hc2, hf2⟩ := bcell hb2; have hz2 := hb2.size; (try simp at hz2); have lt_w2_0 : w.heap.size < w2.heap.size := (by omega)
      go_wp2
      go_ret2
      exact ⟨rfl, (by repeat' (first | exact Below.refl _ _ | assumption | exact And.left (by assumption) | refine Below.drew ?_ | refine below_drewN ?_ _ | refine Below.setCell ?_ (by first | (simp; done) | (simp; omega) | omega) _ | refine Below.alloc ?_ (by first | (simp; done) | (simp; omega) | omega) _ | refine after (by assumption) (by first | (simp; done) | (simp; omega) | omega) ?_))⟩
  · rw [show rightS l = false from decide_eq_false h] at HP
    clear h HA hno
    go_enter Try.func50, Try.ntmps50
    go_wp2_with fail
    refine (HP.out _ (HR.out.later ?_)).mono ?_; exact (by repeat' (first | exact Below.refl _ _ | assumption | exact And.left (by assumption) | refine Below.drew ?_ | refine below_drewN ?_ _ | refine Below.setCell ?_ (by first | (simp; done) | (simp; omega) | omega) _ | refine Below.alloc ?_ (by first | (simp; done) | (simp; omega) | omega) _ | refine after (by assumption) (by first | (simp; done) | (simp; omega) | omega) ?_)); rintro e w1 ⟨rfl, hb1⟩; obtain ⟨hc1, hf1⟩ := bcell hb1; have hz1 := hb1.size; (try simp at hz1); have lt_w1_0 : w.heap.size < w1.heap.size := (by omega)
    go_wp2
    go_ret2
    exact ⟨rfl, (by repeat' (first | exact Below.refl _ _ | assumption | exact And.left (by assumption) | refine Below.drew ?_ | refine below_drewN ?_ _ | refine Below.setCell ?_ (by first | (simp; done) | (simp; omega) | omega) _ | refine Below.alloc ?_ (by first | (simp; done) | (simp; omega) | omega) _ | refine after (by assumption) (by first | (simp; done) | (simp; omega) | omega) ?_))⟩
theorem own_some {x : World} {v : Value} {B : Nat} {L : List St} (hL : L ≠ []) (ho : x.ownsRow B 101 5 v L.length (stsV L)) : ∃ g c, v = .slice (some ⟨g, 0, none⟩) L.length c ∧ B ≤ g ∧ g < x.heap.size := by
  obtain ⟨a, c, e, _, hr, _, ha⟩ := own_shape ho
  rcases ha with ha | ⟨g, ha, hg, hg2⟩
  · subst ha
    have := hr.none_
    have : L = [] := List.eq_nil_of_length_eq_zero (by have h3 := congrArg List.length this; rw [stsV_len] at h3; simp at h3; omega)
    exact absurd this hL
  · exact ⟨g, c, by rw [e, ha], hg, hg2⟩
/-- half done: the first of them turned -/
def half (c : St → St) (L : List St) (k : Nat) : List St := (L.take k).map c ++ L.drop k
theorem half_len (c : St → St) (L : List St) (k : Nat) : (half c L k).length = L.length := by unfold half; rw [List.length_append, List.length_map, List.length_take, List.length_drop]; omega
theorem half_at (c : St → St) (L : List St) (k : Nat) (h : k < L.length) : (half c L k)[k]'(by rw [half_len]; exact h) = L[k] := by
  unfold half
  have hk : ((L.take k).map c).length = k := by rw [List.length_map, List.length_take]; omega
  have hm : min k L.length = k := by omega
  rw [List.getElem_append_right (by omega)]
  simp [hm]
theorem half_zero (c : St → St) (L : List St) : half c L 0 = L := by simp [half]
theorem half_all (c : St → St) (L : List St) : half c L L.length = L.map c := by simp [half]
theorem half_skip {c : St → St} {L : List St} {k : Nat} (h : k < L.length) (e : c L[k] = L[k]) : half c L (k + 1) = half c L k := take_map_skip h e
theorem half_set {c : St → St} {L : List St} {k : Nat} (h : k < L.length) (x : St) (e : c L[k] = x) : half c L (k + 1) = (half c L k).set k x := take_map_set h x e
/-- a step's cells, of a row of the call's own -/
theorem half_cells {w : World} {B g n p k : Nat} {c : St → St} {L : List St} (ho : w.ownsRow B 101 5 (.slice (some ⟨g, 0, none⟩) n p) n (stsV (half c L k))) (hk : k < L.length) :
    w.cell? ⟨g, k * 5, none⟩ = some (.int .i64 L[k].at_) ∧ w.cell? ⟨g, k * 5 + 1, none⟩ = some (.int .i64 L[k].free.cpu) ∧ w.cell? ⟨g, k * 5 + 2, none⟩ = some (.int .i64 L[k].free.mem) ∧ w.cell? ⟨g, k * 5 + 3, none⟩ = some (.int .i64 L[k].free.gpu) ∧ w.cell? ⟨g, k * 5 + 4, none⟩ = some (.int .i64 L[k].free.lic) := by
  obtain ⟨a, cc, e, _, hr, _, _⟩ := own_shape ho
  simp only [Value.slice.injEq] at e
  obtain ⟨rfl, _, rfl⟩ := e
  obtain ⟨b', off', ea', _, h0, h1, h2, h3, h4⟩ := hr.step (k := k) (by rw [half_len]; exact hk)
  simp only [Option.some.injEq, Addr.mk.injEq, and_true] at ea'
  obtain ⟨rfl, rfl⟩ := ea'
  rw [half_at c L k hk] at h0 h1 h2 h3 h4
  rw [Nat.zero_add] at h0 h1 h2 h3 h4
  exact ⟨h0, h1, h2, h3, h4⟩
theorem fine_take {c : St → St} {L : List St} {k : Nat} (h : k < L.length) (hp : ∀ s ∈ L.take k, (c s).free.Ok) (hk : (c L[k]).free.Ok) : ∀ s ∈ L.take (k + 1), (c s).free.Ok := by
  intro s hs
  rw [take_app L k h] at hs
  rcases List.mem_append.1 hs with hs | hs
  · exact hp s hs
  · simp at hs; subst hs; exact hk
set_option maxHeartbeats 8000000 in
set_option maxRecDepth 100000 in
theorem sChange_in (m : Bool) (fn : FuncId) (hin : ∀ (args : Array Value) (w : World), (callFunc fn args).run Try.prog w = .ok (.enter fn args) w)
    (hfn : ∀ (a b : V) (w : World), a.Ok → b.Ok → Calls Try.prog fn #[(.agg #[.int .i64 a.cpu, .int .i64 a.mem, .int .i64 a.gpu, .int .i64 a.lic]), (.agg #[.int .i64 b.cpu, .int .i64 b.mem, .int .i64 b.gpu, .int .i64 b.lic])] w fun e w' => e = .returned (.tuple #[(.agg #[.int .i64 (outR (turnV m a b)).cpu, .int .i64 (outR (turnV m a b)).mem, .int .i64 (outR (turnV m a b)).gpu, .int .i64 (outR (turnV m a b)).lic]), .int .i64 (outE (turnV m a b))]) ∧ Below w.heap.size w w')
    (b0 off0 : Nat) (cap : Nat) (l : List St) (hl : l.length ≤ 80000) (f t : Int) (need : V) (w : World) (HA : StAt w (some ⟨b0, off0, none⟩) cap l) (hok : ArgsOk l f t need) :
    Calls Try.prog 50 #[.slice (some ⟨b0, off0, none⟩) l.length cap, .int .i64 f, .int .i64 t, (.agg #[.int .i64 need.cpu, .int .i64 need.mem, .int .i64 need.gpu, .int .i64 need.lic]), .func (.func fn) #[] #[]] w
      fun e w' => ∃ v, e = .returned (.tuple #[v, .int .i64 (turnE m l f t need)]) ∧ w'.ownsRow w.heap.size 101 5 v (turnR m l f t need).length (stsV (turnR m l f t need)) ∧ Below w.heap.size w w' := by
  have HR := Lib.hid HA
  have HP := Lib.hid (fun w' h => sRight (some ⟨b0, off0, none⟩) cap l (by omega) w' h)
  have HV := Lib.hid (fun w' => right need w')
  have hok' := hok
  obtain ⟨h, hn, h0, h1, h2⟩ := hok'
  rw [show rightS l = true from decide_eq_true h] at HP
  rw [right_yes hn] at HV
  have hf : f ≤ 281474976710656 := by omega
  have hpos : 0 < l.length := List.length_pos_iff.2 h.1
  obtain ⟨k0, k1, _⟩ := cut_ok h h0 hf
  obtain ⟨c0, _, _, _⟩ := cut2_ok h h0 h1 h2
  have hlen1 := cut_len l f
  have hlen2 := cut2_len l f t
  have HC1 := Lib.hid (fun w' h' => sCut b0 off0 cap l (by omega) h f h0 w' h')
  have HC2 := Lib.hid (fun b off cap w' h' => sCut b off cap (cutL l f) (by omega) k0 t (by omega) w' h')
  have HCN := Lib.hid k0.1
  have HLN := Lib.hid c0.1
  have HOK := Lib.hid (fun k (hk : k < (cut2 l f t).length) => (rise_mem c0.2 _ (List.getElem_mem hk)).2.2)
  have HGO := Lib.hid (show (∀ s ∈ cut2 l f t, (chg m f t need s).free.Ok) → turnR m l f t need = plainL ((cut2 l f t).map (chg m f t need)) ∧ turnE m l f t need = 0 ∧ OkS ((cut2 l f t).map (chg m f t need)) from fun g => ⟨(turn_in hok g).1, (turn_in hok g).2, (turned_ok hok g).1⟩)
  have HNO := Lib.hid (show ¬ (∀ s ∈ cut2 l f t, (chg m f t need s).free.Ok) → turnR m l f t need = [] ∧ turnE m l f t need = 20 from fun g => turn_over hok g)
  have HNOK := Lib.hid hn
  have HFN := Lib.hid hfn
  obtain ⟨b, off, ea, hbl, q0, q1, q2, q3, q4⟩ := HA.row.first hpos
  simp only [Option.some.injEq, Addr.mk.injEq, and_true] at ea
  obtain ⟨rfl, rfl⟩ := ea
  rw [begin_at hpos] at h0
  generalize l[0] = s at q0 q1 q2 q3 q4 h0
  clear HA hok hn k0 k1 c0 hfn h
  go_enter Try.func50, Try.ntmps50
  go_wp2_with fail
  refine (HP.out _ (HR.out.later ?_)).mono ?_; exact (by repeat' (first | exact Below.refl _ _ | assumption | exact And.left (by assumption) | refine Below.drew ?_ | refine below_drewN ?_ _ | refine Below.setCell ?_ (by first | (simp; done) | (simp; omega) | omega) _ | refine Below.alloc ?_ (by first | (simp; done) | (simp; omega) | omega) _ | refine after (by assumption) (by first | (simp; done) | (simp; omega) | omega) ?_)); rintro e w1 ⟨rfl, hb1⟩; obtain ⟨hc1, hf1⟩ := bcell hb1; have hz1 := hb1.size; (try simp at hz1); have lt_w1_0 : w.heap.size < w1.heap.size := (by omega)
  go_wp2_with fail
  refine (HV.out _).mono ?_; rintro e w2 ⟨rfl, hb2⟩; obtain ⟨hc2, hf2⟩ := bcell hb2; have hz2 := hb2.size; (try simp at hz2); have lt_w2_0 : w.heap.size < w2.heap.size := (by omega)
  have hW2 : Below w.heap.size w w2 := (by repeat' (first | exact Below.refl _ _ | assumption | exact And.left (by assumption) | refine Below.drew ?_ | refine below_drewN ?_ _ | refine Below.setCell ?_ (by first | (simp; done) | (simp; omega) | omega) _ | refine Below.alloc ?_ (by first | (simp; done) | (simp; omega) | omega) _ | refine after (by assumption) (by first | (simp; done) | (simp; omega) | omega) ?_))
  have g0 : w2.cell? ⟨b0, off0, none⟩ = some (.int .i64 s.at_) := carry hW2 q0
  have HNB2 : Hid (Res4 w2 w.heap.size need) := Lib.hid (((Res4.fresh w need 34).later hb1).later hb2)
  have hlt2 : w.heap.size < w2.heap.size := HNB2.out.lt
  go_wp2_with fail
  refine (HC1.out _ (HR.out.later hW2)).mono ?_
  rintro e w3 ⟨v3, rfl, hO3, hb3⟩
  obtain ⟨g3, p3, rfl, hg3, hg3'⟩ := own_some HCN.out hO3
  obtain ⟨a3, cc3, e3, hs3⟩ := own_st hO3
  simp only [Value.slice.injEq] at e3
  obtain ⟨rfl, _, rfl⟩ := e3
  have HS3 := Lib.hid hs3
  clear hO3 hs3
  go_wp2_with fail
  refine (HC2.out g3 0 p3 _ HS3.out).mono ?_
  rintro e w4 ⟨v4, rfl, hO4, hb4⟩
  have hW3 : Below w.heap.size w w3 := hW2.trans (hb3.mono hW2.size)
  have hW4 : Below w.heap.size w w4 := hW3.trans (hb4.mono hW3.size)
  obtain ⟨g4, p4, rfl, hg4, hg4'⟩ := own_some (L := cut2 l f t) HLN.out hO4
  have HO4 : Hid (w4.ownsRow w.heap.size 101 5 (.slice (some ⟨g4, 0, none⟩) (cut2 l f t).length p4) (cut2 l f t).length (stsV (half (chg m f t need) (cut2 l f t) 0))) := Lib.hid (by rw [half_zero]; exact own_more hO4 hW3.size)
  have hne4 : w.heap.size < g4 := by have := hb3.size; omega
  have HNB4 := Lib.hid ((HNB2.out.later hb3).later hb4)
  have hLl : (cut2 l f t).length ≤ 100000 := by omega
  clear hO4 HS3 HCN HLN HC2 hlen1 hlen2 hb3 hb4 hg3 hg3' hg4 hg4'
  have HCS : Hid (∀ s, s.at_ < f ∨ t ≤ s.at_ → chg m f t need s = s) := Lib.hid (fun s h => if_pos h)
  have HCI : Hid (∀ s, ¬ (s.at_ < f ∨ t ≤ s.at_) → chg m f t need s = ⟨s.at_, turnV m s.free need⟩) := Lib.hid (fun s h => if_neg h)
  generalize cut2 l f t = L at *
  generalize chg m f t need = c at *
  go_wp2
  go_loopw [49] (fun x wr => ∃ k : Nat, k ≤ L.length ∧ x = .int .i64 (k : Int) ∧ Hid (wr.ownsRow w.heap.size 101 5 (.slice (some ⟨g4, 0, none⟩) L.length p4) L.length (stsV (half c L k))) ∧ Hid (∀ s ∈ L.take k, (c s).free.Ok) ∧ Hid (Res4 wr w.heap.size need) ∧ Hid (Below w.heap.size w wr)) (fun x _ => L.length - (intOf x).toNat)
  case atStart => exact ⟨0, Nat.zero_le _, rfl, HO4, Lib.hid (by simp), HNB4, Lib.hid hW4⟩
  case round =>
    obtain ⟨k, hk, rfl, HO, HP2, HN, HB⟩ := hrel
    have hz := HB.out.size
    by_cases hlt : k < L.length
    · obtain ⟨p0, p1, p2, p3', p4'⟩ := half_cells HO.out hlt
      have hgl : g4 < wr.heap.size := World.block_lt_of_cell? _ _ p0
      have HOKk := Lib.hid (HOK.out k hlt)
      have HSK := Lib.hid (fun (e : c L[k] = L[k]) => half_skip hlt e)
      have HST := Lib.hid (fun (x : St) (e : c L[k] = x) => half_set hlt x e)
      have HFT := Lib.hid (fun (e : (c L[k]).free.Ok) => fine_take hlt HP2.out e)
      have HBAD := Lib.hid (fun (e : ¬ (c L[k]).free.Ok) => HNO.out (fun x => e (x _ (List.getElem_mem hlt))))
      have HAT : Hid ((half c L k)[k]'(by rw [half_len]; exact hlt) = L[k]) := Lib.hid (half_at c L k hlt)
      generalize L[k] = s1 at p0 p1 p2 p3' p4' HOKk HSK HST HFT HBAD HAT
      by_cases hs0 : s1.at_ < f
      · have e1 := Lib.hid (HCS.out s1 (.inl hs0))
        go_wp2
        go_roundw
        case rel => exact ⟨k + 1, by omega, by go_num, Lib.hid (by rw [HSK.out e1.out]; exact own_later HO.out ((Below.refl _ _).alloc (Nat.le_refl _) _)), Lib.hid (HFT.out (by rw [e1.out]; exact HOKk.out)), Lib.hid (HN.out.later ((Below.refl _ _).alloc (Nat.le_refl _) _)), Lib.hid (HB.out.alloc hz _)⟩
        case measure => simp [intOf]; omega
      · by_cases hs1 : t ≤ s1.at_
        · have e1 := Lib.hid (HCS.out s1 (.inr hs1))
          go_wp2
          go_roundw
          case rel => exact ⟨k + 1, by omega, by go_num, Lib.hid (by rw [HSK.out e1.out]; exact own_later HO.out ((Below.refl _ _).alloc (Nat.le_refl _) _)), Lib.hid (HFT.out (by rw [e1.out]; exact HOKk.out)), Lib.hid (HN.out.later ((Below.refl _ _).alloc (Nat.le_refl _) _)), Lib.hid (HB.out.alloc hz _)⟩
          case measure => simp [intOf]; omega
        · have e1 := Lib.hid (HCI.out s1 (by omega))
          have HK := Lib.hid (fun w' => HFN.out s1.free need w' HOKk.out HNOK.out)
          obtain ⟨n0, n1, n2, n3, z0, z1, z2, z3⟩ := HN.out
          have hnl := HN.out.lt
          by_cases ho : (turnV m s1.free need).Ok
          · rw [(out_ok ho).1, (out_ok ho).2] at HK
            have HF := Lib.hid (HFT.out (by rw [e1.out]; exact ho))
            have HS := Lib.hid (HST.out _ e1.out)
            clear ho HBAD HSK HST HFT
            generalize turnV m s1.free need = v at HK HF HS e1
            go_wp2_with fail
            refine (HK.out _).mono ?_; rintro e w5 ⟨rfl, hb5⟩
            have hW5 : Below wr.heap.size wr w5 := (by repeat' (first | exact Below.refl _ _ | assumption | exact And.left (by assumption) | refine Below.drew ?_ | refine below_drewN ?_ _ | refine Below.setCell ?_ (by first | (simp; done) | (simp; omega) | omega) _ | refine Below.alloc ?_ (by first | (simp; done) | (simp; omega) | omega) _ | refine after (by assumption) (by first | (simp; done) | (simp; omega) | omega) ?_))
            have hz5 := hW5.size
            have HO5 := Lib.hid (own_later HO.out hW5)
            have hy0 : w5.cell? ⟨g4, k * 5 + 1, none⟩ = some (.int .i64 s1.free.cpu) := carry hW5 p1
            have hy1 : w5.cell? ⟨g4, k * 5 + 1 + 1, none⟩ = some (.int .i64 s1.free.mem) := carry hW5 p2
            have hy2 : w5.cell? ⟨g4, k * 5 + 1 + 2, none⟩ = some (.int .i64 s1.free.gpu) := carry hW5 p3'
            have hy3 : w5.cell? ⟨g4, k * 5 + 1 + 3, none⟩ = some (.int .i64 s1.free.lic) := carry hW5 p4'
            have hx0 := HO5.out.frozenAt (k * 5 + 1)
            have hx1 := HO5.out.frozenAt (k * 5 + 1 + 1)
            have hx2 := HO5.out.frozenAt (k * 5 + 1 + 2)
            have hx3 := HO5.out.frozenAt (k * 5 + 1 + 3)
            have hg5 : g4 < w5.heap.size := by omega
            have hgg : w.heap.size ≤ g4 := by omega
            go_wp2
            go_roundw
            case rel => exact ⟨k + 1, by omega, by go_num, Lib.hid (by
              rw [HS.out]
              have K := own_free (l := half c L k) HO5.out (by rw [half_len]; exact hlt) v
              rw [HAT.out] at K
              exact K.alloc _), Lib.hid HF.out, Lib.hid (((HN.out.later hW5).far (by omega) _ _ _ _ _ _ _ _).later ((Below.refl _ _).alloc (Nat.le_refl _) _)), Lib.hid (by have hb := HB.out; exact (by repeat' (first | exact Below.refl _ _ | assumption | exact And.left (by assumption) | refine Below.drew ?_ | refine below_drewN ?_ _ | refine Below.setCell ?_ (by first | (simp; done) | (simp; omega) | omega) _ | refine Below.alloc ?_ (by first | (simp; done) | (simp; omega) | omega) _ | refine after (by assumption) (by first | (simp; done) | (simp; omega) | omega) ?_)))⟩
            case measure => simp [intOf]; omega
          · rw [(out_over ho).1, (out_over ho).2] at HK
            have HX := Lib.hid (HBAD.out (by rw [e1.out]; exact ho))
            clear ho HBAD HSK HST HFT
            go_wp2_with fail
            refine (HK.out _).mono ?_; rintro e w5 ⟨rfl, hb5⟩
            have hW5 : Below wr.heap.size wr w5 := (by repeat' (first | exact Below.refl _ _ | assumption | exact And.left (by assumption) | refine Below.drew ?_ | refine below_drewN ?_ _ | refine Below.setCell ?_ (by first | (simp; done) | (simp; omega) | omega) _ | refine Below.alloc ?_ (by first | (simp; done) | (simp; omega) | omega) _ | refine after (by assumption) (by first | (simp; done) | (simp; omega) | omega) ?_))
            go_wp2
            go_ret2
            exact ⟨_, by rw [HX.out.2]; rfl, by rw [HX.out.1]; exact World.ownsRow_nil _ _ _ _, (HB.out.trans (hW5.mono hz)).alloc (Nat.le_trans hz hW5.size) _⟩
    · have hkl : k = L.length := by omega
      subst hkl
      have hall : ∀ s ∈ L, (c s).free.Ok := fun s hs => HP2.out s (by rw [List.take_length]; exact hs)
      obtain ⟨x1, x2, x3⟩ := HGO.out hall
      have hO := HO.out
      rw [half_all] at hO
      have hML : (L.map c).length = L.length := List.length_map ..
      have HM : Hid (StAt wr (some ⟨g4, 0, none⟩) p4 (L.map c)) := Lib.hid (by
        have h1 := own_st (l := L.map c) (w := wr) (base := w.heap.size) (v := .slice (some ⟨g4, 0, none⟩) L.length p4) (by rw [hML]; exact hO)
        obtain ⟨a, cc, e, hs⟩ := h1
        simp only [Value.slice.injEq] at e
        obtain ⟨rfl, _, rfl⟩ := e
        exact hs)
      have HPL := Lib.hid (fun w' h => sPlain (some ⟨g4, 0, none⟩) p4 (L.map c) (by rw [hML]; exact hLl) w' h)
      rw [hML, plainR_ok x3, ← x1] at HPL
      have HT := Lib.hid x2
      clear hall x1 x2 x3 hO hML HP2 HO
      go_wp2_with fail
      refine (HPL.out _ HM.out).mono ?_
      rintro e w5 ⟨v5, rfl, hO5, hb5⟩
      have HO5 := Lib.hid hO5
      clear hO5
      go_wp2
      go_ret2
      exact ⟨v5, by rw [HT.out]; rfl, own_more HO5.out hz, HB.out.trans (hb5.mono hz)⟩
theorem sChange (m : Bool) (fn : FuncId) (hin : ∀ (args : Array Value) (w : World), (callFunc fn args).run Try.prog w = .ok (.enter fn args) w)
    (hfn : ∀ (a b : V) (w : World), a.Ok → b.Ok → Calls Try.prog fn #[(.agg #[.int .i64 a.cpu, .int .i64 a.mem, .int .i64 a.gpu, .int .i64 a.lic]), (.agg #[.int .i64 b.cpu, .int .i64 b.mem, .int .i64 b.gpu, .int .i64 b.lic])] w fun e w' => e = .returned (.tuple #[(.agg #[.int .i64 (outR (turnV m a b)).cpu, .int .i64 (outR (turnV m a b)).mem, .int .i64 (outR (turnV m a b)).gpu, .int .i64 (outR (turnV m a b)).lic]), .int .i64 (outE (turnV m a b))]) ∧ Below w.heap.size w w')
    (a : Option Addr) (cap : Nat) (l : List St) (hl : l.length ≤ 80000) (f t : Int) (need : V) (w : World) (HA : StAt w a cap l) :
    Calls Try.prog 50 #[.slice a l.length cap, .int .i64 f, .int .i64 t, (.agg #[.int .i64 need.cpu, .int .i64 need.mem, .int .i64 need.gpu, .int .i64 need.lic]), .func (.func fn) #[] #[]] w
      fun e w' => ∃ v, e = .returned (.tuple #[v, .int .i64 (turnE m l f t need)]) ∧ w'.ownsRow w.heap.size 101 5 v (turnR m l f t need).length (stsV (turnR m l f t need)) ∧ Below w.heap.size w w' := by
  by_cases h : ArgsOk l f t need
  · obtain ⟨b, off, ea, _⟩ := HA.row.first (List.length_pos_iff.2 h.1.1)
    subst ea
    exact sChange_in m fn hin hfn b off cap l hl f t need w HA h
  · rw [(turn_arg h).1, (turn_arg h).2]
    exact (sChange_no m fn a cap l hl f t need w HA h).mono fun e w' x => ⟨_, x.1, World.ownsRow_nil _ _ _ _, x.2⟩
theorem sub_fn (a b : V) (w : World) (ha : a.Ok) (hb : b.Ok) : Calls Try.prog 51 #[(.agg #[.int .i64 a.cpu, .int .i64 a.mem, .int .i64 a.gpu, .int .i64 a.lic]), (.agg #[.int .i64 b.cpu, .int .i64 b.mem, .int .i64 b.gpu, .int .i64 b.lic])] w fun e w' => e = .returned (.tuple #[(.agg #[.int .i64 (outR (turnV false a b)).cpu, .int .i64 (outR (turnV false a b)).mem, .int .i64 (outR (turnV false a b)).gpu, .int .i64 (outR (turnV false a b)).lic]), .int .i64 (outE (turnV false a b))]) ∧ Below w.heap.size w w' := by
  have h := sub a b w
  rw [(sub_in ⟨ha, hb⟩).1, (sub_in ⟨ha, hb⟩).2] at h
  exact h
set_option maxHeartbeats 1000000 in
theorem sTake (a : Option Addr) (cap : Nat) (l : List St) (hl : l.length ≤ 80000) (f t : Int) (need : V) (w : World) (HA : StAt w a cap l) :
    Calls Try.prog 39 #[.slice a l.length cap, .int .i64 f, .int .i64 t, (.agg #[.int .i64 need.cpu, .int .i64 need.mem, .int .i64 need.gpu, .int .i64 need.lic])] w
      fun e w' => ∃ v, e = .returned (.tuple #[v, .int .i64 (turnE false l f t need)]) ∧ w'.ownsRow w.heap.size 101 5 v (turnR false l f t need).length (stsV (turnR false l f t need)) ∧ Below w.heap.size w w' := by
  have HR := Lib.hid HA
  have HC := Lib.hid (fun w' h => sChange false 51 (fun args w => run_enter Try.func51 (by kernel_rfl) rfl args w) sub_fn a cap l hl f t need w' h)
  clear HA
  go_enter Try.func39, Try.ntmps39
  go_wp2_with fail
  have hb0 : Below w.heap.size w (w.alloc (.cells #[.int .i64 need.cpu, .int .i64 need.mem, .int .i64 need.gpu, .int .i64 need.lic] 34)) := (Below.refl _ _).alloc (Nat.le_refl _) _
  refine (HC.out _ (HR.out.later hb0)).mono ?_
  rintro e w1 ⟨v1, rfl, hO, hb1⟩
  have HO := Lib.hid hO
  clear hO
  go_wp2
  go_ret2
  exact ⟨v1, rfl, own_more HO.out hb0.size, hb0.trans (hb1.mono hb0.size)⟩
end Go.Proofs.Ytcdajfiohhbdgaa.W
