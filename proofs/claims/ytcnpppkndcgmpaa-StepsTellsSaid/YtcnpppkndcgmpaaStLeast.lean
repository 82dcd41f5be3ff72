/-
  Contract of steps.Least.
-/
import Derived.Test.YtcnpppkndcgmpaaStRight
import Derived.Test.YtcnpppkndcgmpaaVecCount
import Derived.Test.YtcnpppkndcgmpaaOrders
namespace Go.Proofs.Ytcnpppkndcgmpaa.W
set_option linter.unusedVariables false
set_option linter.unusedSimpArgs false
open Go.ChangeShapes Go.WideShapes Go.ChangeAt Go.RowKit

theorem Res4.far {w : World} {g k : Nat} {a : V} (h : Res4 w g a) (hk : k ≠ g) (o0 o1 o2 o3 : Nat) (x0 x1 x2 x3 : Value) :
    Res4 ((((w.setCell ⟨k, o0, none⟩ x0).setCell ⟨k, o1, none⟩ x1).setCell ⟨k, o2, none⟩ x2).setCell ⟨k, o3, none⟩ x3) g a := by
  obtain ⟨c0, c1, c2, c3, f0, f1, f2, f3⟩ := h
  refine ⟨?_, ?_, ?_, ?_, by simp [go_sem, f0], by simp [go_sem, f1], by simp [go_sem, f2], by simp [go_sem, f3]⟩
  · rw [World.cell?_setCell_far _ _ _ _ hk, World.cell?_setCell_far _ _ _ _ hk, World.cell?_setCell_far _ _ _ _ hk, World.cell?_setCell_far _ _ _ _ hk]; exact c0
  · rw [World.cell?_setCell_far _ _ _ _ hk, World.cell?_setCell_far _ _ _ _ hk, World.cell?_setCell_far _ _ _ _ hk, World.cell?_setCell_far _ _ _ _ hk]; exact c1
  · rw [World.cell?_setCell_far _ _ _ _ hk, World.cell?_setCell_far _ _ _ _ hk, World.cell?_setCell_far _ _ _ _ hk, World.cell?_setCell_far _ _ _ _ hk]; exact c2
  · rw [World.cell?_setCell_far _ _ _ _ hk, World.cell?_setCell_far _ _ _ _ hk, World.cell?_setCell_far _ _ _ _ hk, World.cell?_setCell_far _ _ _ _ hk]; exact c3
theorem Res4.fresh (w : World) (a : V) (t : TypeId) : Res4 (w.alloc (.cells #[.int .i64 a.cpu, .int .i64 a.mem, .int .i64 a.gpu, .int .i64 a.lic] t)) w.heap.size a :=
  ⟨by simp [go_sem], by simp [go_sem], by simp [go_sem], by simp [go_sem], by simp [go_sem], by simp [go_sem], by simp [go_sem], by simp [go_sem]⟩
theorem leastS_no {l : List St} {f t : Int} (h : ¬ (OkS l ∧ begin_ l ≤ f ∧ f < t)) : leastS l f t = V.zero := if_neg h
set_option maxHeartbeats 2000000 in
theorem sLeast_no (a : Option Addr) (cap : Nat) (l : List St) (hl : l.length ≤ 100000) (f t : Int) (w : World) (HA : StAt w a cap l) (hno : ¬ (OkS l ∧ begin_ l ≤ f ∧ f < t)) :
    Calls Try.prog 14 #[.slice a l.length cap, .int .i64 f, .int .i64 t] w fun e w' => e = .returned (.agg #[.int .i64 V.zero.cpu, .int .i64 V.zero.mem, .int .i64 V.zero.gpu, .int .i64 V.zero.lic]) ∧ Below w.heap.size w w' := by
  have HR := Lib.hid HA
  have HP := Lib.hid (fun w' h => sRight a cap l hl w' h)
  by_cases h : OkS l
  · rw [show rightS l = true from decide_eq_true h] at HP
    have hpos : 0 < l.length := List.length_pos_iff.2 h.1
    obtain ⟨b, off, ea, hbl, q0, q1, q2, q3, q4⟩ := HA.row.first hpos
    have hbg := begin_at hpos
    rw [hbg] at hno
    have hno2 : ¬ (l[0].at_ ≤ f ∧ f < t) := fun x => hno ⟨h, x⟩
    generalize l[0] = s at q0 q1 q2 q3 q4 hno2
    clear h HA hno hbg
    subst ea
    by_cases h0 : s.at_ ≤ f
    · have h1 : ¬ f < t := fun x => hno2 ⟨h0, x⟩
      clear hno2
      go_enter Try.func14, Try.ntmps14
      go_wp2_with fail
      refine (HP.out _ (HR.out.later ?_)).mono ?_; exact (by repeat' (first | exact Below.refl _ _ | assumption | exact And.left (by assumption) | refine Below.drew ?_ | refine below_drewN ?_ _ | refine Below.setCell ?_ (by first | (simp; done) | (simp; omega) | omega) _ | refine Below.alloc ?_ (by first | (simp; done) | (simp; omega) | omega) _ | refine after (by assumption) (by first | (simp; done) | (simp; omega) | omega) ?_)); rintro e w1 ⟨rfl, hb1⟩; obtain ⟨hc1, hf1⟩ := bcell hb1; have hz1 := hb1.size; (try simp at hz1); have lt_w1_0 : w.heap.size < w1.heap.size := (by omega)
      go_wp2
      exact bodyPost_ret (v := (.agg #[.int .i64 V.zero.cpu, .int .i64 V.zero.mem, .int .i64 V.zero.gpu, .int .i64 V.zero.lic])) (by simp [results, Try.results14, go_sem, V.zero, *]) rfl ⟨rfl, (by repeat' (first | exact Below.refl _ _ | assumption | exact And.left (by assumption) | refine Below.drew ?_ | refine below_drewN ?_ _ | refine Below.setCell ?_ (by first | (simp; done) | (simp; omega) | omega) _ | refine Below.alloc ?_ (by first | (simp; done) | (simp; omega) | omega) _ | refine after (by assumption) (by first | (simp; done) | (simp; omega) | omega) ?_))⟩
    · clear hno2
      go_enter Try.func14, Try.ntmps14
      go_wp2_with fail
      refine (HP.out _ (HR.out.later ?_)).mono ?_; exact (by repeat' (first | exact Below.refl _ _ | assumption | exact And.left (by assumption) | refine Below.drew ?_ | refine below_drewN ?_ _ | refine Below.setCell ?_ (by first | (simp; done) | (simp; omega) | omega) _ | refine Below.alloc ?_ (by first | (simp; done) | (simp; omega) | omega) _ | refine after (by assumption) (by first | (simp; done) | (simp; omega) | omega) ?_)); rintro e w1 ⟨rfl, hb1⟩; obtain ⟨hc1, hf1⟩ := bcell hb1; have hz1 := hb1.size; (try simp at hz1); have lt_w1_0 : w.heap.size < w1.heap.size := (by omega)
      go_wp2
      exact bodyPost_ret (v := (.agg #[.int .i64 V.zero.cpu, .int .i64 V.zero.mem, .int .i64 V.zero.gpu, .int .i64 V.zero.lic])) (by simp [results, Try.results14, go_sem, V.zero, *]) rfl ⟨rfl, (by repeat' (first | exact Below.refl _ _ | assumption | exact And.left (by assumption) | refine Below.drew ?_ | refine below_drewN ?_ _ | refine Below.setCell ?_ (by first | (simp; done) | (simp; omega) | omega) _ | refine Below.alloc ?_ (by first | (simp; done) | (simp; omega) | omega) _ | refine after (by assumption) (by first | (simp; done) | (simp; omega) | omega) ?_))⟩
  · rw [show rightS l = false from decide_eq_false h] at HP
    clear h HA hno
    go_enter Try.func14, Try.ntmps14
    go_wp2_with fail
    refine (HP.out _ (HR.out.later ?_)).mono ?_; exact (by repeat' (first | exact Below.refl _ _ | assumption | exact And.left (by assumption) | refine Below.drew ?_ | refine below_drewN ?_ _ | refine Below.setCell ?_ (by first | (simp; done) | (simp; omega) | omega) _ | refine Below.alloc ?_ (by first | (simp; done) | (simp; omega) | omega) _ | refine after (by assumption) (by first | (simp; done) | (simp; omega) | omega) ?_)); rintro e w1 ⟨rfl, hb1⟩; obtain ⟨hc1, hf1⟩ := bcell hb1; have hz1 := hb1.size; (try simp at hz1); have lt_w1_0 : w.heap.size < w1.heap.size := (by omega)
    go_wp2
    exact bodyPost_ret (v := (.agg #[.int .i64 V.zero.cpu, .int .i64 V.zero.mem, .int .i64 V.zero.gpu, .int .i64 V.zero.lic])) (by simp [results, Try.results14, go_sem, V.zero, *]) rfl ⟨rfl, (by repeat' (first | exact Below.refl _ _ | assumption | exact And.left (by assumption) | refine Below.drew ?_ | refine below_drewN ?_ _ | refine Below.setCell ?_ (by first | (simp; done) | (simp; omega) | omega) _ | refine Below.alloc ?_ (by first | (simp; done) | (simp; omega) | omega) _ | refine after (by assumption) (by first | (simp; done) | (simp; omega) | omega) ?_))⟩
theorem leastF_next {m : V} {t : Int} {l : List St} {k : Nat} (h : k < l.length) : leastF m t (l.drop k) = leastF (if l[k].at_ < t then m.least l[k].free else m) t (l.drop (k + 1)) := by
  rw [drop_at l k h, leastF]
set_option maxHeartbeats 4000000 in
theorem sLeast_in (b0 off0 : Nat) (cap : Nat) (l : List St) (hl : l.length ≤ 100000) (f t : Int) (w : World) (HA : StAt w (some ⟨b0, off0, none⟩) cap l) (h : OkS l) (h0 : begin_ l ≤ f) (h1 : f < t) :
    Calls Try.prog 14 #[.slice (some ⟨b0, off0, none⟩) l.length cap, .int .i64 f, .int .i64 t] w fun e w' => e = .returned (.agg #[.int .i64 (leastP l f t).cpu, .int .i64 (leastP l f t).mem, .int .i64 (leastP l f t).gpu, .int .i64 (leastP l f t).lic]) ∧ Below w.heap.size w w' := by
  have HR := Lib.hid HA
  have HP := Lib.hid (fun w' h => sRight (some ⟨b0, off0, none⟩) cap l hl w' h)
  rw [show rightS l = true from decide_eq_true h] at HP
  have hpos : 0 < l.length := List.length_pos_iff.2 h.1
  have HL := Lib.hid (fun w' h => sLast (some ⟨b0, off0, none⟩) cap l hl hpos f w' h)
  have hrun : run f l.tail < l.length := by
    have := run_lt f l.tail
    rw [List.length_tail] at this; omega
  have hbg := begin_at hpos
  rw [hbg] at h0
  clear hbg
  have HE : Hid (leastP l f t = leastF l[run f l.tail].free t (l.drop (run f l.tail + 1))) := Lib.hid (by unfold leastP lastOf; simp [hrun])
  obtain ⟨b, off, ea, hbl, q0, q1, q2, q3, q4⟩ := HA.row.first hpos
  simp only [Option.some.injEq, Addr.mk.injEq, and_true] at ea
  obtain ⟨rfl, rfl⟩ := ea
  obtain ⟨b', off', ea', hbl', r0, r1, r2, r3, r4⟩ := HA.row.step hrun
  simp only [Option.some.injEq, Addr.mk.injEq, and_true] at ea'
  obtain ⟨rfl, rfl⟩ := ea'
  generalize run f l.tail = i at hrun r0 r1 r2 r3 r4 HL HE
  generalize l[i] = s1 at r0 r1 r2 r3 r4 HE
  generalize l[0] = s at q0 q1 q2 q3 q4 h0
  have hcap := HA.le
  clear h HA
  go_enter Try.func14, Try.ntmps14
  go_wp2_with fail
  refine (HP.out _ (HR.out.later ?_)).mono ?_; exact (by repeat' (first | exact Below.refl _ _ | assumption | exact And.left (by assumption) | refine Below.drew ?_ | refine below_drewN ?_ _ | refine Below.setCell ?_ (by first | (simp; done) | (simp; omega) | omega) _ | refine Below.alloc ?_ (by first | (simp; done) | (simp; omega) | omega) _ | refine after (by assumption) (by first | (simp; done) | (simp; omega) | omega) ?_)); rintro e w1 ⟨rfl, hb1⟩; obtain ⟨hc1, hf1⟩ := bcell hb1; have hz1 := hb1.size; (try simp at hz1); have lt_w1_0 : w.heap.size < w1.heap.size := (by omega)
  go_wp2_with fail
  refine (HL.out _ (HR.out.later ?_)).mono ?_; exact (by repeat' (first | exact Below.refl _ _ | assumption | exact And.left (by assumption) | refine Below.drew ?_ | refine below_drewN ?_ _ | refine Below.setCell ?_ (by first | (simp; done) | (simp; omega) | omega) _ | refine Below.alloc ?_ (by first | (simp; done) | (simp; omega) | omega) _ | refine after (by assumption) (by first | (simp; done) | (simp; omega) | omega) ?_)); rintro e w2 ⟨rfl, hb2⟩; obtain ⟨hc2, hf2⟩ := bcell hb2; have hz2 := hb2.size; (try simp at hz2); have lt_w2_0 : w.heap.size < w2.heap.size := (by omega)
  have hW : Below w.heap.size w w2 := (by repeat' (first | exact Below.refl _ _ | assumption | exact And.left (by assumption) | refine Below.drew ?_ | refine below_drewN ?_ _ | refine Below.setCell ?_ (by first | (simp; done) | (simp; omega) | omega) _ | refine Below.alloc ?_ (by first | (simp; done) | (simp; omega) | omega) _ | refine after (by assumption) (by first | (simp; done) | (simp; omega) | omega) ?_))
  have m1 := carry hW r1
  have m2 : w2.cell? ⟨b0, off0 + i * 5 + 1 + 1, none⟩ = some (.int .i64 s1.free.mem) := carry hW r2
  have m3 : w2.cell? ⟨b0, off0 + i * 5 + 1 + 2, none⟩ = some (.int .i64 s1.free.gpu) := carry hW r3
  have m4 : w2.cell? ⟨b0, off0 + i * 5 + 1 + 3, none⟩ = some (.int .i64 s1.free.lic) := carry hW r4
  go_upto_region 5 with fail
  generalize hw3 : World.alloc w2 _ = w3
  have hb3 : Below w.heap.size w w3 := by rw [← hw3]; exact hW.alloc hW.size _
  have hr3 : Res4 w3 w2.heap.size s1.free := by rw [← hw3]; exact Res4.fresh _ _ _
  have hz3 : w3.heap.size = w2.heap.size + 1 := by rw [← hw3]; simp
  have hb23 : Below w2.heap.size w2 w3 := by rw [← hw3]; exact (Below.refl _ _).alloc (Nat.le_refl _) _
  clear hw3
  obtain ⟨d, hd⟩ : ∃ d, d = l.drop (i + 1) := ⟨_, rfl⟩
  have hdl : d.length = l.length - (i + 1) := by rw [hd, List.length_drop]
  have HRD := Lib.hid (show ∀ off2, (i + 1 < l.length → off2 = off0 + (i + 1) * 5) → RowAt w (some ⟨b0, off2, none⟩) (stsV d) from fun off2 ho => by
    rcases Nat.lt_or_ge (i + 1) l.length with h' | h'
    · rw [ho h', hd, stsV_drop]
      exact HR.out.row.drop _
    · rw [hd, List.drop_eq_nil_of_le h']; exact .inl rfl)
  rw [← hd] at HE
  clear hd
  have HR3 := Lib.hid hr3
  have HZ3 : Hid (Res4 w3 w.heap.size V.zero) := Lib.hid ((((Res4.fresh w V.zero 25).later hb1).later hb2).later hb23)
  go_cut [39, 40, 41] (fun s39 s40 s41 wx => wx = w3 ∧ ∃ off2 c2, s39 = .slice (some ⟨b0, off2, none⟩) d.length c2 ∧ s40 = .int .i64 (d.length : Int) ∧ s41 = .int .i64 0 ∧ Hid (RowAt w (some ⟨b0, off2, none⟩) (stsV d)))
  case first =>
    by_cases hci : cap = i + 1
    · have hle : i + 1 = l.length := by omega
      have hd0 : d = [] := List.eq_nil_of_length_eq_zero (by omega)
      have HRD0 := HRD.out off0 (by omega)
      clear hdl
      go_wp2_with fail
      go_meet
      exact ⟨rfl, off0, 0, by rw [hd0]; rfl, by rw [hd0]; rfl, rfl, Lib.hid HRD0⟩
    · have HD0 := Lib.hid hdl
      clear hdl
      go_wp2_with fail
      go_meet
      exact ⟨rfl, off0 + (i + 1) * 5, cap - (i + 1), by rw [HD0.out], by rw [HD0.out], rfl, Lib.hid (HRD.out _ (fun _ => rfl))⟩
  case rest =>
    obtain ⟨rfl, off2, c2, rfl, rfl, rfl, HD⟩ := hcut
    have hdl2 : d.length ≤ 100000 := by omega
    clear hdl hcap m1 m2 m3 m4 r0 r1 r2 r3 r4 q0 q1 q2 q3 q4 HRD hr3
    go_wp2_with fail
    go_loopw [41] (fun x wr => ∃ (k : Nat) (m : V), k ≤ d.length ∧ x = .int .i64 (k : Int) ∧ Hid (leastP l f t = leastF m t (d.drop k)) ∧ Hid (Res4 wr w2.heap.size m) ∧ Hid (Res4 wr w.heap.size V.zero) ∧ Hid (Below w.heap.size w wr)) (fun x _ => d.length - (intOf x).toNat)
    case atStart => exact ⟨0, s1.free, Nat.zero_le _, rfl, Lib.hid (by rw [HE.out, List.drop_zero]), HR3, HZ3, Lib.hid hb3⟩
    case round =>
      obtain ⟨k, m, hk, rfl, HI, HM, HZ, HB⟩ := hrel
      have hz := HB.out.size
      have hgl := HM.out.lt
      have hg0 : w.heap.size < w2.heap.size := by have := hb2.size; have := hb1.size; simp at *; omega
      obtain ⟨g0, g1, g2, g3, f0, f1, f2, f3⟩ := HM.out
      by_cases hlt : k < d.length
      · obtain ⟨b, off, ea, hbl3, p0, p1, p2, p3, p4⟩ := (HD.out.later HB.out).step hlt
        simp only [Option.some.injEq, Addr.mk.injEq, and_true] at ea
        obtain ⟨rfl, rfl⟩ := ea
        have HN := Lib.hid (leastF_next (m := m) (t := t) hlt)
        generalize d[k] = s2 at p0 p1 p2 p3 p4 HN
        by_cases h2 : s2.at_ < t
        · have HX : Hid (leastP l f t = leastF (m.least s2.free) t (d.drop (k + 1))) := Lib.hid (by rw [HI.out, HN.out, if_pos h2])
          have HC := Lib.hid (fun w => least m s2.free w)
          clear HI HN
          generalize m.least s2.free = m' at HX HC
          go_wp2_with fail
          refine (HC.out _).mono ?_; rintro e w5 ⟨rfl, hb5⟩
          obtain ⟨hc5, hf5⟩ := bcell hb5
          have hz5 := hb5.size; try simp at hz5
          have hgl5 : w2.heap.size < w5.heap.size := by omega
          have HM5 := Lib.hid (HM.out.later (show Below wr.heap.size wr w5 from (by repeat' (first | exact Below.refl _ _ | assumption | exact And.left (by assumption) | refine Below.drew ?_ | refine below_drewN ?_ _ | refine Below.setCell ?_ (by first | (simp; done) | (simp; omega) | omega) _ | refine Below.alloc ?_ (by first | (simp; done) | (simp; omega) | omega) _ | refine after (by assumption) (by first | (simp; done) | (simp; omega) | omega) ?_))))
          have HZ5 := Lib.hid (HZ.out.later (show Below wr.heap.size wr w5 from (by repeat' (first | exact Below.refl _ _ | assumption | exact And.left (by assumption) | refine Below.drew ?_ | refine below_drewN ?_ _ | refine Below.setCell ?_ (by first | (simp; done) | (simp; omega) | omega) _ | refine Below.alloc ?_ (by first | (simp; done) | (simp; omega) | omega) _ | refine after (by assumption) (by first | (simp; done) | (simp; omega) | omega) ?_))))
          obtain ⟨k0, k1, k2, k3, e0, e1, e2, e3⟩ := HM5.out
          go_wp2
          go_roundw
          case rel => exact ⟨k + 1, m', by omega, by go_num, HX, Lib.hid (HM5.out.stored m'), Lib.hid (HZ5.out.far (by omega) _ _ _ _ _ _ _ _), Lib.hid (by have hb := HB.out; exact (by repeat' (first | exact Below.refl _ _ | assumption | exact And.left (by assumption) | refine Below.drew ?_ | refine below_drewN ?_ _ | refine Below.setCell ?_ (by first | (simp; done) | (simp; omega) | omega) _ | refine Below.alloc ?_ (by first | (simp; done) | (simp; omega) | omega) _ | refine after (by assumption) (by first | (simp; done) | (simp; omega) | omega) ?_)))⟩
          case measure => simp [intOf]; omega
        · have HX : Hid (leastP l f t = leastF m t (d.drop (k + 1))) := Lib.hid (by rw [HI.out, HN.out, if_neg h2])
          clear HI HN
          go_wp2
          go_roundw
          case rel => exact ⟨k + 1, m, by omega, by go_num, HX, Lib.hid (HM.out.later ((Below.refl _ _).alloc (Nat.le_refl _) _)), Lib.hid (HZ.out.later ((Below.refl _ _).alloc (Nat.le_refl _) _)), Lib.hid (HB.out.alloc hz _)⟩
          case measure => simp [intOf]; omega
      · have hkl : k = d.length := by omega
        subst hkl
        have HX : Hid (leastP l f t = m) := Lib.hid (by rw [HI.out, List.drop_length]; rfl)
        clear HI
        obtain ⟨y0, y1, y2, y3, x0, x1, x2, x3⟩ := HZ.out
        go_wp2
        rw [HX.out]
        exact bodyPost_ret (v := (.agg #[.int .i64 m.cpu, .int .i64 m.mem, .int .i64 m.gpu, .int .i64 m.lic])) (by simp [results, Try.results14, go_sem, *]) rfl ⟨rfl, by have hb := HB.out; exact (by repeat' (first | exact Below.refl _ _ | assumption | exact And.left (by assumption) | refine Below.drew ?_ | refine below_drewN ?_ _ | refine Below.setCell ?_ (by first | (simp; done) | (simp; omega) | omega) _ | refine Below.alloc ?_ (by first | (simp; done) | (simp; omega) | omega) _ | refine after (by assumption) (by first | (simp; done) | (simp; omega) | omega) ?_))⟩
theorem sLeast (a : Option Addr) (cap : Nat) (l : List St) (hl : l.length ≤ 100000) (f t : Int) (w : World) (HA : StAt w a cap l) :
    Calls Try.prog 14 #[.slice a l.length cap, .int .i64 f, .int .i64 t] w fun e w' => e = .returned (.agg #[.int .i64 (leastS l f t).cpu, .int .i64 (leastS l f t).mem, .int .i64 (leastS l f t).gpu, .int .i64 (leastS l f t).lic]) ∧ Below w.heap.size w w' := by
  by_cases h : OkS l ∧ begin_ l ≤ f ∧ f < t
  · obtain ⟨b, off, ea, _⟩ := HA.row.first (List.length_pos_iff.2 h.1.1)
    subst ea
    rw [show leastS l f t = leastP l f t from if_pos h]
    exact sLeast_in b off cap l hl f t w HA h.1 h.2.1 h.2.2
  · rw [leastS_no h]
    exact sLeast_no a cap l hl f t w HA h
end Go.Proofs.Ytcnpppkndcgmpaa.W
