/-
  Contract of the document's Least over steps.
-/
import Derived.Test.YtcnpppkndcgmpaaStRAt
import Derived.Test.YtcnpppkndcgmpaaStRRight
import Derived.Test.YtcnpppkndcgmpaaStRTimes
import Derived.Test.YtcnpppkndcgmpaaStLeast
import Derived.Test.YtcnpppkndcgmpaaMonoT
namespace Go.Proofs.Ytcnpppkndcgmpaa.W
set_option linter.unusedVariables false
set_option linter.unusedSimpArgs false
open Go.ChangeShapes Go.WideShapes Go.ChangeAt Go.RowKit

def rl9 (a : Option Addr) (ln cap gT tn cT g k : Nat) (u : Int) (m v m2 : V) : List Sp :=
  [Sp.c ((.agg #[.int .i64 m.cpu, .int .i64 m.mem, .int .i64 m.gpu, .int .i64 m.lic])) [],
   Sp.c (.slice a ln cap) [],
   Sp.c (.slice (some ⟨gT, 0, none⟩) tn cT) [],
   Sp.c (.int .i64 (k : Int)) [],
   Sp.c (.pointer (some ⟨gT, k, none⟩)) [2, 3],
   Sp.c (.int .i64 u) [4],
   Sp.c ((.agg #[.int .i64 v.cpu, .int .i64 v.mem, .int .i64 v.gpu, .int .i64 v.lic])) [1, 5],
   Sp.c ((.agg #[.int .i64 m2.cpu, .int .i64 m2.mem, .int .i64 m2.gpu, .int .i64 m2.lic])) [0, 6]]
theorem RowAt.far4 {w : World} {b off g : Nat} {xs : List Value} (h : RowAt w (some ⟨b, off, none⟩) xs) (hne : g ≠ b) (o0 o1 o2 o3 : Nat) (x0 x1 x2 x3 : Value) :
    RowAt ((((w.setCell ⟨g, o0, none⟩ x0).setCell ⟨g, o1, none⟩ x1).setCell ⟨g, o2, none⟩ x2).setCell ⟨g, o3, none⟩ x3) (some ⟨b, off, none⟩) xs := by
  rcases h with h | ⟨b', off', e, hl, hc⟩
  · exact .inl h
  · simp only [Option.some.injEq, Addr.mk.injEq, and_true] at e
    obtain ⟨rfl, rfl⟩ := e
    refine .inr ⟨_, _, rfl, by simpa using hl, fun i u hu => ?_⟩
    rw [World.cell?_setCell_far _ _ _ _ hne, World.cell?_setCell_far _ _ _ _ hne, World.cell?_setCell_far _ _ _ _ hne, World.cell?_setCell_far _ _ _ _ hne]
    exact hc i u hu
set_option maxHeartbeats 2000000 in
theorem rLeast_no (a : Option Addr) (cap : Nat) (l : List St) (hl : l.length ≤ 1000) (f t : Int) (w : World) (HA : StAt w a cap l) (hno : ¬ (OkS l ∧ begin_ l ≤ f ∧ f < t)) :
    Calls Try.prog 15 #[.slice a l.length cap, .int .i64 f, .int .i64 t] w fun e w' => e = .returned (.agg #[.int .i64 V.zero.cpu, .int .i64 V.zero.mem, .int .i64 V.zero.gpu, .int .i64 V.zero.lic]) ∧ Below w.heap.size w w' := by
  have HR := Lib.hid HA
  have HP := Lib.hid (fun w' h => rStRight a cap l (by omega) w' h)
  by_cases h : OkS l
  · rw [show rightS l = true from decide_eq_true h] at HP
    have hpos : 0 < l.length := List.length_pos_iff.2 h.1
    obtain ⟨b, off, ea, hbl, q0, q1, q2, q3, q4⟩ := HA.row.first hpos
    have hbg := begin_at hpos
    rw [hbg] at hno
    have hno2 : ¬ (l[0].at_ ≤ f ∧ f < t) := fun x => hno ⟨h, x⟩
    generalize l[0] = s at q0 q1 q2 q3 q4 hno2
    clear h HA hno hbg
    subst ea
    by_cases h0 : s.at_ ≤ f
    · have h1 : ¬ f < t := fun x => hno2 ⟨h0, x⟩
      clear hno2
      go_enter Try.func15, Try.ntmps15
      go_wp2_with fail
      refine (HP.out _ (HR.out.later ?_)).mono ?_; exact (by repeat' (first | exact Below.refl _ _ | assumption | exact And.left (by assumption) | refine Below.drew ?_ | refine below_drewN ?_ _ | refine Below.setCell ?_ (by first | (simp; done) | (simp; omega) | omega) _ | refine Below.alloc ?_ (by first | (simp; done) | (simp; omega) | omega) _ | refine after (by assumption) (by first | (simp; done) | (simp; omega) | omega) ?_)); rintro e w1 ⟨rfl, hb1⟩; obtain ⟨hc1, hf1⟩ := bcell hb1; have hz1 := hb1.size; (try simp at hz1); have lt_w1_0 : w.heap.size < w1.heap.size := (by omega)
      go_wp2
      exact bodyPost_ret (v := (.agg #[.int .i64 V.zero.cpu, .int .i64 V.zero.mem, .int .i64 V.zero.gpu, .int .i64 V.zero.lic])) (by simp [results, Try.results15, go_sem, V.zero, *]) rfl ⟨rfl, (by repeat' (first | exact Below.refl _ _ | assumption | exact And.left (by assumption) | refine Below.drew ?_ | refine below_drewN ?_ _ | refine Below.setCell ?_ (by first | (simp; done) | (simp; omega) | omega) _ | refine Below.alloc ?_ (by first | (simp; done) | (simp; omega) | omega) _ | refine after (by assumption) (by first | (simp; done) | (simp; omega) | omega) ?_))⟩
    · clear hno2
      go_enter Try.func15, Try.ntmps15
      go_wp2_with fail
      refine (HP.out _ (HR.out.later ?_)).mono ?_; exact (by repeat' (first | exact Below.refl _ _ | assumption | exact And.left (by assumption) | refine Below.drew ?_ | refine below_drewN ?_ _ | refine Below.setCell ?_ (by first | (simp; done) | (simp; omega) | omega) _ | refine Below.alloc ?_ (by first | (simp; done) | (simp; omega) | omega) _ | refine after (by assumption) (by first | (simp; done) | (simp; omega) | omega) ?_)); rintro e w1 ⟨rfl, hb1⟩; obtain ⟨hc1, hf1⟩ := bcell hb1; have hz1 := hb1.size; (try simp at hz1); have lt_w1_0 : w.heap.size < w1.heap.size := (by omega)
      go_wp2
      exact bodyPost_ret (v := (.agg #[.int .i64 V.zero.cpu, .int .i64 V.zero.mem, .int .i64 V.zero.gpu, .int .i64 V.zero.lic])) (by simp [results, Try.results15, go_sem, V.zero, *]) rfl ⟨rfl, (by repeat' (first | exact Below.refl _ _ | assumption | exact And.left (by assumption) | refine Below.drew ?_ | refine below_drewN ?_ _ | refine Below.setCell ?_ (by first | (simp; done) | (simp; omega) | omega) _ | refine Below.alloc ?_ (by first | (simp; done) | (simp; omega) | omega) _ | refine after (by assumption) (by first | (simp; done) | (simp; omega) | omega) ?_))⟩
  · rw [show rightS l = false from decide_eq_false h] at HP
    clear h HA hno
    go_enter Try.func15, Try.ntmps15
    go_wp2_with fail
    refine (HP.out _ (HR.out.later ?_)).mono ?_; exact (by repeat' (first | exact Below.refl _ _ | assumption | exact And.left (by assumption) | refine Below.drew ?_ | refine below_drewN ?_ _ | refine Below.setCell ?_ (by first | (simp; done) | (simp; omega) | omega) _ | refine Below.alloc ?_ (by first | (simp; done) | (simp; omega) | omega) _ | refine after (by assumption) (by first | (simp; done) | (simp; omega) | omega) ?_)); rintro e w1 ⟨rfl, hb1⟩; obtain ⟨hc1, hf1⟩ := bcell hb1; have hz1 := hb1.size; (try simp at hz1); have lt_w1_0 : w.heap.size < w1.heap.size := (by omega)
    go_wp2
    exact bodyPost_ret (v := (.agg #[.int .i64 V.zero.cpu, .int .i64 V.zero.mem, .int .i64 V.zero.gpu, .int .i64 V.zero.lic])) (by simp [results, Try.results15, go_sem, V.zero, *]) rfl ⟨rfl, (by repeat' (first | exact Below.refl _ _ | assumption | exact And.left (by assumption) | refine Below.drew ?_ | refine below_drewN ?_ _ | refine Below.setCell ?_ (by first | (simp; done) | (simp; omega) | omega) _ | refine Below.alloc ?_ (by first | (simp; done) | (simp; omega) | omega) _ | refine after (by assumption) (by first | (simp; done) | (simp; omega) | omega) ?_))⟩
theorem leastG_next {l : List St} {f t : Int} {m : V} {T : List Int} {k : Nat} (h : k < T.length) : leastG l f t m (T.drop k) = leastG l f t (if f ≤ T[k] ∧ T[k] < t then m.least (atL l T[k]) else m) (T.drop (k + 1)) := by
  rw [drop_at T k h, leastG]
set_option maxHeartbeats 8000000 in
set_option maxRecDepth 100000 in
theorem rLeast_in (b0 off0 cap : Nat) (l : List St) (hl : l.length ≤ 1000) (f t : Int) (w : World) (HA : StAt w (some ⟨b0, off0, none⟩) cap l) (h : OkS l) (h0 : begin_ l ≤ f) (h1 : f < t) :
    Calls Try.prog 15 #[.slice (some ⟨b0, off0, none⟩) l.length cap, .int .i64 f, .int .i64 t] w fun e w' => e = .returned (.agg #[.int .i64 (leastS l f t).cpu, .int .i64 (leastS l f t).mem, .int .i64 (leastS l f t).gpu, .int .i64 (leastS l f t).lic]) ∧ Below w.heap.size w w' := by
  have HR := Lib.hid HA
  have HP := Lib.hid (fun w' h => rStRight (some ⟨b0, off0, none⟩) cap l (by omega) w' h)
  rw [show rightS l = true from decide_eq_true h] at HP
  have hpos : 0 < l.length := List.length_pos_iff.2 h.1
  have HATT := Lib.hid (fun u w' h' => rAt (some ⟨b0, off0, none⟩) cap l (by omega) h u w' h')
  have HT := Lib.hid (fun w' h' => rTimes (some ⟨b0, off0, none⟩) cap l hl none 0 [] (by simp) (fun _ => rfl) w' h' (.inl rfl))
  have hTL := times_len (ats l) []
  have HE := Lib.hid (least_ref h h0 h1)
  have hTN : ([] : List Int) ++ ats l = ats l := rfl
  rw [hTN] at HT
  obtain ⟨b, off, ea, hbl, q0, q1, q2, q3, q4⟩ := HA.row.first hpos
  simp only [Option.some.injEq, Addr.mk.injEq, and_true] at ea
  obtain ⟨rfl, rfl⟩ := ea
  rw [begin_at hpos] at h0
  have hTne : timesL (ats l) ≠ [] := by
    rw [times_ats h]
    intro x
    have := congrArg List.length x
    rw [show (ats l).length = l.length by simp [ats]] at this
    simp only [List.length_nil] at this
    omega
  have hTlen : (timesL (ats l)).length ≤ 1000 := by
    have e : (ats l).length = l.length := by simp [ats]
    unfold timesL
    rw [List.length_nil, Nat.zero_add, e] at hTL
    omega
  have HNE := Lib.hid hTne
  generalize l[0] = s at q0 q1 q2 q3 q4 h0
  clear h HA hTL hTne hTN
  go_enter Try.func15, Try.ntmps15
  go_wp2_with fail
  have hb0 : Below w.heap.size w (w.alloc (.cells #[.int .i64 0, .int .i64 0, .int .i64 0, .int .i64 0] 25)) := (Below.refl _ _).alloc (Nat.le_refl _) _
  refine (HP.out _ (HR.out.later hb0)).mono ?_; rintro e w1 ⟨rfl, hb1⟩; obtain ⟨hc1, hf1⟩ := bcell hb1; have hz1 := hb1.size; (try simp at hz1); have lt_w1_0 : w.heap.size < w1.heap.size := (by omega)
  have hW1 := hb0.trans (hb1.mono hb0.size)
  have HZ1 := Lib.hid ((Res4.fresh w V.zero 25).later hb1)
  have g0 : w1.cell? ⟨b0, off0, none⟩ = some (.int .i64 s.at_) := carry hW1 q0
  go_wp2_with fail
  refine (HATT.out f w1 (HR.out.later hW1)).mono ?_; rintro e w2 ⟨rfl, hb2⟩
  have hW2 := hW1.trans (hb2.mono hW1.size)
  have HZ2 := Lib.hid (HZ1.out.later hb2)
  have hl2 : w.heap.size < w2.heap.size := HZ2.out.lt
  go_upto_region 4 with fail
  generalize hw3 : World.alloc w2 _ = w3
  have hb3 : Below w2.heap.size w2 w3 := by rw [← hw3]; exact (Below.refl _ _).alloc (Nat.le_refl _) _
  have HM3 : Hid (Res4 w3 w2.heap.size (atL l f)) := Lib.hid (by rw [← hw3]; exact Res4.fresh _ _ _)
  have hW3 := hW2.trans (hb3.mono hW2.size)
  have HZ3 := Lib.hid (HZ2.out.later hb3)
  have hl3 : w2.heap.size < w3.heap.size := HM3.out.lt
  clear hw3
  go_wp2_with fail
  refine (HT.out w3 (HR.out.later hW3)).mono ?_
  rintro e w4 ⟨v4, rfl, hO4, hb4⟩
  obtain ⟨aT, cT, rfl, hcT, hrT, hnT⟩ := own_form hO4
  have HHT : Hid ((aT = none ∧ (timesL (ats l)).length = 0 ∧ cT = 0) ∨ ∃ g, aT = some ⟨g, 0, none⟩ ∧ w3.heap.size ≤ g) := Lib.hid (by
    rcases hnT with h | ⟨g, h, h2, _⟩
    · exact .inl h
    · exact .inr ⟨g, h, h2⟩)
  have HRT := Lib.hid hrT
  have hW4 := hW3.trans (hb4.mono hW3.size)
  have HM4 := Lib.hid (HM3.out.later hb4)
  have HZ4 := Lib.hid (HZ3.out.later hb4)
  clear hO4 hrT hnT
  generalize hTT : timesL (ats l) = T at *
  have HTT := Lib.hid hTT
  clear hTT
  obtain ⟨gT, rfl, hgT⟩ : ∃ gT, aT = some ⟨gT, 0, none⟩ ∧ w3.heap.size ≤ gT := by
    rcases HHT.out with ⟨_, h, _⟩ | h
    · exact absurd (List.eq_nil_of_length_eq_zero h) HNE.out
    · exact h
  have hgne : w2.heap.size ≠ gT := by omega
  have hL4 : w2.heap.size < w4.heap.size := HM4.out.lt
  have HAT := HATT
  have HE0 : Hid (leastS l f t = leastG l f t (atL l f) (T.drop 0)) := Lib.hid (by rw [List.drop_zero]; exact HE.out.symm)
  clear HHT HE hb3 hb4
  generalize atL l f = m0 at HM4 HE0
  go_wp2
  go_loopw [9] (fun x wr => ∃ (k : Nat) (m : V), k ≤ T.length ∧ x = .int .i64 (k : Int) ∧ Hid (leastS l f t = leastG l f t m (T.drop k)) ∧ Hid (Res4 wr w2.heap.size m) ∧ Hid (Res4 wr w.heap.size V.zero) ∧ Hid (RowAt wr (some ⟨gT, 0, none⟩) (vals T)) ∧ Hid (Below w.heap.size w wr)) (fun x _ => T.length - (intOf x).toNat)
  case atStart => exact ⟨0, m0, Nat.zero_le _, rfl, HE0, HM4, HZ4, HRT, Lib.hid hW4⟩
  case round =>
    obtain ⟨k, m, hk, rfl, HI, HM, HZ, HTR, HB⟩ := hrel
    have hz := HB.out.size
    have hgl := HM.out.lt
    by_cases hlt : k < T.length
    · obtain ⟨b', o', eb, hbT, qd⟩ := HTR.out.row (by rw [vals_len]; omega)
      simp only [Option.some.injEq, Addr.mk.injEq, and_true] at eb
      obtain ⟨rfl, rfl⟩ := eb
      have qk := qd k _ (vals_at T k hlt)
      rw [Nat.zero_add] at qk
      clear qd
      have HN := Lib.hid (leastG_next (l := l) (f := f) (t := t) (m := m) hlt)
      have hk1 : (k : Int) < T.length := by omega
      have hk0 : (0 : Int) ≤ k := by omega
      have hkt : ((k : Int)).toNat = k := by omega
      generalize T[k] = u at qk HN
      by_cases hu0 : f ≤ u
      · by_cases hu1 : u < t
        · have HX : Hid (leastS l f t = leastG l f t (m.least (atL l u)) (T.drop (k + 1))) := Lib.hid (by rw [HI.out, HN.out, if_pos ⟨hu0, hu1⟩])
          have HAT := Lib.hid (fun w' h => HATT.out u w' h)
          have HLE := Lib.hid (fun w' => rleast m (atL l u) w')
          clear HN HI
          generalize atL l u = v at HX HAT HLE
          obtain ⟨g0, g1, g2, g3, f0, f1, f2, f3⟩ := HM.out
          go_wp2_with fail
          refine region_mono_tail 8 (rl9 (some ⟨b0, off0, none⟩) l.length cap gT T.length cT w2.heap.size k u m v (m.least v)) [52, 53, 54, 55, 56, 57, 58, 59] (by kernel_rfl) (by kernel_rfl) (by kernel_rfl) (by kernel_rfl) (by kernel_rfl) (stables_cons (Sp.c_stable _ _) (stables_cons (Sp.c_stable _ _) (stables_cons (Sp.c_stable _ _) (stables_cons (Sp.c_stable _ _) (stables_cons (Sp.c_stable _ _) (stables_cons (Sp.c_stable _ _) (stables_cons (Sp.c_stable _ _) (stables_cons (Sp.c_stable _ _) (trivial))))))))) ?_ ?_
          · intro am wm L hbm hbase hbase2
            have s0 : am.tmps.getD 0 undef = .slice (some ⟨b0, off0, none⟩) l.length cap := (hbase 0 rfl).trans (by simp only [Array.getD_eq_getD_getElem?, List.getElem?_toArray, List.getElem?_cons_succ, List.getElem?_cons_zero, Option.getD_some])
            have s7 : am.tmps.getD 7 undef = .pointer (some ⟨w2.heap.size, 0, none⟩) := (hbase 7 rfl).trans (by simp only [Array.getD_eq_getD_getElem?, List.getElem?_toArray, List.getElem?_cons_succ, List.getElem?_cons_zero, Option.getD_some])
            have s8 : am.tmps.getD 8 undef = .slice (some ⟨gT, 0, none⟩) T.length cT := (hbase 8 rfl).trans (by simp only [Array.getD_eq_getD_getElem?, List.getElem?_toArray, List.getElem?_cons_succ, List.getElem?_cons_zero, Option.getD_some])
            have s9 : am.tmps.getD 9 undef = .int .i64 (k : Int) := (hbase 9 rfl).trans (by simp only [Array.getD_eq_getD_getElem?, List.getElem?_toArray, List.getElem?_cons_succ, List.getElem?_cons_zero, Option.getD_some])
            clear hbase hbase2
            have m0 := carry hbm g0
            have m1 := carry hbm g1
            have m2 := carry hbm g2
            have m3 := carry hbm g3
            have m4 := carry hbm qk
            refine steps_cons (fun hn hl => ?_) fun H0 => ?_
            · skip
              clear hn hl 
              refine stepC (wanted_free rfl) fun K hK => ?_
              go_simp
              exact hK _ (Below.refl _ _)
            refine steps_cons (fun hn hl => ?_) fun H1 => ?_
            · skip
              clear hn hl H0
              refine stepC (wanted_free rfl) fun K hK => ?_
              go_simp
              exact hK _ (Below.refl _ _)
            refine steps_cons (fun hn hl => ?_) fun H2 => ?_
            · skip
              clear hn hl H0 H1
              refine stepC (wanted_free rfl) fun K hK => ?_
              go_simp
              exact hK _ (Below.refl _ _)
            refine steps_cons (fun hn hl => ?_) fun H3 => ?_
            · skip
              clear hn hl H0 H1 H2
              refine stepC (wanted_free rfl) fun K hK => ?_
              go_simp
              exact hK _ (Below.refl _ _)
            refine steps_cons (fun hn hl => ?_) fun H4 => ?_
            · skip
              have h54 := Sp.of_c (H2 (hn 2 (show 2 ∈ [2, 3] from .head _)))
              have h55 := Sp.of_c (H3 (hn 3 (show 3 ∈ [2, 3] from .tail _ (.head _))))
              clear hn hl H0 H1 H2 H3
              refine stepC (wanted_free rfl) fun K hK => ?_
              go_simp
              exact hK _ (Below.refl _ _)
            refine steps_cons (fun hn hl => ?_) fun H5 => ?_
            · skip
              have h56 := Sp.of_c (H4 (hn 4 (show 4 ∈ [4] from .head _)))
              clear hn hl H0 H1 H2 H3 H4
              refine stepC (wanted_free rfl) fun K hK => ?_
              go_simp
              exact hK _ (Below.refl _ _)
            refine steps_cons (fun hn hl => ?_) fun H6 => ?_
            · skip
              have h53 := Sp.of_c (H1 (hn 1 (show 1 ∈ [1, 5] from .head _)))
              have h57 := Sp.of_c (H5 (hn 5 (show 5 ∈ [1, 5] from .tail _ (.head _))))
              clear hn hl H0 H1 H2 H3 H4 H5
              refine stepC (wanted_free rfl) fun K hK => ?_
              go_simp
              first
                | ((with_reducible refine (HAT.out _ (HR.out.later (HB.out.trans (hbm.mono hz)))).mono ?_); rintro e w6 ⟨rfl, hb6⟩; exact hK _ hb6)
                | ((with_reducible refine (HLE.out _).mono ?_); rintro e w6 ⟨rfl, hb6⟩; exact hK _ hb6)
            refine steps_cons (fun hn hl => ?_) fun H7 => ?_
            · skip
              have h52 := Sp.of_c (H0 (hn 0 (show 0 ∈ [0, 6] from .head _)))
              have h58 := Sp.of_c (H6 (hn 6 (show 6 ∈ [0, 6] from .tail _ (.head _))))
              clear hn hl H0 H1 H2 H3 H4 H5 H6
              refine stepC (wanted_free rfl) fun K hK => ?_
              go_simp
              first
                | ((with_reducible refine (HAT.out _ (HR.out.later (HB.out.trans (hbm.mono hz)))).mono ?_); rintro e w6 ⟨rfl, hb6⟩; exact hK _ hb6)
                | ((with_reducible refine (HLE.out _).mono ?_); rintro e w6 ⟨rfl, hb6⟩; exact hK _ hb6)
            exact trivial
          · intro w5 hb5
            have hz5 := hb5.size
            refine end_cons ?_; rintro _ rfl
            refine end_cons ?_; rintro _ rfl
            refine end_cons ?_; rintro _ rfl
            refine end_cons ?_; rintro _ rfl
            refine end_cons ?_; rintro _ rfl
            refine end_cons ?_; rintro _ rfl
            refine end_cons ?_; rintro _ rfl
            refine end_cons ?_; rintro _ rfl
            refine end_nil ?_
            simp only [List.setIfInBounds_toArray, List.set_cons_succ, List.set_cons_zero, Bool.not_false, Bool.not_true, Bool.true_or, Bool.or_true, Bool.false_or, Bool.or_false]
            simp only [List.drop_succ_cons, List.drop_zero]
            have HM5 := Lib.hid (HM.out.later hb5)
            have HZ5 := Lib.hid (HZ.out.later hb5)
            obtain ⟨y0, y1, y2, y3, x0, x1, x2, x3⟩ := HM5.out
            have hg5 : w2.heap.size < w5.heap.size := by omega
            go_wp2
            go_roundw
            case rel => exact ⟨k + 1, _, by omega, by go_num, HX, Lib.hid (HM5.out.stored _), Lib.hid (HZ5.out.far (by omega) _ _ _ _ _ _ _ _), Lib.hid ((HTR.out.later hb5).far4 hgne _ _ _ _ _ _ _ _), Lib.hid (((((HB.out.trans (hb5.mono hz)).setCell (p := ⟨w2.heap.size, 0, none⟩) (by show w.heap.size ≤ w2.heap.size; omega) _).setCell (p := ⟨w2.heap.size, 1, none⟩) (by show w.heap.size ≤ w2.heap.size; omega) _).setCell (p := ⟨w2.heap.size, 2, none⟩) (by show w.heap.size ≤ w2.heap.size; omega) _).setCell (p := ⟨w2.heap.size, 3, none⟩) (by show w.heap.size ≤ w2.heap.size; omega) _)⟩
            case measure => simp [intOf]; omega
        · have HX : Hid (leastS l f t = leastG l f t m (T.drop (k + 1))) := Lib.hid (by rw [HI.out, HN.out, if_neg (fun x => hu1 x.2)])
          clear HN HI
          go_wp2
          go_roundw
          case rel => exact ⟨k + 1, m, by omega, by go_num, HX, HM, HZ, HTR, HB⟩
          case measure => simp [intOf]; omega
      · have HX : Hid (leastS l f t = leastG l f t m (T.drop (k + 1))) := Lib.hid (by rw [HI.out, HN.out, if_neg (fun x => hu0 x.1)])
        clear HN HI
        go_wp2
        go_roundw
        case rel => exact ⟨k + 1, m, by omega, by go_num, HX, HM, HZ, HTR, HB⟩
        case measure => simp [intOf]; omega
    · have hkl : k = T.length := by omega
      subst hkl
      have HX : Hid (leastS l f t = m) := Lib.hid (by rw [HI.out, List.drop_length]; rfl)
      clear HI
      obtain ⟨g0, g1, g2, g3, f0, f1, f2, f3⟩ := HM.out
      obtain ⟨y0, y1, y2, y3, x0, x1, x2, x3⟩ := HZ.out
      go_wp2
      rw [HX.out]
      exact bodyPost_ret (v := (.agg #[.int .i64 m.cpu, .int .i64 m.mem, .int .i64 m.gpu, .int .i64 m.lic])) (by simp [results, Try.results15, go_sem, *]) rfl ⟨rfl, by have hb := HB.out; exact (by repeat' (first | exact Below.refl _ _ | assumption | exact And.left (by assumption) | refine Below.drew ?_ | refine below_drewN ?_ _ | refine Below.setCell ?_ (by first | (simp; done) | (simp; omega) | omega) _ | refine Below.alloc ?_ (by first | (simp; done) | (simp; omega) | omega) _ | refine after (by assumption) (by first | (simp; done) | (simp; omega) | omega) ?_))⟩
theorem rLeastR (a : Option Addr) (cap : Nat) (l : List St) (hl : l.length ≤ 1000) (f t : Int) (w : World) (HA : StAt w a cap l) :
    Calls Try.prog 15 #[.slice a l.length cap, .int .i64 f, .int .i64 t] w fun e w' => e = .returned (.agg #[.int .i64 (leastS l f t).cpu, .int .i64 (leastS l f t).mem, .int .i64 (leastS l f t).gpu, .int .i64 (leastS l f t).lic]) ∧ Below w.heap.size w w' := by
  by_cases h : OkS l ∧ begin_ l ≤ f ∧ f < t
  · obtain ⟨b, off, ea, _⟩ := HA.row.first (List.length_pos_iff.2 h.1.1)
    subst ea
    exact rLeast_in b off cap l hl f t w HA h.1 h.2.1 h.2.2
  · rw [leastS_no h]
    exact rLeast_no a cap l hl f t w HA h
end Go.Proofs.Ytcnpppkndcgmpaa.W
