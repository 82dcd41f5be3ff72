/-
  Contracts of the document's Add, Drop, Same over bookings.
-/
import Derived.Test.YtkkjbmedpdjgdaaBkRRight
import Derived.Test.YtkkjbmedpdjgdaaBkAdd
namespace Go.Proofs.Ytkkjbmedpdjgdaa.W
set_option linter.unusedVariables false
set_option linter.unusedSimpArgs false
open Go.ChangeShapes Go.WideShapes Go.ChangeAt Go.RowKit

set_option maxHeartbeats 4000000 in
theorem rAdd_wrong (a : Option Addr) (cap : Nat) (l : List Bk) (hl : l.length ≤ 100000) (n : Int) (x : Bk) (w : World) (HA : BkAt w a cap l) (h : ¬ RightBk n l) :
    Calls Try.prog 7 #[.slice a l.length cap, .int .i64 n, .agg #[.int .i64 x.id, .int .i64 x.node, .int .i64 x.frm, .int .i64 x.til]] w fun e w' => e = .returned (.int .i64 2) ∧ Below w.heap.size w w' := by
  have HR := Lib.hid HA
  have HQ1 := Lib.hid (fun w' h => rBkRight a cap l hl n w' h)
  have HQ2 := Lib.hid (fun w' => rBkOne x n w')
  rw [show rightBk l n = false from decide_eq_false h] at HQ1
  clear HA h
  go_enter Try.func7, Try.ntmps7
  go_wp2_with fail
  generalize hw0 : World.alloc w _ = w0
  have hb0 : Below w.heap.size w w0 := by rw [← hw0]; exact (by repeat' (first | exact Below.refl _ _ | assumption | exact And.left (by assumption) | refine Below.drew ?_ | refine below_drewN ?_ _ | refine Below.setCell ?_ (by first | (simp; done) | (simp; omega) | omega) _ | refine Below.alloc ?_ (by first | (simp; done) | (simp; omega) | omega) _ | refine after (by assumption) (by first | (simp; done) | (simp; omega) | omega) ?_))
  have y0 : w0.cell? ⟨w.heap.size, 0, none⟩ = some (.int .i64 x.id) := by rw [← hw0]; simp [go_sem]
  have y1 : w0.cell? ⟨w.heap.size, 1, none⟩ = some (.int .i64 x.node) := by rw [← hw0]; simp [go_sem]
  have y2 : w0.cell? ⟨w.heap.size, 2, none⟩ = some (.int .i64 x.frm) := by rw [← hw0]; simp [go_sem]
  have y3 : w0.cell? ⟨w.heap.size, 3, none⟩ = some (.int .i64 x.til) := by rw [← hw0]; simp [go_sem]
  clear hw0
  refine (HQ1.out w0 (HR.out.later hb0)).mono ?_; rintro e w1 ⟨rfl, hb1⟩
  have k1 := hb0.trans (hb1.mono hb0.size)
  replace y0 := carry hb1 y0
  replace y1 := carry hb1 y1
  replace y2 := carry hb1 y2
  replace y3 := carry hb1 y3
  go_wp2
  go_ret
  exact ⟨rfl, k1⟩
set_option maxHeartbeats 4000000 in
theorem rAdd_alone (a : Option Addr) (cap : Nat) (l : List Bk) (hl : l.length ≤ 100000) (n : Int) (x : Bk) (w : World) (HA : BkAt w a cap l) (h : RightBk n l) (h2 : ¬ BkOk n x) :
    Calls Try.prog 7 #[.slice a l.length cap, .int .i64 n, .agg #[.int .i64 x.id, .int .i64 x.node, .int .i64 x.frm, .int .i64 x.til]] w fun e w' => e = .returned (.int .i64 2) ∧ Below w.heap.size w w' := by
  have HR := Lib.hid HA
  have HQ1 := Lib.hid (fun w' h => rBkRight a cap l hl n w' h)
  have HQ2 := Lib.hid (fun w' => rBkOne x n w')
  rw [show rightBk l n = true from decide_eq_true h] at HQ1
  rw [show okB n x = false from decide_eq_false h2] at HQ2
  clear HA h h2
  go_enter Try.func7, Try.ntmps7
  go_wp2_with fail
  generalize hw0 : World.alloc w _ = w0
  have hb0 : Below w.heap.size w w0 := by rw [← hw0]; exact (by repeat' (first | exact Below.refl _ _ | assumption | exact And.left (by assumption) | refine Below.drew ?_ | refine below_drewN ?_ _ | refine Below.setCell ?_ (by first | (simp; done) | (simp; omega) | omega) _ | refine Below.alloc ?_ (by first | (simp; done) | (simp; omega) | omega) _ | refine after (by assumption) (by first | (simp; done) | (simp; omega) | omega) ?_))
  have y0 : w0.cell? ⟨w.heap.size, 0, none⟩ = some (.int .i64 x.id) := by rw [← hw0]; simp [go_sem]
  have y1 : w0.cell? ⟨w.heap.size, 1, none⟩ = some (.int .i64 x.node) := by rw [← hw0]; simp [go_sem]
  have y2 : w0.cell? ⟨w.heap.size, 2, none⟩ = some (.int .i64 x.frm) := by rw [← hw0]; simp [go_sem]
  have y3 : w0.cell? ⟨w.heap.size, 3, none⟩ = some (.int .i64 x.til) := by rw [← hw0]; simp [go_sem]
  clear hw0
  refine (HQ1.out w0 (HR.out.later hb0)).mono ?_; rintro e w1 ⟨rfl, hb1⟩
  have k1 := hb0.trans (hb1.mono hb0.size)
  replace y0 := carry hb1 y0
  replace y1 := carry hb1 y1
  replace y2 := carry hb1 y2
  replace y3 := carry hb1 y3
  go_wp2_with fail
  refine (HQ2.out w1).mono ?_; rintro e w2 ⟨rfl, hb2⟩
  have k2 := k1.trans (hb2.mono k1.size)
  replace y0 := carry hb2 y0
  replace y1 := carry hb2 y1
  replace y2 := carry hb2 y2
  replace y3 := carry hb2 y3
  go_wp2
  go_ret
  exact ⟨rfl, k2⟩
set_option maxHeartbeats 4000000 in
theorem rAdd_limit (a : Option Addr) (cap : Nat) (l : List Bk) (hl : l.length ≤ 100000) (n : Int) (x : Bk) (w : World) (HA : BkAt w a cap l) (h : RightBk n l) (h2 : BkOk n x) (h3 : l.length = 16) :
    Calls Try.prog 7 #[.slice a l.length cap, .int .i64 n, .agg #[.int .i64 x.id, .int .i64 x.node, .int .i64 x.frm, .int .i64 x.til]] w fun e w' => e = .returned (.int .i64 3) ∧ Below w.heap.size w w' := by
  have HR := Lib.hid HA
  have HQ1 := Lib.hid (fun w' h => rBkRight a cap l hl n w' h)
  have HQ2 := Lib.hid (fun w' => rBkOne x n w')
  rw [show rightBk l n = true from decide_eq_true h] at HQ1
  rw [show okB n x = true from decide_eq_true h2] at HQ2
  have g3 : ((l.length : Int) == 16) = true := by simp; omega
  have e16 : (l.length : Int) = 16 := by omega
  clear HA h h2 h3
  go_enter Try.func7, Try.ntmps7
  go_wp2_with fail
  generalize hw0 : World.alloc w _ = w0
  have hb0 : Below w.heap.size w w0 := by rw [← hw0]; exact (by repeat' (first | exact Below.refl _ _ | assumption | exact And.left (by assumption) | refine Below.drew ?_ | refine below_drewN ?_ _ | refine Below.setCell ?_ (by first | (simp; done) | (simp; omega) | omega) _ | refine Below.alloc ?_ (by first | (simp; done) | (simp; omega) | omega) _ | refine after (by assumption) (by first | (simp; done) | (simp; omega) | omega) ?_))
  have y0 : w0.cell? ⟨w.heap.size, 0, none⟩ = some (.int .i64 x.id) := by rw [← hw0]; simp [go_sem]
  have y1 : w0.cell? ⟨w.heap.size, 1, none⟩ = some (.int .i64 x.node) := by rw [← hw0]; simp [go_sem]
  have y2 : w0.cell? ⟨w.heap.size, 2, none⟩ = some (.int .i64 x.frm) := by rw [← hw0]; simp [go_sem]
  have y3 : w0.cell? ⟨w.heap.size, 3, none⟩ = some (.int .i64 x.til) := by rw [← hw0]; simp [go_sem]
  clear hw0
  refine (HQ1.out w0 (HR.out.later hb0)).mono ?_; rintro e w1 ⟨rfl, hb1⟩
  have k1 := hb0.trans (hb1.mono hb0.size)
  replace y0 := carry hb1 y0
  replace y1 := carry hb1 y1
  replace y2 := carry hb1 y2
  replace y3 := carry hb1 y3
  go_wp2_with fail
  refine (HQ2.out w1).mono ?_; rintro e w2 ⟨rfl, hb2⟩
  have k2 := k1.trans (hb2.mono k1.size)
  replace y0 := carry hb2 y0
  replace y1 := carry hb2 y1
  replace y2 := carry hb2 y2
  replace y3 := carry hb2 y3
  go_wp2
  go_ret
  exact ⟨rfl, k2⟩
set_option maxHeartbeats 4000000 in
theorem rAdd_rest (a : Option Addr) (cap : Nat) (l : List Bk) (hl : l.length ≤ 100000) (n : Int) (x : Bk) (w : World) (HA : BkAt w a cap l) (h : RightBk n l) (h2 : BkOk n x) (h3 : ¬ l.length = 16) :
    Calls Try.prog 7 #[.slice a l.length cap, .int .i64 n, .agg #[.int .i64 x.id, .int .i64 x.node, .int .i64 x.frm, .int .i64 x.til]] w fun e w' => e = .returned (.int .i64 (addEk l n x)) ∧ Below w.heap.size w w' := by
  have HR := Lib.hid HA
  have HQ1 := Lib.hid (fun w' h => rBkRight a cap l hl n w' h)
  have HQ2 := Lib.hid (fun w' => rBkOne x n w')
  rw [show rightBk l n = true from decide_eq_true h] at HQ1
  rw [show okB n x = true from decide_eq_true h2] at HQ2
  have g3 : ((l.length : Int) == 16) = false := by simp; omega
  have e16 : ¬ (l.length : Int) = 16 := by omega
  have HM := Lib.hid (fun w' h => rBkMeets a cap l hl x.node x.frm x.til w' h)
  have HE1 : Hid ((∃ c ∈ l, x.id ≤ c.id) → addEk l n x = 31) := Lib.hid (ek_state ⟨h, h2⟩ h3)
  have HE2 : Hid ((¬ ∃ c ∈ l, x.id ≤ c.id) → Meets l x.node x.frm x.til → addEk l n x = 39) := Lib.hid (ek_booked ⟨h, h2⟩ h3)
  have HE3 : Hid ((¬ ∃ c ∈ l, x.id ≤ c.id) → ¬ Meets l x.node x.frm x.til → addEk l n x = 0) := Lib.hid (ek_ok ⟨h, h2⟩ h3)
  generalize addEk l n x = ek at *
  clear HA h h2 h3
  go_enter Try.func7, Try.ntmps7
  go_wp2_with fail
  generalize hw0 : World.alloc w _ = w0
  have hb0 : Below w.heap.size w w0 := by rw [← hw0]; exact (by repeat' (first | exact Below.refl _ _ | assumption | exact And.left (by assumption) | refine Below.drew ?_ | refine below_drewN ?_ _ | refine Below.setCell ?_ (by first | (simp; done) | (simp; omega) | omega) _ | refine Below.alloc ?_ (by first | (simp; done) | (simp; omega) | omega) _ | refine after (by assumption) (by first | (simp; done) | (simp; omega) | omega) ?_))
  have y0 : w0.cell? ⟨w.heap.size, 0, none⟩ = some (.int .i64 x.id) := by rw [← hw0]; simp [go_sem]
  have y1 : w0.cell? ⟨w.heap.size, 1, none⟩ = some (.int .i64 x.node) := by rw [← hw0]; simp [go_sem]
  have y2 : w0.cell? ⟨w.heap.size, 2, none⟩ = some (.int .i64 x.frm) := by rw [← hw0]; simp [go_sem]
  have y3 : w0.cell? ⟨w.heap.size, 3, none⟩ = some (.int .i64 x.til) := by rw [← hw0]; simp [go_sem]
  clear hw0
  refine (HQ1.out w0 (HR.out.later hb0)).mono ?_; rintro e w1 ⟨rfl, hb1⟩
  have k1 := hb0.trans (hb1.mono hb0.size)
  replace y0 := carry hb1 y0
  replace y1 := carry hb1 y1
  replace y2 := carry hb1 y2
  replace y3 := carry hb1 y3
  go_wp2_with fail
  refine (HQ2.out w1).mono ?_; rintro e w2 ⟨rfl, hb2⟩
  have k2 := k1.trans (hb2.mono k1.size)
  replace y0 := carry hb2 y0
  replace y1 := carry hb2 y1
  replace y2 := carry hb2 y2
  replace y3 := carry hb2 y3
  go_wp2
  go_loopw [7] (fun v wr => ∃ k : Nat, k ≤ l.length ∧ v = .int .i64 (k : Int) ∧ Hid (∀ c ∈ l.take k, c.id < x.id) ∧ Below w2.heap.size w2 wr) (fun v _ => l.length - (intOf v).toNat)
  case atStart => exact ⟨0, Nat.zero_le _, rfl, Lib.hid (by simp), Below.refl _ _⟩
  case round =>
    rename World => wr
    obtain ⟨k, hk, rfl, HI, hb⟩ := hrel
    have hz := hb.size
    have kr := k2.trans (hb.mono k2.size)
    have z0 := carry hb y0
    have z1 := carry hb y1
    have z2 := carry hb y2
    have z3 := carry hb y3
    by_cases hlt : k < l.length
    · obtain ⟨b, off, ea, hbl, q0, -⟩ := (HR.out.later kr).row.bk hlt
      subst ea
      have HNX : Hid (l[k].id < x.id → ∀ c ∈ l.take (k + 1), c.id < x.id) := Lib.hid (by
        intro h1 c hc
        rw [take_app l k hlt, List.mem_append, List.mem_singleton] at hc
        rcases hc with hc | rfl
        · exact HI.out c hc
        · exact h1)
      have HIN := Lib.hid (List.getElem_mem hlt)
      clear HI
      have hk0 : (0 : Int) ≤ k := by omega
      have hk1 : (k : Int) < l.length := by omega
      have hkt : ((k : Int)).toNat = k := by omega
      generalize l[k] = s at q0 HNX HIN
      by_cases hx : x.id ≤ s.id
      · have g := decide_eq_true hx
        have E := Lib.hid (HE1.out ⟨s, HIN.out, hx⟩)
        clear hx HNX
        go_wp2_with fail
        go_quiet (fail)
        go_wp2
        go_ret
        exact ⟨by rw [E.out]; rfl, below_drewN kr _⟩
      · have g : decide (x.id ≤ s.id) = false := decide_eq_false hx
        have HX := Lib.hid (HNX.out (by omega))
        clear hx HNX
        go_wp2_with fail
        go_quiet (fail)
        go_wp2
        go_roundw
        case rel => exact ⟨k + 1, by omega, by go_num, HX, below_drewN hb _⟩
        case measure => simp [intOf]; omega
    · have hkl : k = l.length := by omega
      have HN : Hid (¬ ∃ c ∈ l, x.id ≤ c.id) := Lib.hid (by
        rintro ⟨c, hc, hx⟩
        have := HI.out c (by rw [hkl, List.take_length]; exact hc)
        omega)
      have hkn : ¬ ((k : Int) < (l.length : Int)) := by omega
      clear HI hkl
      by_cases hm : Meets l x.node x.frm x.til
      · rw [show meetsB l x.node x.frm x.til = true from decide_eq_true hm] at HM
        have E := Lib.hid (HE2.out HN.out hm)
        clear hm
        go_wp2_with fail
        refine (HM.out _ (HR.out.later kr)).mono ?_; rintro e w4 ⟨rfl, hb4⟩
        go_wp2
        go_ret
        exact ⟨by rw [E.out]; rfl, kr.trans (hb4.mono kr.size)⟩
      · rw [show meetsB l x.node x.frm x.til = false from decide_eq_false hm] at HM
        have E := Lib.hid (HE3.out HN.out hm)
        clear hm
        go_wp2_with fail
        refine (HM.out _ (HR.out.later kr)).mono ?_; rintro e w4 ⟨rfl, hb4⟩
        go_wp2
        go_ret
        exact ⟨by rw [E.out]; rfl, kr.trans (hb4.mono kr.size)⟩
theorem rBkAdd (a : Option Addr) (cap : Nat) (l : List Bk) (hl : l.length ≤ 100000) (n : Int) (x : Bk) (w : World) (HA : BkAt w a cap l) :
    Calls Try.prog 7 #[.slice a l.length cap, .int .i64 n, .agg #[.int .i64 x.id, .int .i64 x.node, .int .i64 x.frm, .int .i64 x.til]] w fun e w' => e = .returned (.int .i64 (addEk l n x)) ∧ Below w.heap.size w w' := by
  by_cases h : RightBk n l
  · by_cases h2 : BkOk n x
    · by_cases h3 : l.length = 16
      · rw [ek_limit ⟨h, h2⟩ h3]; exact rAdd_limit a cap l hl n x w HA h h2 h3
      · exact rAdd_rest a cap l hl n x w HA h h2 h3
    · rw [ek_arg (fun y => h2 y.2)]; exact rAdd_alone a cap l hl n x w HA h h2
  · rw [ek_arg (fun y => h y.1)]; exact rAdd_wrong a cap l hl n x w HA h

set_option maxHeartbeats 1000000 in
theorem rDrop_no (a : Option Addr) (cap : Nat) (l : List Bk) (hl : l.length ≤ 100000) (id : Int) (h : ¬ HasK l id) (w : World) (HA : BkAt w a cap l) :
    Calls Try.prog 11 #[.slice a l.length cap, .int .i64 id] w fun e w' => e = .returned (.tuple #[.slice none 0 0, .bool false]) ∧ Below w.heap.size w w' := by
  have HR := Lib.hid HA
  have HN : Hid (∀ k (hk : k < l.length), (l[k].id == id) = false) := Lib.hid (fun k hk => by
    have : ¬ l[k].id = id := fun e => h ⟨_, List.getElem_mem hk, e⟩
    simpa using this)
  clear HA h
  go_enter Try.func11, Try.ntmps11
  go_wp2
  go_loopw [6] (fun x wr => ∃ k : Nat, k ≤ l.length ∧ x = .int .i64 k ∧ Below w.heap.size w wr) (fun x _ => l.length - (intOf x).toNat)
  case atStart => exact ⟨0, Nat.zero_le _, rfl, (by repeat' (first | exact Below.refl _ _ | assumption | exact And.left (by assumption) | refine Below.drew ?_ | refine below_drewN ?_ _ | refine Below.setCell ?_ (by first | (simp; done) | (simp; omega) | omega) _ | refine Below.alloc ?_ (by first | (simp; done) | (simp; omega) | omega) _ | refine after (by assumption) (by first | (simp; done) | (simp; omega) | omega) ?_))⟩
  case round =>
    obtain ⟨k, hk, rfl, hb⟩ := hrel
    by_cases hlt : k < l.length
    · obtain ⟨b, off, ea, hbl, q0, -⟩ := (HR.out.later hb).row.bk hlt
      subst ea
      have g0 := HN.out k hlt
      generalize l[k] = s at q0 g0
      have h0 : ¬ s.id = id := by simpa using g0
      go_wp2
      go_roundw
      case rel => exact ⟨k + 1, by omega, by go_num, (by repeat' (first | exact Below.refl _ _ | assumption | exact And.left (by assumption) | refine Below.drew ?_ | refine below_drewN ?_ _ | refine Below.setCell ?_ (by first | (simp; done) | (simp; omega) | omega) _ | refine Below.alloc ?_ (by first | (simp; done) | (simp; omega) | omega) _ | refine after (by assumption) (by first | (simp; done) | (simp; omega) | omega) ?_))⟩
      case measure => simp [intOf]; omega
    · have hkl : k = l.length := by omega
      subst hkl
      go_wp2
      go_ret2
      exact ⟨rfl, (by repeat' (first | exact Below.refl _ _ | assumption | exact And.left (by assumption) | refine Below.drew ?_ | refine below_drewN ?_ _ | refine Below.setCell ?_ (by first | (simp; done) | (simp; omega) | omega) _ | refine Below.alloc ?_ (by first | (simp; done) | (simp; omega) | omega) _ | refine after (by assumption) (by first | (simp; done) | (simp; omega) | omega) ?_))⟩
set_option maxHeartbeats 4000000 in
theorem rDrop_yes (a : Option Addr) (cap : Nat) (l : List Bk) (hl : l.length ≤ 100000) (id : Int) (h : HasK l id) (w : World) (HA : BkAt w a cap l) :
    Calls Try.prog 11 #[.slice a l.length cap, .int .i64 id] w fun e w' => ∃ v, e = .returned (.tuple #[v, .bool true]) ∧ w'.ownsRow w.heap.size 24 4 v (dropK id l).length (bksV (dropK id l)) ∧ Below w.heap.size w w' := by
  obtain ⟨i0, hi, hzz, hzs, hzb⟩ := info_parts infoBk
  obtain ⟨k0, hk0, e1, h2, h3⟩ := idx_at (j := 0) h
  have hdr := dropK_at hk0 h2 h3
  clear e1
  obtain ⟨b, off, ea, -⟩ := HA.row.bk hk0
  subst ea
  have HR := Lib.hid HA
  have HN : Hid (∀ k (hk : k < k0), (l[k].id == id) = false) := Lib.hid (fun k hk => by simpa using h2 k hk)
  have HY : Hid ((l[k0].id == id) = true) := Lib.hid (by simpa using h3)
  have HFIN : Hid (∀ (v : Value) (w' : World), w'.ownsRow w.heap.size 24 4 v (k0 + (l.length - (k0 + 1))) (bksV (l.take k0) ++ bksV (l.drop (k0 + 1))) → w'.ownsRow w.heap.size 24 4 v (dropK id l).length (bksV (dropK id l))) := Lib.hid (fun v w' h => by
    rw [hdr, show (l.take k0 ++ l.drop (k0 + 1)).length = k0 + (l.length - (k0 + 1)) by simp; omega, bksV_app]; exact h)
  have HX1 : Hid ((bksV (l.take k0)).length = k0 * 4) := Lib.hid (by rw [bksV_len, List.length_take]; congr 1; omega)
  have HX2 : Hid ((bksV (l.drop (k0 + 1))).length = (l.length - (k0 + 1)) * 4) := Lib.hid (by rw [bksV_len, List.length_drop])
  have HD : Hid (RowAt w (some ⟨b, off + (k0 + 1) * 4, none⟩) (bksV (l.drop (k0 + 1)))) := Lib.hid (HA.from (k := k0 + 1) (by omega)).row
  have HC : Hid (l.length ≤ cap) := Lib.hid HA.le
  clear HA h h2 h3 hdr
  go_enter Try.func11, Try.ntmps11
  go_wp2
  go_loopw [6] (fun x wr => ∃ k : Nat, k ≤ k0 ∧ x = .int .i64 k ∧ Below w.heap.size w wr) (fun x _ => l.length - (intOf x).toNat)
  case atStart => exact ⟨0, Nat.zero_le _, rfl, (by repeat' (first | exact Below.refl _ _ | assumption | exact And.left (by assumption) | refine Below.drew ?_ | refine below_drewN ?_ _ | refine Below.setCell ?_ (by first | (simp; done) | (simp; omega) | omega) _ | refine Below.alloc ?_ (by first | (simp; done) | (simp; omega) | omega) _ | refine after (by assumption) (by first | (simp; done) | (simp; omega) | omega) ?_))⟩
  case round =>
    obtain ⟨k, hk, rfl, hb⟩ := hrel
    have hlt : k < l.length := by omega
    have hltI : (k : Int) < l.length := by omega
    by_cases hkk : k < k0
    · obtain ⟨b', off', ea, hbl, q0, -⟩ := (HR.out.later hb).row.bk hlt
      simp only [Option.some.injEq, Addr.mk.injEq, and_true] at ea
      obtain ⟨rfl, rfl⟩ := ea
      have g0 := HN.out k hkk
      generalize l[k] = s at q0 g0
      have h0 : ¬ s.id = id := by simpa using g0
      go_wp2
      go_roundw
      case rel => exact ⟨k + 1, by omega, by go_num, (by repeat' (first | exact Below.refl _ _ | assumption | exact And.left (by assumption) | refine Below.drew ?_ | refine below_drewN ?_ _ | refine Below.setCell ?_ (by first | (simp; done) | (simp; omega) | omega) _ | refine Below.alloc ?_ (by first | (simp; done) | (simp; omega) | omega) _ | refine after (by assumption) (by first | (simp; done) | (simp; omega) | omega) ?_))⟩
      case measure => simp [intOf]; omega
    · have hke : k = k0 := by omega
      subst hke
      obtain ⟨b', off', ea, hbl, q0, -⟩ := (HR.out.later hb).row.bk hlt
      simp only [Option.some.injEq, Addr.mk.injEq, and_true] at ea
      obtain ⟨rfl, rfl⟩ := ea
      have g0 := HY.out
      clear HN HY hkk
      generalize l[k] = s at q0 g0
      have h0 : s.id = id := by simpa using g0
      have hz := hb.size
      have hwk : IntKind.i64.wrap ((k : Int) + 1) = (k : Int) + 1 := IntWalk.i64_in _ (by omega)
      have hkc : (k : Int) ≤ cap := by have := HC.out; omega
      have hks : ((k : Int) + 1).toNat = k + 1 := by omega
      have hk2 : (0 : Int) ≤ (k : Int) + 1 := by omega
      have hkl : (k : Int) + 1 ≤ l.length := by omega
      have hkl2 : k + 1 ≤ l.length := by omega
      have hkt : ((k : Int)).toNat = k := by omega
      have hkp : (0 : Int) ≤ k := by omega
      go_wp2_with (at_builtin; refine pushBig (.tmp 21) (.tmp 24) 22 24 4 32 _ i0 Try.underlying22 hi hzz hzs hzb rfl (by decide) (by decide) w.heap.size w.heap.size 0 k cap [] (bksV (l.take k)) _ ⟨b, off, none⟩ w _ rfl rfl rfl rfl HX1.out (World.ownsRow_nil _ _ _ _) ((HR.out.take k).row.later hb) hb (Nat.le_refl _) hz (bksV_cells _) (by omega) ?_)
      intro v1 w1 hO1 hb1 _
      have HO1 : Hid (w1.ownsRow w.heap.size 24 4 v1 k (bksV (l.take k))) := Lib.hid (by simpa using hO1)
      clear hO1
      by_cases hcp : cap = k + 1
      · have hle : l.length - (k + 1) = 0 := by have := HC.out; omega
        have HX0 : Hid (bksV (l.drop (k + 1)) = []) := Lib.hid (List.eq_nil_of_length_eq_zero (by rw [HX2.out, hle]))
        clear hle
        subst hcp
        go_wp2_with (at_builtin; refine pushBig (.tmp 26) (.tmp 30) 22 24 4 32 _ i0 Try.underlying22 hi hzz hzs hzb rfl (by decide) (by decide) w.heap.size w.heap.size k (l.length - (k + 1)) _ (bksV (l.take k)) (bksV (l.drop (k + 1))) _ ⟨b, off, none⟩ w _ rfl rfl rfl rfl HX2.out HO1.out (.inl HX0.out) hb1 (Nat.le_refl _) hb1.size (bksV_cells _) (by omega) ?_)
        intro v2 w2 hO2 hb2 _
        have HO2 := Lib.hid (HFIN.out _ _ hO2)
        clear hO2
        go_wp2
        go_ret2
        exact ⟨_, rfl, HO2.out, hb2⟩
      · have hce : ¬ cap = k + 1 := hcp
        go_wp2_with (at_builtin; refine pushBig (.tmp 26) (.tmp 30) 22 24 4 32 _ i0 Try.underlying22 hi hzz hzs hzb rfl (by decide) (by decide) w.heap.size w.heap.size k (l.length - (k + 1)) (cap - (k + 1)) (bksV (l.take k)) (bksV (l.drop (k + 1))) _ ⟨b, off + (k + 1) * 4, none⟩ w _ rfl rfl rfl rfl HX2.out HO1.out (HD.out.later hb1) hb1 (Nat.le_refl _) hb1.size (bksV_cells _) (by omega) ?_)
        intro v2 w2 hO2 hb2 _
        have HO2 := Lib.hid (HFIN.out _ _ hO2)
        clear hO2
        go_wp2
        go_ret2
        exact ⟨_, rfl, HO2.out, hb2⟩

theorem bk_first {a b : Bk} (h : ¬ a = b) : (a.id == b.id) = false ∨ ((a.id == b.id) = true ∧ (a.node == b.node) = false) ∨ ((a.id == b.id) = true ∧ (a.node == b.node) = true ∧ (a.frm == b.frm) = false) ∨
    ((a.id == b.id) = true ∧ (a.node == b.node) = true ∧ (a.frm == b.frm) = true ∧ (a.til == b.til) = false) := by
  by_cases h0 : a.id = b.id
  · by_cases h1 : a.node = b.node
    · by_cases h2 : a.frm = b.frm
      · by_cases h3 : a.til = b.til
        · exact absurd (Bk.ext' h0 h1 h2 h3) h
        · simp [h0, h1, h2, h3]
      · simp [h0, h1, h2]
    · simp [h0, h1]
  · simp [h0]
theorem take_next {α : Type} {x y : List α} {k : Nat} (h : x.take k = y.take k) (hx : k < x.length) (hy : k < y.length) (e : x[k] = y[k]) : x.take (k + 1) = y.take (k + 1) := by
  rw [take_app x k hx, take_app y k hy, h, e]
set_option maxHeartbeats 2000000 in
theorem rBkSame (a b : Option Addr) (ca cb : Nat) (x y : List Bk) (hx : x.length ≤ 100000) (hy : y.length ≤ 100000) (w : World) (ha : BkAt w a ca x) (hb : BkAt w b cb y) :
    Calls Try.prog 9 #[.slice a x.length ca, .slice b y.length cb] w fun e w' => e = .returned (.bool (decide (x = y))) ∧ Below w.heap.size w w' := by
  by_cases hl : x.length = y.length
  · have HA := Lib.hid ha
    have HB := Lib.hid hb
    have HL := Lib.hid hl
    clear ha hb
    rw [← hl]
    clear hl hy
    go_enter Try.func9, Try.ntmps9
    go_wp2
    go_loopw [5] (fun i wr => ∃ k : Nat, k ≤ x.length ∧ i = .int .i64 (k : Int) ∧ Hid (x.take k = y.take k) ∧ Below w.heap.size w wr) (fun i _ => x.length - (intOf i).toNat)
    case atStart => exact ⟨0, Nat.zero_le _, rfl, Lib.hid rfl, Below.refl _ _⟩
    case round =>
      obtain ⟨k, hk, rfl, HE, hbw⟩ := hrel
      by_cases hlt : k < x.length
      · have hlt2 : k < y.length := by have := HL.out; omega
        obtain ⟨b1, o1, e1, _, c0, c1, c2, c3⟩ := (HA.out.later hbw).row.bk hlt
        obtain ⟨b2, o2, e2, _, d0, d1, d2, d3⟩ := (HB.out.later hbw).row.bk hlt2
        have HT : Hid (x[k] = y[k] → x.take (k + 1) = y.take (k + 1)) := Lib.hid (fun e => take_next HE.out hlt hlt2 e)
        have HF := Lib.hid (fun (e : ¬ x[k] = y[k]) => (decide_eq_false (fun (h : x = y) => e (by subst h; rfl)) : decide (x = y) = false))
        have E1 := Lib.hid e1
        have E2 := Lib.hid e2
        clear e1 e2
        generalize x[k] = p at c0 c1 c2 c3 HT HF
        generalize y[k] = r at d0 d1 d2 d3 HT HF
        clear hlt2
        obtain rfl := E1.out
        obtain rfl := E2.out
        by_cases he : p = r
        · subst he
          have HT2 := Lib.hid (HT.out rfl)
          clear HT HF
          go_wp2_with fail
          go_quiet (fail)
          go_wp2
          go_roundw
          case rel => exact ⟨k + 1, by omega, by go_num, HT2, (by repeat' (first | exact Below.refl _ _ | assumption | exact And.left (by assumption) | refine Below.drew ?_ | refine below_drewN ?_ _ | refine Below.setCell ?_ (by first | (simp; done) | (simp; omega) | omega) _ | refine Below.alloc ?_ (by first | (simp; done) | (simp; omega) | omega) _ | refine after (by assumption) (by first | (simp; done) | (simp; omega) | omega) ?_))⟩
          case measure => simp [intOf]; omega
        · have HD := Lib.hid (HF.out he)
          have key := bk_first he
          clear he HT HF
          rcases key with h1 | ⟨h1, h2⟩ | ⟨h1, h2, h3⟩ | ⟨h1, h2, h3, h4⟩
          all_goals
            go_wp2_with fail
            go_quiet (fail)
            go_wp2
            go_ret
            exact ⟨by rw [HD.out]; rfl, (by repeat' (first | exact Below.refl _ _ | assumption | exact And.left (by assumption) | refine Below.drew ?_ | refine below_drewN ?_ _ | refine Below.setCell ?_ (by first | (simp; done) | (simp; omega) | omega) _ | refine Below.alloc ?_ (by first | (simp; done) | (simp; omega) | omega) _ | refine after (by assumption) (by first | (simp; done) | (simp; omega) | omega) ?_))⟩
      · have hkl : k = x.length := by omega
        subst hkl
        have HD : Hid (decide (x = y) = true) := Lib.hid (decide_eq_true (by
          have h1 := HE.out
          have h2 := HL.out
          rw [List.take_length] at h1
          rw [h1, List.take_of_length_le (by omega)]))
        go_wp2
        go_ret
        exact ⟨by rw [HD.out]; rfl, hbw⟩
  · have HD : Hid (decide (x = y) = false) := Lib.hid (decide_eq_false (fun e => hl (by rw [e])))
    have h1 : ¬ ((x.length : Int) = (y.length : Int)) := by omega
    have h2 : ((x.length : Int) == (y.length : Int)) = false := by simpa using h1
    have h3 : ((x.length : Int) != (y.length : Int)) = true := by simpa using h1
    clear hl ha hb
    go_enter Try.func9, Try.ntmps9
    go_wp2
    go_ret
    exact ⟨by rw [HD.out]; rfl, (by repeat' (first | exact Below.refl _ _ | assumption | exact And.left (by assumption) | refine Below.drew ?_ | refine below_drewN ?_ _ | refine Below.setCell ?_ (by first | (simp; done) | (simp; omega) | omega) _ | refine Below.alloc ?_ (by first | (simp; done) | (simp; omega) | omega) _ | refine after (by assumption) (by first | (simp; done) | (simp; omega) | omega) ?_))⟩
end Go.Proofs.Ytkkjbmedpdjgdaa.W
