/-
  Several texts in one: PnAwake, PnFew, VecRef, PlRef.
-/
import Derived.Test.YtcdajfiohhbdgaaJ46
import Derived.Test.YtcdajfiohhbdgaaOrders
import Derived.Deep.QuietTactic
import Derived.BigQuiet
import Derived.StillTailTactics
import Derived.Test.YtcdajfiohhbdgaaPlMem

/-
  The chapter's example; a world in a block, and whether it is small.
-/
namespace Go.Proofs.Ytcdajfiohhbdgaa.W
set_option maxRecDepth 100000
set_option linter.unusedVariables false
set_option linter.unusedSimpArgs false
open Go.ChangeShapes Go.WideShapes Go.ChangeAt Go.RowKit

def awRun (b : Nat) : RnM := ⟨some ⟨b, 0, none⟩, 1, ⟨5, ⟨3, 0, 0, 0⟩, [⟨0, 1⟩]⟩⟩
def awBk : Bk := ⟨1, 1, 0, 9⟩
def awG : FL := [[⟨0, ⟨1, 8, 0, 1⟩⟩, ⟨5, ⟨4, 8, 0, 1⟩⟩], [⟨0, ⟨0, 0, 0, 0⟩⟩, ⟨9, ⟨8, 8, 1, 0⟩⟩]]
theorem aw_args (nb p1 p2 pb ub qb b : Nat) : ArgsNew (smallP nb p1 p2 pb ub qb) 0 [awRun b] [awBk] :=
  ⟨of_decide_eq_true (smallP_right nb p1 p2 pb ub qb), by omega, of_decide_eq_true (by kernel_rfl), fun x hx => by
    simp at hx; subst hx
    exact of_decide_eq_true (by kernel_rfl)⟩
theorem aw_plan (nb p1 p2 pb ub qb b : Nat) : planF 0 (smallP nb p1 p2 pb ub qb).nodes ([awRun b].map RnM.r) [awBk] = some awG := by kernel_rfl
theorem prOk_of {s : S} {now : Int} {R : List RnM} {B : List Bk} {F : List Stl} (ha : ArgsNew s now R B) (hp : planF now s.nodes (R.map RnM.r) B = some (flOf F)) (hl : LenLe (flOf F) (40 + 80 * R.length)) (hR : R.length ≤ 12) : PrOk s now F ∧ (∀ k, k < s.nodes.length → ∀ u, now ≤ u → frL (flOf F) k u = frOf s.nodes (R.map RnM.r) B k u) ∧ ValidFr s.nodes.length now s.nodes (R.map RnM.r) B := by
  obtain ⟨h0, ⟨h1, h2⟩, h3, h4⟩ := ha
  obtain ⟨⟨_, n3⟩, _⟩ := right_is h0
  obtain ⟨_, k1, _⟩ := planF_ok (runs := R.map RnM.r) h1 (by omega) n3 h3 (fun r hr => by obtain ⟨x, hx, rfl⟩ := List.mem_map.1 hr; exact h4 x hx)
  obtain ⟨k2, k3, k4, k5⟩ := k1 _ hp
  rw [flOf_len] at k3
  exact ⟨⟨h0, ⟨h1, h2⟩, k3, k2, fun l hl' => by have := hl l hl'; omega⟩, k4, k5⟩
theorem earl_is {s : S} {now : Int} {F : List Stl} {part many : Int} {need : V} {wall : Int} {w w' : World} {e : Ending} {t : Int} (h : EarlPost s now F part many need wall w e w') (hf : First (frL (flOf F)) F.length now (wtOf s part many need wall) (some t)) :
    Below w.heap.size w w' ∧ ∃ a c, e = .returned (.tuple #[.agg #[.int .i64 0, .int .i64 t, .slice a (placeS (lowsL (frL (flOf F)) F.length t wall) (partOf s part) many need).length c], .bool true]) := by
  obtain ⟨hb, ⟨h1, _⟩ | ⟨t', a, c, h1, h2, _⟩⟩ := h
  · cases first_uniq h1 hf
  · injection first_uniq h1 hf with e; subst e
    exact ⟨hb, a, c, h2⟩
theorem aw_first (nb p1 p2 pb ub qb : Nat) {F : List Stl} (hok : PrOk (smallP nb p1 p2 pb ub qb) 0 F) (hG : flOf F = awG) :
    First (frL (flOf F)) F.length 0 (wtOf (smallP nb p1 p2 pb ub qb) 0 1 ⟨2, 0, 0, 0⟩ 3) (some 5) ∧ First (frL (flOf F)) F.length 0 (wtOf (smallP nb p1 p2 pb ub qb) 0 1 ⟨1, 0, 0, 0⟩ 3) (some 0) := by
  have hr : RiseN (flOf F).length (-1) (partOf (smallP nb p1 p2 pb ub qb) 0) := by
    rw [flOf_len, hok.len]
    exact partOf_rise hok.right 0 (by unfold PartOk; simp [smallP])
  have hT : risesF (flOf F) (partOf (smallP nb p1 p2 pb ub qb) 0) = [5, 9] := by rw [hG]; kernel_rfl
  constructor
  · have h5 := (when_may hok 0 1 ⟨2, 0, 0, 0⟩ 3 5).1.1 (by rw [hG]; kernel_rfl)
    have h0 : ¬ May (frL (flOf F)) F.length 0 (wtOf (smallP nb p1 p2 pb ub qb) 0 1 ⟨2, 0, 0, 0⟩ 3) 0 := fun x => by
      have e : whenB (smallP nb p1 p2 pb ub qb) 0 awG 0 1 ⟨2, 0, 0, 0⟩ 3 0 = false := by kernel_rfl
      have := (when_may hok 0 1 ⟨2, 0, 0, 0⟩ 3 0).1.2 x
      rw [hG, e] at this
      cases this
    have key := (first_rise hok.ok (x := wtOf (smallP nb p1 p2 pb ub qb) 0 1 ⟨2, 0, 0, 0⟩ 3) hr (T := [5, 9]) (fun y => by show _ ↔ y ∈ risesF (flOf F) (partOf (smallP nb p1 p2 pb ub qb) 0); rw [hT])).1 5 (by rw [flOf_len]; exact h5) (fun s hs hlt => by
      rcases hs with rfl | hs
      · rw [flOf_len]; exact h0
      · simp at hs; omega)
    rw [flOf_len] at key
    exact key
  · have h0 := (when_may hok 0 1 ⟨1, 0, 0, 0⟩ 3 0).1.1 (by rw [hG]; kernel_rfl)
    exact ⟨h0, fun s hs hm => by have := hm.2.1; omega⟩
set_option maxHeartbeats 4000000 in
theorem awake13 (w : World) : Calls Try.prog 6 #[] w fun e w' => e = .returned (.bool true) ∧ Below w.heap.size w w' := by
  go_enter Try.func6, Try.ntmps6
  go_wp2_with fail
  refine (rSmall _).mono ?_; rintro e w1 ⟨nb, p1, p2, pb, ub, qb, rfl, hb1, hr1⟩
  have hss := smallP_small nb p1 p2 pb ub qb
  have HARG := Lib.hid (fun b => aw_args nb p1 p2 pb ub qb b)
  have HPLN := Lib.hid (fun b => aw_plan nb p1 p2 pb ub qb b)
  have HFST := Lib.hid (fun (F : List Stl) hok hG => aw_first nb p1 p2 pb ub qb (F := F) hok hG)
  generalize smallP nb p1 p2 pb ub qb = s at hr1 hss HARG HPLN HFST ⊢
  have HR := Lib.hid hr1
  have HNEW := Lib.hid (fun (b : Nat) (ra ba : Option Addr) (w' : World) h1 h2 h3 => pNew s hss 0 ra 1 [awRun b] (by simp) (fun x hx => by simp at hx; subst hx; simp [awRun]) ba 1 [awBk] (by simp) w' h1 h2 h3)
  have hgz : (w1.alloc (.cells #[.slice none 0 0, .slice none 0 0, .slice none 0 0, .int .i64 0, .int .i64 0, .int .i64 0, .int .i64 0, .int .i64 0, .int .i64 0, .int .i64 0, .int .i64 0, .int .i64 0, .int .i64 0, .int .i64 0, .int .i64 0, .int .i64 0, .int .i64 0, .int .i64 0] 28)).heap[w1.heap.size]? = some (.cells #[.slice none 0 0, .slice none 0 0, .slice none 0 0, .int .i64 0, .int .i64 0, .int .i64 0, .int .i64 0, .int .i64 0, .int .i64 0, .int .i64 0, .int .i64 0, .int .i64 0, .int .i64 0, .int .i64 0, .int .i64 0, .int .i64 0, .int .i64 0, .int .i64 0] 28 (0, 0)) := heap_alloc_new _ _
  have HGZ := Lib.hid hgz
  clear hr1 hgz
  go_upto_region 2 with ((refine wpList_store_row rfl 28 (.tmp 1) (.tmp 8) rfl w1.heap.size _ rfl rfl 28 #[.slice none 0 0, .slice none 0 0, .slice none 0 0, .int .i64 0, .int .i64 0, .int .i64 0, .int .i64 0, .int .i64 0, .int .i64 0, .int .i64 0, .int .i64 0, .int .i64 0, .int .i64 0, .int .i64 0, .int .i64 0, .int .i64 0, .int .i64 0, .int .i64 0] HGZ.out (by kernel_rfl) (by simp) (by simp [Value.oneCell']) ?_; generalize hw2 : World.setRow _ _ _ = w2))
  have hb2 : Below w1.heap.size w1 w2 := by rw [← hw2]; exact below_setRow ((Below.refl _ _).alloc (Nat.le_refl _) _) (Nat.le_refl _) _
  have HBX : Hid (Box w2 w1.heap.size s) := Lib.hid (box_blk (by rw [← hw2]; exact setRow_heap _ _ _ _ _ _ HGZ.out))
  clear hw2
  have k2 := hb1.trans (hb2.mono hb1.size)
  have HR2 := Lib.hid (HR.out.later hb2)
  generalize w1.heap.size = sb at HBX ⊢
  clear HGZ
  go_wp2_with (refine wpList_load_box (s := s) rfl (.tmp 1) rfl rfl HBX.out ?_)
  generalize hw3 : World.alloc (World.alloc (World.alloc w2 _) _) _ = w3
  have hb3 : Below w2.heap.size w2 w3 := by rw [← hw3]; exact (by repeat' (first | exact Below.refl _ _ | assumption | exact And.left (by assumption) | refine Below.drew ?_ | refine below_drewN ?_ _ | refine Below.setCell ?_ (by first | (simp; done) | (simp; omega) | omega) _ | refine Below.alloc ?_ (by first | (simp; done) | (simp; omega) | omega) _ | refine after (by assumption) (by first | (simp; done) | (simp; omega) | omega) ?_))
  have HRN : Hid (RnAt w3 (some ⟨w2.heap.size + 1, 0, none⟩) [awRun w2.heap.size]) := Lib.hid (by
    rw [← hw3]
    refine ⟨row_blk (t := 63) (blk_up (blk_top (by simp))) (by rfl), fun x hx => ?_⟩
    simp at hx; subst hx
    exact row_blk (t := 51) (blk_up (blk_up (blk_top rfl))) (by rfl))
  have HBK : Hid (BkAt w3 (some ⟨w2.heap.size + 1 + 1, 0, none⟩) 1 [awBk]) := Lib.hid (by
    rw [← hw3]
    exact ⟨row_blk (t := 65) (blk_top (by simp)) (by rfl), Nat.le_refl _, fun h => by cases h⟩)
  have HR3 := Lib.hid (HR2.out.later hb3)
  have k3 := k2.trans (hb3.mono k2.size)
  clear hw3
  refine (HNEW.out w2.heap.size (some ⟨w2.heap.size + 1, 0, none⟩) (some ⟨w2.heap.size + 1 + 1, 0, none⟩) w3 HR3.out HRN.out HBK.out).mono ?_
  rintro e w4 ⟨hb4, ⟨E, hE, _, hno⟩ | ⟨g, fa, fc, F, rfl, hg, hpr, harg, hpl, hln⟩⟩
  · exact absurd ⟨HARG.out _, _, HPLN.out _⟩ hno
  · have k4 := k3.trans (hb4.mono k3.size)
    obtain ⟨hok, _, _⟩ := prOk_of harg hpl hln (by simp)
    have hG : flOf F = awG := by
      have := HPLN.out w2.heap.size
      rw [hpl] at this
      injection this
    obtain ⟨hf1, hf2⟩ := HFST.out F hok hG
    have HR4 := Lib.hid (HR3.out.later hb4)
    have HP4 := Lib.hid hpr
    have HE1 := Lib.hid (fun (w' : World) h1 h2 => (pEarliest g s 0 fa fc F hok 0 1 (by decide) ⟨2, 0, 0, 0⟩ 3 w' h1 h2).mono fun e w'' h => earl_is h hf1)
    have HE2 := Lib.hid (fun (w' : World) h1 h2 => (pEarliest g s 0 fa fc F hok 0 1 (by decide) ⟨1, 0, 0, 0⟩ 3 w' h1 h2).mono fun e w'' h => earl_is h hf2)
    clear hpr harg hpl hln hok hG hf1 hf2 HARG HPLN HFST HNEW hss HBX
    go_wp2_with fail
    refine (HE1.out w4 HP4.out HR4.out).mono ?_; rintro e w5 ⟨hb5, a5, c5, rfl⟩
    have k5 := k4.trans (hb5.mono k4.size)
    have HR5 := Lib.hid (HR4.out.later hb5)
    have HP5 := Lib.hid (HP4.out.later hb5)
    generalize (placeS (lowsL (frL (flOf F)) F.length 5 3) (partOf s 0) 1 ⟨2, 0, 0, 0⟩).length = l5
    go_upto_region 4 with fail
    generalize hw6 : World.alloc w5 _ = w6
    have hb6 : Below w5.heap.size w5 w6 := by rw [← hw6]; exact (by repeat' (first | exact Below.refl _ _ | assumption | exact And.left (by assumption) | refine Below.drew ?_ | refine below_drewN ?_ _ | refine Below.setCell ?_ (by first | (simp; done) | (simp; omega) | omega) _ | refine Below.alloc ?_ (by first | (simp; done) | (simp; omega) | omega) _ | refine after (by assumption) (by first | (simp; done) | (simp; omega) | omega) ?_))
    have z1 : w6.cell? ⟨w5.heap.size, 1, none⟩ = some (.int .i64 5) := by rw [← hw6]; simp [go_sem]
    clear hw6
    have k6 := k5.trans (hb6.mono k5.size)
    have HR6 := Lib.hid (HR5.out.later hb6)
    have HP6 := Lib.hid (HP5.out.later hb6)
    generalize w5.heap.size = z5 at z1 ⊢
    go_wp2_with fail
    refine (HE2.out w6 HP6.out HR6.out).mono ?_; rintro e w7 ⟨hb7, a7, c7, rfl⟩
    have k7 := k6.trans (hb7.mono k6.size)
    replace z1 := carry hb7 z1
    generalize (placeS (lowsL (frL (flOf F)) F.length 0 3) (partOf s 0) 1 ⟨1, 0, 0, 0⟩).length = l7
    clear HE1 HE2 HP6 HR6 HP5 HR5 HP4 HR4
    go_upto_region 5 with fail
    generalize hw8 : World.alloc w7 _ = w8
    have hb8 : Below w7.heap.size w7 w8 := by rw [← hw8]; exact (Below.refl _ _).alloc (Nat.le_refl _) _
    have y1 : w8.cell? ⟨w7.heap.size, 1, none⟩ = some (.int .i64 0) := by rw [← hw8]; simp [go_sem]
    clear hw8
    have k8 := k7.trans (hb8.mono k7.size)
    replace z1 := carry hb8 z1
    generalize w7.heap.size = z7 at y1 ⊢
    clear hb8 hb7 hb6 hb5 hb4 hb3 hb2 hb1 k2 k3 k4 k5 k6 k7
    go_wp2
    go_ret
    exact ⟨rfl, k8⟩
end Go.Proofs.Ytcdajfiohhbdgaa.W


/-
  A world in a block, and whether it is small.
-/
namespace Go.Proofs.Ytcdajfiohhbdgaa.W
set_option maxRecDepth 100000
set_option linter.unusedVariables false
set_option linter.unusedSimpArgs false
open Go.ChangeShapes Go.WideShapes Go.ChangeAt Go.RowKit

/-- a world in a block -/
structure WdBox (w : World) (g : Nat) (s : S) (now : Int) (ra : Option Addr) (rn rc : Nat) (ba : Option Addr) (bn bc : Nat) : Prop where
  box : Box w g s
  c18 : w.cell? ⟨g, 18, none⟩ = some (.int .i64 now)
  c19 : w.cell? ⟨g, 19, none⟩ = some (.slice ra rn rc)
  c20 : w.cell? ⟨g, 20, none⟩ = some (.slice ba bn bc)
theorem WdBox.later {w w' : World} {g : Nat} {s : S} {now : Int} {ra : Option Addr} {rn rc : Nat} {ba : Option Addr} {bn bc : Nat} (h : WdBox w g s now ra rn rc ba bn bc) (hb : Below w.heap.size w w') : WdBox w' g s now ra rn rc ba bn bc :=
  ⟨h.box.later hb, carry hb h.c18, carry hb h.c19, carry hb h.c20⟩
theorem WdBox.of {w : World} {g : Nat} {s : S} {now : Int} {ra : Option Addr} {rn rc : Nat} {ba : Option Addr} {bn bc : Nat} {t : TypeId} (h : w.heap[g]? = some (.cells #[.slice s.na s.nodes.length s.nc, .slice s.pa s.parts.length s.pc, .slice s.qa s.queues.length s.qc, .int .i64 s.users, .int .i64 s.age, .int .i64 s.size, .int .i64 s.qos, .int .i64 s.share, .int .i64 s.decay, .int .i64 s.mode, .int .i64 s.jobs, .int .i64 s.ids, .int .i64 s.versions, .int .i64 s.linger, .int .i64 s.keep, .int .i64 s.inn, .int .i64 s.out, .int .i64 s.cache, .int .i64 now, .slice ra rn rc, .slice ba bn bc] t (0, 0))) : WdBox w g s now ra rn rc ba bn bc :=
  ⟨⟨blk_cell h 0 (by simp), blk_cell h 1 (by simp), blk_cell h 2 (by simp), blk_cell h 3 (by simp), blk_cell h 4 (by simp), blk_cell h 5 (by simp), blk_cell h 6 (by simp), blk_cell h 7 (by simp), blk_cell h 8 (by simp), blk_cell h 9 (by simp), blk_cell h 10 (by simp), blk_cell h 11 (by simp), blk_cell h 12 (by simp), blk_cell h 13 (by simp), blk_cell h 14 (by simp), blk_cell h 15 (by simp), blk_cell h 16 (by simp), blk_cell h 17 (by simp)⟩, blk_cell h 18 (by simp), blk_cell h 19 (by simp), blk_cell h 20 (by simp)⟩
theorem WdBox.range {w : World} {g : Nat} {s : S} {now : Int} {ra : Option Addr} {rn rc : Nat} {ba : Option Addr} {bn bc : Nat} (h : WdBox w g s now ra rn rc ba bn bc) : w.rangeAt g 0 [.slice s.na s.nodes.length s.nc, .slice s.pa s.parts.length s.pc, .slice s.qa s.queues.length s.qc, .int .i64 s.users, .int .i64 s.age, .int .i64 s.size, .int .i64 s.qos, .int .i64 s.share, .int .i64 s.decay, .int .i64 s.mode, .int .i64 s.jobs, .int .i64 s.ids, .int .i64 s.versions, .int .i64 s.linger, .int .i64 s.keep, .int .i64 s.inn, .int .i64 s.out, .int .i64 s.cache, .int .i64 now, .slice ra rn rc, .slice ba bn bc] := fun j v hv => by
  rw [Nat.zero_add]
  match j, hv with
  | 0, hv => cases hv; exact h.box.c0
  | 1, hv => cases hv; exact h.box.c1
  | 2, hv => cases hv; exact h.box.c2
  | 3, hv => cases hv; exact h.box.c3
  | 4, hv => cases hv; exact h.box.c4
  | 5, hv => cases hv; exact h.box.c5
  | 6, hv => cases hv; exact h.box.c6
  | 7, hv => cases hv; exact h.box.c7
  | 8, hv => cases hv; exact h.box.c8
  | 9, hv => cases hv; exact h.box.c9
  | 10, hv => cases hv; exact h.box.c10
  | 11, hv => cases hv; exact h.box.c11
  | 12, hv => cases hv; exact h.box.c12
  | 13, hv => cases hv; exact h.box.c13
  | 14, hv => cases hv; exact h.box.c14
  | 15, hv => cases hv; exact h.box.c15
  | 16, hv => cases hv; exact h.box.c16
  | 17, hv => cases hv; exact h.box.c17
  | 18, hv => cases hv; exact h.c18
  | 19, hv => cases hv; exact h.c19
  | 20, hv => cases hv; exact h.c20
  | n + 21, hv => simp at hv
theorem wpList_load_wd {ops : Array Oper} {rest : List Oper} {o : Oper} {a : Act} {w : World} {Q : Exit → Act → World → Prop} {g : Nat} {s : S} {now : Int} {ra : Option Addr} {rn rc : Nat} {ba : Option Addr} {bn bc : Nat} (hgd : o.guard = none) (x : Operand) (ho : o.op = .load 32 x)
    (hx : a.eval x = .pointer (some ⟨g, 0, none⟩)) (hb : WdBox w g s now ra rn rc ba bn bc) (h : wpList Try.prog ops Q rest (a.put o.dst (.agg #[.slice s.na s.nodes.length s.nc, .slice s.pa s.parts.length s.pc, .slice s.qa s.queues.length s.qc, .int .i64 s.users, .int .i64 s.age, .int .i64 s.size, .int .i64 s.qos, .int .i64 s.share, .int .i64 s.decay, .int .i64 s.mode, .int .i64 s.jobs, .int .i64 s.ids, .int .i64 s.versions, .int .i64 s.linger, .int .i64 s.keep, .int .i64 s.inn, .int .i64 s.out, .int .i64 s.cache, .int .i64 now, .slice ra rn rc, .slice ba bn bc])) w) : wpList Try.prog ops Q (o :: rest) a w :=
  wpList_load_mid hgd 32 x ho g 0 hx [.slice s.na s.nodes.length s.nc, .slice s.pa s.parts.length s.pc, .slice s.qa s.queues.length s.qc, .int .i64 s.users, .int .i64 s.age, .int .i64 s.size, .int .i64 s.qos, .int .i64 s.share, .int .i64 s.decay, .int .i64 s.mode, .int .i64 s.jobs, .int .i64 s.ids, .int .i64 s.versions, .int .i64 s.linger, .int .i64 s.keep, .int .i64 s.inn, .int .i64 s.out, .int .i64 s.cache, .int .i64 now, .slice ra rn rc, .slice ba bn bc] _ hb.range Try.underlying32 rfl (by kernel_rfl) h
def FewW (s : S) (R : List RnM) (B : List Bk) : Prop := Few s ∧ R.length ≤ 12 ∧ B.length ≤ 20 ∧ ∀ x ∈ R, x.r.sh.length ≤ 40
instance (s : S) (R : List RnM) (B : List Bk) : Decidable (FewW s R B) := by unfold FewW; infer_instance
def fewW (s : S) (R : List RnM) (B : List Bk) : Bool := decide (FewW s R B)
set_option maxHeartbeats 8000000 in
theorem few13 (s : S) (now : Int) (ra : Option Addr) (rc : Nat) (R : List RnM) (ba : Option Addr) (bc : Nat) (B : List Bk) (w : World) (HS : Rows w s) (HA : RnAt w ra R) :
    Calls Try.prog 7 #[.agg #[.slice s.na s.nodes.length s.nc, .slice s.pa s.parts.length s.pc, .slice s.qa s.queues.length s.qc, .int .i64 s.users, .int .i64 s.age, .int .i64 s.size, .int .i64 s.qos, .int .i64 s.share, .int .i64 s.decay, .int .i64 s.mode, .int .i64 s.jobs, .int .i64 s.ids, .int .i64 s.versions, .int .i64 s.linger, .int .i64 s.keep, .int .i64 s.inn, .int .i64 s.out, .int .i64 s.cache, .int .i64 now, .slice ra R.length rc, .slice ba B.length bc]] w fun e w' => e = .returned (.bool (fewW s R B)) ∧ Below w.heap.size w w' := by
  have HR := Lib.hid HA
  have HSR := Lib.hid HS
  have HF := Lib.hid (fun w' h => few s w' h)
  obtain ⟨A, hA⟩ : ∃ A, fewW s R B = A := ⟨_, rfl⟩
  rw [hA]
  have HAV := Lib.hid hA
  clear hA HA HS
  go_enter Try.func7, Try.ntmps7
  go_upto_region 1 with fail
  generalize hw0 : World.alloc w _ = w0
  have hb0 : Below w.heap.size w w0 := by rw [← hw0]; exact (Below.refl _ _).alloc (Nat.le_refl _) _
  have HW : Hid (WdBox w0 w.heap.size s now ra R.length rc ba B.length bc) := Lib.hid (WdBox.of (by rw [← hw0]; exact heap_alloc_new _ _))
  clear hw0
  have HSR0 := Lib.hid (HSR.out.later hb0)
  by_cases h0 : Few s
  · rw [show fewBSp s = true from decide_eq_true h0] at HF
    go_wp2_with (refine wpList_load_box (s := s) rfl (.tmp 5) rfl rfl HW.out.box ?_)
    refine (HF.out w0 HSR0.out).mono ?_; rintro e w1 ⟨rfl, hb1⟩
    have k1 := hb0.trans (hb1.mono hb0.size)
    have hz1 := k1.size
    obtain ⟨_, c18, c19, c20⟩ := HW.out.later hb1
    have hsl : w.heap.size < w1.heap.size := World.block_lt_of_cell? _ _ c19
    clear HF HW
    by_cases h1 : R.length ≤ 12
    · have g1 : decide ((12 : Int) < (R.length : Int)) = false := decide_eq_false (by omega)
      have g1n : decide (12 < R.length) = false := decide_eq_false (by omega)
      by_cases h2 : B.length ≤ 20
      · have g2 : decide ((20 : Int) < (B.length : Int)) = false := decide_eq_false (by omega)
        have g2n : decide (20 < B.length) = false := decide_eq_false (by omega)
        go_wp2
        go_loopw [24] (fun x wr => ∃ k : Nat, k ≤ R.length ∧ x = .int .i64 k ∧ Below w.heap.size w wr ∧ Hid (∀ x ∈ R.take k, x.r.sh.length ≤ 40)) (fun x _ => R.length - (intOf x).toNat)
        case atStart => exact ⟨0, Nat.zero_le _, rfl, k1, Lib.hid (by simp)⟩
        case round =>
          obtain ⟨k, hk, rfl, hb, HI⟩ := hrel
          have hz := hb.size
          by_cases hlt : k < R.length
          · obtain ⟨b, off, ea, hbl, q0, q1, q2, q3, q4, q5⟩ := (HR.out.later hb).row.rn hlt
            subst ea
            have HT := Lib.hid (take_app R k hlt)
            have HNO := Lib.hid (fun (h : ¬ R[k].r.sh.length ≤ 40) => (show fewW s R B = false from decide_eq_false fun x => h (x.2.2.2 _ (List.getElem_mem hlt))))
            generalize R[k] = x at q0 q1 q2 q3 q4 q5 HT HNO
            obtain ⟨xa, xc, xt, xn, xs⟩ := x
            dsimp only at q0 q1 q2 q3 q4 q5 HNO
            by_cases h3 : xs.length ≤ 40
            · have g3 : decide ((40 : Int) < (xs.length : Int)) = false := decide_eq_false (by omega)
              have g3n : decide (40 < xs.length) = false := decide_eq_false (by omega)
              have HI2 : Hid (∀ y ∈ R.take (k + 1), y.r.sh.length ≤ 40) := Lib.hid (by
                rw [HT.out]
                intro y hy
                rcases List.mem_append.1 hy with hy | hy
                · exact HI.out y hy
                · simp at hy; subst hy; exact h3)
              clear HI HNO HT
              go_wp2
              generalize hw2 : World.alloc wr _ = w2
              have hb2 : Below wr.heap.size wr w2 := by rw [← hw2]; exact (Below.refl _ _).alloc (Nat.le_refl _) _
              go_roundw
              case rel => exact ⟨k + 1, by omega, by go_num, hb.trans (hb2.mono hz), HI2⟩
              case measure => simp [intOf]; omega
            · obtain rfl : A = false := HAV.out.symm.trans (HNO.out h3)
              have g3 : decide ((40 : Int) < (xs.length : Int)) = true := decide_eq_true (by omega)
              have g3n : decide (40 < xs.length) = true := decide_eq_true (by omega)
              clear HI HNO HT
              go_wp2
              generalize hw2 : World.alloc wr _ = w2
              have hb2 : Below wr.heap.size wr w2 := by rw [← hw2]; exact (Below.refl _ _).alloc (Nat.le_refl _) _
              go_ret
              exact ⟨rfl, hb.trans (hb2.mono hz)⟩
          · have hkl : k = R.length := by omega
            obtain rfl : A = true := HAV.out.symm.trans (decide_eq_true ⟨h0, h1, h2, by have := HI.out; rw [hkl, List.take_length] at this; exact this⟩)
            clear HI hkl
            go_wp2
            go_ret
            exact ⟨rfl, hb⟩
      · obtain rfl : A = false := HAV.out.symm.trans (decide_eq_false fun x => h2 x.2.2.1)
        have g2 : decide ((20 : Int) < (B.length : Int)) = true := decide_eq_true (by omega)
        have g2n : decide (20 < B.length) = true := decide_eq_true (by omega)
        go_wp2
        go_ret
        exact ⟨rfl, k1⟩
    · obtain rfl : A = false := HAV.out.symm.trans (decide_eq_false fun x => h1 x.2.1)
      have g1 : decide ((12 : Int) < (R.length : Int)) = true := decide_eq_true (by omega)
      have g1n : decide (12 < R.length) = true := decide_eq_true (by omega)
      go_wp2
      go_ret
      exact ⟨rfl, k1⟩
  · rw [show fewBSp s = false from decide_eq_false h0] at HF
    obtain rfl : A = false := HAV.out.symm.trans (decide_eq_false fun x => h0 x.1)
    go_wp2_with (refine wpList_load_box (s := s) rfl (.tmp 5) rfl rfl HW.out.box ?_)
    refine (HF.out w0 HSR0.out).mono ?_; rintro e w1 ⟨rfl, hb1⟩
    have k1 := hb0.trans (hb1.mono hb0.size)
    clear HF HW
    go_wp2
    go_ret
    exact ⟨rfl, k1⟩
end Go.Proofs.Ytcdajfiohhbdgaa.W


/-
  Contracts of the reference of layer 2 (drayageref02), and of the law's own 'told'.
-/
namespace Go.Proofs.Ytcdajfiohhbdgaa.W
set_option linter.unusedVariables false
set_option linter.unusedSimpArgs false
open Go.ChangeShapes Go.WideShapes Go.ChangeAt Go.RowKit

theorem rfits (a b : V) (w : World) :
    Calls Try.prog 12 #[(.agg #[.int .i64 a.cpu, .int .i64 a.mem, .int .i64 a.gpu, .int .i64 a.lic]), (.agg #[.int .i64 b.cpu, .int .i64 b.mem, .int .i64 b.gpu, .int .i64 b.lic])] w fun e w' => e = .returned (.bool (fitsB a b)) ∧ Below w.heap.size w w' := by
  by_cases h : V.Le a b
  · rw [fits_yes h]
    obtain ⟨h0, h1, h2, h3⟩ := h
    go_enter Try.func12, Try.ntmps12
    go_wp2
    go_ret
    exact ⟨rfl, (by repeat' (first | exact Below.refl _ _ | assumption | exact And.left (by assumption) | refine Below.drew ?_ | refine below_drewN ?_ _ | refine Below.setCell ?_ (by first | (simp; done) | (simp; omega) | omega) _ | refine Below.alloc ?_ (by first | (simp; done) | (simp; omega) | omega) _ | refine after (by assumption) (by first | (simp; done) | (simp; omega) | omega) ?_))⟩
  · rw [fits_no h]
    by_cases h0 : a.cpu ≤ b.cpu
    · by_cases h1 : a.mem ≤ b.mem
      · by_cases h2 : a.gpu ≤ b.gpu
        · have h3 : ¬ a.lic ≤ b.lic := fun x => h ⟨h0, h1, h2, x⟩
          clear h
          go_enter Try.func12, Try.ntmps12
          go_wp2
          go_ret
          exact ⟨rfl, (by repeat' (first | exact Below.refl _ _ | assumption | exact And.left (by assumption) | refine Below.drew ?_ | refine below_drewN ?_ _ | refine Below.setCell ?_ (by first | (simp; done) | (simp; omega) | omega) _ | refine Below.alloc ?_ (by first | (simp; done) | (simp; omega) | omega) _ | refine after (by assumption) (by first | (simp; done) | (simp; omega) | omega) ?_))⟩
        · clear h
          go_enter Try.func12, Try.ntmps12
          go_wp2
          go_ret
          exact ⟨rfl, (by repeat' (first | exact Below.refl _ _ | assumption | exact And.left (by assumption) | refine Below.drew ?_ | refine below_drewN ?_ _ | refine Below.setCell ?_ (by first | (simp; done) | (simp; omega) | omega) _ | refine Below.alloc ?_ (by first | (simp; done) | (simp; omega) | omega) _ | refine after (by assumption) (by first | (simp; done) | (simp; omega) | omega) ?_))⟩
      · clear h
        go_enter Try.func12, Try.ntmps12
        go_wp2
        go_ret
        exact ⟨rfl, (by repeat' (first | exact Below.refl _ _ | assumption | exact And.left (by assumption) | refine Below.drew ?_ | refine below_drewN ?_ _ | refine Below.setCell ?_ (by first | (simp; done) | (simp; omega) | omega) _ | refine Below.alloc ?_ (by first | (simp; done) | (simp; omega) | omega) _ | refine after (by assumption) (by first | (simp; done) | (simp; omega) | omega) ?_))⟩
    · clear h
      go_enter Try.func12, Try.ntmps12
      go_wp2
      go_ret
      exact ⟨rfl, (by repeat' (first | exact Below.refl _ _ | assumption | exact And.left (by assumption) | refine Below.drew ?_ | refine below_drewN ?_ _ | refine Below.setCell ?_ (by first | (simp; done) | (simp; omega) | omega) _ | refine Below.alloc ?_ (by first | (simp; done) | (simp; omega) | omega) _ | refine after (by assumption) (by first | (simp; done) | (simp; omega) | omega) ?_))⟩

theorem radd (a b : V) (w : World) (h : (a.plus b).in64) :
    Calls Try.prog 27 #[(.agg #[.int .i64 a.cpu, .int .i64 a.mem, .int .i64 a.gpu, .int .i64 a.lic]), (.agg #[.int .i64 b.cpu, .int .i64 b.mem, .int .i64 b.gpu, .int .i64 b.lic])] w fun e w' => e = .returned (.agg #[.int .i64 (a.plus b).cpu, .int .i64 (a.plus b).mem, .int .i64 (a.plus b).gpu, .int .i64 (a.plus b).lic]) ∧ Below w.heap.size w w' := by
  obtain ⟨⟨l0, l1⟩, ⟨l2, l3⟩, ⟨l4, l5⟩, l6, l7⟩ := h
  simp only [V.plus] at l0 l1 l2 l3 l4 l5 l6 l7
  go_enter Try.func27, Try.ntmps27
  go_wp2
  exact bodyPost_ret (v := (.agg #[.int .i64 (a.plus b).cpu, .int .i64 (a.plus b).mem, .int .i64 (a.plus b).gpu, .int .i64 (a.plus b).lic])) (by simp [results, Try.results27, go_sem, V.plus]) rfl ⟨rfl, (by repeat' (first | exact Below.refl _ _ | assumption | exact And.left (by assumption) | refine Below.drew ?_ | refine below_drewN ?_ _ | refine Below.setCell ?_ (by first | (simp; done) | (simp; omega) | omega) _ | refine Below.alloc ?_ (by first | (simp; done) | (simp; omega) | omega) _ | refine after (by assumption) (by first | (simp; done) | (simp; omega) | omega) ?_))⟩

end Go.Proofs.Ytcdajfiohhbdgaa.W

/-
  Contracts of the document's own answers of layer 11: Right, Total, On, Same, Times; of Rising (layer 7).
-/
namespace Go.Proofs.Ytcdajfiohhbdgaa.W
set_option linter.unusedVariables false
set_option linter.unusedSimpArgs false
open Go.ChangeShapes Go.WideShapes Go.ChangeAt Go.RowKit

set_option maxHeartbeats 2000000 in
theorem rShTotal (a : Option Addr) (cap : Nat) (l : List Sh) (hl : l.length ≤ 100000) (w : World) (HA : ShAt w a cap l) :
    Calls Try.prog 10 #[.slice a l.length cap] w fun e w' => e = .returned (.int .i64 (totalH l)) ∧ Below w.heap.size w w' := by
  have HR := Lib.hid HA
  clear HA
  go_enter Try.func10, Try.ntmps10
  go_wp2
  go_loopw [3, 4] (fun v3 x wr => ∃ k : Nat, k ≤ l.length ∧ x = .int .i64 k ∧ ∃ d : Int, v3 = .int .i64 d ∧ Below w.heap.size w wr ∧ 0 ≤ d ∧ d ≤ 64 * k ∧ Hid (totalH l = d + totalH (l.drop k))) (fun _ x _ => l.length - (intOf x).toNat)
  case atStart => exact ⟨0, Nat.zero_le _, rfl, 0, rfl, (by repeat' (first | exact Below.refl _ _ | assumption | exact And.left (by assumption) | refine Below.drew ?_ | refine below_drewN ?_ _ | refine Below.setCell ?_ (by first | (simp; done) | (simp; omega) | omega) _ | refine Below.alloc ?_ (by first | (simp; done) | (simp; omega) | omega) _ | refine after (by assumption) (by first | (simp; done) | (simp; omega) | omega) ?_)), by omega, by omega, Lib.hid (by simp)⟩
  case round =>
    obtain ⟨k, hk, rfl, d, rfl, hb, hd0, hd1, HI⟩ := hrel
    have hz := hb.size
    by_cases hlt : k < l.length
    · obtain ⟨b, off, ea, hbl, q0, q1⟩ := (HR.out.later hb).row.sh hlt
      subst ea
      have HN : Hid (totalH l = d + (holdM l[k].many + totalH (l.drop (k + 1)))) := Lib.hid (by rw [HI.out, drop_at l k hlt]; rfl)
      clear HI
      generalize l[k] = s at q0 q1 HN
      by_cases h0 : 64 < s.many
      · have HX : Hid (totalH l = d + 64 + totalH (l.drop (k + 1))) := Lib.hid (by rw [HN.out, show holdM s.many = 64 from (if_neg (by omega)).trans (if_pos h0), Int.add_assoc])
        go_wp2
        go_roundw
        case rel => exact ⟨k + 1, by omega, by go_num, d + 64, rfl, (by repeat' (first | exact Below.refl _ _ | assumption | exact And.left (by assumption) | refine Below.drew ?_ | refine below_drewN ?_ _ | refine Below.setCell ?_ (by first | (simp; done) | (simp; omega) | omega) _ | refine Below.alloc ?_ (by first | (simp; done) | (simp; omega) | omega) _ | refine after (by assumption) (by first | (simp; done) | (simp; omega) | omega) ?_)), by omega, by omega, HX⟩
        case measure => simp [intOf]; omega
      · by_cases h1 : 0 < s.many
        · have HX : Hid (totalH l = d + s.many + totalH (l.drop (k + 1))) := Lib.hid (by rw [HN.out, hold_in ⟨by omega, by omega⟩, Int.add_assoc])
          go_wp2
          go_roundw
          case rel => exact ⟨k + 1, by omega, by go_num, d + s.many, rfl, (by repeat' (first | exact Below.refl _ _ | assumption | exact And.left (by assumption) | refine Below.drew ?_ | refine below_drewN ?_ _ | refine Below.setCell ?_ (by first | (simp; done) | (simp; omega) | omega) _ | refine Below.alloc ?_ (by first | (simp; done) | (simp; omega) | omega) _ | refine after (by assumption) (by first | (simp; done) | (simp; omega) | omega) ?_)), by omega, by omega, HX⟩
          case measure => simp [intOf]; omega
        · have HX : Hid (totalH l = d + totalH (l.drop (k + 1))) := Lib.hid (by
            have : holdM s.many = 0 := by unfold holdM; split <;> simp_all; omega
            rw [HN.out, this, Int.zero_add])
          go_wp2
          go_roundw
          case rel => exact ⟨k + 1, by omega, by go_num, d, rfl, (by repeat' (first | exact Below.refl _ _ | assumption | exact And.left (by assumption) | refine Below.drew ?_ | refine below_drewN ?_ _ | refine Below.setCell ?_ (by first | (simp; done) | (simp; omega) | omega) _ | refine Below.alloc ?_ (by first | (simp; done) | (simp; omega) | omega) _ | refine after (by assumption) (by first | (simp; done) | (simp; omega) | omega) ?_)), by omega, by omega, HX⟩
          case measure => simp [intOf]; omega
    · have hkl : k = l.length := by omega
      have E : Hid (totalH l = d) := Lib.hid (by rw [HI.out, hkl, List.drop_length]; simp [totalH])
      clear HI
      go_wp2
      go_ret
      exact ⟨by rw [E.out]; rfl, (by repeat' (first | exact Below.refl _ _ | assumption | exact And.left (by assumption) | refine Below.drew ?_ | refine below_drewN ?_ _ | refine Below.setCell ?_ (by first | (simp; done) | (simp; omega) | omega) _ | refine Below.alloc ?_ (by first | (simp; done) | (simp; omega) | omega) _ | refine after (by assumption) (by first | (simp; done) | (simp; omega) | omega) ?_))⟩

theorem sh_first {a b : Sh} (h : ¬ a = b) : (a.node == b.node) = false ∨ ((a.node == b.node) = true ∧ (a.many == b.many) = false) := by
  by_cases h0 : a.node = b.node
  · exact .inr ⟨by simpa using h0, by simpa using fun x => h (Sh.ext' h0 x)⟩
  · exact .inl (by simpa using h0)
theorem take_next {α : Type} {x y : List α} {k : Nat} (h : x.take k = y.take k) (hx : k < x.length) (hy : k < y.length) (e : x[k] = y[k]) : x.take (k + 1) = y.take (k + 1) := by
  rw [take_app x k hx, take_app y k hy, h, e]
set_option maxHeartbeats 2000000 in
theorem rShSame (a b : Option Addr) (ca cb : Nat) (x y : List Sh) (hx : x.length ≤ 100000) (hy : y.length ≤ 100000) (w : World) (ha : ShAt w a ca x) (hb : ShAt w b cb y) :
    Calls Try.prog 33 #[.slice a x.length ca, .slice b y.length cb] w fun e w' => e = .returned (.bool (decide (x = y))) ∧ Below w.heap.size w w' := by
  by_cases hl : x.length = y.length
  · have HA := Lib.hid ha
    have HB := Lib.hid hb
    have HL := Lib.hid hl
    clear ha hb
    rw [← hl]
    clear hl hy
    go_enter Try.func33, Try.ntmps33
    go_wp2
    go_loopw [5] (fun i wr => ∃ k : Nat, k ≤ x.length ∧ i = .int .i64 (k : Int) ∧ Hid (x.take k = y.take k) ∧ Below w.heap.size w wr) (fun i _ => x.length - (intOf i).toNat)
    case atStart => exact ⟨0, Nat.zero_le _, rfl, Lib.hid rfl, Below.refl _ _⟩
    case round =>
      obtain ⟨k, hk, rfl, HE, hbw⟩ := hrel
      by_cases hlt : k < x.length
      · have hlt2 : k < y.length := by have := HL.out; omega
        obtain ⟨b1, o1, e1, _, c0, c1⟩ := (HA.out.later hbw).row.sh hlt
        obtain ⟨b2, o2, e2, _, d0, d1⟩ := (HB.out.later hbw).row.sh hlt2
        have HT : Hid (x[k] = y[k] → x.take (k + 1) = y.take (k + 1)) := Lib.hid (fun e => take_next HE.out hlt hlt2 e)
        have HF := Lib.hid (fun (e : ¬ x[k] = y[k]) => (decide_eq_false (fun (h : x = y) => e (by subst h; rfl)) : decide (x = y) = false))
        have E1 := Lib.hid e1
        have E2 := Lib.hid e2
        clear e1 e2
        generalize x[k] = p at c0 c1 HT HF
        generalize y[k] = r at d0 d1 HT HF
        clear hlt2
        obtain rfl := E1.out
        obtain rfl := E2.out
        by_cases he : p = r
        · subst he
          have HT2 := Lib.hid (HT.out rfl)
          clear HT HF
          go_wp2_with fail
          go_quiet (fail)
          go_wp2
          go_roundw
          case rel => exact ⟨k + 1, by omega, by go_num, HT2, (by repeat' (first | exact Below.refl _ _ | assumption | exact And.left (by assumption) | refine Below.drew ?_ | refine below_drewN ?_ _ | refine Below.setCell ?_ (by first | (simp; done) | (simp; omega) | omega) _ | refine Below.alloc ?_ (by first | (simp; done) | (simp; omega) | omega) _ | refine after (by assumption) (by first | (simp; done) | (simp; omega) | omega) ?_))⟩
          case measure => simp [intOf]; omega
        · have HD := Lib.hid (HF.out he)
          have key := sh_first he
          clear he HT HF
          rcases key with h1 | ⟨h1, h2⟩
          all_goals
            go_wp2_with fail
            go_quiet (fail)
            go_wp2
            go_ret
            exact ⟨by rw [HD.out]; rfl, (by repeat' (first | exact Below.refl _ _ | assumption | exact And.left (by assumption) | refine Below.drew ?_ | refine below_drewN ?_ _ | refine Below.setCell ?_ (by first | (simp; done) | (simp; omega) | omega) _ | refine Below.alloc ?_ (by first | (simp; done) | (simp; omega) | omega) _ | refine after (by assumption) (by first | (simp; done) | (simp; omega) | omega) ?_))⟩
      · have hkl : k = x.length := by omega
        subst hkl
        have HD : Hid (decide (x = y) = true) := Lib.hid (decide_eq_true (by
          have h1 := HE.out
          have h2 := HL.out
          rw [List.take_length] at h1
          rw [h1, List.take_of_length_le (by omega)]))
        go_wp2
        go_ret
        exact ⟨by rw [HD.out]; rfl, hbw⟩
  · have HD : Hid (decide (x = y) = false) := Lib.hid (decide_eq_false (fun e => hl (by rw [e])))
    have h1 : ¬ ((x.length : Int) = (y.length : Int)) := by omega
    have h2 : ((x.length : Int) == (y.length : Int)) = false := by simpa using h1
    have h3 : ((x.length : Int) != (y.length : Int)) = true := by simpa using h1
    clear hl ha hb
    go_enter Try.func33, Try.ntmps33
    go_wp2
    go_ret
    exact ⟨by rw [HD.out]; rfl, (by repeat' (first | exact Below.refl _ _ | assumption | exact And.left (by assumption) | refine Below.drew ?_ | refine below_drewN ?_ _ | refine Below.setCell ?_ (by first | (simp; done) | (simp; omega) | omega) _ | refine Below.alloc ?_ (by first | (simp; done) | (simp; omega) | omega) _ | refine after (by assumption) (by first | (simp; done) | (simp; omega) | omega) ?_))⟩
end Go.Proofs.Ytcdajfiohhbdgaa.W
