/-
  The walk of PlanLeast.
-/
import Derived.Test.YtcdajfiohhbdgaaJ47
import Derived.Test.YtcdajfiohhbdgaaFrameWorld
import Derived.Test.YtcdajfiohhbdgaaPlTimes
namespace Go.Proofs.Ytcdajfiohhbdgaa.W
set_option maxRecDepth 100000
set_option linter.unusedVariables false
set_option linter.unusedSimpArgs false
open Go.ChangeShapes Go.WideShapes Go.ChangeAt Go.RowKit

theorem riseH_on {n : Int} : ∀ {a : Int} {l : List Sh}, RiseH n a l → ∀ s ∈ l, onH s.node l = s.many
  | a, x :: r, h, s, hs => by
    rcases List.mem_cons.1 hs with rfl | hs
    · rw [onH, if_pos rfl, onH_low (a := s.node) (Int.le_refl _) h.2.2.2.2, Int.add_zero]
    · have h1 := (riseH_mem h.2.2.2.2 s hs).1
      rw [onH, if_neg (by omega), Int.zero_add]
      exact riseH_on h.2.2.2.2 s hs
/-- what is planned: all of it, each share so that it can run for the whole wall -/
theorem plan_facts {fr : Fr} {n : Nat} {now : Int} (ho : OkFr fr n now) {x : Wt} (hr : RiseN n (-1) x.part) {t : Int} (hm : May fr n now x t) : totalH (placeS (lowsL fr n t x.wall) x.part x.many x.need) = x.many ∧ x.need.Ok ∧
    ∀ s ∈ placeS (lowsL fr n t x.wall) x.part x.many x.need, (0 ≤ s.node ∧ s.node < n) ∧ (1 ≤ s.many ∧ s.many ≤ 64) ∧ ∀ u, t ≤ u → u < t + x.wall → V.Le (x.need.by s.many) (fr s.node.toNat u) := by
  obtain ⟨h1, h2, h3⟩ := may_can ho hr hm
  have hp : ¬ x.many < 1 ∧ ¬ 0 < plLeft (lowsL fr n t x.wall) x.need x.many x.part := of_decide_eq_true hm.2.2.2
  refine ⟨?_, h2, fun s hs => ?_⟩
  · have e : placeS (lowsL fr n t x.wall) x.part x.many x.need = plPut (lowsL fr n t x.wall) x.need x.many x.part := if_pos hp
    rw [e]
    have k1 := put_total (fs := lowsL fr n t x.wall) (need := x.need) (l := x.part) (left := x.many)
    have k2 := pl_room (lowsL fr n t x.wall) x.need x.part x.many (by omega)
    have k3 : 0 ≤ plLeft (lowsL fr n t x.wall) x.need x.many x.part := by rw [k2]; split <;> omega
    omega
  · have k1 := riseH_mem h1 s hs
    refine ⟨⟨by omega, k1.2.1⟩, k1.2.2, fun u u0 u1 => ?_⟩
    have k2 := h3 s.node.toNat (by omega) u ⟨u0, u1⟩
    unfold need4 at k2
    rw [show ((s.node.toNat : Nat) : Int) = s.node by omega, riseH_on h1 s hs] at k2
    exact k2
/-- what is wanted, in a block -/
structure WnBox (w : World) (g : Nat) (x : Wn) : Prop where
  x0 : w.cell? ⟨g, 0, none⟩ = some (.int .i64 x.part)
  x1 : w.cell? ⟨g, 1, none⟩ = some (.int .i64 x.many)
  x2 : w.cell? ⟨g, 2, none⟩ = some (.int .i64 x.need.cpu)
  x3 : w.cell? ⟨g, 3, none⟩ = some (.int .i64 x.need.mem)
  x4 : w.cell? ⟨g, 4, none⟩ = some (.int .i64 x.need.gpu)
  x5 : w.cell? ⟨g, 5, none⟩ = some (.int .i64 x.need.lic)
  x6 : w.cell? ⟨g, 6, none⟩ = some (.int .i64 x.wall)
theorem WnBox.later {w w' : World} {g : Nat} {x : Wn} (h : WnBox w g x) (hb : Below w.heap.size w w') : WnBox w' g x := ⟨carry hb h.x0, carry hb h.x1, carry hb h.x2, carry hb h.x3, carry hb h.x4, carry hb h.x5, carry hb h.x6⟩
theorem WnBox.of {w : World} {g : Nat} {x : Wn} {t : TypeId} (h : w.heap[g]? = some (.cells #[.int .i64 x.part, .int .i64 x.many, .int .i64 x.need.cpu, .int .i64 x.need.mem, .int .i64 x.need.gpu, .int .i64 x.need.lic, .int .i64 x.wall] t (0, 0))) : WnBox w g x :=
  ⟨blk_cell h 0 (by simp), blk_cell h 1 (by simp), blk_cell h 2 (by simp), blk_cell h 3 (by simp), blk_cell h 4 (by simp), blk_cell h 5 (by simp), blk_cell h 6 (by simp)⟩
def pl11 (gw gx gp : Nat) (t now : Int) (la : Option Addr) (ln lc : Nat) (many : Int) : List Sp :=
  [Sp.c (.pointer (some ⟨gp, 1, none⟩)) [],
   Sp.c (.int .i64 t) [0],
   Sp.c (.pointer (some ⟨gw, 18, none⟩)) [],
   Sp.c (.int .i64 now) [2],
   Sp.c (.bool false) [1, 3],
   Sp.c (.bool false) [4],
   Sp.c (.pointer (some ⟨gp, 2, none⟩)) [5],
   Sp.c (.slice la ln lc) [6, 5],
   Sp.c (.int .i64 many) [7, 5],
   Sp.c (.pointer (some ⟨gx, 1, none⟩)) [5],
   Sp.c (.int .i64 many) [9, 5],
   Sp.c (.bool false) [8, 10, 5],
   Sp.c (.bool false) [5, 11]]
def pl20 (gx fb fo fc sb kk n : Nat) (m : Int) (need fv : V) : List Sp :=
  [Sp.c (.pointer (some ⟨sb, 0, none⟩)) [],
   Sp.c (.int .i64 (kk : Int)) [0],
   Sp.c (.bool false) [1],
   Sp.c (.bool false) [2],
   Sp.c (.pointer (some ⟨sb, 0, none⟩)) [3],
   Sp.c (.int .i64 (kk : Int)) [4, 3],
   Sp.c (.slice (some ⟨fb, fo, none⟩) n fc) [3],
   Sp.c (.int .i64 (n : Int)) [6, 3],
   Sp.c (.bool false) [5, 7, 3],
   Sp.c (.bool false) [3, 8],
   Sp.c (.bool false) [9],
   Sp.c (.pointer (some ⟨sb, 1, none⟩)) [10],
   Sp.c (.int .i64 m) [11, 10],
   Sp.c (.bool false) [12, 10],
   Sp.c (.bool false) [10, 13],
   Sp.c (.bool false) [14],
   Sp.c (.pointer (some ⟨sb, 1, none⟩)) [15],
   Sp.c (.int .i64 m) [16, 15],
   Sp.c (.bool false) [17, 15],
   Sp.c (.bool false) [15, 18],
   Sp.c (.bool false) [19],
   Sp.c (.pointer (some ⟨gx, 2, none⟩)) [20],
   Sp.c ((.agg #[.int .i64 need.cpu, .int .i64 need.mem, .int .i64 need.gpu, .int .i64 need.lic])) [21, 20],
   Sp.c (.pointer (some ⟨sb, 1, none⟩)) [20],
   Sp.c (.int .i64 m) [23, 20],
   Sp.c ((.agg #[.int .i64 (need.by m).cpu, .int .i64 (need.by m).mem, .int .i64 (need.by m).gpu, .int .i64 (need.by m).lic])) [22, 24, 20],
   Sp.c (.slice (some ⟨fb, fo, none⟩) n fc) [20],
   Sp.c (.pointer (some ⟨sb, 0, none⟩)) [20],
   Sp.c (.int .i64 (kk : Int)) [27, 20],
   Sp.c (.pointer (some ⟨fb, fo + kk * 4, none⟩)) [26, 28, 20],
   Sp.c ((.agg #[.int .i64 fv.cpu, .int .i64 fv.mem, .int .i64 fv.gpu, .int .i64 fv.lic])) [29, 20],
   Sp.c (.bool true) [25, 30, 20],
   Sp.c (.bool false) [31, 20],
   Sp.c (.bool false) [20, 32]]
/-- what it must tell, once the profile is there -/
structure LeastH (F : FL) (n : Nat) (now t many wall : Int) (need : V) (L : List Sh) : Prop where
  tot : totalH L = many
  ok : need.Ok
  each : ∀ s ∈ L, (0 ≤ s.node ∧ s.node < n) ∧ (1 ≤ s.many ∧ s.many ≤ 64) ∧ ∀ u, t ≤ u → u < t + wall → V.Le (need.by s.many) (frL F s.node.toNat u)
set_option maxHeartbeats 16000000 in
theorem planLeast_walk (v0 : Value) (v1 : Value) (w : World) (F0 : FWorld w v0) (F1 : FWn v1) :
    Calls Try.prog 3 #[v0, v1] w fun e w' => e = .returned (.bool true) ∧ Below w.heap.size w w' := by
  obtain ⟨s, now, ra, rc, R, ba, bc, B, rfl, HS, HR, HB⟩ := F0
  obtain ⟨x, rfl, hx64⟩ := F1
  have HSR := Lib.hid HS
  have HRR := Lib.hid HR
  have HBR := Lib.hid HB
  have HFW := Lib.hid (fun (w' : World) h1 h2 => few13 s now ra rc R ba bc B w' h1 h2)
  clear HS HR HB
  go_enter Try.func3, Try.ntmps3
  go_upto_region 1 with fail
  generalize hw0 : World.alloc (World.alloc w _) _ = w0
  have hb0 : Below w.heap.size w w0 := by rw [← hw0]; exact ((Below.refl _ _).alloc (Nat.le_refl _) _).alloc (by simp) _
  have HW0 : Hid (WdBox w0 w.heap.size s now ra R.length rc ba B.length bc) := Lib.hid (WdBox.of (by rw [← hw0]; exact blk_up (blk_top rfl)))
  have HX0 : Hid (WnBox w0 (w.heap.size + 1) x) := Lib.hid (WnBox.of (by rw [← hw0]; exact blk_top (by simp)))
  clear hw0
  obtain ⟨gw, hgw⟩ : ∃ gw, w.heap.size = gw := ⟨_, rfl⟩
  obtain ⟨gx, hgx⟩ : ∃ gx, w.heap.size + 1 = gx := ⟨_, rfl⟩
  rw [hgw] at HW0 ⊢
  rw [hgx] at HX0
  rw [show gw + 1 = gx by omega]
  clear hgw hgx
  go_wp2_with fail
  refine (awake13 w0).mono ?_; rintro e w1 ⟨rfl, hb1⟩
  have k1 := hb0.trans (hb1.mono hb0.size)
  have HW1 := Lib.hid (HW0.out.later hb1)
  have HX1 := Lib.hid (HX0.out.later hb1)
  clear HW0 HX0
  obtain ⟨x0, x1, x2, x3, x4, x5, x6⟩ := HX1.out
  go_wp2_with (refine wpList_load_wd (s := s) rfl (.tmp 2) rfl rfl HW1.out ?_)
  refine (HFW.out w1 (HSR.out.later k1) (HRR.out.later k1)).mono ?_; rintro e w2 ⟨rfl, hb2⟩
  have k2 := k1.trans (hb2.mono k1.size)
  have HW2 := Lib.hid (HW1.out.later hb2)
  have HX2 := Lib.hid (HX1.out.later hb2)
  clear HW1 HX1 x0 x1 x2 x3 x4 x5 x6 HFW
  obtain ⟨x0, x1, x2, x3, x4, x5, x6⟩ := HX2.out
  by_cases hfew : FewW s R B ∧ x.wall ≤ 40
  · rw [show fewW s R B = true from decide_eq_true hfew.1]
    have gw40 : decide (40 < x.wall) = false := decide_eq_false (by omega)
    obtain ⟨⟨hf0, hf1, hf2, hf3⟩, hwall⟩ := hfew
    obtain ⟨hw64, hw640, hw641⟩ := hx64
    have hss : SmallS s := ⟨fun p hp => by have := hf0.2.2.2.1 p hp; omega, fun q hq => by have := hf0.2.2.2.2 q hq; omega⟩
    have HNEW := Lib.hid (fun (w' : World) h1 h2 h3 => pNew s hss now ra rc R hf1 hf3 ba bc B (by omega) w' h1 h2 h3)
    obtain ⟨hbox, c18, c19, c20⟩ := HW2.out
    go_wp2_with (refine wpList_load_box (s := s) rfl (.tmp 27) rfl rfl hbox ?_)
    refine (HNEW.out w2 (HSR.out.later k2) (HRR.out.later k2) (HBR.out.later k2)).mono ?_
    rintro e w3 ⟨hb3, ⟨E, hE, rfl, _⟩ | ⟨g, fa, fc, Fl, rfl, hg, hpr, harg, hpl, hln⟩⟩
    · have hne : (E == 0) = false := by simpa using hE
      have k3 := k2.trans (hb3.mono k2.size)
      clear hbox
      go_wp2
      go_ret
      exact ⟨rfl, k3⟩
    · have k3 := k2.trans (hb3.mono k2.size)
      obtain ⟨hok, _, _⟩ := prOk_of harg hpl hln hf1
      have HOK := Lib.hid hok
      have HP3 := Lib.hid hpr
      have HS3 := Lib.hid (HSR.out.later k3)
      have HW3 := Lib.hid (HW2.out.later hb3)
      have HX3 := Lib.hid (HX2.out.later hb3)
      have HE := Lib.hid (fun (w' : World) h1 h2 => pEarliest g s now fa fc Fl hok x.part x.many hw64 x.need x.wall w' h1 h2)
      have HWHEN := Lib.hid (fun (t : Int) (w' : World) h1 h2 => pWhen g s now fa fc Fl hok x.part x.many hw64 x.need x.wall t w' h1 h2)
      have HMAY := Lib.hid (fun (t : Int) => when_may hok x.part x.many x.need x.wall t)
      have HFREE := Lib.hid (fun (t : Int) (w' : World) h1 (h2 : now ≤ t) => pFree g s now fa fc Fl (by have := (right_is hok.right).nodes.1.2; rw [hok.len]; exact this) (fun l hl => by have := hok.lens l hl; omega) t w' h1 h2)
      clear hpr harg hpl hln hok hbox HW2 HX2 x0 x1 x2 x3 x4 x5 x6 c18 c19 c20 HNEW
      obtain ⟨x0, x1, x2, x3, x4, x5, x6⟩ := HX3.out
      obtain ⟨_, c18, c19, c20⟩ := HW3.out
      go_wp2_with fail
      refine (HE.out w3 HP3.out HS3.out).mono ?_
      rintro e w4 ⟨hb4, ⟨hfst, rfl⟩ | ⟨t, la, lc, hfst, rfl, hsh⟩⟩
      · have k4 := k3.trans (hb4.mono k3.size)
        clear HE HWHEN HMAY HFREE hfst HP3 HS3 HOK
        go_upto_region 9 with fail
        generalize hw5 : World.alloc w4 _ = w5
        have hb5 : Below w4.heap.size w4 w5 := by rw [← hw5]; exact (Below.refl _ _).alloc (Nat.le_refl _) _
        have y2 : w5.cell? ⟨w4.heap.size, 2, none⟩ = some (.slice none 0 0) := by rw [← hw5]; simp [go_sem]
        clear hw5
        have k5 := k4.trans (hb5.mono k4.size)
        go_wp2
        go_ret
        exact ⟨rfl, k5⟩
      · have k4 := k3.trans (hb4.mono k3.size)
        have hok := HOK.out
        have hm := hfst.1
        have hr : RiseN (flOf Fl).length (-1) (wtOf s x.part x.many x.need x.wall).part := by
          rw [flOf_len, hok.len]
          exact partOf_rise hok.right x.part hm.1.1
        have hfac := plan_facts (okFr_of hok.ok) hr (t := t) (by rw [flOf_len]; exact hm)
        rw [flOf_len] at hfac
        have hnot : ∀ u, u < t → whenB s now (flOf Fl) x.part x.many x.need x.wall u = false := fun u hu => by
          cases h9 : whenB s now (flOf Fl) x.part x.many x.need x.wall u with
          | false => rfl
          | true => exact absurd ((HMAY.out u).1.1 h9) (hfst.2 u hu)
        have HNOT := Lib.hid hnot
        have hnow : 0 ≤ now ∧ now ≤ t ∧ t ≤ 1099511627776 := ⟨hok.time.1, hm.2.1, hm.2.2.1⟩
        have hwl : 1 ≤ x.wall ∧ x.wall ≤ 65536 := hm.1.2
        obtain ⟨L, hL⟩ : ∃ L, placeS (lowsL (frL (flOf Fl)) Fl.length t x.wall) (partOf s x.part) x.many x.need = L := ⟨_, rfl⟩
        have HLH : Hid (LeastH (flOf Fl) Fl.length now t x.many x.wall x.need L) := Lib.hid (by rw [← hL]; exact ⟨hfac.1, hfac.2.1, hfac.2.2⟩)
        have hll : L.length ≤ 16 := by
          rw [← hL]
          refine Nat.le_trans (placeS_len _ _ _ _) ?_
          obtain ⟨k, hk⟩ : ∃ k : Nat, x.part = (k : Int) := ⟨x.part.toNat, by have := hm.1.1.1; omega⟩
          have hk2 : k < s.parts.length := by have := hm.1.1.2; omega
          rw [hk, partOf_at hk2]
          exact (part_rise hok.right hk2).2
        rw [hL] at hsh ⊢
        have HSH4 := Lib.hid hsh
        have HP4 := Lib.hid (HP3.out.later hb4)
        have HS4 := Lib.hid (HS3.out.later hb4)
        have hnl : Fl.length ≤ 16 := by have := (right_is hok.right).nodes.1.2; rw [hok.len]; exact this
        have HATR := Lib.hid (fun (k : Nat) (hk : k < Fl.length) (u : Int) => (show (freeL Fl u)[k]? = some (frL (flOf Fl) k u) from by
          have h1 := (okFL_at hok.ok (k := k) (by rw [flOf_len]; exact hk)).1
          rw [flOf_at hk] at h1
          simp only [freeL, List.getElem?_map, List.getElem?_eq_getElem hk, Option.map_some, frL, flOf_at hk]
          rw [show atR Fl[k].l u = atL Fl[k].l u from if_pos h1]))
        have HX4 := Lib.hid (HX3.out.later hb4)
        have HW4 := Lib.hid (HW3.out.later hb4)
        clear hok hm hr hfac hnot hL hsh hfst HE HMAY HOK x0 x1 x2 x3 x4 x5 x6 c18 c19 c20 HX3 HW3 HP3 HS3
        go_upto_region 9 with fail
        generalize hwA : World.alloc w4 _ = wA
        have hbA : Below w4.heap.size w4 wA := by rw [← hwA]; exact (Below.refl _ _).alloc (Nat.le_refl _) _
        have c1p : wA.cell? ⟨w4.heap.size, 1, none⟩ = some (.int .i64 t) := by rw [← hwA]; simp [go_sem]
        have c2p : wA.cell? ⟨w4.heap.size, 2, none⟩ = some (.slice la L.length lc) := by rw [← hwA]; simp [go_sem]
        clear hwA
        have kA := k4.trans (hbA.mono k4.size)
        have HSH := Lib.hid (HSH4.out.later hbA)
        have HPA := Lib.hid (HP4.out.later hbA)
        have HSA := Lib.hid (HS4.out.later hbA)
        have HXA := Lib.hid (HX4.out.later hbA)
        have HWA := Lib.hid (HW4.out.later hbA)
        clear HSH4 HP4 HS4 HX4 HW4
        obtain ⟨x0, x1, x2, x3, x4, x5, x6⟩ := HXA.out
        obtain ⟨_, c18, c19, c20⟩ := HWA.out
        generalize w4.heap.size = gp at c1p c2p ⊢
        have HTOT := Lib.hid (fun (w' : World) h => rShTotal la lc L (by omega) w' h)
        rw [HLH.out.tot] at HTOT
        have glt : decide (t < now) = false := decide_eq_false (by omega)
        go_upto_region 11 with fail
        refine region_mono (pl11 gw gx gp t now la L.length lc x.many) [61, 62, 63, 64, 65, 66, 67, 68, 69, 70, 71, 72, 73] (by kernel_rfl) (by kernel_rfl) (by kernel_rfl) (by kernel_rfl) (stables_cons (Sp.c_stable _ _) (stables_cons (Sp.c_stable _ _) (stables_cons (Sp.c_stable _ _) (stables_cons (Sp.c_stable _ _) (stables_cons (Sp.c_stable _ _) (stables_cons (Sp.c_stable _ _) (stables_cons (Sp.c_stable _ _) (stables_cons (Sp.c_stable _ _) (stables_cons (Sp.c_stable _ _) (stables_cons (Sp.c_stable _ _) (stables_cons (Sp.c_stable _ _) (stables_cons (Sp.c_stable _ _) (stables_cons (Sp.c_stable _ _) (trivial)))))))))))))) ?_ ?_
        · intro am wm L hbm hbase hbase2
          have s2 : am.tmps.getD 2 undef = .pointer (some ⟨gw, 0, none⟩) := (hbase 2 rfl).trans (by simp only [Array.getD_eq_getD_getElem?, List.getElem?_toArray, List.getElem?_cons_succ, List.getElem?_cons_zero, Option.getD_some])
          have s3 : am.tmps.getD 3 undef = .pointer (some ⟨gx, 0, none⟩) := (hbase 3 rfl).trans (by simp only [Array.getD_eq_getD_getElem?, List.getElem?_toArray, List.getElem?_cons_succ, List.getElem?_cons_zero, Option.getD_some])
          have s7 : am.tmps.getD 7 undef = .pointer (some ⟨gp, 0, none⟩) := (hbase 7 rfl).trans (by simp only [Array.getD_eq_getD_getElem?, List.getElem?_toArray, List.getElem?_cons_succ, List.getElem?_cons_zero, Option.getD_some])
          clear hbase hbase2
          have p1 := carry hbm c1p
          have p2 := carry hbm c2p
          have q1 := carry hbm c18
          have q2 := carry hbm x1
          refine steps_cons (fun hn hl => ?_) fun H0 => ?_
          · skip
            clear hn hl 
            refine stepC (wanted_free rfl) fun K hK => ?_
            go_simp
            exact hK _ (Below.refl _ _)
          refine steps_cons (fun hn hl => ?_) fun H1 => ?_
          · skip
            have h61 := Sp.of_c (H0 (hn 0 (show 0 ∈ [0] from .head _)))
            clear hn hl H0
            refine stepC (wanted_free rfl) fun K hK => ?_
            go_simp
            exact hK _ (Below.refl _ _)
          refine steps_cons (fun hn hl => ?_) fun H2 => ?_
          · skip
            clear hn hl H0 H1
            refine stepC (wanted_free rfl) fun K hK => ?_
            go_simp
            exact hK _ (Below.refl _ _)
          refine steps_cons (fun hn hl => ?_) fun H3 => ?_
          · skip
            have h63 := Sp.of_c (H2 (hn 2 (show 2 ∈ [2] from .head _)))
            clear hn hl H0 H1 H2
            refine stepC (wanted_free rfl) fun K hK => ?_
            go_simp
            exact hK _ (Below.refl _ _)
          refine steps_cons (fun hn hl => ?_) fun H4 => ?_
          · skip
            have h62 := Sp.of_c (H1 (hn 1 (show 1 ∈ [1, 3] from .head _)))
            have h64 := Sp.of_c (H3 (hn 3 (show 3 ∈ [1, 3] from .tail _ (.head _))))
            clear hn hl H0 H1 H2 H3
            refine stepC (wanted_free rfl) fun K hK => ?_
            go_simp
            exact hK _ (Below.refl _ _)
          refine steps_cons (fun hn hl => ?_) fun H5 => ?_
          · skip
            have h65 := Sp.of_c (H4 (hn 4 (show 4 ∈ [4] from .head _)))
            clear hn hl H0 H1 H2 H3 H4
            refine stepC (wanted_free rfl) fun K hK => ?_
            go_simp
            exact hK _ (Below.refl _ _)
          refine steps_cons (fun hn hl => ?_) fun H6 => ?_
          · skip
            have h66 := Sp.of_c (H5 (hn 5 (show 5 ∈ [5] from .head _)))
            clear hn hl H0 H1 H2 H3 H4 H5
            refine stepC (wanted_guard rfl rfl h66 rfl) fun K hK => ?_
            go_simp
            exact hK _ (Below.refl _ _)
          refine steps_cons (fun hn hl => ?_) fun H7 => ?_
          · skip
            have h67 := Sp.of_c (H6 (hn 6 (show 6 ∈ [6, 5] from .head _)))
            have h66 := Sp.of_c (H5 (hn 5 (show 5 ∈ [6, 5] from .tail _ (.head _))))
            clear hn hl H0 H1 H2 H3 H4 H5 H6
            refine stepC (wanted_guard rfl rfl h66 rfl) fun K hK => ?_
            go_simp
            exact hK _ (Below.refl _ _)
          refine steps_cons (fun hn hl => ?_) fun H8 => ?_
          · skip
            have h68 := Sp.of_c (H7 (hn 7 (show 7 ∈ [7, 5] from .head _)))
            have h66 := Sp.of_c (H5 (hn 5 (show 5 ∈ [7, 5] from .tail _ (.head _))))
            clear hn hl H0 H1 H2 H3 H4 H5 H6 H7
            refine stepC (wanted_guard rfl rfl h66 rfl) fun K hK => ?_
            go_simp
            first
              | ((with_reducible refine (HTOT.out _ (HSH.out.st.later hbm)).mono ?_); rintro e w6 ⟨rfl, hb6⟩; exact hK _ hb6)
          refine steps_cons (fun hn hl => ?_) fun H9 => ?_
          · skip
            have h66 := Sp.of_c (H5 (hn 5 (show 5 ∈ [5] from .head _)))
            clear hn hl H0 H1 H2 H3 H4 H5 H6 H7 H8
            refine stepC (wanted_guard rfl rfl h66 rfl) fun K hK => ?_
            go_simp
            exact hK _ (Below.refl _ _)
          refine steps_cons (fun hn hl => ?_) fun H10 => ?_
          · skip
            have h70 := Sp.of_c (H9 (hn 9 (show 9 ∈ [9, 5] from .head _)))
            have h66 := Sp.of_c (H5 (hn 5 (show 5 ∈ [9, 5] from .tail _ (.head _))))
            clear hn hl H0 H1 H2 H3 H4 H5 H6 H7 H8 H9
            refine stepC (wanted_guard rfl rfl h66 rfl) fun K hK => ?_
            go_simp
            exact hK _ (Below.refl _ _)
          refine steps_cons (fun hn hl => ?_) fun H11 => ?_
          · skip
            have h69 := Sp.of_c (H8 (hn 8 (show 8 ∈ [8, 10, 5] from .head _)))
            have h71 := Sp.of_c (H10 (hn 10 (show 10 ∈ [8, 10, 5] from .tail _ (.head _))))
            have h66 := Sp.of_c (H5 (hn 5 (show 5 ∈ [8, 10, 5] from .tail _ (.tail _ (.head _)))))
            clear hn hl H0 H1 H2 H3 H4 H5 H6 H7 H8 H9 H10
            refine stepC (wanted_guard rfl rfl h66 rfl) fun K hK => ?_
            go_simp
            exact hK _ (Below.refl _ _)
          refine steps_cons (fun hn hl => ?_) fun H12 => ?_
          · skip
            have h66 := Sp.of_c (H5 (hn 5 (show 5 ∈ [5, 11] from .head _)))
            have h72 := Sp.of_c (H11 (hn 11 (show 11 ∈ [5, 11] from .tail _ (.head _))))
            clear hn hl H0 H1 H2 H3 H4 H5 H6 H7 H8 H9 H10 H11
            refine stepC (wanted_free rfl) fun K hK => ?_
            go_simp
            exact hK _ (Below.refl _ _)
          exact trivial
        · intro w5 hb5
          have hz5 := hb5.size
          refine end_cons ?_; rintro _ rfl
          refine end_cons ?_; rintro _ rfl
          refine end_cons ?_; rintro _ rfl
          refine end_cons ?_; rintro _ rfl
          refine end_cons ?_; rintro _ rfl
          refine end_cons ?_; rintro _ rfl
          refine end_cons ?_; rintro _ rfl
          refine end_cons ?_; rintro _ rfl
          refine end_cons ?_; rintro _ rfl
          refine end_cons ?_; rintro _ rfl
          refine end_cons ?_; rintro _ rfl
          refine end_cons ?_; rintro _ rfl
          refine end_cons ?_; rintro _ rfl
          refine end_nil ?_
          simp only [List.setIfInBounds_toArray, List.set_cons_succ, List.set_cons_zero, Bool.not_false, Bool.not_true, Bool.true_or, Bool.or_true, Bool.false_or, Bool.or_false]
          have kB := kA.trans (hb5.mono kA.size)
          have HSHB := Lib.hid (HSH.out.later hb5)
          have HPB := Lib.hid (HPA.out.later hb5)
          have HSB := Lib.hid (HSA.out.later hb5)
          have HXB := Lib.hid (HXA.out.later hb5)
          replace c1p := carry hb5 c1p
          replace c2p := carry hb5 c2p
          replace c18 := carry hb5 c18
          replace x6 := carry hb5 x6
          clear HSH HPA HSA HXA HWA HTOT x0 x1 x2 x3 x4 x5 c19 c20
          have hadd : IntKind.i64.wrap (t + x.wall) = t + x.wall := IntWalk.i64_in _ (by omega)
          go_wp2
          go_loopw [9] (fun v9 wr => ∃ u : Int, v9 = .int .i64 u ∧ t ≤ u ∧ u ≤ t + x.wall ∧ Below w5.heap.size w5 wr) (fun v9 _ => (t + x.wall - intOf v9).toNat)
          case atStart => exact ⟨t, rfl, Int.le_refl _, by omega, Below.refl _ _⟩
          case round =>
            rename World => wo
            obtain ⟨u, rfl, hu1, hu2, hbo⟩ := hrel
            have ko := kB.trans (hbo.mono kB.size)
            have d1p := carry hbo c1p
            have d2p := carry hbo c2p
            have d6 := carry hbo x6
            have d18 := carry hbo c18
            by_cases hlt : u < t + x.wall
            · have gl : decide (u < t + x.wall) = true := decide_eq_true hlt
              go_wp2_with fail
              refine (HFREE.out u wo (HPB.out.later hbo) (by omega)).mono ?_; rintro e w6 ⟨v6, rfl, hO6, hb6⟩
              have hln6 : Fl.length = (freeL Fl u).length := by simp [freeL]
              rw [hln6] at hO6
              obtain ⟨a6, c6, rfl, hv6⟩ := own_vc hO6
              rw [← hln6]
              have hr6 := hbo.trans (hb6.mono hbo.size)
              have k6 := ko.trans (hb6.mono ko.size)
              have HV6 := Lib.hid hv6
              have HL6 := Lib.hid hln6
              clear hO6 hv6 hln6
              replace d1p := carry hb6 d1p
              replace d2p := carry hb6 d2p
              replace d6 := carry hb6 d6
              have HSH6 := Lib.hid (HSHB.out.later hr6)
              go_wp2
              go_loopw [91] (fun v wr => ∃ j : Nat, j ≤ L.length ∧ v = .int .i64 j ∧ Below w6.heap.size w6 wr) (fun v _ => L.length - (intOf v).toNat)
              case atStart => exact ⟨0, Nat.zero_le _, rfl, Below.refl _ _⟩
              case round =>
                rename World => wi
                obtain ⟨j, hj, rfl, hbi⟩ := hrel
                have ki := k6.trans (hbi.mono k6.size)
                have hri := hr6.trans (hbi.mono hr6.size)
                by_cases hlj : j < L.length
                · obtain ⟨b, off, eb, hbl, q0, q1⟩ := (HSH6.out.later hbi).st.row.sh hlj
                  subst eb
                  obtain ⟨⟨g1, g2⟩, ⟨g3, g4⟩, g5⟩ := HLH.out.each L[j] (List.getElem_mem hlj)
                  have hle := g5 u hu1 hlt
                  obtain ⟨kk, hkk⟩ : ∃ kk : Nat, (kk : Int) = L[j].node := ⟨L[j].node.toNat, by omega⟩
                  rw [← hkk] at q0 g2
                  rw [show L[j].node.toNat = kk by omega] at hle
                  have hkF : kk < Fl.length := by omega
                  have hat := HATR.out kk hkF u
                  have hkv : kk < (freeL Fl u).length := by rw [← HL6.out]; exact hkF
                  obtain ⟨fb, fo, ef, hfl, y0, y1, y2, y3⟩ := (HV6.out.later hbi).row.vc hkv
                  rw [show (freeL Fl u)[kk] = frL (flOf Fl) kk u by rw [List.getElem?_eq_getElem hkv] at hat; injection hat] at y0 y1 y2 y3
                  subst ef
                  have HTI := Lib.hid (fun (w' : World) => rVcTimes x.need L[j].many (by omega) g4 HLH.out.ok w')
                  have HFI := Lib.hid (fun (w' : World) => rfits (x.need.by L[j].many) (frL (flOf Fl) kk u) w')
                  rw [fits_yes hle] at HFI
                  clear hle hat g5
                  generalize frL (flOf Fl) kk u = fv at y0 y1 y2 y3 HFI
                  generalize L[j].many = sm at q1 HTI HFI g3 g4
                  have hk0 : (0 : Int) ≤ kk := by omega
                  have hkt : ((kk : Int)).toNat = kk := by omega
                  have g21 : decide ((kk : Int) < 0) = false := decide_eq_false (by omega)
                  have g22 : decide ((Fl.length : Int) ≤ (kk : Int)) = false := decide_eq_false (by omega)
                  have g22n : decide (Fl.length ≤ kk) = false := decide_eq_false (by omega)
                  have g23 : decide (sm < 1) = false := decide_eq_false (by omega)
                  have g24 : decide (64 < sm) = false := decide_eq_false (by omega)
                  obtain ⟨_, _, x2, x3, x4, x5, _⟩ := HXB.out.later hri
                  clear hkk
                  go_upto_region 20 with fail
                  generalize hwC : World.alloc wi _ = wC
                  have hbC : Below wi.heap.size wi wC := by rw [← hwC]; exact (Below.refl _ _).alloc (Nat.le_refl _) _
                  have z0 : wC.cell? ⟨wi.heap.size, 0, none⟩ = some (.int .i64 (kk : Int)) := by rw [← hwC]; simp [go_sem]
                  have z1 : wC.cell? ⟨wi.heap.size, 1, none⟩ = some (.int .i64 sm) := by rw [← hwC]; simp [go_sem]
                  clear hwC q0 q1
                  replace x2 := carry hbC x2
                  replace x3 := carry hbC x3
                  replace x4 := carry hbC x4
                  replace x5 := carry hbC x5
                  replace y0 := carry hbC y0
                  replace y1 := carry hbC y1
                  replace y2 := carry hbC y2
                  replace y3 := carry hbC y3
                  have hriC := hbi.trans (hbC.mono hbi.size)
                  generalize wi.heap.size = sb at z0 z1 ⊢
                  refine region_mono (pl20 gx fb fo c6 sb kk Fl.length sm x.need fv) [95, 96, 97, 98, 99, 100, 101, 102, 103, 104, 105, 106, 107, 108, 109, 110, 111, 112, 113, 114, 115, 116, 117, 118, 119, 120, 121, 122, 123, 124, 125, 126, 127, 128] (by kernel_rfl) (by kernel_rfl) (by kernel_rfl) (by kernel_rfl) (stables_cons (Sp.c_stable _ _) (stables_cons (Sp.c_stable _ _) (stables_cons (Sp.c_stable _ _) (stables_cons (Sp.c_stable _ _) (stables_cons (Sp.c_stable _ _) (stables_cons (Sp.c_stable _ _) (stables_cons (Sp.c_stable _ _) (stables_cons (Sp.c_stable _ _) (stables_cons (Sp.c_stable _ _) (stables_cons (Sp.c_stable _ _) (stables_cons (Sp.c_stable _ _) (stables_cons (Sp.c_stable _ _) (stables_cons (Sp.c_stable _ _) (stables_cons (Sp.c_stable _ _) (stables_cons (Sp.c_stable _ _) (stables_cons (Sp.c_stable _ _) (stables_cons (Sp.c_stable _ _) (stables_cons (Sp.c_stable _ _) (stables_cons (Sp.c_stable _ _) (stables_cons (Sp.c_stable _ _) (stables_cons (Sp.c_stable _ _) (stables_cons (Sp.c_stable _ _) (stables_cons (Sp.c_stable _ _) (stables_cons (Sp.c_stable _ _) (stables_cons (Sp.c_stable _ _) (stables_cons (Sp.c_stable _ _) (stables_cons (Sp.c_stable _ _) (stables_cons (Sp.c_stable _ _) (stables_cons (Sp.c_stable _ _) (stables_cons (Sp.c_stable _ _) (stables_cons (Sp.c_stable _ _) (stables_cons (Sp.c_stable _ _) (stables_cons (Sp.c_stable _ _) (stables_cons (Sp.c_stable _ _) (trivial))))))))))))))))))))))))))))))))))) ?_ ?_
                  · intro am wm L hbm hbase hbase2
                    have s3 : am.tmps.getD 3 undef = .pointer (some ⟨gx, 0, none⟩) := (hbase 3 rfl).trans (by simp only [Array.getD_eq_getD_getElem?, List.getElem?_toArray, List.getElem?_cons_succ, List.getElem?_cons_zero, Option.getD_some])
                    have s10 : am.tmps.getD 10 undef = .slice (some ⟨fb, fo, none⟩) Fl.length c6 := (hbase 10 rfl).trans (by simp only [Array.getD_eq_getD_getElem?, List.getElem?_toArray, List.getElem?_cons_succ, List.getElem?_cons_zero, Option.getD_some])
                    have s12 : am.tmps.getD 12 undef = .pointer (some ⟨sb, 0, none⟩) := (hbase 12 rfl).trans (by simp only [Array.getD_eq_getD_getElem?, List.getElem?_toArray, List.getElem?_cons_succ, List.getElem?_cons_zero, Option.getD_some])
                    clear hbase hbase2
                    have p1 := carry hbm z0
                    have p2 := carry hbm z1
                    have q2 := carry hbm x2
                    have q3 := carry hbm x3
                    have q4 := carry hbm x4
                    have q5 := carry hbm x5
                    have v0 := carry hbm y0
                    have v1 := carry hbm y1
                    have v2 := carry hbm y2
                    have v3 := carry hbm y3
                    refine steps_cons (fun hn hl => ?_) fun H0 => ?_
                    · skip
                      clear hn hl 
                      refine stepC (wanted_free rfl) fun K hK => ?_
                      go_simp
                      exact hK _ (Below.refl _ _)
                    refine steps_cons (fun hn hl => ?_) fun H1 => ?_
                    · skip
                      have h95 := Sp.of_c (H0 (hn 0 (show 0 ∈ [0] from .head _)))
                      clear hn hl H0
                      refine stepC (wanted_free rfl) fun K hK => ?_
                      go_simp
                      exact hK _ (Below.refl _ _)
                    refine steps_cons (fun hn hl => ?_) fun H2 => ?_
                    · skip
                      have h96 := Sp.of_c (H1 (hn 1 (show 1 ∈ [1] from .head _)))
                      clear hn hl H0 H1
                      refine stepC (wanted_free rfl) fun K hK => ?_
                      go_simp
                      exact hK _ (Below.refl _ _)
                    refine steps_cons (fun hn hl => ?_) fun H3 => ?_
                    · skip
                      have h97 := Sp.of_c (H2 (hn 2 (show 2 ∈ [2] from .head _)))
                      clear hn hl H0 H1 H2
                      refine stepC (wanted_free rfl) fun K hK => ?_
                      go_simp
                      exact hK _ (Below.refl _ _)
                    refine steps_cons (fun hn hl => ?_) fun H4 => ?_
                    · skip
                      have h98 := Sp.of_c (H3 (hn 3 (show 3 ∈ [3] from .head _)))
                      clear hn hl H0 H1 H2 H3
                      refine stepC (wanted_guard rfl rfl h98 rfl) fun K hK => ?_
                      go_simp
                      exact hK _ (Below.refl _ _)
                    refine steps_cons (fun hn hl => ?_) fun H5 => ?_
                    · skip
                      have h99 := Sp.of_c (H4 (hn 4 (show 4 ∈ [4, 3] from .head _)))
                      have h98 := Sp.of_c (H3 (hn 3 (show 3 ∈ [4, 3] from .tail _ (.head _))))
                      clear hn hl H0 H1 H2 H3 H4
                      refine stepC (wanted_guard rfl rfl h98 rfl) fun K hK => ?_
                      go_simp
                      exact hK _ (Below.refl _ _)
                    refine steps_cons (fun hn hl => ?_) fun H6 => ?_
                    · skip
                      have h98 := Sp.of_c (H3 (hn 3 (show 3 ∈ [3] from .head _)))
                      clear hn hl H0 H1 H2 H3 H4 H5
                      refine stepC (wanted_guard rfl rfl h98 rfl) fun K hK => ?_
                      go_simp
                      exact hK _ (Below.refl _ _)
                    refine steps_cons (fun hn hl => ?_) fun H7 => ?_
                    · skip
                      have h101 := Sp.of_c (H6 (hn 6 (show 6 ∈ [6, 3] from .head _)))
                      have h98 := Sp.of_c (H3 (hn 3 (show 3 ∈ [6, 3] from .tail _ (.head _))))
                      clear hn hl H0 H1 H2 H3 H4 H5 H6
                      refine stepC (wanted_guard rfl rfl h98 rfl) fun K hK => ?_
                      go_simp
                      exact hK _ (Below.refl _ _)
                    refine steps_cons (fun hn hl => ?_) fun H8 => ?_
                    · skip
                      have h100 := Sp.of_c (H5 (hn 5 (show 5 ∈ [5, 7, 3] from .head _)))
                      have h102 := Sp.of_c (H7 (hn 7 (show 7 ∈ [5, 7, 3] from .tail _ (.head _))))
                      have h98 := Sp.of_c (H3 (hn 3 (show 3 ∈ [5, 7, 3] from .tail _ (.tail _ (.head _)))))
                      clear hn hl H0 H1 H2 H3 H4 H5 H6 H7
                      refine stepC (wanted_guard rfl rfl h98 rfl) fun K hK => ?_
                      go_simp
                      exact hK _ (Below.refl _ _)
                    refine steps_cons (fun hn hl => ?_) fun H9 => ?_
                    · skip
                      have h98 := Sp.of_c (H3 (hn 3 (show 3 ∈ [3, 8] from .head _)))
                      have h103 := Sp.of_c (H8 (hn 8 (show 8 ∈ [3, 8] from .tail _ (.head _))))
                      clear hn hl H0 H1 H2 H3 H4 H5 H6 H7 H8
                      refine stepC (wanted_free rfl) fun K hK => ?_
                      go_simp
                      exact hK _ (Below.refl _ _)
                    refine steps_cons (fun hn hl => ?_) fun H10 => ?_
                    · skip
                      have h104 := Sp.of_c (H9 (hn 9 (show 9 ∈ [9] from .head _)))
                      clear hn hl H0 H1 H2 H3 H4 H5 H6 H7 H8 H9
                      refine stepC (wanted_free rfl) fun K hK => ?_
                      go_simp
                      exact hK _ (Below.refl _ _)
                    refine steps_cons (fun hn hl => ?_) fun H11 => ?_
                    · skip
                      have h105 := Sp.of_c (H10 (hn 10 (show 10 ∈ [10] from .head _)))
                      clear hn hl H0 H1 H2 H3 H4 H5 H6 H7 H8 H9 H10
                      refine stepC (wanted_guard rfl rfl h105 rfl) fun K hK => ?_
                      go_simp
                      exact hK _ (Below.refl _ _)
                    refine steps_cons (fun hn hl => ?_) fun H12 => ?_
                    · skip
                      have h106 := Sp.of_c (H11 (hn 11 (show 11 ∈ [11, 10] from .head _)))
                      have h105 := Sp.of_c (H10 (hn 10 (show 10 ∈ [11, 10] from .tail _ (.head _))))
                      clear hn hl H0 H1 H2 H3 H4 H5 H6 H7 H8 H9 H10 H11
                      refine stepC (wanted_guard rfl rfl h105 rfl) fun K hK => ?_
                      go_simp
                      exact hK _ (Below.refl _ _)
                    refine steps_cons (fun hn hl => ?_) fun H13 => ?_
                    · skip
                      have h107 := Sp.of_c (H12 (hn 12 (show 12 ∈ [12, 10] from .head _)))
                      have h105 := Sp.of_c (H10 (hn 10 (show 10 ∈ [12, 10] from .tail _ (.head _))))
                      clear hn hl H0 H1 H2 H3 H4 H5 H6 H7 H8 H9 H10 H11 H12
                      refine stepC (wanted_guard rfl rfl h105 rfl) fun K hK => ?_
                      go_simp
                      exact hK _ (Below.refl _ _)
                    refine steps_cons (fun hn hl => ?_) fun H14 => ?_
                    · skip
                      have h105 := Sp.of_c (H10 (hn 10 (show 10 ∈ [10, 13] from .head _)))
                      have h108 := Sp.of_c (H13 (hn 13 (show 13 ∈ [10, 13] from .tail _ (.head _))))
                      clear hn hl H0 H1 H2 H3 H4 H5 H6 H7 H8 H9 H10 H11 H12 H13
                      refine stepC (wanted_free rfl) fun K hK => ?_
                      go_simp
                      exact hK _ (Below.refl _ _)
                    refine steps_cons (fun hn hl => ?_) fun H15 => ?_
                    · skip
                      have h109 := Sp.of_c (H14 (hn 14 (show 14 ∈ [14] from .head _)))
                      clear hn hl H0 H1 H2 H3 H4 H5 H6 H7 H8 H9 H10 H11 H12 H13 H14
                      refine stepC (wanted_free rfl) fun K hK => ?_
                      go_simp
                      exact hK _ (Below.refl _ _)
                    refine steps_cons (fun hn hl => ?_) fun H16 => ?_
                    · skip
                      have h110 := Sp.of_c (H15 (hn 15 (show 15 ∈ [15] from .head _)))
                      clear hn hl H0 H1 H2 H3 H4 H5 H6 H7 H8 H9 H10 H11 H12 H13 H14 H15
                      refine stepC (wanted_guard rfl rfl h110 rfl) fun K hK => ?_
                      go_simp
                      exact hK _ (Below.refl _ _)
                    refine steps_cons (fun hn hl => ?_) fun H17 => ?_
                    · skip
                      have h111 := Sp.of_c (H16 (hn 16 (show 16 ∈ [16, 15] from .head _)))
                      have h110 := Sp.of_c (H15 (hn 15 (show 15 ∈ [16, 15] from .tail _ (.head _))))
                      clear hn hl H0 H1 H2 H3 H4 H5 H6 H7 H8 H9 H10 H11 H12 H13 H14 H15 H16
                      refine stepC (wanted_guard rfl rfl h110 rfl) fun K hK => ?_
                      go_simp
                      exact hK _ (Below.refl _ _)
                    refine steps_cons (fun hn hl => ?_) fun H18 => ?_
                    · skip
                      have h112 := Sp.of_c (H17 (hn 17 (show 17 ∈ [17, 15] from .head _)))
                      have h110 := Sp.of_c (H15 (hn 15 (show 15 ∈ [17, 15] from .tail _ (.head _))))
                      clear hn hl H0 H1 H2 H3 H4 H5 H6 H7 H8 H9 H10 H11 H12 H13 H14 H15 H16 H17
                      refine stepC (wanted_guard rfl rfl h110 rfl) fun K hK => ?_
                      go_simp
                      exact hK _ (Below.refl _ _)
                    refine steps_cons (fun hn hl => ?_) fun H19 => ?_
                    · skip
                      have h110 := Sp.of_c (H15 (hn 15 (show 15 ∈ [15, 18] from .head _)))
                      have h113 := Sp.of_c (H18 (hn 18 (show 18 ∈ [15, 18] from .tail _ (.head _))))
                      clear hn hl H0 H1 H2 H3 H4 H5 H6 H7 H8 H9 H10 H11 H12 H13 H14 H15 H16 H17 H18
                      refine stepC (wanted_free rfl) fun K hK => ?_
                      go_simp
                      exact hK _ (Below.refl _ _)
                    refine steps_cons (fun hn hl => ?_) fun H20 => ?_
                    · skip
                      have h114 := Sp.of_c (H19 (hn 19 (show 19 ∈ [19] from .head _)))
                      clear hn hl H0 H1 H2 H3 H4 H5 H6 H7 H8 H9 H10 H11 H12 H13 H14 H15 H16 H17 H18 H19
                      refine stepC (wanted_free rfl) fun K hK => ?_
                      go_simp
                      exact hK _ (Below.refl _ _)
                    refine steps_cons (fun hn hl => ?_) fun H21 => ?_
                    · skip
                      have h115 := Sp.of_c (H20 (hn 20 (show 20 ∈ [20] from .head _)))
                      clear hn hl H0 H1 H2 H3 H4 H5 H6 H7 H8 H9 H10 H11 H12 H13 H14 H15 H16 H17 H18 H19 H20
                      refine stepC (wanted_guard rfl rfl h115 rfl) fun K hK => ?_
                      go_simp
                      exact hK _ (Below.refl _ _)
                    refine steps_cons (fun hn hl => ?_) fun H22 => ?_
                    · skip
                      have h116 := Sp.of_c (H21 (hn 21 (show 21 ∈ [21, 20] from .head _)))
                      have h115 := Sp.of_c (H20 (hn 20 (show 20 ∈ [21, 20] from .tail _ (.head _))))
                      clear hn hl H0 H1 H2 H3 H4 H5 H6 H7 H8 H9 H10 H11 H12 H13 H14 H15 H16 H17 H18 H19 H20 H21
                      refine stepC (wanted_guard rfl rfl h115 rfl) fun K hK => ?_
                      go_simp
                      exact hK _ (Below.refl _ _)
                    refine steps_cons (fun hn hl => ?_) fun H23 => ?_
                    · skip
                      have h115 := Sp.of_c (H20 (hn 20 (show 20 ∈ [20] from .head _)))
                      clear hn hl H0 H1 H2 H3 H4 H5 H6 H7 H8 H9 H10 H11 H12 H13 H14 H15 H16 H17 H18 H19 H20 H21 H22
                      refine stepC (wanted_guard rfl rfl h115 rfl) fun K hK => ?_
                      go_simp
                      exact hK _ (Below.refl _ _)
                    refine steps_cons (fun hn hl => ?_) fun H24 => ?_
                    · skip
                      have h118 := Sp.of_c (H23 (hn 23 (show 23 ∈ [23, 20] from .head _)))
                      have h115 := Sp.of_c (H20 (hn 20 (show 20 ∈ [23, 20] from .tail _ (.head _))))
                      clear hn hl H0 H1 H2 H3 H4 H5 H6 H7 H8 H9 H10 H11 H12 H13 H14 H15 H16 H17 H18 H19 H20 H21 H22 H23
                      refine stepC (wanted_guard rfl rfl h115 rfl) fun K hK => ?_
                      go_simp
                      exact hK _ (Below.refl _ _)
                    refine steps_cons (fun hn hl => ?_) fun H25 => ?_
                    · skip
                      have h117 := Sp.of_c (H22 (hn 22 (show 22 ∈ [22, 24, 20] from .head _)))
                      have h119 := Sp.of_c (H24 (hn 24 (show 24 ∈ [22, 24, 20] from .tail _ (.head _))))
                      have h115 := Sp.of_c (H20 (hn 20 (show 20 ∈ [22, 24, 20] from .tail _ (.tail _ (.head _)))))
                      clear hn hl H0 H1 H2 H3 H4 H5 H6 H7 H8 H9 H10 H11 H12 H13 H14 H15 H16 H17 H18 H19 H20 H21 H22 H23 H24
                      refine stepC (wanted_guard rfl rfl h115 rfl) fun K hK => ?_
                      go_simp
                      first
                        | ((with_reducible refine (HTI.out _).mono ?_); rintro e w6 ⟨rfl, hb6⟩; exact hK _ hb6)
                        | ((with_reducible refine (HFI.out _).mono ?_); rintro e w6 ⟨rfl, hb6⟩; exact hK _ hb6)
                    refine steps_cons (fun hn hl => ?_) fun H26 => ?_
                    · skip
                      have h115 := Sp.of_c (H20 (hn 20 (show 20 ∈ [20] from .head _)))
                      clear hn hl H0 H1 H2 H3 H4 H5 H6 H7 H8 H9 H10 H11 H12 H13 H14 H15 H16 H17 H18 H19 H20 H21 H22 H23 H24 H25
                      refine stepC (wanted_guard rfl rfl h115 rfl) fun K hK => ?_
                      go_simp
                      exact hK _ (Below.refl _ _)
                    refine steps_cons (fun hn hl => ?_) fun H27 => ?_
                    · skip
                      have h115 := Sp.of_c (H20 (hn 20 (show 20 ∈ [20] from .head _)))
                      clear hn hl H0 H1 H2 H3 H4 H5 H6 H7 H8 H9 H10 H11 H12 H13 H14 H15 H16 H17 H18 H19 H20 H21 H22 H23 H24 H25 H26
                      refine stepC (wanted_guard rfl rfl h115 rfl) fun K hK => ?_
                      go_simp
                      exact hK _ (Below.refl _ _)
                    refine steps_cons (fun hn hl => ?_) fun H28 => ?_
                    · skip
                      have h122 := Sp.of_c (H27 (hn 27 (show 27 ∈ [27, 20] from .head _)))
                      have h115 := Sp.of_c (H20 (hn 20 (show 20 ∈ [27, 20] from .tail _ (.head _))))
                      clear hn hl H0 H1 H2 H3 H4 H5 H6 H7 H8 H9 H10 H11 H12 H13 H14 H15 H16 H17 H18 H19 H20 H21 H22 H23 H24 H25 H26 H27
                      refine stepC (wanted_guard rfl rfl h115 rfl) fun K hK => ?_
                      go_simp
                      exact hK _ (Below.refl _ _)
                    refine steps_cons (fun hn hl => ?_) fun H29 => ?_
                    · skip
                      have h121 := Sp.of_c (H26 (hn 26 (show 26 ∈ [26, 28, 20] from .head _)))
                      have h123 := Sp.of_c (H28 (hn 28 (show 28 ∈ [26, 28, 20] from .tail _ (.head _))))
                      have h115 := Sp.of_c (H20 (hn 20 (show 20 ∈ [26, 28, 20] from .tail _ (.tail _ (.head _)))))
                      clear hn hl H0 H1 H2 H3 H4 H5 H6 H7 H8 H9 H10 H11 H12 H13 H14 H15 H16 H17 H18 H19 H20 H21 H22 H23 H24 H25 H26 H27 H28
                      refine stepC (wanted_guard rfl rfl h115 rfl) fun K hK => ?_
                      go_simp
                      exact hK _ (Below.refl _ _)
                    refine steps_cons (fun hn hl => ?_) fun H30 => ?_
                    · skip
                      have h124 := Sp.of_c (H29 (hn 29 (show 29 ∈ [29, 20] from .head _)))
                      have h115 := Sp.of_c (H20 (hn 20 (show 20 ∈ [29, 20] from .tail _ (.head _))))
                      clear hn hl H0 H1 H2 H3 H4 H5 H6 H7 H8 H9 H10 H11 H12 H13 H14 H15 H16 H17 H18 H19 H20 H21 H22 H23 H24 H25 H26 H27 H28 H29
                      refine stepC (wanted_guard rfl rfl h115 rfl) fun K hK => ?_
                      go_simp
                      exact hK _ (Below.refl _ _)
                    refine steps_cons (fun hn hl => ?_) fun H31 => ?_
                    · skip
                      have h120 := Sp.of_c (H25 (hn 25 (show 25 ∈ [25, 30, 20] from .head _)))
                      have h125 := Sp.of_c (H30 (hn 30 (show 30 ∈ [25, 30, 20] from .tail _ (.head _))))
                      have h115 := Sp.of_c (H20 (hn 20 (show 20 ∈ [25, 30, 20] from .tail _ (.tail _ (.head _)))))
                      clear hn hl H0 H1 H2 H3 H4 H5 H6 H7 H8 H9 H10 H11 H12 H13 H14 H15 H16 H17 H18 H19 H20 H21 H22 H23 H24 H25 H26 H27 H28 H29 H30
                      refine stepC (wanted_guard rfl rfl h115 rfl) fun K hK => ?_
                      go_simp
                      first
                        | ((with_reducible refine (HTI.out _).mono ?_); rintro e w6 ⟨rfl, hb6⟩; exact hK _ hb6)
                        | ((with_reducible refine (HFI.out _).mono ?_); rintro e w6 ⟨rfl, hb6⟩; exact hK _ hb6)
                    refine steps_cons (fun hn hl => ?_) fun H32 => ?_
                    · skip
                      have h126 := Sp.of_c (H31 (hn 31 (show 31 ∈ [31, 20] from .head _)))
                      have h115 := Sp.of_c (H20 (hn 20 (show 20 ∈ [31, 20] from .tail _ (.head _))))
                      clear hn hl H0 H1 H2 H3 H4 H5 H6 H7 H8 H9 H10 H11 H12 H13 H14 H15 H16 H17 H18 H19 H20 H21 H22 H23 H24 H25 H26 H27 H28 H29 H30 H31
                      refine stepC (wanted_guard rfl rfl h115 rfl) fun K hK => ?_
                      go_simp
                      exact hK _ (Below.refl _ _)
                    refine steps_cons (fun hn hl => ?_) fun H33 => ?_
                    · skip
                      have h115 := Sp.of_c (H20 (hn 20 (show 20 ∈ [20, 32] from .head _)))
                      have h127 := Sp.of_c (H32 (hn 32 (show 32 ∈ [20, 32] from .tail _ (.head _))))
                      clear hn hl H0 H1 H2 H3 H4 H5 H6 H7 H8 H9 H10 H11 H12 H13 H14 H15 H16 H17 H18 H19 H20 H21 H22 H23 H24 H25 H26 H27 H28 H29 H30 H31 H32
                      refine stepC (wanted_free rfl) fun K hK => ?_
                      go_simp
                      exact hK _ (Below.refl _ _)
                    exact trivial
                  · intro w7 hb7
                    have hz7 := hb7.size
                    refine end_cons ?_; rintro _ rfl
                    refine end_cons ?_; rintro _ rfl
                    refine end_cons ?_; rintro _ rfl
                    refine end_cons ?_; rintro _ rfl
                    refine end_cons ?_; rintro _ rfl
                    refine end_cons ?_; rintro _ rfl
                    refine end_cons ?_; rintro _ rfl
                    refine end_cons ?_; rintro _ rfl
                    refine end_cons ?_; rintro _ rfl
                    refine end_cons ?_; rintro _ rfl
                    refine end_cons ?_; rintro _ rfl
                    refine end_cons ?_; rintro _ rfl
                    refine end_cons ?_; rintro _ rfl
                    refine end_cons ?_; rintro _ rfl
                    refine end_cons ?_; rintro _ rfl
                    refine end_cons ?_; rintro _ rfl
                    refine end_cons ?_; rintro _ rfl
                    refine end_cons ?_; rintro _ rfl
                    refine end_cons ?_; rintro _ rfl
                    refine end_cons ?_; rintro _ rfl
                    refine end_cons ?_; rintro _ rfl
                    refine end_cons ?_; rintro _ rfl
                    refine end_cons ?_; rintro _ rfl
                    refine end_cons ?_; rintro _ rfl
                    refine end_cons ?_; rintro _ rfl
                    refine end_cons ?_; rintro _ rfl
                    refine end_cons ?_; rintro _ rfl
                    refine end_cons ?_; rintro _ rfl
                    refine end_cons ?_; rintro _ rfl
                    refine end_cons ?_; rintro _ rfl
                    refine end_cons ?_; rintro _ rfl
                    refine end_cons ?_; rintro _ rfl
                    refine end_cons ?_; rintro _ rfl
                    refine end_cons ?_; rintro _ rfl
                    refine end_nil ?_
                    simp only [List.setIfInBounds_toArray, List.set_cons_succ, List.set_cons_zero, Bool.not_false, Bool.not_true, Bool.true_or, Bool.or_true, Bool.false_or, Bool.or_false]
                    go_wp2
                    go_roundw
                    case rel => exact ⟨j + 1, by omega, by go_num, hriC.trans (hb7.mono hriC.size)⟩
                    case measure => simp [intOf]; omega
                · have hr9 := hr6.trans (hbi.mono hr6.size)
                  have hadd2 : IntKind.i64.wrap (u + 1) = u + 1 := IntWalk.i64_in _ (by omega)
                  go_wp2
                  go_roundw
                  case rel => exact ⟨u + 1, by go_num, by omega, by omega, hr9⟩
                  case measure => simp [intOf]; omega
            · have gl : decide (u < t + x.wall) = false := decide_eq_false hlt
              have hsub : IntKind.i64.wrap (t - 60) = t - 60 := IntWalk.i64_in _ (by omega)
              have hmx : ∀ ts ty W, (Builtin.max_ ts ty #[.int .i64 now, .int .i64 (t - 60)]).run Try.prog W = .ok (.int .i64 (if now < t - 60 then t - 60 else now)) W := fun ts ty W => max2_run _ ts ty _ _ W
              have hmx2 : now ≤ (if now < t - 60 then t - 60 else now) := by split <;> omega
              generalize (if now < t - 60 then t - 60 else now) = u0 at hmx hmx2
              go_wp2
              go_loopw [13] (fun v13 wr => ∃ u : Int, v13 = .int .i64 u ∧ now ≤ u ∧ Below w5.heap.size w5 wr) (fun v13 _ => (t - intOf v13).toNat)
              case atStart => exact ⟨u0, rfl, hmx2, hbo⟩
              case round =>
                rename World => wi
                obtain ⟨u2, rfl, hu3, hbi⟩ := hrel
                have ki := kB.trans (hbi.mono kB.size)
                have e1p := carry hbi c1p
                obtain ⟨x0, x1, x2, x3, x4, x5, x6⟩ := HXB.out.later hbi
                by_cases hl3 : u2 < t
                · have gl3 : decide (u2 < t) = true := decide_eq_true hl3
                  have HQ := Lib.hid (HWHEN.out u2 wi (HPB.out.later hbi) (HSB.out.later hbi))
                  rw [HNOT.out u2 hl3] at HQ
                  have hadd3 : IntKind.i64.wrap (u2 + 1) = u2 + 1 := IntWalk.i64_in _ (by omega)
                  generalize whenS s now (flOf Fl) x.part x.many x.need x.wall u2 = L3 at HQ
                  go_wp2_with fail
                  refine HQ.out.mono ?_; rintro e w8 ⟨a8, c8, rfl, _, hb8⟩
                  have hr8 := hbi.trans (hb8.mono hbi.size)
                  go_wp2
                  go_roundw
                  case rel => exact ⟨u2 + 1, by go_num, by omega, hr8⟩
                  case measure => simp [intOf]; omega
                · have gl3 : decide (u2 < t) = false := decide_eq_false hl3
                  go_wp2
                  go_ret
                  exact ⟨rfl, ki⟩
  · have HBAD : Hid (fewW s R B = false ∨ (fewW s R B = true ∧ decide (40 < x.wall) = true)) := Lib.hid (by
      by_cases h : FewW s R B
      · exact .inr ⟨decide_eq_true h, decide_eq_true (Int.not_le.1 fun y => hfew ⟨h, y⟩)⟩
      · exact .inl (decide_eq_false h))
    rcases HBAD.out with hh | ⟨hh, h40⟩
    · rw [hh]
      clear hfew hh
      go_wp2
      go_ret
      exact ⟨rfl, k2⟩
    · rw [hh]
      clear hfew hh
      go_wp2
      go_ret
      exact ⟨rfl, k2⟩
end Go.Proofs.Ytcdajfiohhbdgaa.W
