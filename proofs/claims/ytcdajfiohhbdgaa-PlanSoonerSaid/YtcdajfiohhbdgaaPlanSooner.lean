/-
  The walk of PlanSooner.
-/
import Derived.Test.YtcdajfiohhbdgaaPlanLeast
namespace Go.Proofs.Ytcdajfiohhbdgaa.W
set_option maxRecDepth 100000
set_option linter.unusedVariables false
set_option linter.unusedSimpArgs false
open Go.ChangeShapes Go.WideShapes Go.ChangeAt Go.RowKit

theorem lowF_congr {f g : Int → V} {a : Int} : ∀ {m : Nat}, (∀ u, a ≤ u → f u = g u) → lowF f a m = lowF g a m
  | 0, h => h a (Int.le_refl _)
  | m + 1, h => by
    unfold lowF
    rw [lowF_congr h, h _ (by omega)]
theorem lowsL_congr {fr fr' : Fr} {n : Nat} {now t wall : Int} (h : ∀ k, k < n → ∀ u, now ≤ u → fr k u = fr' k u) (ht : now ≤ t) : lowsL fr n t wall = lowsL fr' n t wall := by
  unfold lowsL
  refine List.map_congr_left fun k hk => lowF_congr fun u hu => h k (List.mem_range.1 hk) u (by omega)
theorem may_congr {fr fr' : Fr} {n : Nat} {now : Int} (h : ∀ k, k < n → ∀ u, now ≤ u → fr k u = fr' k u) {x : Wt} {t : Int} : May fr n now x t ↔ May fr' n now x t := by
  unfold May
  constructor
  · rintro ⟨h0, h1, h2, h3⟩; exact ⟨h0, h1, h2, by rw [← lowsL_congr h h1]; exact h3⟩
  · rintro ⟨h0, h1, h2, h3⟩; exact ⟨h0, h1, h2, by rw [lowsL_congr h h1]; exact h3⟩
theorem first_congr {fr fr' : Fr} {n : Nat} {now : Int} (h : ∀ k, k < n → ∀ u, now ≤ u → fr k u = fr' k u) {x : Wt} : ∀ {r : Option Int}, First fr n now x r → First fr' n now x r
  | some t, hf => ⟨(may_congr h).1 hf.1, fun s hs hm => hf.2 s hs ((may_congr h).2 hm)⟩
  | none, hf => fun s hm => hf s ((may_congr h).2 hm)
/-- with fewer runs, fewer bookings it is a profile, too, and no time is lost -/
theorem less_new {s : S} {now : Int} {R R' : List RnM} {B B' : List Bk} (hR : R'.Sublist R) (hB : B'.Sublist B) (ha : ArgsNew s now R B) (hv : ValidFr s.nodes.length now s.nodes (R.map RnM.r) B) :
    ArgsNew s now R' B' ∧ (∃ F, planF now s.nodes (R'.map RnM.r) B' = some F) ∧ LeFr (frOf s.nodes (R.map RnM.r) B) (frOf s.nodes (R'.map RnM.r) B') s.nodes.length now := by
  obtain ⟨h0, ⟨h1, h2⟩, h3, h4⟩ := ha
  obtain ⟨⟨_, n3⟩, _⟩ := right_is h0
  have hrn : ∀ r ∈ R.map RnM.r, RnOk s.nodes.length now r := fun r hr => by obtain ⟨x, hx, rfl⟩ := List.mem_map.1 hr; exact h4 x hx
  obtain ⟨k1, k2⟩ := sooner (books' := B') n3 hrn (hR.map RnM.r) (fun b hb => hB.subset hb) hv
  have ha' : ArgsNew s now R' B' := ⟨h0, ⟨h1, h2⟩, rightBk_sub hB h3, fun x hx => h4 x (hR.subset hx)⟩
  refine ⟨ha', ?_, k2⟩
  obtain ⟨_, _, k5⟩ := planF_ok (runs := R'.map RnM.r) h1 (by omega) n3 ha'.2.2.1 (fun r hr => by obtain ⟨x, hx, rfl⟩ := List.mem_map.1 hr; exact ha'.2.2.2 x hx)
  cases hp : planF now s.nodes (R'.map RnM.r) B' with
  | some F => exact ⟨F, rfl⟩
  | none => exact absurd k1 (k5 hp)
theorem take_sub {α : Type} {l : List α} {k : Nat} (h : k < l.length) {m : List α} (hm : m.Sublist (l.take k)) : m.Sublist (l.take (k + 1)) ∧ (m ++ [l[k]]).Sublist (l.take (k + 1)) := by
  rw [take_app l k h]
  exact ⟨hm.trans (List.sublist_append_left _ _), hm.append (List.Sublist.refl _)⟩
theorem infoRn : (Try.prog.info? 63).map (fun i => (i.zero, i.size, i.bytes)) = some (some (.agg #[.int .i64 0, .int .i64 0, .int .i64 0, .int .i64 0, .slice none 0 0, .int .i64 0]), 6, 64) := by kernel_rfl
theorem earl_any {s : S} {now : Int} {F : List Stl} {part many : Int} {need : V} {wall : Int} {w w' : World} {e : Ending} (h : EarlPost s now F part many need wall w e w') : Below w.heap.size w w' ∧ ∃ t a n c b, e = .returned (.tuple #[.agg #[.int .i64 0, .int .i64 t, .slice a n c], .bool b]) := by
  obtain ⟨hb, ⟨_, h2⟩ | ⟨t', a, c, _, h2, _⟩⟩ := h
  · exact ⟨hb, 0, none, 0, 0, false, h2⟩
  · exact ⟨hb, t', a, _, c, true, h2⟩
theorem WdBox.below {w w' : World} {B g : Nat} {s : S} {now : Int} {ra : Option Addr} {rn rc : Nat} {ba : Option Addr} {bn bc : Nat} (h : WdBox w g s now ra rn rc ba bn bc) (hb : Below B w w') (hg : g < B) : WdBox w' g s now ra rn rc ba bn bc :=
  ⟨⟨(hb.cell hg).trans h.box.c0, (hb.cell hg).trans h.box.c1, (hb.cell hg).trans h.box.c2, (hb.cell hg).trans h.box.c3, (hb.cell hg).trans h.box.c4, (hb.cell hg).trans h.box.c5, (hb.cell hg).trans h.box.c6, (hb.cell hg).trans h.box.c7, (hb.cell hg).trans h.box.c8, (hb.cell hg).trans h.box.c9, (hb.cell hg).trans h.box.c10, (hb.cell hg).trans h.box.c11, (hb.cell hg).trans h.box.c12, (hb.cell hg).trans h.box.c13, (hb.cell hg).trans h.box.c14, (hb.cell hg).trans h.box.c15, (hb.cell hg).trans h.box.c16, (hb.cell hg).trans h.box.c17⟩, (hb.cell hg).trans h.c18, (hb.cell hg).trans h.c19, (hb.cell hg).trans h.c20⟩
theorem cell_off {w : World} {g i j : Nat} {u v : Value} (h : w.cell? ⟨g, i, none⟩ = some v) (hne : j ≠ i) : (w.setCell ⟨g, j, none⟩ u).cell? ⟨g, i, none⟩ = some v := by
  rw [← h]
  apply World.cell?_setCell_other
  intro e
  injection e with _ e
  exact hne e
theorem Box.off {w : World} {g j : Nat} {s : S} (h : Box w g s) (hj : 18 ≤ j) (u : Value) : Box (w.setCell ⟨g, j, none⟩ u) g s :=
  ⟨cell_off h.c0 (by omega), cell_off h.c1 (by omega), cell_off h.c2 (by omega), cell_off h.c3 (by omega), cell_off h.c4 (by omega), cell_off h.c5 (by omega), cell_off h.c6 (by omega), cell_off h.c7 (by omega), cell_off h.c8 (by omega), cell_off h.c9 (by omega), cell_off h.c10 (by omega), cell_off h.c11 (by omega), cell_off h.c12 (by omega), cell_off h.c13 (by omega), cell_off h.c14 (by omega), cell_off h.c15 (by omega), cell_off h.c16 (by omega), cell_off h.c17 (by omega)⟩
theorem WdBox.set19 {w : World} {g : Nat} {s : S} {now : Int} {ra : Option Addr} {rn rc : Nat} {ba : Option Addr} {bn bc : Nat} (h : WdBox w g s now ra rn rc ba bn bc) (a : Option Addr) (n c : Nat) : WdBox (w.setCell ⟨g, 19, none⟩ (.slice a n c)) g s now a n c ba bn bc :=
  ⟨h.box.off (by omega) _, cell_off h.c18 (by omega), World.cell?_setCell_same _ _ _ h.c19, cell_off h.c20 (by omega)⟩
theorem WdBox.set20 {w : World} {g : Nat} {s : S} {now : Int} {ra : Option Addr} {rn rc : Nat} {ba : Option Addr} {bn bc : Nat} (h : WdBox w g s now ra rn rc ba bn bc) (a : Option Addr) (n c : Nat) : WdBox (w.setCell ⟨g, 20, none⟩ (.slice a n c)) g s now ra rn rc a n c :=
  ⟨h.box.off (by omega) _, cell_off h.c18 (by omega), cell_off h.c19 (by omega), World.cell?_setCell_same _ _ _ h.c20⟩
/-- a row below a bound, in another block than g -/
structure RowB (w : World) (B g : Nat) (a : Option Addr) (xs : List Value) : Prop where
  row : RowAt w a xs
  lt : ∀ d, a = some d → d.block < B ∧ d.block ≠ g
theorem RowB.below {w w' : World} {B g : Nat} {a : Option Addr} {xs : List Value} (h : RowB w B g a xs) (hb : Below B w w') : RowB w' B g a xs := by
  refine ⟨?_, h.lt⟩
  rcases h.row with hx | ⟨b, off, rfl, hl, hc⟩
  · exact .inl hx
  · exact .inr ⟨b, off, rfl, Nat.lt_of_lt_of_le hl hb.size, fun i u hu => (hb.cell (p := ⟨b, off + i, none⟩) (h.lt _ rfl).1).trans (hc i u hu)⟩
theorem RowB.set {w : World} {B g j : Nat} {a : Option Addr} {xs : List Value} (h : RowB w B g a xs) (u : Value) : RowB (w.setCell ⟨g, j, none⟩ u) B g a xs := by
  refine ⟨?_, h.lt⟩
  rcases h.row with hx | ⟨b, off, rfl, hl, hc⟩
  · exact .inl hx
  · exact .inr ⟨b, off, rfl, by simpa using hl, fun i u' hu => (cell_set_ne u (show b ≠ g from (h.lt _ rfl).2)).trans (hc i u' hu)⟩
set_option maxHeartbeats 16000000 in
theorem planSooner_walk (v0 : Value) (v1 : Value) (v2 : Value) (w : World) (F0 : FWorld w v0) (F1 : FWn v1) (F2 : FInt .u8 v2) :
    Calls Try.prog 5 #[v0, v1, v2] w fun e w' => e = .returned (.bool true) ∧ Below w.heap.size w w' := by
  obtain ⟨s, now, ra, rc, R, ba, bc, B, rfl, HS, HR, HB⟩ := F0
  obtain ⟨x, rfl, hx64⟩ := F1
  obtain ⟨n8, rfl, h8⟩ := F2
  have HSR := Lib.hid HS
  have HRR := Lib.hid HR
  have HBR := Lib.hid HB
  have HFW := Lib.hid (fun (w' : World) h1 h2 => few13 s now ra rc R ba bc B w' h1 h2)
  clear HS HR HB
  go_enter Try.func5, Try.ntmps5
  go_upto_region 1 with fail
  generalize hw0 : World.alloc (World.alloc w _) _ = w0
  have hb0 : Below w.heap.size w w0 := by rw [← hw0]; exact ((Below.refl _ _).alloc (Nat.le_refl _) _).alloc (by simp) _
  have HW0 : Hid (WdBox w0 w.heap.size s now ra R.length rc ba B.length bc) := Lib.hid (WdBox.of (by rw [← hw0]; exact blk_up (blk_top rfl)))
  have HX0 : Hid (WnBox w0 (w.heap.size + 1) x) := Lib.hid (WnBox.of (by rw [← hw0]; exact blk_top (by simp)))
  clear hw0
  obtain ⟨gw, hgw⟩ : ∃ gw, w.heap.size = gw := ⟨_, rfl⟩
  obtain ⟨gx, hgx⟩ : ∃ gx, w.heap.size + 1 = gx := ⟨_, rfl⟩
  rw [hgw] at HW0 ⊢
  rw [hgx] at HX0
  rw [show gw + 1 = gx by omega]
  clear hgw hgx
  go_wp2_with fail
  refine (awake13 w0).mono ?_; rintro e w1 ⟨rfl, hb1⟩
  have k1 := hb0.trans (hb1.mono hb0.size)
  have HW1 := Lib.hid (HW0.out.later hb1)
  have HX1 := Lib.hid (HX0.out.later hb1)
  clear HW0 HX0
  obtain ⟨x0, x1, x2, x3, x4, x5, x6⟩ := HX1.out
  go_wp2_with (refine wpList_load_wd (s := s) rfl (.tmp 3) rfl rfl HW1.out ?_)
  refine (HFW.out w1 (HSR.out.later k1) (HRR.out.later k1)).mono ?_; rintro e w2 ⟨rfl, hb2⟩
  have k2 := k1.trans (hb2.mono k1.size)
  have HW2 := Lib.hid (HW1.out.later hb2)
  have HX2 := Lib.hid (HX1.out.later hb2)
  clear HW1 HX1 x0 x1 x2 x3 x4 x5 x6 HFW
  obtain ⟨x0, x1, x2, x3, x4, x5, x6⟩ := HX2.out
  by_cases hfew : FewW s R B
  · rw [show fewW s R B = true from decide_eq_true hfew]
    obtain ⟨hf0, hf1, hf2, hf3⟩ := hfew
    obtain ⟨hw64, hw640, hw641⟩ := hx64
    obtain ⟨hbox, c18, c19, c20⟩ := HW2.out
    have hadd : IntKind.i64.wrap ((R.length : Int) + B.length) = (R.length : Int) + B.length := IntWalk.i64_in _ (by omega)
    by_cases hsum : (R.length : Int) + B.length = 0
    · clear HSR HRR HBR hbox
      go_wp2
      go_ret
      exact ⟨rfl, k2⟩
    · have hsne : ((R.length : Int) + B.length == 0) = false := by simpa using hsum
      have hss : SmallS s := ⟨fun p hp => by have := hf0.2.2.2.1 p hp; omega, fun q hq => by have := hf0.2.2.2.2 q hq; omega⟩
      have HNEW := Lib.hid (fun (w' : World) h1 h2 h3 => pNew s hss now ra rc R hf1 hf3 ba bc B (by omega) w' h1 h2 h3)
      go_wp2_with (refine wpList_load_box (s := s) rfl (.tmp 39) rfl rfl hbox ?_)
      refine (HNEW.out w2 (HSR.out.later k2) (HRR.out.later k2) (HBR.out.later k2)).mono ?_
      rintro e w3 ⟨hb3, ⟨E, hE, rfl, _⟩ | ⟨g, fa, fc, Fl, rfl, hg, hpr, harg, hpl, hln⟩⟩
      · have hne : (E == 0) = false := by simpa using hE
        have k3 := k2.trans (hb3.mono k2.size)
        clear hbox
        go_wp2
        go_ret
        exact ⟨rfl, k3⟩
      · have k3 := k2.trans (hb3.mono k2.size)
        obtain ⟨hok, hfr, hval⟩ := prOk_of harg hpl hln hf1
        have HARG := Lib.hid harg
        have HVAL := Lib.hid hval
        have HFR := Lib.hid hfr
        have HOK := Lib.hid hok
        have HP3 := Lib.hid hpr
        have HS3 := Lib.hid (HSR.out.later k3)
        have HR3 := Lib.hid (HRR.out.later k3)
        have HB3 := Lib.hid (HBR.out.later k3)
        have HW3 := Lib.hid (HW2.out.later hb3)
        have HX3 := Lib.hid (HX2.out.later hb3)
        clear hpr harg hpl hln hok hfr hval hbox HW2 HX2 x0 x1 x2 x3 x4 x5 x6 c18 c19 c20 HNEW
        obtain ⟨hbox, c18, c19, c20⟩ := HW3.out
        have HGZ := Lib.hid (show (w3.alloc (.cells #[.slice none 0 0, .slice none 0 0, .slice none 0 0, .int .i64 0, .int .i64 0, .int .i64 0, .int .i64 0, .int .i64 0, .int .i64 0, .int .i64 0, .int .i64 0, .int .i64 0, .int .i64 0, .int .i64 0, .int .i64 0, .int .i64 0, .int .i64 0, .int .i64 0, .int .i64 0, .slice none 0 0, .slice none 0 0] 32)).heap[w3.heap.size]? = some (.cells #[.slice none 0 0, .slice none 0 0, .slice none 0 0, .int .i64 0, .int .i64 0, .int .i64 0, .int .i64 0, .int .i64 0, .int .i64 0, .int .i64 0, .int .i64 0, .int .i64 0, .int .i64 0, .int .i64 0, .int .i64 0, .int .i64 0, .int .i64 0, .int .i64 0, .int .i64 0, .slice none 0 0, .slice none 0 0] 32 (0, 0)) from heap_alloc_new _ _)
        have hgw3 : gw < w3.heap.size := World.block_lt_of_cell? _ _ c18
        have hw3s := k3.size
        go_upto_region 9 with (first
          | refine wpList_load_box (s := s) rfl (.tmp 54) rfl rfl hbox ?_
          | (refine wpList_store_row rfl 32 (.tmp 9) (.tmp 58) rfl w3.heap.size _ rfl rfl 32 #[.slice none 0 0, .slice none 0 0, .slice none 0 0, .int .i64 0, .int .i64 0, .int .i64 0, .int .i64 0, .int .i64 0, .int .i64 0, .int .i64 0, .int .i64 0, .int .i64 0, .int .i64 0, .int .i64 0, .int .i64 0, .int .i64 0, .int .i64 0, .int .i64 0, .int .i64 0, .slice none 0 0, .slice none 0 0] HGZ.out (by kernel_rfl) (by simp) (by simp [Value.oneCell']) ?_; generalize hwl : World.setRow _ _ _ = wl))
        have hbl : Below w3.heap.size w3 wl := by rw [← hwl]; exact below_setRow ((Below.refl _ _).alloc (Nat.le_refl _) _) (Nat.le_refl _) _
        have HGL := Lib.hid (show wl.heap[w3.heap.size]? = some (.cells #[.slice s.na s.nodes.length s.nc, .slice s.pa s.parts.length s.pc, .slice s.qa s.queues.length s.qc, .int .i64 s.users, .int .i64 s.age, .int .i64 s.size, .int .i64 s.qos, .int .i64 s.share, .int .i64 s.decay, .int .i64 s.mode, .int .i64 s.jobs, .int .i64 s.ids, .int .i64 s.versions, .int .i64 s.linger, .int .i64 s.keep, .int .i64 s.inn, .int .i64 s.out, .int .i64 s.cache, .int .i64 now, .slice none 0 0, .slice none 0 0] 32 (0, 0)) from by rw [← hwl]; exact setRow_heap _ _ _ _ _ _ HGZ.out)
        clear hwl HGZ
        have hk3 := k3.size
        obtain ⟨gl, hgg⟩ : ∃ gl, w3.heap.size = gl := ⟨_, rfl⟩
        have HGG := Lib.hid hgg
        rw [hgg] at hbl HGL ⊢
        have hglw : w.heap.size ≤ gl := by omega
        have hgwl : gw < gl := by omega
        have HWL : Hid (WdBox wl gl s now none 0 0 none 0 0) := Lib.hid (WdBox.of HGL.out)
        have HF19 : Hid (wl.frozen? ⟨gl, 19, none⟩ = false ∧ wl.frozen? ⟨gl, 20, none⟩ = false) := Lib.hid ⟨blk_froz HGL.out 19, blk_froz HGL.out 20⟩
        have hgl : gl < wl.heap.size := blk_lt HGL.out
        clear hgg hgw3 hw3s hbox HGL hk3
        have HUP := Lib.hid (fun (W : World) (h : Below gl w3 W) => (show Below w3.heap.size w3 W from by rw [HGG.out]; exact h))
        replace c18 := carry (HUP.out wl hbl) c18
        replace c19 := carry (HUP.out wl hbl) c19
        replace c20 := carry (HUP.out wl hbl) c20
        obtain ⟨i0, hi, hzz, hzs, hzb⟩ := info_parts infoRn
        go_upto_region 10 with fail
        generalize (wrap64 n8).tmod ((R.length : Int) + B.length) = kq
        go_wp2
        go_loopw [72] (fun v wr => ∃ (j : Nat) (ga : Option Addr) (gn gc : Nat), j ≤ R.length ∧ v = .int .i64 j ∧ Below gl w3 wr ∧ gl < wr.heap.size ∧ Hid (WdBox wr gl s now ga gn gc none 0 0) ∧ Hid (wr.frozen? ⟨gl, 19, none⟩ = false ∧ wr.frozen? ⟨gl, 20, none⟩ = false) ∧
          Hid (∃ R' : List RnM, R'.length = gn ∧ R'.Sublist (R.take j) ∧ wr.ownsRow (gl + 1) 63 6 (.slice ga gn gc) gn (rnsV R'))) (fun v _ => R.length - (intOf v).toNat)
        case atStart => exact ⟨0, none, 0, 0, Nat.zero_le _, rfl, hbl, hgl, HWL, HF19, Lib.hid ⟨[], rfl, by simp, World.ownsRow_nil _ _ _ _⟩⟩
        case round =>
          rename World => wr
          obtain ⟨j, ga, gn, gc, hj, rfl, hb, hgr, HWD, HFZ, HI⟩ := hrel
          have hbW := HUP.out wr hb
          have hz := hb.size
          by_cases hlt : j < R.length
          · obtain ⟨b, off, ea, hbq, q0, q1, q2, q3, q4, q5⟩ := (HR3.out.later hbW).row.rn hlt
            subst ea
            obtain ⟨R', hRn, hRs, hRo⟩ := HI.out
            have hgn : gn ≤ 12 := by have := hRs.length_le; have := List.length_take_le j R; omega
            have HSUB := Lib.hid (take_sub hlt hRs)
            have HRN := Lib.hid hRn
            have HRO := Lib.hid hRo
            clear hRn hRs hRo HI
            generalize R[j] = y at q0 q1 q2 q3 q4 q5 HSUB
            obtain ⟨_, l18, l19, l20⟩ := HWD.out
            go_upto_region 13 with fail
            generalize hwA : World.alloc wr _ = wA
            have hbA : Below wr.heap.size wr wA := by rw [← hwA]; exact (Below.refl _ _).alloc (Nat.le_refl _) _
            have z0 : wA.cell? ⟨wr.heap.size, 0, none⟩ = some (.int .i64 y.r.need.cpu) := by rw [← hwA]; simp [go_sem]
            have z1 : wA.cell? ⟨wr.heap.size, 1, none⟩ = some (.int .i64 y.r.need.mem) := by rw [← hwA]; simp [go_sem]
            have z2 : wA.cell? ⟨wr.heap.size, 2, none⟩ = some (.int .i64 y.r.need.gpu) := by rw [← hwA]; simp [go_sem]
            have z3 : wA.cell? ⟨wr.heap.size, 3, none⟩ = some (.int .i64 y.r.need.lic) := by rw [← hwA]; simp [go_sem]
            have z4 : wA.cell? ⟨wr.heap.size, 4, none⟩ = some (.slice y.sa y.r.sh.length y.sc) := by rw [← hwA]; simp [go_sem]
            have z5 : wA.cell? ⟨wr.heap.size, 5, none⟩ = some (.int .i64 y.r.til) := by rw [← hwA]; simp [go_sem]
            clear hwA q0 q1 q2 q3 q4 q5
            have hbgA : Below gl w3 wA := hb.trans (hbA.mono (Nat.le_of_lt hgr))
            have HWDA := Lib.hid (HWD.out.later hbA)
            have HFZA : Hid (wA.frozen? ⟨gl, 19, none⟩ = false ∧ wA.frozen? ⟨gl, 20, none⟩ = false) := Lib.hid ⟨(hbA.frozen hgr).trans HFZ.out.1, (hbA.frozen hgr).trans HFZ.out.2⟩
            have HROA := Lib.hid (own_later HRO.out hbA)
            have hgA : gl < wA.heap.size := by have := hbA.size; omega
            replace l19 := carry hbA l19
            clear HWD HFZ HRO hbA l18 l20
            generalize wr.heap.size = yb at z0 z1 z2 z3 z4 z5 ⊢
            by_cases hk : (j : Int) = kq
            · have hke : ((j : Int) == kq) = true := by simpa using hk
              go_wp2
              go_roundw
              case rel => exact ⟨j + 1, ga, gn, gc, by omega, by go_num, hbgA, hgA, HWDA, HFZA, Lib.hid ⟨R', HRN.out, HSUB.out.1, HROA.out⟩⟩
              case measure => simp [intOf]; omega
            · have hke : ((j : Int) == kq) = false := by simpa using hk
              go_wp2_with (at_builtin; refine pushOne _ _ 29 63 6 64 _ i0 Try.underlying29 hi hzz hzs hzb rfl (by decide) (by decide) (gl + 1) (gl + 1) gn _ _ _ _ wA _ rfl rfl rfl rfl rfl HROA.out (Below.refl _ _) (Nat.le_refl _) hgA (by simp [Value.oneCell']) (by omega) ?_)
              intro v' w6 hown hb6
              obtain ⟨va, vc, rfl, _, _⟩ := own_shape hown
              have hb6g : Below gl wA w6 := hb6.mono (Nat.le_succ _)
              have HWD6 := Lib.hid (HWDA.out.below hb6 (Nat.lt_succ_self _))
              have l19' := HWD6.out.c19
              have f19 : w6.frozen? ⟨gl, 19, none⟩ = false := (hb6.frozen (Nat.lt_succ_self _)).trans HFZA.out.1
              have f20 : w6.frozen? ⟨gl, 20, none⟩ = false := (hb6.frozen (Nat.lt_succ_self _)).trans HFZA.out.2
              have HO6 := Lib.hid hown
              have hg6 : gl < w6.heap.size := by have := hb6.size; omega
              have hbg6 := hbgA.trans hb6g
              clear hown HWDA HFZA HROA z0 z1 z2 z3 z4 z5 l19 hb6 hb6g
              go_upto_region 15 with fail
              generalize hw7 : World.setCell w6 _ _ = w7
              have HWD7 : Hid (WdBox w7 gl s now va (gn + 1) vc none 0 0) := Lib.hid (by rw [← hw7]; exact HWD6.out.set19 _ _ _)
              have HFZ7 : Hid (w7.frozen? ⟨gl, 19, none⟩ = false ∧ w7.frozen? ⟨gl, 20, none⟩ = false) := Lib.hid (by rw [← hw7]; simpa using ⟨f19, f20⟩)
              have hbg7 : Below gl w3 w7 := by rw [← hw7]; exact hbg6.setCell (p := ⟨gl, 19, none⟩) (Nat.le_refl _) _
              have HO7 := Lib.hid (show w7.ownsRow (gl + 1) 63 6 (.slice va (gn + 1) vc) (gn + 1) _ from by rw [← hw7]; exact ownsRow_setCell_below HO6.out (Nat.lt_succ_self _) _)
              have hg7 : gl < w7.heap.size := by rw [← hw7]; simpa using hg6
              clear hw7 HO6 HWD6 f19 f20 l19'
              go_wp2
              go_roundw
              case rel => exact ⟨j + 1, va, gn + 1, vc, by omega, by go_num, hbg7, hg7, HWD7, HFZ7, Lib.hid ⟨R' ++ [y], by rw [List.length_append, HRN.out]; rfl, HSUB.out.2, by rw [rnsV_app, rnsV_one]; exact HO7.out⟩⟩
              case measure => simp [intOf]; omega
          · have hjl : j = R.length := by omega
            obtain ⟨R', hRn, hRs, hRo⟩ := HI.out
            rw [hjl, List.take_length] at hRs
            have HRN := Lib.hid hRn
            have HSUB := Lib.hid hRs
            obtain ⟨e1, e2, e3, hle3, hrow, e4, hsh⟩ := own_shape hRo
            have hgr' : ∀ d, ga = some d → gl < d.block ∧ d.block < wr.heap.size := by
              intro d hd
              injection e3 with e31 e32 e33
              subst e31
              rcases hsh with hsh | ⟨gb, hsh, hs1, hs2⟩
              · rw [hsh] at hd; cases hd
              · rw [hsh] at hd; injection hd with hd; subst hd; exact ⟨by show gl < gb; omega, hs2⟩
            injection e3 with e31 e32 e33
            subst e31
            have HRB := Lib.hid (show RowB wr wr.heap.size gl ga (rnsV R') from ⟨hrow, fun d hd => ⟨(hgr' d hd).2, by have := (hgr' d hd).1; omega⟩⟩)
            have hga : ga = none → gc = 0 := by rw [e33]; exact e4
            have HB1 : Hid (gl < wr.heap.size) := Lib.hid hgr
            clear e33 e4 hsh hgr' hrow hRo hRn hRs HI hle3
            have hb19 := HWD.out.c19
            have hb20 := HWD.out.c20
            have c19w := carry hbW HW3.out.c19
            have c20w := carry hbW HW3.out.c20
            obtain ⟨B1, hB1⟩ : ∃ B1, wr.heap.size = B1 := ⟨_, rfl⟩
            have HBV := Lib.hid hB1
            rw [hB1] at HRB HB1
            clear hB1
            obtain ⟨i1, hi1, hzz1, hzs1, hzb1⟩ := info_parts infoBk
            go_wp2
            go_loopw [90] (fun v wq => ∃ (j : Nat) (ba' : Option Addr) (bn' bc' : Nat), j ≤ B.length ∧ v = .int .i64 j ∧ Below gl w3 wq ∧ B1 ≤ wq.heap.size ∧ Hid (WdBox wq gl s now ga gn gc ba' bn' bc') ∧ Hid (wq.frozen? ⟨gl, 20, none⟩ = false) ∧ Hid (RowB wq B1 gl ga (rnsV R')) ∧
              Hid (∃ B' : List Bk, B'.length = bn' ∧ B'.Sublist (B.take j) ∧ wq.ownsRow B1 65 4 (.slice ba' bn' bc') bn' (bksV B'))) (fun v _ => B.length - (intOf v).toNat)
            case atStart => exact ⟨0, none, 0, 0, Nat.zero_le _, rfl, hb, Nat.le_of_eq HBV.out.symm, HWD, Lib.hid HFZ.out.2, HRB, Lib.hid ⟨[], rfl, by simp, World.ownsRow_nil _ _ _ _⟩⟩
            case round =>
              rename World => wq
              obtain ⟨j2, ba', bn', bc', hj2, rfl, hbq, hB1q, HWD2, HFZ2, HRB2, HI2⟩ := hrel
              have hbQ := HUP.out wq hbq
              have hzq := hbq.size
              have hgq : gl < wq.heap.size := by have := HB1.out; omega
              by_cases hlt2 : j2 < B.length
              · obtain ⟨b, off, ea, hbq', q0, q1, q2, q3⟩ := (HB3.out.later hbQ).row.bk hlt2
                subst ea
                obtain ⟨B', hBn, hBs, hBo⟩ := HI2.out
                have hbn : bn' ≤ 20 := by have := hBs.length_le; have := List.length_take_le j2 B; omega
                have HSUB2 := Lib.hid (take_sub hlt2 hBs)
                have HBN := Lib.hid hBn
                have HBO := Lib.hid hBo
                clear hBn hBs hBo HI2
                have hwadd : IntKind.i64.wrap ((j2 : Int) + R.length) = (j2 : Int) + R.length := IntWalk.i64_in _ (by omega)
                generalize B[j2] = y at q0 q1 q2 q3 HSUB2
                have d19 := carry hbQ HW3.out.c19
                obtain ⟨_, l18, l19, l20⟩ := HWD2.out
                have hgwq : gw < wq.heap.size := by omega
                go_upto_region 19 with fail
                generalize hwA : World.alloc wq _ = wA
                have hbA : Below wq.heap.size wq wA := by rw [← hwA]; exact (Below.refl _ _).alloc (Nat.le_refl _) _
                have z0 : wA.cell? ⟨wq.heap.size, 0, none⟩ = some (.int .i64 y.id) := by rw [← hwA]; simp [go_sem]
                have z1 : wA.cell? ⟨wq.heap.size, 1, none⟩ = some (.int .i64 y.node) := by rw [← hwA]; simp [go_sem]
                have z2 : wA.cell? ⟨wq.heap.size, 2, none⟩ = some (.int .i64 y.frm) := by rw [← hwA]; simp [go_sem]
                have z3 : wA.cell? ⟨wq.heap.size, 3, none⟩ = some (.int .i64 y.til) := by rw [← hwA]; simp [go_sem]
                clear hwA q0 q1 q2 q3
                have hbgA : Below gl w3 wA := hbq.trans (hbA.mono (Nat.le_of_lt hgq))
                have HWDA := Lib.hid (HWD2.out.later hbA)
                have HFZA : Hid (wA.frozen? ⟨gl, 20, none⟩ = false) := Lib.hid ((hbA.frozen hgq).trans HFZ2.out)
                have HBOA := Lib.hid (own_later HBO.out hbA)
                have HRBA := Lib.hid (HRB2.out.below (hbA.mono hB1q))
                have hB1A : B1 ≤ wA.heap.size := Nat.le_trans hB1q hbA.size
                replace l20 := carry hbA l20
                have d19A := carry hbA d19
                clear HWD2 HFZ2 HBO HRB2 hbA l18 l19 d19
                generalize wq.heap.size = yb at z0 z1 z2 z3 ⊢
                by_cases hk : (j2 : Int) + R.length = kq
                · have hke : ((j2 : Int) + R.length == kq) = true := by simpa using hk
                  go_wp2
                  go_roundw
                  case rel => exact ⟨j2 + 1, ba', bn', bc', by omega, by go_num, hbgA, hB1A, HWDA, HFZA, HRBA, Lib.hid ⟨B', HBN.out, HSUB2.out.1, HBOA.out⟩⟩
                  case measure => simp [intOf]; omega
                · have hke : ((j2 : Int) + R.length == kq) = false := by simpa using hk
                  go_wp2_with (at_builtin; refine pushOne _ _ 30 65 4 32 _ i1 Try.underlying30 hi1 hzz1 hzs1 hzb1 rfl (by decide) (by decide) B1 B1 bn' _ _ _ _ wA _ rfl rfl rfl rfl rfl HBOA.out (Below.refl _ _) (Nat.le_refl _) hB1A (by simp [Value.oneCell']) (by omega) ?_)
                  intro v' w6 hown hb6
                  obtain ⟨va, vc, rfl, _, _⟩ := own_shape hown
                  have hglB := HB1.out
                  have hb6g : Below gl wA w6 := hb6.mono (Nat.le_of_lt hglB)
                  have HWD6 := Lib.hid (HWDA.out.below hb6 hglB)
                  have l20' := HWD6.out.c20
                  have f20 : w6.frozen? ⟨gl, 20, none⟩ = false := (hb6.frozen hglB).trans HFZA.out
                  have HRB6 := Lib.hid (HRBA.out.below hb6)
                  have HO6 := Lib.hid hown
                  have hB16 : B1 ≤ w6.heap.size := Nat.le_trans hB1A hb6.size
                  have hbg6 := hbgA.trans hb6g
                  clear hown HWDA HFZA HBOA HRBA z0 z1 z2 z3 l20 hb6 hb6g d19A
                  go_upto_region 21 with fail
                  generalize hw7 : World.setCell w6 _ _ = w7
                  have HWD7 : Hid (WdBox w7 gl s now ga gn gc va (bn' + 1) vc) := Lib.hid (by rw [← hw7]; exact HWD6.out.set20 _ _ _)
                  have HFZ7 : Hid (w7.frozen? ⟨gl, 20, none⟩ = false) := Lib.hid (by rw [← hw7]; simpa using f20)
                  have hbg7 : Below gl w3 w7 := by rw [← hw7]; exact hbg6.setCell (p := ⟨gl, 20, none⟩) (Nat.le_refl _) _
                  have HO7 := Lib.hid (show w7.ownsRow B1 65 4 (.slice va (bn' + 1) vc) (bn' + 1) _ from by rw [← hw7]; exact ownsRow_setCell_below HO6.out hglB _)
                  have HRB7 : Hid (RowB w7 B1 gl ga (rnsV R')) := Lib.hid (by rw [← hw7]; exact HRB6.out.set _)
                  have hB17 : B1 ≤ w7.heap.size := by rw [← hw7]; simpa using hB16
                  clear hw7 HO6 HWD6 HRB6 f20 l20'
                  go_wp2
                  go_roundw
                  case rel => exact ⟨j2 + 1, va, bn' + 1, vc, by omega, by go_num, hbg7, hB17, HWD7, HFZ7, HRB7, Lib.hid ⟨B' ++ [y], by rw [List.length_append, HBN.out]; rfl, HSUB2.out.2, by rw [bksV_app, bksV_one]; exact HO7.out⟩⟩
                  case measure => simp [intOf]; omega
              · have hjl2 : j2 = B.length := by omega
                obtain ⟨B', hBn, hBs, hBo⟩ := HI2.out
                rw [hjl2, List.take_length] at hBs
                rw [← hBn] at hBo
                obtain ⟨a9, c9, e9, hbk9⟩ := own_bk hBo
                injection e9 with e91 e92 e93
                subst e91 e93
                rw [hBn] at e92
                have HBKQ := Lib.hid hbk9
                have HRNQ : Hid (RnAt wq ga R') := Lib.hid ⟨HRB2.out.row, fun y hy => (HR3.out.later hbQ).each y (HSUB.out.subset hy)⟩
                have HSQ := Lib.hid (HS3.out.later hbQ)
                have hR12 : R'.length ≤ 12 := Nat.le_trans HSUB.out.length_le hf1
                have hB20 : B'.length ≤ 20 := Nat.le_trans hBs.length_le hf2
                have HNEW2 := Lib.hid (fun (w' : World) h1 h2 h3 => pNew s hss now ga gc R' hR12 (fun y hy => hf3 y (HSUB.out.subset hy)) ba' bc' B' (by omega) w' h1 h2 h3)
                rw [HRN.out, hBn] at HNEW2
                have HLN := Lib.hid (less_new HSUB.out hBs HARG.out HVAL.out)
                have HBS := Lib.hid hBs
                obtain ⟨hboxq, l18, l19, l20⟩ := HWD2.out
                have hgq2 : gl < wq.heap.size := hgq
                clear hBn hBs hBo hbk9 e92 HI2 HRB2 hjl hjl2 hb19 hb20
                go_upto_region 22 with fail
                go_wp2_with (refine wpList_load_box (s := s) rfl (.tmp 110) rfl rfl hboxq ?_)
                refine (HNEW2.out wq HSQ.out HRNQ.out HBKQ.out).mono ?_
                rintro e w8 ⟨hb8, ⟨E, hE, _, hno⟩ | ⟨g2, fa2, fc2, Fl2, rfl, hg2, hpr2, harg2, hpl2, hln2⟩⟩
                · exact absurd ⟨HLN.out.1, HLN.out.2.1⟩ hno
                · obtain ⟨hok2, hfr2, hval2⟩ := prOk_of harg2 hpl2 hln2 hR12
                  have hb8g : Below gl w3 w8 := hbq.trans (hb8.mono (Nat.le_of_lt hgq2))
                  have hb8W := HUP.out w8 hb8g
                  have HP8 := Lib.hid (HP3.out.later hb8W)
                  have HS8 := Lib.hid (HS3.out.later hb8W)
                  have HX8 := Lib.hid (HX3.out.later hb8W)
                  have HQ8 := Lib.hid hpr2
                  have hn8 : Fl.length = Fl2.length := by rw [HOK.out.len, hok2.len]
                  have HE1 := Lib.hid (fun (w' : World) h1 h2 => pEarliest g s now fa fc Fl HOK.out x.part x.many hw64 x.need x.wall w' h1 h2)
                  have HE2 := Lib.hid (fun (w' : World) h1 h2 => pEarliest g2 s now fa2 fc2 Fl2 hok2 x.part x.many hw64 x.need x.wall w' h1 h2)
                  have HWN := Lib.hid (fun (t : Int) (w' : World) h1 h2 => pWhen g2 s now fa2 fc2 Fl2 hok2 x.part x.many hw64 x.need x.wall t w' h1 h2)
                  have HMAY := Lib.hid (fun (t : Int) => when_may hok2 x.part x.many x.need x.wall t)
                  have HKEY := Lib.hid (fun (t : Int) (r : Option Int) (h1 : First (frL (flOf Fl)) Fl.length now (wtOf s x.part x.many x.need x.wall) (some t)) (h2 : First (frL (flOf Fl2)) Fl2.length now (wtOf s x.part x.many x.need x.wall) r) => (show May (frL (flOf Fl2)) Fl2.length now (wtOf s x.part x.many x.need x.wall) t ∧ ∃ u, r = some u ∧ u ≤ t from by
                    have e1 : Fl.length = s.nodes.length := HOK.out.len
                    have e2 : Fl2.length = s.nodes.length := hok2.len
                    rw [e1] at h1
                    rw [e2] at h2 ⊢
                    have o1 := okFr_of HOK.out.ok
                    rw [flOf_len, e1] at o1
                    have o2 := okFr_of hok2.ok
                    rw [flOf_len, e2] at o2
                    have hle : LeFr (frL (flOf Fl)) (frL (flOf Fl2)) s.nodes.length now := fun k hk u hu => by
                      rw [HFR.out k hk u hu, hfr2 k hk u hu]
                      exact HLN.out.2.2 k hk u hu
                    exact first_sooner hle o1 o2 h1 h2))
                  clear hok2 hfr2 hval2 harg2 hpl2 hln2 hpr2 HNEW2 HLN hboxq HWD2 HBKQ HRNQ HSQ l18 l19 l20
                  obtain ⟨x0, x1, x2, x3, x4, x5, x6⟩ := HX8.out
                  have hgx8 : gx < w8.heap.size := World.block_lt_of_cell? _ _ x0
                  have hgq8 := hb8g.size
                  go_wp2_with fail
                  refine (HE1.out w8 HP8.out HS8.out).mono ?_
                  rintro e w9 ⟨hb9, ⟨hf1', rfl⟩ | ⟨t, la, lc, hf1', rfl, hsh⟩⟩
                  · have hb9g : Below gl w3 w9 := hb8g.trans (hb9.mono (by have := HB1.out; have := hb8g.size; have := hb8.size; omega))
                    clear HE1 HWN HMAY HKEY hf1'
                    replace x0 := carry hb9 x0
                    replace x1 := carry hb9 x1
                    replace x2 := carry hb9 x2
                    replace x3 := carry hb9 x3
                    replace x4 := carry hb9 x4
                    replace x5 := carry hb9 x5
                    replace x6 := carry hb9 x6
                    have HQ9 := Lib.hid (HQ8.out.later hb9)
                    have HS9 := Lib.hid (HS8.out.later hb9)
                    have hgx9 : gx < w9.heap.size := World.block_lt_of_cell? _ _ x0
                    go_upto_region 26 with fail
                    generalize hwA : World.alloc w9 _ = wA
                    have hbA : Below w9.heap.size w9 wA := by rw [← hwA]; exact (Below.refl _ _).alloc (Nat.le_refl _) _
                    clear hwA
                    replace x0 := carry hbA x0
                    replace x1 := carry hbA x1
                    replace x2 := carry hbA x2
                    replace x3 := carry hbA x3
                    replace x4 := carry hbA x4
                    replace x5 := carry hbA x5
                    replace x6 := carry hbA x6
                    have hbAg : Below gl w3 wA := hb9g.trans (hbA.mono (by have := hb9g.size; have := hb8.size; have := hb9.size; omega))
                    go_wp2_with fail
                    refine (HE2.out wA (HQ9.out.later hbA) (HS9.out.later hbA)).mono ?_
                    rintro e wB hpost
                    obtain ⟨hbB, t2, a2, n2, c2, b2, rfl⟩ := earl_any hpost
                    have hbBg : Below gl w3 wB := hbAg.trans (hbB.mono (by have := hbAg.size; have := hbA.size; have := hb9.size; have := hb8.size; omega))
                    clear hpost HE2
                    go_upto_region 27 with fail
                    generalize hwC : World.alloc wB _ = wC
                    have hbC : Below w.heap.size w wC := by rw [← hwC]; exact ((k3.trans ((HUP.out wB hbBg).mono k3.size)).alloc (by have := (HUP.out wB hbBg).size; have := k3.size; omega) _)
                    clear hwC
                    go_wp2
                    go_ret
                    exact ⟨rfl, hbC⟩
                  · have hb9g : Below gl w3 w9 := hb8g.trans (hb9.mono (by have := HB1.out; have := hb8g.size; have := hb8.size; omega))
                    have HF1 := Lib.hid hf1'
                    generalize (placeS (lowsL (frL (flOf Fl)) Fl.length t x.wall) (partOf s x.part) x.many x.need).length = ln
                    clear HE1 hf1' hsh
                    replace x0 := carry hb9 x0
                    replace x1 := carry hb9 x1
                    replace x2 := carry hb9 x2
                    replace x3 := carry hb9 x3
                    replace x4 := carry hb9 x4
                    replace x5 := carry hb9 x5
                    replace x6 := carry hb9 x6
                    have HQ9 := Lib.hid (HQ8.out.later hb9)
                    have HS9 := Lib.hid (HS8.out.later hb9)
                    have hgx9 : gx < w9.heap.size := World.block_lt_of_cell? _ _ x0
                    go_upto_region 26 with fail
                    generalize hwA : World.alloc w9 _ = wA
                    have hbA : Below w9.heap.size w9 wA := by rw [← hwA]; exact (Below.refl _ _).alloc (Nat.le_refl _) _
                    have pA := (show wA.cell? ⟨w9.heap.size, 1, none⟩ = some (.int .i64 t) from by rw [← hwA]; simp [go_sem])
                    clear hwA
                    replace x0 := carry hbA x0
                    replace x1 := carry hbA x1
                    replace x2 := carry hbA x2
                    replace x3 := carry hbA x3
                    replace x4 := carry hbA x4
                    replace x5 := carry hbA x5
                    replace x6 := carry hbA x6
                    have hbAg : Below gl w3 wA := hb9g.trans (hbA.mono (by have := hb9g.size; have := hb8.size; have := hb9.size; omega))
                    have HQA := Lib.hid (HQ9.out.later hbA)
                    have HSA := Lib.hid (HS9.out.later hbA)
                    generalize w9.heap.size = pb at pA ⊢
                    go_wp2_with fail
                    refine (HE2.out wA HQA.out HSA.out).mono ?_
                    rintro e wB ⟨hbB, ⟨hf2', rfl⟩ | ⟨t2, la2, lc2, hf2', rfl, hsh2⟩⟩
                    · exfalso
                      obtain ⟨_, u, hu, _⟩ := HKEY.out t none HF1.out hf2'
                      cases hu
                    · obtain ⟨hmay, u, hu, hule⟩ := HKEY.out t (some t2) HF1.out hf2'
                      injection hu with hu
                      subst hu
                      have hbBg : Below gl w3 wB := hbAg.trans (hbB.mono (by have := hbAg.size; have := hbA.size; have := hb9.size; have := hb8.size; omega))
                      have hwhen := (HMAY.out t).1.2 hmay
                      have HWT := Lib.hid (fun (w' : World) h1 h2 => HWN.out t w' h1 h2)
                      rw [hwhen] at HWT
                      generalize (placeS (lowsL (frL (flOf Fl2)) Fl2.length t2 x.wall) (partOf s x.part) x.many x.need).length = ln2
                      generalize whenS s now (flOf Fl2) x.part x.many x.need x.wall t = L3 at HWT
                      clear hf2' hsh2 HE2 HKEY HMAY HWN hmay hwhen
                      replace pA := carry hbB pA
                      replace x0 := carry hbB x0
                      replace x1 := carry hbB x1
                      replace x2 := carry hbB x2
                      replace x3 := carry hbB x3
                      replace x4 := carry hbB x4
                      replace x5 := carry hbB x5
                      replace x6 := carry hbB x6
                      go_upto_region 27 with fail
                      generalize hwC : World.alloc wB _ = wC
                      have hbC : Below wB.heap.size wB wC := by rw [← hwC]; exact (Below.refl _ _).alloc (Nat.le_refl _) _
                      have pB := (show wC.cell? ⟨wB.heap.size, 1, none⟩ = some (.int .i64 t2) from by rw [← hwC]; simp [go_sem])
                      clear hwC
                      replace pA := carry hbC pA
                      replace x0 := carry hbC x0
                      replace x1 := carry hbC x1
                      replace x2 := carry hbC x2
                      replace x3 := carry hbC x3
                      replace x4 := carry hbC x4
                      replace x5 := carry hbC x5
                      replace x6 := carry hbC x6
                      have hbCW : Below w.heap.size w wC := (k3.trans ((HUP.out wB hbBg).mono k3.size)).trans (hbC.mono (by have := (HUP.out wB hbBg).size; have := k3.size; omega))
                      have HQC := Lib.hid ((HQA.out.later hbB).later hbC)
                      have HSC := Lib.hid ((HSA.out.later hbB).later hbC)
                      generalize wB.heap.size = qb at pB ⊢
                      go_wp2_with fail
                      refine (HWT.out wC HQC.out HSC.out).mono ?_
                      rintro e wD ⟨aD, cD, rfl, _, hbD⟩
                      have hbDW := hbCW.trans (hbD.mono hbCW.size)
                      replace pA := carry hbD pA
                      replace pB := carry hbD pB
                      have gle : decide (t2 ≤ t) = true := decide_eq_true hule
                      go_wp2
                      go_ret
                      exact ⟨rfl, hbDW⟩
  · rw [show fewW s R B = false from decide_eq_false hfew]
    clear hfew
    go_wp2
    go_ret
    exact ⟨rfl, k2⟩
end Go.Proofs.Ytcdajfiohhbdgaa.W
