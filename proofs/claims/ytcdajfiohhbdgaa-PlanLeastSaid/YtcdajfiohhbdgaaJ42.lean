/-
  Several texts in one: PnNew, PlFit, PlPlace.
-/
import Derived.Test.YtcdajfiohhbdgaaJ39
import Derived.Test.YtcdajfiohhbdgaaJ41
import Derived.Test.YtcdajfiohhbdgaaPlMem
import Derived.Test.YtcdajfiohhbdgaaVecCount
import Derived.WalkMore

/-
  Contract of plan.New.
-/
namespace Go.Proofs.Ytcdajfiohhbdgaa.W
set_option maxRecDepth 100000
set_option linter.unusedVariables false
set_option linter.unusedSimpArgs false
open Go.ChangeShapes Go.WideShapes Go.ChangeAt Go.RowKit

/-- all that it is told is right -/
def ArgsNew (s : S) (now : Int) (R : List RnM) (B : List Bk) : Prop := Right s ∧ (0 ≤ now ∧ now ≤ 1099511627776) ∧ RightBk s.nodes.length B ∧ ∀ x ∈ R, RnOk s.nodes.length now x.r
theorem new_first {s : S} {now : Int} {R : List RnM} {B : List Bk} (h : ¬ ArgsNew s now R B) : rightSSp s = false ∨ (rightSSp s = true ∧ decide (now < 0) = true) ∨ (rightSSp s = true ∧ decide (now < 0) = false ∧ decide (1099511627776 < now) = true) ∨
    (rightSSp s = true ∧ decide (now < 0) = false ∧ decide (1099511627776 < now) = false ∧ rightBk B s.nodes.length = false) ∨ (rightSSp s = true ∧ decide (now < 0) = false ∧ decide (1099511627776 < now) = false ∧ rightBk B s.nodes.length = true ∧ runsB s.nodes.length now R = false) := by
  unfold rightSSp rightBk runsB
  by_cases h0 : Right s
  · by_cases h1 : 0 ≤ now
    · by_cases h2 : now ≤ 1099511627776
      · by_cases h3 : RightBk s.nodes.length B
        · by_cases h4 : ∀ x ∈ R, RnOk s.nodes.length now x.r
          · exact absurd ⟨h0, ⟨h1, h2⟩, h3, h4⟩ h
          · right; right; right; right; exact ⟨decide_eq_true h0, decide_eq_false (by omega), decide_eq_false (by omega), decide_eq_true h3, decide_eq_false h4⟩
        · right; right; right; left; exact ⟨decide_eq_true h0, decide_eq_false (by omega), decide_eq_false (by omega), decide_eq_false h3⟩
      · right; right; left; exact ⟨decide_eq_true h0, decide_eq_false (by omega), decide_eq_true (by omega)⟩
    · right; left; exact ⟨decide_eq_true h0, decide_eq_true (by omega)⟩
  · left; exact decide_eq_false h0
/-- what New gives -/
def NewPost (s : S) (now : Int) (R : List RnM) (B : List Bk) (w : World) (e : Ending) (w' : World) : Prop :=
  Below w.heap.size w w' ∧ ((∃ E : Int, E ≠ 0 ∧ e = .returned (.tuple #[.pointer none, .int .i64 E]) ∧ ¬ (ArgsNew s now R B ∧ ∃ F, planF now s.nodes (R.map RnM.r) B = some F)) ∨
    (∃ g fa fc F, e = .returned (.tuple #[.pointer (some ⟨g, 0, none⟩), .int .i64 0]) ∧ w.heap.size ≤ g ∧ PrAt w' g s now fa fc F ∧ ArgsNew s now R B ∧ planF now s.nodes (R.map RnM.r) B = some (flOf F) ∧ LenLe (flOf F) (40 + 80 * R.length)))
set_option maxHeartbeats 8000000 in
theorem pNew_no (s : S) (hs : SmallS s) (now : Int) (ra : Option Addr) (rc : Nat) (R : List RnM) (hR : R.length ≤ 12) (hsh : ∀ x ∈ R, x.r.sh.length ≤ 40) (ba : Option Addr) (bc : Nat) (B : List Bk) (hB : B.length ≤ 1000) (w : World) (HS : Rows w s) (HR : RnAt w ra R) (HB : BkAt w ba bc B) (h : ¬ ArgsNew s now R B) :
    Calls Try.prog 8 #[.agg #[.slice s.na s.nodes.length s.nc, .slice s.pa s.parts.length s.pc, .slice s.qa s.queues.length s.qc, .int .i64 s.users, .int .i64 s.age, .int .i64 s.size, .int .i64 s.qos, .int .i64 s.share, .int .i64 s.decay, .int .i64 s.mode, .int .i64 s.jobs, .int .i64 s.ids, .int .i64 s.versions, .int .i64 s.linger, .int .i64 s.keep, .int .i64 s.inn, .int .i64 s.out, .int .i64 s.cache], .int .i64 now, .slice ra R.length rc, .slice ba B.length bc] w fun e w' => e = .returned (.tuple #[.pointer none, .int .i64 2]) ∧ Below w.heap.size w w' := by
  have HSR := Lib.hid HS
  have HRR := Lib.hid HR
  have HBR := Lib.hid HB
  have HQ1 := Lib.hid (fun w' h => sright s hs w' h)
  have HQ2 := Lib.hid (fun w' h => bRight ba bc B (by omega) s.nodes.length w' h)
  have HQ3 := Lib.hid (fun w' h => pRuns ra rc R (by omega) (fun x hx => by have := hsh x hx; omega) s.nodes.length now w' h)
  have key := new_first h
  clear HS HR HB hs hsh h
  go_enter Try.func8, Try.ntmps8
  go_upto_region 1 with fail
  generalize hw0 : World.alloc w _ = w0
  have hb0 : Below w.heap.size w w0 := by rw [← hw0]; exact (by repeat' (first | exact Below.refl _ _ | assumption | exact And.left (by assumption) | refine Below.drew ?_ | refine below_drewN ?_ _ | refine Below.setCell ?_ (by first | (simp; done) | (simp; omega) | omega) _ | refine Below.alloc ?_ (by first | (simp; done) | (simp; omega) | omega) _ | refine after (by assumption) (by first | (simp; done) | (simp; omega) | omega) ?_))
  have HBX : Hid (Box w0 w.heap.size s) := Lib.hid (by rw [← hw0]; exact Box.new _ _ _)
  have c0 := HBX.out.c0
  clear hw0
  rcases key with g0 | ⟨g0, g1⟩ | ⟨g0, g1, g2⟩ | ⟨g0, g1, g2, g3⟩ | ⟨g0, g1, g2, g3, g4⟩
  · rw [g0] at HQ1
    go_wp2_with (refine wpList_load_box (s := s) rfl (.tmp 4) rfl rfl HBX.out ?_)
    refine (HQ1.out w0 (HSR.out.later hb0)).mono ?_; rintro e w1 ⟨rfl, hb1⟩
    go_wp2
    go_ret2
    exact ⟨rfl, hb0.trans (hb1.mono hb0.size)⟩
  · rw [g0] at HQ1
    go_wp2_with (refine wpList_load_box (s := s) rfl (.tmp 4) rfl rfl HBX.out ?_)
    refine (HQ1.out w0 (HSR.out.later hb0)).mono ?_; rintro e w1 ⟨rfl, hb1⟩
    go_wp2
    go_ret2
    exact ⟨rfl, hb0.trans (hb1.mono hb0.size)⟩
  · rw [g0] at HQ1
    go_wp2_with (refine wpList_load_box (s := s) rfl (.tmp 4) rfl rfl HBX.out ?_)
    refine (HQ1.out w0 (HSR.out.later hb0)).mono ?_; rintro e w1 ⟨rfl, hb1⟩
    go_wp2
    go_ret2
    exact ⟨rfl, hb0.trans (hb1.mono hb0.size)⟩
  · rw [g0] at HQ1
    rw [g3] at HQ2
    go_wp2_with (refine wpList_load_box (s := s) rfl (.tmp 4) rfl rfl HBX.out ?_)
    refine (HQ1.out w0 (HSR.out.later hb0)).mono ?_; rintro e w1 ⟨rfl, hb1⟩
    have k1 := hb0.trans (hb1.mono hb0.size)
    replace c0 := carry hb1 c0
    go_wp2_with fail
    refine (HQ2.out w1 (HBR.out.later k1)).mono ?_; rintro e w2 ⟨rfl, hb2⟩
    go_wp2
    go_ret2
    exact ⟨rfl, k1.trans (hb2.mono k1.size)⟩
  · rw [g0] at HQ1
    rw [g3] at HQ2
    rw [g4] at HQ3
    go_wp2_with (refine wpList_load_box (s := s) rfl (.tmp 4) rfl rfl HBX.out ?_)
    refine (HQ1.out w0 (HSR.out.later hb0)).mono ?_; rintro e w1 ⟨rfl, hb1⟩
    have k1 := hb0.trans (hb1.mono hb0.size)
    replace c0 := carry hb1 c0
    go_wp2_with fail
    refine (HQ2.out w1 (HBR.out.later k1)).mono ?_; rintro e w2 ⟨rfl, hb2⟩
    have k2 := k1.trans (hb2.mono k1.size)
    replace c0 := carry hb2 c0
    go_wp2_with fail
    refine (HQ3.out w2 (HRR.out.later k2)).mono ?_; rintro e w3 ⟨rfl, hb3⟩
    go_wp2
    go_ret2
    exact ⟨rfl, k2.trans (hb3.mono k2.size)⟩
theorem runF_head {now : Int} {F : FL} {r : Rn} {l : List Rn} {G : Option FL} (h : lessF r.need now r.til F r.sh = G) : runF now F (r :: l) = G.bind fun F' => runF now F' l := by
  subst h
  rw [runF]
  cases lessF r.need now r.til F r.sh <;> rfl
set_option maxHeartbeats 8000000 in
theorem pNew_yes (s : S) (hs : SmallS s) (nb no : Nat) (hna : s.na = some ⟨nb, no, none⟩) (now : Int) (ra : Option Addr) (rc : Nat) (R : List RnM) (hR : R.length ≤ 12) (hsh : ∀ x ∈ R, x.r.sh.length ≤ 40) (ba : Option Addr) (bc : Nat) (B : List Bk) (hB : B.length ≤ 1000) (w : World) (HS : Rows w s) (HR : RnAt w ra R) (HB : BkAt w ba bc B) (h : ArgsNew s now R B) :
    Calls Try.prog 8 #[.agg #[.slice s.na s.nodes.length s.nc, .slice s.pa s.parts.length s.pc, .slice s.qa s.queues.length s.qc, .int .i64 s.users, .int .i64 s.age, .int .i64 s.size, .int .i64 s.qos, .int .i64 s.share, .int .i64 s.decay, .int .i64 s.mode, .int .i64 s.jobs, .int .i64 s.ids, .int .i64 s.versions, .int .i64 s.linger, .int .i64 s.keep, .int .i64 s.inn, .int .i64 s.out, .int .i64 s.cache], .int .i64 now, .slice ra R.length rc, .slice ba B.length bc] w (NewPost s now R B w) := by
  have HSR := Lib.hid HS
  have HRR := Lib.hid HR
  have HBR := Lib.hid HB
  have HARG := Lib.hid h
  have HSH := Lib.hid hsh
  have HQ1 := Lib.hid (fun w' h => sright s hs w' h)
  have HQ2 := Lib.hid (fun w' h => bRight ba bc B (by omega) s.nodes.length w' h)
  have HQ3 := Lib.hid (fun w' h => pRuns ra rc R (by omega) (fun x hx => by have := hsh x hx; omega) s.nodes.length now w' h)
  obtain ⟨h0, ⟨h1, h2⟩, h3, h4⟩ := h
  obtain ⟨⟨⟨n1, n2⟩, n3⟩, _⟩ := right_is h0
  obtain ⟨⟨F0, f0, f1, f2⟩, _, _⟩ := planF_ok (runs := R.map RnM.r) h1 (by omega) n3 h3 (fun r hr => by obtain ⟨x, hx, rfl⟩ := List.mem_map.1 hr; exact h4 x hx)
  have HPLAN := Lib.hid (show planF now s.nodes (R.map RnM.r) B = runF now F0 (R.map RnM.r) from by unfold planF; rw [f0])
  have HLEN0 : Hid (LenLe F0 40) := Lib.hid (by
    have hl := (bookF_lens (B := 1) (fun l hl => by obtain ⟨c, _, rfl⟩ := List.mem_map.1 hl; simp) f0).1
    have := expire_len now B
    have := h3.2
    intro l hl'
    have := hl l hl'
    omega)
  have HUN := Lib.hid (fun (w' : World) (ha : RowAt w' (some ⟨nb, no, none⟩) (vcsV s.nodes)) (hb : BkAt w' ba bc B) => pUnb nb no s.nc s.nodes n2 n3 now h1 h2 ba bc B h3 F0 f0 w' ha hb)
  have HRO := Lib.hid h4
  have g1 : decide (now < 0) = false := decide_eq_false (by omega)
  have g2 : decide (1099511627776 < now) = false := decide_eq_false (by omega)
  rw [show rightSSp s = true from decide_eq_true h0] at HQ1
  rw [show rightBk B s.nodes.length = true from decide_eq_true h3] at HQ2
  rw [show runsB s.nodes.length now R = true from decide_eq_true h4] at HQ3
  have HF2 := Lib.hid f2
  have HNA := Lib.hid hna
  clear hna
  clear HS HR HB hs hsh h0 h3 h4 f0 f1 f2 n3
  go_enter Try.func8, Try.ntmps8
  go_upto_region 1 with fail
  generalize hw0 : World.alloc w _ = w0
  have hb0 : Below w.heap.size w w0 := by rw [← hw0]; exact (by repeat' (first | exact Below.refl _ _ | assumption | exact And.left (by assumption) | refine Below.drew ?_ | refine below_drewN ?_ _ | refine Below.setCell ?_ (by first | (simp; done) | (simp; omega) | omega) _ | refine Below.alloc ?_ (by first | (simp; done) | (simp; omega) | omega) _ | refine after (by assumption) (by first | (simp; done) | (simp; omega) | omega) ?_))
  have HBX : Hid (Box w0 w.heap.size s) := Lib.hid (by rw [← hw0]; exact Box.new _ _ _)
  have c0 := HBX.out.c0
  have c1 := HBX.out.c1
  have hw0l : w.heap.size < w0.heap.size := HBX.out.lt
  clear hw0
  rw [HNA.out] at c0
  go_wp2_with (refine wpList_load_box (s := s) rfl (.tmp 4) rfl rfl HBX.out ?_)
  refine (HQ1.out w0 (HSR.out.later hb0)).mono ?_; rintro e w1 ⟨rfl, hb1⟩
  have k1 := hb0.trans (hb1.mono hb0.size)
  replace c0 := carry hb1 c0
  replace c1 := carry hb1 c1
  clear HBX HQ1
  go_wp2_with fail
  refine (HQ2.out w1 (HBR.out.later k1)).mono ?_; rintro e w2 ⟨rfl, hb2⟩
  have k2 := k1.trans (hb2.mono k1.size)
  replace c0 := carry hb2 c0
  replace c1 := carry hb2 c1
  clear HQ2
  go_wp2_with fail
  refine (HQ3.out w2 (HRR.out.later k2)).mono ?_; rintro e w3 ⟨rfl, hb3⟩
  have k3 := k2.trans (hb3.mono k2.size)
  replace c0 := carry hb3 c0
  replace c1 := carry hb3 c1
  clear HQ3
  have HND := Lib.hid (show RowAt w3 (some ⟨nb, no, none⟩) (vcsV s.nodes) from by rw [← HNA.out]; exact (HSR.out.later k3).nodes)
  go_wp2_with fail
  refine (HUN.out w3 HND.out (HBR.out.later k3)).mono ?_; rintro e w4 ⟨v4, F4, rfl, hO4, hF4, hb4⟩
  have k4 := k3.trans (hb4.mono k3.size)
  have hz4 := k4.size
  replace c1 := carry hb4 c1
  have hFn : F4.length = s.nodes.length := by rw [← HF2.out, ← hF4, flOf_len]
  obtain ⟨a4, q4, rfl, hfr4, hg4⟩ := hO4.shape
  obtain ⟨gg, rfl, hgg, hgg2⟩ := hg4 (by intro e; rw [e] at hFn; simp at hFn; omega)
  have HI0 : Hid (∃ F' : List Stl, FrAt w4 (some ⟨gg, 0, none⟩) q4 F' ∧ F'.length = s.nodes.length ∧ LenLe (flOf F') (40 + 80 * 0) ∧ planF now s.nodes (R.map RnM.r) B = runF now (flOf F') ((R.drop 0).map RnM.r)) := Lib.hid ⟨F4, hfr4, hFn, by rw [hF4]; exact HLEN0.out, by rw [hF4, List.drop_zero]; exact HPLAN.out⟩
  rw [hFn]
  clear hO4 hfr4 hg4 hgg hgg2 hFn hF4 HND HUN HLEN0 HPLAN c0
  generalize hnn : s.nodes.length = n at *
  clear hnn
  go_wp2
  go_loopw [10, 11, 55] (fun v10 v11 x wr => v11 = .int .i64 0 ∧ ∃ (k fb fc : Nat), k ≤ R.length ∧ x = .int .i64 k ∧ v10 = .slice (some ⟨fb, 0, none⟩) n fc ∧ Below w.heap.size w wr ∧ wr.cell? ⟨w.heap.size, 1, none⟩ = some (.slice s.pa s.parts.length s.pc) ∧
    Hid (∃ F' : List Stl, FrAt wr (some ⟨fb, 0, none⟩) fc F' ∧ F'.length = n ∧ LenLe (flOf F') (40 + 80 * k) ∧ planF now s.nodes (R.map RnM.r) B = runF now (flOf F') ((R.drop k).map RnM.r))) (fun _ _ x _ => R.length - (intOf x).toNat)
  case atStart => exact ⟨rfl, 0, gg, q4, Nat.zero_le _, rfl, rfl, k4, c1, HI0⟩
  case round =>
    obtain ⟨rfl, k, fb, fc, hk, rfl, rfl, hb, c1, HI⟩ := hrel
    have hz := hb.size
    have hwl : w.heap.size < wr.heap.size := World.block_lt_of_cell? _ _ c1
    by_cases hlt : k < R.length
    · obtain ⟨b, off, ea, hbl, q0, q1, q2, q3, q4', q5⟩ := (HRR.out.later hb).row.rn hlt
      subst ea
      have HX := Lib.hid (RowAt.later (HRR.out.each _ (List.getElem_mem hlt)) hb)
      have hro := HRO.out R[k] (List.getElem_mem hlt)
      have hshl := HSH.out R[k] (List.getElem_mem hlt)
      obtain ⟨F', hfr, hFn, hFB, hFe⟩ := HI.out
      rw [drop_at R k hlt, List.map_cons] at hFe
      have HLS := Lib.hid (fun (w' : World) (h1 : FrAt w' (some ⟨fb, 0, none⟩) fc F') (h2 : RowAt w' R[k].sa (shsV R[k].r.sh)) => pLess fb 0 fc F' (by omega) (by omega) (40 + 80 * k) hFB R[k].sa R[k].sc R[k].r.sh hshl (by omega) (by rw [hFn]; exact hro.1) R[k].r.need now R[k].r.til w' h1 h2)
      rw [hFn] at HLS
      have HFE := Lib.hid (fun (G : Option FL) (e : lessF R[k].r.need now R[k].r.til (flOf F') R[k].r.sh = G) => hFe.trans (runF_head e))
      have HFN := Lib.hid hFn
      have HLN := Lib.hid (fun (F'' : List Stl) (e : lessF R[k].r.need now R[k].r.til (flOf F') R[k].r.sh = some (flOf F'')) => (show F''.length = n ∧ LenLe (flOf F'') (40 + 80 * (k + 1)) from by
        obtain ⟨x1, x2⟩ := lessF_lens hFB e
        rw [flOf_len, flOf_len] at x2
        exact ⟨by omega, fun l hl => by have := x1 l hl; omega⟩))
      have HFR := Lib.hid (fun (W : World) (hw : Below wr.heap.size wr W) => hfr.later hw)
      clear hfr hFn hFB hFe HI hro hshl
      generalize R[k] = x at q0 q1 q2 q3 q4' q5 HX HLS HFE HLN
      obtain ⟨xa, xc, xt, xn, xs⟩ := x
      dsimp only at q0 q1 q2 q3 q4' q5 HX HLS HFE HLN
      go_upto_region 9 with fail
      generalize hw5 : World.alloc wr _ = w5
      have hb5 : Below wr.heap.size wr w5 := by rw [← hw5]; exact (by repeat' (first | exact Below.refl _ _ | assumption | exact And.left (by assumption) | refine Below.drew ?_ | refine below_drewN ?_ _ | refine Below.setCell ?_ (by first | (simp; done) | (simp; omega) | omega) _ | refine Below.alloc ?_ (by first | (simp; done) | (simp; omega) | omega) _ | refine after (by assumption) (by first | (simp; done) | (simp; omega) | omega) ?_))
      have z0 : w5.cell? ⟨wr.heap.size, 0, none⟩ = some (.int .i64 xn.cpu) := by rw [← hw5]; simp [go_sem]
      have z1 : w5.cell? ⟨wr.heap.size, 1, none⟩ = some (.int .i64 xn.mem) := by rw [← hw5]; simp [go_sem]
      have z2 : w5.cell? ⟨wr.heap.size, 2, none⟩ = some (.int .i64 xn.gpu) := by rw [← hw5]; simp [go_sem]
      have z3 : w5.cell? ⟨wr.heap.size, 3, none⟩ = some (.int .i64 xn.lic) := by rw [← hw5]; simp [go_sem]
      have z4 : w5.cell? ⟨wr.heap.size, 4, none⟩ = some (.slice xa xs.length xc) := by rw [← hw5]; simp [go_sem]
      have z5 : w5.cell? ⟨wr.heap.size, 5, none⟩ = some (.int .i64 xt) := by rw [← hw5]; simp [go_sem]
      clear hw5 q0 q1 q2 q3 q4' q5
      have k5 := hb.trans (hb5.mono hz)
      have HFR5 := Lib.hid (HFR.out w5 hb5)
      have HX5 := Lib.hid (RowAt.later HX.out hb5)
      replace c1 := carry hb5 c1
      generalize wr.heap.size = sb at z0 z1 z2 z3 z4 z5 ⊢
      go_wp2_with fail
      refine (HLS.out w5 HFR5.out HX5.out).mono ?_; rintro e w6 ⟨v6, E, rfl, hb6, hor⟩
      have k6 := k5.trans (hb6.mono k5.size)
      replace c1 := carry hb6 c1
      clear z0 z1 z2 z3 z4 z5
      by_cases hE : E = 0
      · subst hE
        have hor2 : ∃ F', FrOwn w6 w5.heap.size v6 F' ∧ lessF xn now xt (flOf F') xs = lessF xn now xt (flOf F') xs := by
          rcases hor with ⟨_, F9, h9, _⟩ | ⟨h9, _⟩
          · exact ⟨F9, h9, rfl⟩
          · exact absurd rfl h9
        rcases hor with ⟨_, F6, hO6, hl6⟩ | ⟨h9, _⟩
        · obtain ⟨hn6, hB6⟩ := HLN.out F6 hl6
          have hpl := HFE.out _ hl6
          obtain ⟨a6, q6, rfl, hfr6, hg6⟩ := hO6.shape
          obtain ⟨g6, rfl, _, _⟩ := hg6 (by intro e; rw [e] at hn6; simp at hn6; omega)
          rw [hn6]
          have HI6 : Hid (∃ F' : List Stl, FrAt w6 (some ⟨g6, 0, none⟩) q6 F' ∧ F'.length = n ∧ LenLe (flOf F') (40 + 80 * (k + 1)) ∧ planF now s.nodes (R.map RnM.r) B = runF now (flOf F') ((R.drop (k + 1)).map RnM.r)) := Lib.hid ⟨F6, hfr6, hn6, hB6, hpl⟩
          clear hor2 hn6 hB6 hpl hO6 hl6 hfr6 hg6 HFE HLN HLS HFR
          go_wp2
          go_roundw
          case rel => exact ⟨rfl, k + 1, g6, q6, by omega, by go_num, rfl, k6, c1, HI6⟩
          case measure => simp [intOf]; omega
        · exact absurd rfl h9
      · have hne : (E == 0) = false := by simpa using hE
        have HX6 : Hid (v6 = .slice none 0 0 ∧ planF now s.nodes (R.map RnM.r) B = none) := Lib.hid (by
          rcases hor with ⟨h9, _⟩ | ⟨_, h9, hl6⟩
          · exact absurd h9 hE
          · exact ⟨h9, HFE.out _ hl6⟩)
        clear hor HFE HLN HLS HFR
        go_wp2
        go_ret2
        exact ⟨k6, .inl ⟨E, hE, rfl, fun ⟨_, F, hF⟩ => by rw [HX6.out.2] at hF; cases hF⟩⟩
    · have hkl : k = R.length := by omega
      obtain ⟨F', hfr, hFn, hFB, hFe⟩ := HI.out
      subst hkl
      rw [List.drop_length] at hFe
      have HFE : Hid (planF now s.nodes (R.map RnM.r) B = some (flOf F')) := Lib.hid hFe
      have HFB := Lib.hid hFB
      have HFR := Lib.hid hfr
      have HFN := Lib.hid hFn
      clear hfr hFn hFB hFe HI
      go_wp2
      generalize hw5 : World.alloc wr _ = w5
      have hb5 : Below wr.heap.size wr w5 := by rw [← hw5]; exact (by repeat' (first | exact Below.refl _ _ | assumption | exact And.left (by assumption) | refine Below.drew ?_ | refine below_drewN ?_ _ | refine Below.setCell ?_ (by first | (simp; done) | (simp; omega) | omega) _ | refine Below.alloc ?_ (by first | (simp; done) | (simp; omega) | omega) _ | refine after (by assumption) (by first | (simp; done) | (simp; omega) | omega) ?_))
      have HP5 : Hid (w5.heap[wr.heap.size]? = some (.cells #[.slice s.pa s.parts.length s.pc, .int .i64 now, .slice (some ⟨fb, 0, none⟩) n fc] 76 (0, 0))) := Lib.hid (by rw [← hw5]; exact heap_alloc_new _ _)
      clear hw5
      go_ret2
      exact ⟨hb.trans (hb5.mono hz), .inr ⟨_, some ⟨fb, 0, none⟩, fc, F', rfl, hz, ⟨by rw [HFN.out]; exact HP5.out, HFR.out.later hb5⟩, HARG.out, HFE.out, HFB.out⟩⟩
theorem pNew (s : S) (hs : SmallS s) (now : Int) (ra : Option Addr) (rc : Nat) (R : List RnM) (hR : R.length ≤ 12) (hsh : ∀ x ∈ R, x.r.sh.length ≤ 40) (ba : Option Addr) (bc : Nat) (B : List Bk) (hB : B.length ≤ 1000) (w : World) (HS : Rows w s) (HR : RnAt w ra R) (HB : BkAt w ba bc B) :
    Calls Try.prog 8 #[.agg #[.slice s.na s.nodes.length s.nc, .slice s.pa s.parts.length s.pc, .slice s.qa s.queues.length s.qc, .int .i64 s.users, .int .i64 s.age, .int .i64 s.size, .int .i64 s.qos, .int .i64 s.share, .int .i64 s.decay, .int .i64 s.mode, .int .i64 s.jobs, .int .i64 s.ids, .int .i64 s.versions, .int .i64 s.linger, .int .i64 s.keep, .int .i64 s.inn, .int .i64 s.out, .int .i64 s.cache], .int .i64 now, .slice ra R.length rc, .slice ba B.length bc] w (NewPost s now R B w) := by
  by_cases h : ArgsNew s now R B
  · have h1 := (right_is h.1).nodes.1.1
    obtain ⟨b, off, ea, _⟩ := HS.node (k := 0) (by omega)
    exact pNew_yes s hs b off ea now ra rc R hR hsh ba bc B hB w HS HR HB h
  · refine (pNew_no s hs now ra rc R hR hsh ba bc B hB w HS HR HB h).mono ?_
    rintro e w' ⟨rfl, hb⟩
    exact ⟨hb, .inl ⟨2, by decide, rfl, fun x => h x.1⟩⟩
end Go.Proofs.Ytcdajfiohhbdgaa.W


/-
  Contracts of place.fit, place.Room.
-/
namespace Go.Proofs.Ytcdajfiohhbdgaa.W
set_option linter.unusedVariables false
set_option linter.unusedSimpArgs false
open Go.ChangeShapes Go.WideShapes Go.ChangeAt Go.RowKit

set_option maxHeartbeats 1000000 in
theorem pFit_in (b off : Nat) (cap n : Nat) (k : Nat) (f need : V) (hk : k < n) (hn : n ≤ 100000) (w : World) (hb : b < w.heap.size)
    (q0 : w.cell? ⟨b, off + k * 4, none⟩ = some (.int .i64 f.cpu)) (q1 : w.cell? ⟨b, off + k * 4 + 1, none⟩ = some (.int .i64 f.mem)) (q2 : w.cell? ⟨b, off + k * 4 + 2, none⟩ = some (.int .i64 f.gpu)) (q3 : w.cell? ⟨b, off + k * 4 + 3, none⟩ = some (.int .i64 f.lic)) :
    Calls Try.prog 48 #[.slice (some ⟨b, off, none⟩) n cap, .int .i64 (k : Int), (.agg #[.int .i64 need.cpu, .int .i64 need.mem, .int .i64 need.gpu, .int .i64 need.lic])] w fun e w' => e = .returned (.int .i64 (countV f need)) ∧ Below w.heap.size w w' := by
  have HC := Lib.hid (fun w => count f need w)
  have hk0 : (0 : Int) ≤ k := by omega
  have hk1 : (k : Int) < n := by omega
  have hkt : ((k : Int)).toNat = k := by omega
  go_enter Try.func48, Try.ntmps48
  go_wp2_with fail
  generalize hw0 : World.alloc w _ = w0
  have hb0 : Below w.heap.size w w0 := by rw [← hw0]; exact (by repeat' (first | exact Below.refl _ _ | assumption | exact And.left (by assumption) | refine Below.drew ?_ | refine below_drewN ?_ _ | refine Below.setCell ?_ (by first | (simp; done) | (simp; omega) | omega) _ | refine Below.alloc ?_ (by first | (simp; done) | (simp; omega) | omega) _ | refine after (by assumption) (by first | (simp; done) | (simp; omega) | omega) ?_))
  have n0 : w0.cell? ⟨w.heap.size, 0, none⟩ = some (.int .i64 need.cpu) := by rw [← hw0]; simp [go_sem]
  have n1 : w0.cell? ⟨w.heap.size, 1, none⟩ = some (.int .i64 need.mem) := by rw [← hw0]; simp [go_sem]
  have n2 : w0.cell? ⟨w.heap.size, 2, none⟩ = some (.int .i64 need.gpu) := by rw [← hw0]; simp [go_sem]
  have n3 : w0.cell? ⟨w.heap.size, 3, none⟩ = some (.int .i64 need.lic) := by rw [← hw0]; simp [go_sem]
  clear hw0
  have ga0 := fun d os => cell_regrown (w := w0) (carry hb0 q0) d os
  have ga1 := fun d os => cell_regrown (w := w0) (carry hb0 q1) d os
  have ga2 := fun d os => cell_regrown (w := w0) (carry hb0 q2) d os
  have ga3 := fun d os => cell_regrown (w := w0) (carry hb0 q3) d os
  have gb0 := fun d os => cell_regrown (w := w0) n0 d os
  have gb1 := fun d os => cell_regrown (w := w0) n1 d os
  have gb2 := fun d os => cell_regrown (w := w0) n2 d os
  have gb3 := fun d os => cell_regrown (w := w0) n3 d os
  refine wp_region_quiet_below (by kernel_rfl) (by kernel_rfl) ?_
  repeat (quiet_step (with_reducible exact quiet_bel HC.out))
  refine wpQuiet_nil ?_
  intro _ hw'
  obtain ⟨⟨dq, osq⟩, rfl⟩ := hw'
  have hb5 := below_regrown w0 dq osq
  generalize Go.Sort.grow (redrawn w0 dq) osq = w5 at hb5 ⊢
  go_wp2
  go_ret
  exact ⟨rfl, hb0.trans (hb5.mono hb0.size)⟩
theorem pFit (a : Option Addr) (cap : Nat) (fs : List V) (hl : fs.length ≤ 100000) (n : Int) (need : V) (w : World) (HA : VcAt w a cap fs) :
    Calls Try.prog 48 #[.slice a fs.length cap, .int .i64 n, (.agg #[.int .i64 need.cpu, .int .i64 need.mem, .int .i64 need.gpu, .int .i64 need.lic])] w fun e w' => e = .returned (.int .i64 (fitN fs need n)) ∧ Below w.heap.size w w' := by
  by_cases h0 : n < 0
  · rw [fitN_low h0]
    clear HA
    go_enter Try.func48, Try.ntmps48
    go_wp2
    go_ret
    exact ⟨rfl, (by repeat' (first | exact Below.refl _ _ | assumption | exact And.left (by assumption) | refine Below.drew ?_ | refine below_drewN ?_ _ | refine Below.setCell ?_ (by first | (simp; done) | (simp; omega) | omega) _ | refine Below.alloc ?_ (by first | (simp; done) | (simp; omega) | omega) _ | refine after (by assumption) (by first | (simp; done) | (simp; omega) | omega) ?_))⟩
  · by_cases h1 : (fs.length : Int) ≤ n
    · rw [fitN_high h1]
      clear HA
      go_enter Try.func48, Try.ntmps48
      go_wp2
      go_ret
      exact ⟨rfl, (by repeat' (first | exact Below.refl _ _ | assumption | exact And.left (by assumption) | refine Below.drew ?_ | refine below_drewN ?_ _ | refine Below.setCell ?_ (by first | (simp; done) | (simp; omega) | omega) _ | refine Below.alloc ?_ (by first | (simp; done) | (simp; omega) | omega) _ | refine after (by assumption) (by first | (simp; done) | (simp; omega) | omega) ?_))⟩
    · obtain ⟨k, rfl⟩ : ∃ k : Nat, n = (k : Int) := ⟨n.toNat, by omega⟩
      have hk : k < fs.length := by omega
      obtain ⟨b, off, ea, hbl, q0, q1, q2, q3⟩ := HA.row.vc hk
      rw [fitN_in hk]
      subst ea
      exact pFit_in b off cap fs.length k fs[k] need hk hl w hbl q0 q1 q2 q3

end Go.Proofs.Ytcdajfiohhbdgaa.W


/-
  Contract of place.Place.
-/
namespace Go.Proofs.Ytcdajfiohhbdgaa.W
set_option maxRecDepth 100000
set_option linter.unusedVariables false
set_option linter.unusedSimpArgs false
open Go.ChangeShapes Go.WideShapes Go.ChangeAt Go.RowKit

theorem min2_run (P : Program) (ts : Array TypeId) (t : TypeId) (a b : Int) (W : World) : (Builtin.min_ ts t #[.int .i64 a, .int .i64 b]).run P W = .ok (.int .i64 (low b a)) W := by
  simp [Builtin.min_, Builtin.min2]; rfl
/-- what is done, what is left -/
def PlInv (fs : List V) (need : V) (part : List Int) (many : Int) (k : Nat) (left : Int) (acc : List Sh) : Prop :=
  plPut fs need many part = acc ++ plPut fs need left (part.drop k) ∧ plLeft fs need many part = plLeft fs need left (part.drop k)
set_option maxHeartbeats 4000000 in
set_option maxRecDepth 100000 in
theorem pPlaceR (a : Option Addr) (cap : Nat) (fs : List V) (hl : fs.length ≤ 100000) (b : Option Addr) (cb : Nat) (part : List Int) (hp : part.length ≤ 100000) (many : Int) (hm : many ≤ 9223372036854775807) (need : V) (w : World) (HA : VcAt w a cap fs) (HB : RowAt w b (vals part)) :
    Calls Try.prog 30 #[.slice a fs.length cap, .slice b part.length cb, .int .i64 many, (.agg #[.int .i64 need.cpu, .int .i64 need.mem, .int .i64 need.gpu, .int .i64 need.lic])] w
      fun e w' => ∃ v, e = .returned (.tuple #[v, .bool (placeB fs part many need)]) ∧ w'.ownsRow w.heap.size 51 2 v (placeS fs part many need).length (shsV (placeS fs part many need)) ∧ Below w.heap.size w w' := by
  obtain ⟨i0, hi, hzz, hzs, hzb⟩ := info_parts infoSh
  have HR := Lib.hid HA
  have HP := Lib.hid HB
  have HF := Lib.hid (fun n w' h => pFit a cap fs hl n need w' h)
  have hmn := fun ts t x y W => min2_run Try.prog ts t x y W
  clear HA HB
  go_enter Try.func30, Try.ntmps30
  go_wp2
  generalize hw0 : World.alloc w _ = w0
  have hb0 : Below w.heap.size w w0 := by rw [← hw0]; exact (by repeat' (first | exact Below.refl _ _ | assumption | exact And.left (by assumption) | refine Below.drew ?_ | refine below_drewN ?_ _ | refine Below.setCell ?_ (by first | (simp; done) | (simp; omega) | omega) _ | refine Below.alloc ?_ (by first | (simp; done) | (simp; omega) | omega) _ | refine after (by assumption) (by first | (simp; done) | (simp; omega) | omega) ?_))
  have n0 : w0.cell? ⟨w.heap.size, 0, none⟩ = some (.int .i64 need.cpu) := by rw [← hw0]; simp [go_sem]
  have n1 : w0.cell? ⟨w.heap.size, 1, none⟩ = some (.int .i64 need.mem) := by rw [← hw0]; simp [go_sem]
  have n2 : w0.cell? ⟨w.heap.size, 2, none⟩ = some (.int .i64 need.gpu) := by rw [← hw0]; simp [go_sem]
  have n3 : w0.cell? ⟨w.heap.size, 3, none⟩ = some (.int .i64 need.lic) := by rw [← hw0]; simp [go_sem]
  clear hw0
  have hz0 := hb0.size
  go_step3
  go_wp2
  go_step3
  go_wp2
  have HE := Lib.hid (fun (left : Int) (acc : List Sh) (k : Nat) (hk : left < 1 ∨ part.length ≤ k) (h : PlInv fs need part many k left acc) => (show plPut fs need many part = acc ∧ plLeft fs need many part = left by
    rcases hk with hk | hk
    · rw [h.1, h.2, (put_stop hk _).1, (put_stop hk _).2]; simp
    · rw [h.1, h.2, List.drop_eq_nil_of_le hk]; simp [plPut, plLeft]))
  go_loopw [10, 11, 18] (fun v10 v11 x wr => ∃ k : Nat, k ≤ part.length ∧ x = .int .i64 k ∧ ∃ left : Int, v11 = .int .i64 left ∧ left ≤ many ∧ Below w0.heap.size w0 wr ∧ Hid (∃ acc : List Sh, wr.ownsRow w0.heap.size 51 2 v10 acc.length (shsV acc) ∧ acc.length ≤ k ∧ PlInv fs need part many k left acc)) (fun _ _ x _ => part.length - (intOf x).toNat)
  case atStart => exact ⟨0, Nat.zero_le _, rfl, many, rfl, Int.le_refl _, Below.refl _ _, Lib.hid ⟨[], World.ownsRow_nil _ _ _ _, by simp, by simp [PlInv]⟩⟩
  case round =>
    obtain ⟨k, hk, rfl, left, rfl, hleft, hb, HI⟩ := hrel
    have hz := hb.size
    have hbw := hb0.trans (hb.mono hb0.size)
    by_cases hlt : k < part.length
    · obtain ⟨b1, off, ea, hbl, q0⟩ := (RowAt.later HP.out hbw).nm hlt
      subst ea
      have HD := Lib.hid (drop_at part k hlt)
      have hfb := fitN_bd fs need part[k]
      have m0 := carry hb n0
      have m1 := carry hb n1
      have m2 := carry hb n2
      have m3 := carry hb n3
      generalize part[k] = n at q0 HD hfb
      have HF2 := Lib.hid (HF.out n)
      have HU := Lib.hid (show fitN fs need n = fitN fs need n from rfl)
      generalize hf : fitN fs need n = f at hfb HF2
      have HFF := Lib.hid hf
      clear hf HU
      go_wp2_with fail
      refine (HF2.out _ (HR.out.later hbw)).mono ?_; rintro e w2 ⟨rfl, hb2⟩
      have hb2' := hb.trans (hb2.mono hz)
      have hz2 := hb2.size
      by_cases h1 : left < 1
      · obtain ⟨acc, hO, hacc, hI⟩ := HI.out
        have hE := HE.out left acc k (.inl h1) hI
        have HX := Lib.hid hE
        have HO := Lib.hid (own_later hO hb2)
        clear hI hE HI hO
        by_cases h2 : many < 1
        · have E : Hid (placeB fs part many need = false ∧ placeS fs part many need = []) := Lib.hid ⟨decide_eq_false (fun x => x.1 h2), if_neg (fun x => x.1 h2)⟩
          go_wp2
          (try rw [Exit.noGoto_ret])
          go_ret2
          exact ⟨_, by rw [E.out.1]; rfl, by rw [E.out.2]; exact World.ownsRow_nil _ _ _ _, hb0.trans (hb2'.mono hb0.size)⟩
        · have h3 : decide (0 < left) = false := by simp; omega
          have E : Hid (placeB fs part many need = true ∧ placeS fs part many need = acc) := Lib.hid (by
            have : ¬ many < 1 ∧ ¬ 0 < plLeft fs need many part := ⟨h2, by rw [HX.out.2]; omega⟩
            exact ⟨decide_eq_true this, (if_pos this).trans HX.out.1⟩)
          go_wp2
          (try rw [Exit.noGoto_ret])
          go_ret2
          exact ⟨_, by rw [E.out.1]; rfl, by rw [E.out.2]; exact own_more HO.out hz0, hb0.trans (hb2'.mono hb0.size)⟩
      · have hlow := low_bd h1 hfb
        replace hmn := fun ts t W => hmn ts t f left W
        by_cases h2 : low left f = 0
        · have h3 : (low left f == 0) = true := by simpa using h2
          have HX : Hid (∃ acc : List Sh, w2.ownsRow w0.heap.size 51 2 u10 acc.length (shsV acc) ∧ acc.length ≤ k + 1 ∧ PlInv fs need part many (k + 1) left acc) := Lib.hid (by
            obtain ⟨acc, hO, hacc, hI⟩ := HI.out
            refine ⟨acc, own_later hO hb2, by omega, ?_⟩
            have := put_skip (fs := fs) (need := need) h1 (n := n) (by rw [HFF.out]; exact h2) (part.drop (k + 1))
            unfold PlInv at hI ⊢
            rw [HD.out, this.1, this.2] at hI
            exact hI)
          clear h2 HI
          generalize low left f = p at h3 hlow hmn
          go_wp2
          go_roundw
          case rel => exact ⟨k + 1, by omega, by go_num, left, rfl, hleft, hb2', HX⟩
          case measure => simp [intOf]; omega
        · have h3 : (low left f == 0) = false := by simpa using h2
          obtain ⟨acc, hO, hacc, hI⟩ := HI.out
          have HO := Lib.hid (own_later hO hb2)
          have HX : Hid (PlInv fs need part many (k + 1) (left - low left f) (acc ++ [⟨n, low left f⟩])) := Lib.hid (by
            have := put_next (fs := fs) (need := need) h1 (n := n) (by rw [HFF.out]; exact h2) (part.drop (k + 1))
            unfold PlInv at hI ⊢
            rw [HD.out, this.1, this.2, HFF.out] at hI
            exact ⟨by rw [hI.1]; simp, hI.2⟩)
          clear h2 HI hI hO
          generalize low left f = p at h3 hlow HX hmn
          generalize hmm : acc.length = m at HO hacc
          have HM := Lib.hid hmm
          clear hmm
          go_wp2_with (at_builtin; refine pushOne _ _ 43 51 2 16 _ i0 Try.underlying43 hi hzz hzs hzb rfl (by decide) (by decide) w0.heap.size w0.heap.size m _ _ _ _ w0 _ rfl rfl rfl rfl rfl HO.out hb2' (Nat.le_refl _) (hb2'.size) (by simp [Value.oneCell']) (by omega) ?_)
          intro v' w3 hown hb3
          have hwr : IntKind.i64.wrap (left - p) = left - p := IntWalk.i64_in _ (by omega)
          go_wp2
          go_roundw
          case rel => exact ⟨k + 1, by omega, by go_num, left - p, rfl, by omega, hb3, Lib.hid ⟨acc ++ [⟨n, p⟩], by rw [List.length_append, shsV_app, shsV_one, HM.out]; exact hown, by rw [List.length_append, HM.out]; simp; omega, HX.out⟩⟩
          case measure => simp [intOf]; omega
    · obtain ⟨acc, hO, hacc, hI⟩ := HI.out
      have hE := HE.out left acc k (.inr (by omega)) hI
      have HX := Lib.hid hE
      have HO := Lib.hid hO
      clear hI hE HI hO
      by_cases h2 : many < 1
      · have E : Hid (placeB fs part many need = false ∧ placeS fs part many need = []) := Lib.hid ⟨decide_eq_false (fun x => x.1 h2), if_neg (fun x => x.1 h2)⟩
        go_wp2
        (try rw [Exit.noGoto_ret])
        go_ret2
        exact ⟨_, by rw [E.out.1]; rfl, by rw [E.out.2]; exact World.ownsRow_nil _ _ _ _, hbw⟩
      · by_cases h4 : 0 < left
        · have h3 : decide (0 < left) = true := by simp; omega
          have E : Hid (placeB fs part many need = false ∧ placeS fs part many need = []) := Lib.hid (by
            have : ¬ (¬ many < 1 ∧ ¬ 0 < plLeft fs need many part) := fun x => x.2 (by rw [HX.out.2]; omega)
            exact ⟨decide_eq_false this, if_neg this⟩)
          go_wp2
          (try rw [Exit.noGoto_ret])
          go_ret2
          exact ⟨_, by rw [E.out.1]; rfl, by rw [E.out.2]; exact World.ownsRow_nil _ _ _ _, hbw⟩
        · have h3 : decide (0 < left) = false := by simp; omega
          have E : Hid (placeB fs part many need = true ∧ placeS fs part many need = acc) := Lib.hid (by
            have : ¬ many < 1 ∧ ¬ 0 < plLeft fs need many part := ⟨h2, by rw [HX.out.2]; omega⟩
            exact ⟨decide_eq_true this, (if_pos this).trans HX.out.1⟩)
          go_wp2
          (try rw [Exit.noGoto_ret])
          go_ret2
          exact ⟨_, by rw [E.out.1]; rfl, by rw [E.out.2]; exact own_more HO.out hz0, hbw⟩
theorem pPlace (a : Option Addr) (cap : Nat) (fs : List V) (hl : fs.length ≤ 100000) (b : Option Addr) (cb : Nat) (part : List Int) (hp : part.length ≤ 100000) (many : Int) (hm : many ≤ 9223372036854775807) (need : V) (w : World) (HA : VcAt w a cap fs) (HB : NmAt w b cb part) :
    Calls Try.prog 30 #[.slice a fs.length cap, .slice b part.length cb, .int .i64 many, (.agg #[.int .i64 need.cpu, .int .i64 need.mem, .int .i64 need.gpu, .int .i64 need.lic])] w
      fun e w' => ∃ v, e = .returned (.tuple #[v, .bool (placeB fs part many need)]) ∧ w'.ownsRow w.heap.size 51 2 v (placeS fs part many need).length (shsV (placeS fs part many need)) ∧ Below w.heap.size w w' :=
  pPlaceR a cap fs hl b cb part hp many hm need w HA HB.row
end Go.Proofs.Ytcdajfiohhbdgaa.W
