/-
  Several texts in one: PlRight, PnRuns.
-/
import Derived.Test.YtcdajfiohhbdgaaPlMem
import Derived.Deep.QuietTactic
import Derived.BigQuiet
import Derived.Test.YtcdajfiohhbdgaaPnUnb

/-
  Contracts of place.Right, place.Total, nat.Hold over int.
-/
namespace Go.Proofs.Ytcdajfiohhbdgaa.W
set_option maxRecDepth 100000
set_option linter.unusedVariables false
set_option linter.unusedSimpArgs false
open Go.ChangeShapes Go.WideShapes Go.ChangeAt Go.RowKit

set_option maxHeartbeats 2000000 in
theorem pRightR (a : Option Addr) (cap : Nat) (l : List Sh) (hl : l.length ≤ 100000) (n : Int) (w : World) (HA : RowAt w a (shsV l)) :
    Calls Try.prog 31 #[.slice a l.length cap, .int .i64 n] w fun e w' => e = .returned (.bool (rightH l n)) ∧ Below w.heap.size w w' := by
  have HR := Lib.hid HA
  clear HA
  go_enter Try.func31, Try.ntmps31
  go_wp2
  go_loopw [5, 10] (fun v3 x wr => ∃ k : Nat, k ≤ l.length ∧ x = .int .i64 k ∧ ∃ d : Int, v3 = .int .i64 d ∧ Below w.heap.size w wr ∧ Hid (RiseH n (-1) l ↔ RiseH n d (l.drop k))) (fun _ x _ => l.length - (intOf x).toNat)
  case atStart => exact ⟨0, Nat.zero_le _, rfl, -1, rfl, (by repeat' (first | exact Below.refl _ _ | assumption | exact And.left (by assumption) | refine Below.drew ?_ | refine below_drewN ?_ _ | refine Below.setCell ?_ (by first | (simp; done) | (simp; omega) | omega) _ | refine Below.alloc ?_ (by first | (simp; done) | (simp; omega) | omega) _ | refine after (by assumption) (by first | (simp; done) | (simp; omega) | omega) ?_)), Lib.hid (by simp)⟩
  case round =>
    obtain ⟨k, hk, rfl, d, rfl, hb, HI⟩ := hrel
    have hz := hb.size
    by_cases hlt : k < l.length
    · obtain ⟨b, off, ea, hbl, q0, q1⟩ := (RowAt.later HR.out hb).sh hlt
      subst ea
      have HN : Hid (RiseH n (-1) l ↔ d < l[k].node ∧ l[k].node < n ∧ 1 ≤ l[k].many ∧ l[k].many ≤ 64 ∧ RiseH n l[k].node (l.drop (k + 1))) := Lib.hid (by rw [HI.out, drop_at l k hlt]; exact Iff.rfl)
      clear HI
      generalize l[k] = s at q0 q1 HN
      by_cases h0 : s.node ≤ d
      · have E : Hid (rightH l n = false) := Lib.hid (decide_eq_false (fun x => by have := (HN.out.1 x).1; omega))
        go_wp2
        go_ret
        exact ⟨by rw [E.out]; rfl, (by repeat' (first | exact Below.refl _ _ | assumption | exact And.left (by assumption) | refine Below.drew ?_ | refine below_drewN ?_ _ | refine Below.setCell ?_ (by first | (simp; done) | (simp; omega) | omega) _ | refine Below.alloc ?_ (by first | (simp; done) | (simp; omega) | omega) _ | refine after (by assumption) (by first | (simp; done) | (simp; omega) | omega) ?_))⟩
      · by_cases h1 : n ≤ s.node
        · have E : Hid (rightH l n = false) := Lib.hid (decide_eq_false (fun x => by have := (HN.out.1 x).2.1; omega))
          go_wp2
          go_ret
          exact ⟨by rw [E.out]; rfl, (by repeat' (first | exact Below.refl _ _ | assumption | exact And.left (by assumption) | refine Below.drew ?_ | refine below_drewN ?_ _ | refine Below.setCell ?_ (by first | (simp; done) | (simp; omega) | omega) _ | refine Below.alloc ?_ (by first | (simp; done) | (simp; omega) | omega) _ | refine after (by assumption) (by first | (simp; done) | (simp; omega) | omega) ?_))⟩
        · by_cases h2 : s.many < 1
          · have E : Hid (rightH l n = false) := Lib.hid (decide_eq_false (fun x => by have := (HN.out.1 x).2.2.1; omega))
            go_wp2
            go_ret
            exact ⟨by rw [E.out]; rfl, (by repeat' (first | exact Below.refl _ _ | assumption | exact And.left (by assumption) | refine Below.drew ?_ | refine below_drewN ?_ _ | refine Below.setCell ?_ (by first | (simp; done) | (simp; omega) | omega) _ | refine Below.alloc ?_ (by first | (simp; done) | (simp; omega) | omega) _ | refine after (by assumption) (by first | (simp; done) | (simp; omega) | omega) ?_))⟩
          · by_cases h3 : 64 < s.many
            · have E : Hid (rightH l n = false) := Lib.hid (decide_eq_false (fun x => by have := (HN.out.1 x).2.2.2.1; omega))
              go_wp2
              go_ret
              exact ⟨by rw [E.out]; rfl, (by repeat' (first | exact Below.refl _ _ | assumption | exact And.left (by assumption) | refine Below.drew ?_ | refine below_drewN ?_ _ | refine Below.setCell ?_ (by first | (simp; done) | (simp; omega) | omega) _ | refine Below.alloc ?_ (by first | (simp; done) | (simp; omega) | omega) _ | refine after (by assumption) (by first | (simp; done) | (simp; omega) | omega) ?_))⟩
            · have HX : Hid (RiseH n (-1) l ↔ RiseH n s.node (l.drop (k + 1))) := Lib.hid (HN.out.trans ⟨fun x => x.2.2.2.2, fun x => ⟨by omega, by omega, by omega, by omega, x⟩⟩)
              clear HN
              go_wp2
              go_roundw
              case rel => exact ⟨k + 1, by omega, by go_num, s.node, rfl, (by repeat' (first | exact Below.refl _ _ | assumption | exact And.left (by assumption) | refine Below.drew ?_ | refine below_drewN ?_ _ | refine Below.setCell ?_ (by first | (simp; done) | (simp; omega) | omega) _ | refine Below.alloc ?_ (by first | (simp; done) | (simp; omega) | omega) _ | refine after (by assumption) (by first | (simp; done) | (simp; omega) | omega) ?_)), HX⟩
              case measure => simp [intOf]; omega
    · have hkl : k = l.length := by omega
      subst hkl
      have E : Hid (rightH l n = true) := Lib.hid (decide_eq_true (by
        have h := HI.out
        rw [List.drop_length] at h
        exact h.2 trivial))
      clear HI
      go_wp2
      go_ret
      exact ⟨by rw [E.out]; rfl, (by repeat' (first | exact Below.refl _ _ | assumption | exact And.left (by assumption) | refine Below.drew ?_ | refine below_drewN ?_ _ | refine Below.setCell ?_ (by first | (simp; done) | (simp; omega) | omega) _ | refine Below.alloc ?_ (by first | (simp; done) | (simp; omega) | omega) _ | refine after (by assumption) (by first | (simp; done) | (simp; omega) | omega) ?_))⟩

theorem pRight (a : Option Addr) (cap : Nat) (l : List Sh) (hl : l.length ≤ 100000) (n : Int) (w : World) (HA : ShAt w a cap l) :
    Calls Try.prog 31 #[.slice a l.length cap, .int .i64 n] w fun e w' => e = .returned (.bool (rightH l n)) ∧ Below w.heap.size w w' :=
  pRightR a cap l hl n w HA.row
end Go.Proofs.Ytcdajfiohhbdgaa.W


/-
  Runs in memory; contract of plan's runsAreRight.
-/
namespace Go.Proofs.Ytcdajfiohhbdgaa.W
set_option maxRecDepth 100000
set_option linter.unusedVariables false
set_option linter.unusedSimpArgs false
open Go.ChangeShapes Go.WideShapes Go.ChangeAt Go.RowKit

/-- a run as an argument: where its shares lie -/
structure RnM where
  sa : Option Addr
  sc : Nat
  r : Rn
instance : Inhabited RnM := ⟨⟨none, 0, default⟩⟩
def rnV (x : RnM) : List Value := [.int .i64 x.r.need.cpu, .int .i64 x.r.need.mem, .int .i64 x.r.need.gpu, .int .i64 x.r.need.lic, .slice x.sa x.r.sh.length x.sc, .int .i64 x.r.til]
def rnsV (l : List RnM) : List Value := l.flatMap rnV
theorem rnsV_len (l : List RnM) : (rnsV l).length = l.length * 6 := flat_len (n := 6) (fun _ => rfl) l
theorem rnsV_app (a b : List RnM) : rnsV (a ++ b) = rnsV a ++ rnsV b := by simp [rnsV]
theorem rnsV_one (s : RnM) : rnsV [s] = rnV s := by simp [rnsV]
theorem rnsV_cells (l : List RnM) : ∀ u ∈ rnsV l, u.oneCell' = true := by
  intro u hu
  obtain ⟨s, _, hs⟩ := List.mem_flatMap.1 hu
  simp only [rnV, List.mem_cons, List.not_mem_nil, or_false] at hs
  rcases hs with rfl | rfl | rfl | rfl | rfl | rfl <;> rfl
structure RnAt (w : World) (a : Option Addr) (l : List RnM) : Prop where
  row : RowAt w a (rnsV l)
  each : ∀ x ∈ l, RowAt w x.sa (shsV x.r.sh)
theorem RnAt.later {w w' : World} {a : Option Addr} {l : List RnM} (h : RnAt w a l) (hb : Below w.heap.size w w') : RnAt w' a l := ⟨h.row.later hb, fun x hx => (h.each x hx).later hb⟩
theorem RowAt.rn {w : World} {a : Option Addr} {l : List RnM} (h : RowAt w a (rnsV l)) {k : Nat} (hk : k < l.length) : ∃ b off, a = some ⟨b, off, none⟩ ∧ b < w.heap.size ∧
    w.cell? ⟨b, off + k * 6, none⟩ = some (.int .i64 l[k].r.need.cpu) ∧ w.cell? ⟨b, off + k * 6 + 1, none⟩ = some (.int .i64 l[k].r.need.mem) ∧
    w.cell? ⟨b, off + k * 6 + 2, none⟩ = some (.int .i64 l[k].r.need.gpu) ∧ w.cell? ⟨b, off + k * 6 + 3, none⟩ = some (.int .i64 l[k].r.need.lic) ∧
    w.cell? ⟨b, off + k * 6 + 4, none⟩ = some (.slice l[k].sa l[k].r.sh.length l[k].sc) ∧ w.cell? ⟨b, off + k * 6 + 5, none⟩ = some (.int .i64 l[k].r.til) := by
  obtain ⟨b, off, e, hl, hc⟩ := h.row (by rw [rnsV_len]; omega)
  have at' : ∀ j, j < 6 → ∀ u, (rnV l[k])[j]? = some u → w.cell? ⟨b, off + (k * 6 + j), none⟩ = some u := fun j hj u hu => hc _ u (by rw [rnsV, flat_at (n := 6) (fun _ => rfl) _ _ _ hk hj]; exact hu)
  exact ⟨b, off, e, hl, at' 0 (by omega) _ rfl, by rw [Nat.add_assoc]; exact at' 1 (by omega) _ rfl, by rw [Nat.add_assoc]; exact at' 2 (by omega) _ rfl, by rw [Nat.add_assoc]; exact at' 3 (by omega) _ rfl, by rw [Nat.add_assoc]; exact at' 4 (by omega) _ rfl, by rw [Nat.add_assoc]; exact at' 5 (by omega) _ rfl⟩
def runsB (n : Nat) (now : Int) (l : List RnM) : Bool := decide (∀ x ∈ l, RnOk n now x.r)
theorem run_first {n : Nat} {now : Int} {r : Rn} (h : ¬ RnOk n now r) : rightH r.sh n = false ∨ (rightH r.sh n = true ∧ rightB r.need = false) ∨ (rightH r.sh n = true ∧ rightB r.need = true ∧ decide (r.til ≤ now) = true) ∨ (rightH r.sh n = true ∧ rightB r.need = true ∧ decide (r.til ≤ now) = false ∧ decide (281474976710656 < r.til) = true) := by
  unfold rightH rightB
  by_cases h0 : RiseH n (-1) r.sh
  · by_cases h1 : r.need.Ok
    · by_cases h2 : now < r.til
      · by_cases h3 : r.til ≤ 281474976710656
        · exact absurd ⟨h0, h1, h2, h3⟩ h
        · right; right; right; exact ⟨decide_eq_true h0, decide_eq_true h1, decide_eq_false (by omega), decide_eq_true (by omega)⟩
      · right; right; left; exact ⟨decide_eq_true h0, decide_eq_true h1, decide_eq_true (by omega)⟩
    · right; left; exact ⟨decide_eq_true h0, decide_eq_false h1⟩
  · left; exact decide_eq_false h0
set_option maxHeartbeats 4000000 in
theorem pRuns (a : Option Addr) (cap : Nat) (l : List RnM) (hl : l.length ≤ 100000) (hs : ∀ x ∈ l, x.r.sh.length ≤ 100000) (n : Nat) (now : Int) (w : World) (HA : RnAt w a l) :
    Calls Try.prog 22 #[.slice a l.length cap, .int .i64 (n : Int), .int .i64 now] w fun e w' => e = .returned (.bool (runsB n now l)) ∧ Below w.heap.size w w' := by
  have HR := Lib.hid HA
  have HS := Lib.hid hs
  clear HA hs
  obtain ⟨B, hB⟩ : ∃ B, runsB n now l = B := ⟨_, rfl⟩
  rw [hB]
  have HBV := Lib.hid hB
  clear hB
  go_enter Try.func22, Try.ntmps22
  go_wp2
  go_loopw [11] (fun x wr => ∃ k : Nat, k ≤ l.length ∧ x = .int .i64 k ∧ Below w.heap.size w wr ∧ Hid (∀ x ∈ l.take k, RnOk n now x.r)) (fun x _ => l.length - (intOf x).toNat)
  case atStart => exact ⟨0, Nat.zero_le _, rfl, Below.refl _ _, Lib.hid (by simp)⟩
  case round =>
    obtain ⟨k, hk, rfl, hb, HI⟩ := hrel
    have hz := hb.size
    by_cases hlt : k < l.length
    · obtain ⟨b, off, ea, hbl, q0, q1, q2, q3, q4, q5⟩ := (HR.out.later hb).row.rn hlt
      subst ea
      have HX := Lib.hid (RowAt.later (HR.out.each _ (List.getElem_mem hlt)) hb)
      have HQ1 := Lib.hid (fun (w' : World) (h : RowAt w' l[k].sa (shsV l[k].r.sh)) => pRightR l[k].sa l[k].sc l[k].r.sh (HS.out _ (List.getElem_mem hlt)) n w' h)
      have HQ2 := Lib.hid (fun w' => right l[k].r.need w')
      have HT := Lib.hid (take_app l k hlt)
      have HNO := Lib.hid (fun (h : ¬ RnOk n now l[k].r) => (show runsB n now l = false from decide_eq_false fun x => h (x _ (List.getElem_mem hlt))))
      generalize l[k] = x at q0 q1 q2 q3 q4 q5 HX HQ1 HQ2 HT HNO
      obtain ⟨xa, xc, xt, xn, xs⟩ := x
      dsimp only at q0 q1 q2 q3 q4 q5 HX HQ1 HQ2 HNO
      by_cases h : RnOk n now ⟨xt, xn, xs⟩
      · have HI2 : Hid (∀ y ∈ l.take (k + 1), RnOk n now y.r) := Lib.hid (by
          rw [HT.out]
          intro y hy
          rcases List.mem_append.1 hy with hy | hy
          · exact HI.out y hy
          · simp at hy; subst hy; exact h)
        obtain ⟨h0, h1, h2, h3⟩ := h
        rw [show rightH xs n = true from decide_eq_true h0] at HQ1
        rw [right_yes h1] at HQ2
        have g2 : decide (xt ≤ now) = false := decide_eq_false (by simpa using h2)
        have g3 : decide (281474976710656 < xt) = false := decide_eq_false (by simpa using h3)
        clear h0 h1 h2 h3 HI HNO HT
        go_upto_region 4 with fail
        generalize hw2 : World.alloc wr _ = w2
        have hb2 : Below wr.heap.size wr w2 := by rw [← hw2]; exact (by repeat' (first | exact Below.refl _ _ | assumption | exact And.left (by assumption) | refine Below.drew ?_ | refine below_drewN ?_ _ | refine Below.setCell ?_ (by first | (simp; done) | (simp; omega) | omega) _ | refine Below.alloc ?_ (by first | (simp; done) | (simp; omega) | omega) _ | refine after (by assumption) (by first | (simp; done) | (simp; omega) | omega) ?_))
        have z0 : w2.cell? ⟨wr.heap.size, 0, none⟩ = some (.int .i64 xn.cpu) := by rw [← hw2]; simp [go_sem]
        have z1 : w2.cell? ⟨wr.heap.size, 1, none⟩ = some (.int .i64 xn.mem) := by rw [← hw2]; simp [go_sem]
        have z2 : w2.cell? ⟨wr.heap.size, 2, none⟩ = some (.int .i64 xn.gpu) := by rw [← hw2]; simp [go_sem]
        have z3 : w2.cell? ⟨wr.heap.size, 3, none⟩ = some (.int .i64 xn.lic) := by rw [← hw2]; simp [go_sem]
        have z4 : w2.cell? ⟨wr.heap.size, 4, none⟩ = some (.slice xa xs.length xc) := by rw [← hw2]; simp [go_sem]
        have z5 : w2.cell? ⟨wr.heap.size, 5, none⟩ = some (.int .i64 xt) := by rw [← hw2]; simp [go_sem]
        clear hw2 q0 q1 q2 q3 q4 q5
        generalize wr.heap.size = sb at z0 z1 z2 z3 z4 z5 ⊢
        have HX2 := Lib.hid (RowAt.later HX.out hb2)
        go_wp2_with fail
        refine (HQ1.out w2 HX2.out).mono ?_; rintro e w3 ⟨rfl, hb3⟩
        replace z0 := carry hb3 z0
        replace z1 := carry hb3 z1
        replace z2 := carry hb3 z2
        replace z3 := carry hb3 z3
        replace z5 := carry hb3 z5
        clear z4
        go_wp2_with fail
        refine (HQ2.out w3).mono ?_; rintro e w4 ⟨rfl, hb4⟩
        replace z5 := carry hb4 z5
        clear z0 z1 z2 z3
        have k4 := hb.trans (((hb2.trans (hb3.mono hb2.size)).trans (hb4.mono (Nat.le_trans hb2.size hb3.size))).mono hz)
        go_wp2
        go_roundw
        case rel => exact ⟨k + 1, by omega, by go_num, k4, HI2⟩
        case measure => simp [intOf]; omega
      · obtain rfl : B = false := HBV.out.symm.trans (HNO.out h)
        have key := run_first h
        dsimp only at key
        clear HI HNO HT h
        go_upto_region 4 with fail
        generalize hw2 : World.alloc wr _ = w2
        have hb2 : Below wr.heap.size wr w2 := by rw [← hw2]; exact (by repeat' (first | exact Below.refl _ _ | assumption | exact And.left (by assumption) | refine Below.drew ?_ | refine below_drewN ?_ _ | refine Below.setCell ?_ (by first | (simp; done) | (simp; omega) | omega) _ | refine Below.alloc ?_ (by first | (simp; done) | (simp; omega) | omega) _ | refine after (by assumption) (by first | (simp; done) | (simp; omega) | omega) ?_))
        have z0 : w2.cell? ⟨wr.heap.size, 0, none⟩ = some (.int .i64 xn.cpu) := by rw [← hw2]; simp [go_sem]
        have z1 : w2.cell? ⟨wr.heap.size, 1, none⟩ = some (.int .i64 xn.mem) := by rw [← hw2]; simp [go_sem]
        have z2 : w2.cell? ⟨wr.heap.size, 2, none⟩ = some (.int .i64 xn.gpu) := by rw [← hw2]; simp [go_sem]
        have z3 : w2.cell? ⟨wr.heap.size, 3, none⟩ = some (.int .i64 xn.lic) := by rw [← hw2]; simp [go_sem]
        have z4 : w2.cell? ⟨wr.heap.size, 4, none⟩ = some (.slice xa xs.length xc) := by rw [← hw2]; simp [go_sem]
        have z5 : w2.cell? ⟨wr.heap.size, 5, none⟩ = some (.int .i64 xt) := by rw [← hw2]; simp [go_sem]
        clear hw2 q0 q1 q2 q3 q4 q5
        generalize wr.heap.size = sb at z0 z1 z2 z3 z4 z5 ⊢
        have HX2 := Lib.hid (RowAt.later HX.out hb2)
        have k2 := hb.trans (hb2.mono hz)
        rcases key with g0 | ⟨g0, g1⟩ | ⟨g0, g1, g2⟩ | ⟨g0, g1, g2, g3⟩
        · rw [g0] at HQ1
          go_wp2_with fail
          refine (HQ1.out w2 HX2.out).mono ?_; rintro e w3 ⟨rfl, hb3⟩
          go_wp2
          go_ret
          exact ⟨rfl, k2.trans (hb3.mono k2.size)⟩
        all_goals
          rw [g0] at HQ1
          rw [g1] at HQ2
          go_wp2_with fail
          refine (HQ1.out w2 HX2.out).mono ?_; rintro e w3 ⟨rfl, hb3⟩
          replace z0 := carry hb3 z0
          replace z1 := carry hb3 z1
          replace z2 := carry hb3 z2
          replace z3 := carry hb3 z3
          replace z5 := carry hb3 z5
          clear z4
          go_wp2_with fail
          refine (HQ2.out w3).mono ?_; rintro e w4 ⟨rfl, hb4⟩
          replace z5 := carry hb4 z5
          go_wp2
          go_ret
          exact ⟨rfl, k2.trans ((hb3.trans (hb4.mono hb3.size)).mono k2.size)⟩
    · have hkl : k = l.length := by omega
      have HX : Hid (runsB n now l = true) := Lib.hid (decide_eq_true (by have := HI.out; rw [hkl, List.take_length] at this; exact this))
      clear HI
      obtain rfl : B = true := HBV.out.symm.trans HX.out
      go_wp2
      go_ret
      exact ⟨rfl, hb⟩
end Go.Proofs.Ytcdajfiohhbdgaa.W
