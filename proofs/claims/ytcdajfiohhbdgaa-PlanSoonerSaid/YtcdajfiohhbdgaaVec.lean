/-
  Contracts of the functions of layer 2 (vec): what each call comes to, in whatever world; each makes memory of its own alone.
-/
import Derived.Test.YtcdajfiohhbdgaaFl
import Derived.Test.YtcdajfiohhbdgaaVecSpec
import Derived.Test.YtcdajfiohhbdgaaRows
import Derived.WalkKit
import Derived.ProofKit
import Derived.WalkLawsBesides
import Derived.Lib.Hide
import Derived.Below
import Derived.Deep.RegionHeld3
import Derived.Deep.DeepCutAuto
import Derived.Deep.Draws
namespace Go.Proofs.Ytcdajfiohhbdgaa.W
set_option linter.unusedVariables false
set_option linter.unusedSimpArgs false
open Go.ChangeShapes Go.WideShapes Go.ChangeAt Go.RowKit

/-- what is older than a call reads as it did -/
theorem bcell {W w1 : World} (hb : Below W.heap.size W w1) : (∀ b o, b < W.heap.size → w1.cell? ⟨b, o, none⟩ = W.cell? ⟨b, o, none⟩) ∧ (∀ b o, b < W.heap.size → w1.frozen? ⟨b, o, none⟩ = W.frozen? ⟨b, o, none⟩) :=
  ⟨fun b o h => hb.cell (p := ⟨b, o, none⟩) h, fun b o h => hb.frozen (p := ⟨b, o, none⟩) h⟩
/-- what a cell held it holds behind a call, and behind what is made -/
theorem carry {w w' : World} {a : Addr} {v : Value} (hb : Below w.heap.size w w') (h : w.cell? a = some v) : w'.cell? a = some v := (hb.cell (World.block_lt_of_cell? _ _ h)).trans h
theorem carry_alloc {w : World} {a : Addr} {v : Value} (h : w.cell? a = some v) (o : Obj) : (w.alloc o).cell? a = some v := (World.cell?_alloc_lt _ _ _ (World.block_lt_of_cell? _ _ h)).trans h
/-- a call behind what the caller made -/
theorem after {B : Nat} {w v w1 : World} (h : Below v.heap.size v w1) (hB : B ≤ v.heap.size) (k : Below B w v) : Below B w w1 := k.trans (h.mono hB)

theorem below_drewN {B : Nat} {a w : World} (h : Below B a w) (n : Nat) : Below B a (w.drewN n) := ⟨h.os, h.tape, h.output, h.size, h.block⟩
/-- what a region that draws its order keeps: all that is older than it -/
theorem kept {w w' : World} (h : Below w.heap.size w w') : Below w.heap.size w w' ∧ (∀ b o, b < w.heap.size → w'.cell? ⟨b, o, none⟩ = w.cell? ⟨b, o, none⟩) := ⟨h, (bcell h).1⟩

theorem fits (a b : V) (w : World) :
    Calls Try.prog 42 #[(.agg #[.int .i64 a.cpu, .int .i64 a.mem, .int .i64 a.gpu, .int .i64 a.lic]), (.agg #[.int .i64 b.cpu, .int .i64 b.mem, .int .i64 b.gpu, .int .i64 b.lic])] w fun e w' => e = .returned (.bool (fitsB a b)) ∧ Below w.heap.size w w' := by
  by_cases h : V.Le a b
  · rw [fits_yes h]
    obtain ⟨h0, h1, h2, h3⟩ := h
    go_enter Try.func42, Try.ntmps42
    go_wp2
    go_ret
    exact ⟨rfl, (by repeat' (first | exact Below.refl _ _ | assumption | exact And.left (by assumption) | refine Below.drew ?_ | refine below_drewN ?_ _ | refine Below.setCell ?_ (by first | (simp; done) | (simp; omega) | omega) _ | refine Below.alloc ?_ (by first | (simp; done) | (simp; omega) | omega) _ | refine after (by assumption) (by first | (simp; done) | (simp; omega) | omega) ?_))⟩
  · rw [fits_no h]
    by_cases h0 : a.cpu ≤ b.cpu
    · by_cases h1 : a.mem ≤ b.mem
      · by_cases h2 : a.gpu ≤ b.gpu
        · have h3 : ¬ a.lic ≤ b.lic := fun x => h ⟨h0, h1, h2, x⟩
          clear h
          go_enter Try.func42, Try.ntmps42
          go_wp2
          go_ret
          exact ⟨rfl, (by repeat' (first | exact Below.refl _ _ | assumption | exact And.left (by assumption) | refine Below.drew ?_ | refine below_drewN ?_ _ | refine Below.setCell ?_ (by first | (simp; done) | (simp; omega) | omega) _ | refine Below.alloc ?_ (by first | (simp; done) | (simp; omega) | omega) _ | refine after (by assumption) (by first | (simp; done) | (simp; omega) | omega) ?_))⟩
        · clear h
          go_enter Try.func42, Try.ntmps42
          go_wp2
          go_ret
          exact ⟨rfl, (by repeat' (first | exact Below.refl _ _ | assumption | exact And.left (by assumption) | refine Below.drew ?_ | refine below_drewN ?_ _ | refine Below.setCell ?_ (by first | (simp; done) | (simp; omega) | omega) _ | refine Below.alloc ?_ (by first | (simp; done) | (simp; omega) | omega) _ | refine after (by assumption) (by first | (simp; done) | (simp; omega) | omega) ?_))⟩
      · clear h
        go_enter Try.func42, Try.ntmps42
        go_wp2
        go_ret
        exact ⟨rfl, (by repeat' (first | exact Below.refl _ _ | assumption | exact And.left (by assumption) | refine Below.drew ?_ | refine below_drewN ?_ _ | refine Below.setCell ?_ (by first | (simp; done) | (simp; omega) | omega) _ | refine Below.alloc ?_ (by first | (simp; done) | (simp; omega) | omega) _ | refine after (by assumption) (by first | (simp; done) | (simp; omega) | omega) ?_))⟩
    · clear h
      go_enter Try.func42, Try.ntmps42
      go_wp2
      go_ret
      exact ⟨rfl, (by repeat' (first | exact Below.refl _ _ | assumption | exact And.left (by assumption) | refine Below.drew ?_ | refine below_drewN ?_ _ | refine Below.setCell ?_ (by first | (simp; done) | (simp; omega) | omega) _ | refine Below.alloc ?_ (by first | (simp; done) | (simp; omega) | omega) _ | refine after (by assumption) (by first | (simp; done) | (simp; omega) | omega) ?_))⟩

theorem right (a : V) (w : World) :
    Calls Try.prog 32 #[(.agg #[.int .i64 a.cpu, .int .i64 a.mem, .int .i64 a.gpu, .int .i64 a.lic])] w fun e w' => e = .returned (.bool (rightB a)) ∧ Below w.heap.size w w' := by
  rw [right_two]
  have H0 := Lib.hid (fun w => fits V.zero a w)
  have H1 := Lib.hid (fun w => fits a V.top w)
  cases h0 : fitsB V.zero a with
  | false =>
    rw [h0] at H0
    clear h0
    go_enter Try.func32, Try.ntmps32
    go_wp2_with fail
    refine (H0.out _).mono ?_; rintro e w1 ⟨rfl, hb⟩
    obtain ⟨hc, hf⟩ := bcell hb
    go_wp2_with fail
    go_ret
    exact ⟨by simp, (by repeat' (first | exact Below.refl _ _ | assumption | exact And.left (by assumption) | refine Below.drew ?_ | refine below_drewN ?_ _ | refine Below.setCell ?_ (by first | (simp; done) | (simp; omega) | omega) _ | refine Below.alloc ?_ (by first | (simp; done) | (simp; omega) | omega) _ | refine after (by assumption) (by first | (simp; done) | (simp; omega) | omega) ?_))⟩
  | true =>
    rw [h0] at H0
    clear h0
    go_enter Try.func32, Try.ntmps32
    go_wp2_with fail
    refine (H0.out _).mono ?_; rintro e w1 ⟨rfl, hb⟩
    obtain ⟨hc, hf⟩ := bcell hb
    go_wp2_with fail
    refine (H1.out _).mono ?_; rintro e w2 ⟨rfl, hb2⟩
    go_wp2_with fail
    go_ret
    have hz := hb.size; try simp at hz
    exact ⟨by simp, (by repeat' (first | exact Below.refl _ _ | assumption | exact And.left (by assumption) | refine Below.drew ?_ | refine below_drewN ?_ _ | refine Below.setCell ?_ (by first | (simp; done) | (simp; omega) | omega) _ | refine Below.alloc ?_ (by first | (simp; done) | (simp; omega) | omega) _ | refine after (by assumption) (by first | (simp; done) | (simp; omega) | omega) ?_))⟩

theorem run_store_complex (P : Program) (w : World) (a : Addr) (m : Mode) (k : FloatKind) (x y : Nat) : (store a (.complex k x y) m).run P w = stored P w a (.complex k x y) m := run_store P w a _ m rfl
attribute [local go_sem] run_store_complex
/-- two complex numbers -/
theorem pair (a : V) (w : World) :
    Calls Try.prog 52 #[(.agg #[.int .i64 a.cpu, .int .i64 a.mem, .int .i64 a.gpu, .int .i64 a.lic])] w fun e w' => e = .returned (.agg #[.complex .f64 (fl a.cpu) (fl a.mem), .complex .f64 (fl a.gpu) (fl a.lic)]) ∧
      w' = (w.alloc (.cells #[.int .i64 a.cpu, .int .i64 a.mem, .int .i64 a.gpu, .int .i64 a.lic] 34)).alloc (.cells #[.complex .f64 (fl a.cpu) (fl a.mem), .complex .f64 (fl a.gpu) (fl a.lic)] 117) := by
  go_enter Try.func52, Try.ntmps52
  go_wp2
  exact bodyPost_ret (v := .agg #[.complex .f64 (fl a.cpu) (fl a.mem), .complex .f64 (fl a.gpu) (fl a.lic)]) (by simp [results, Try.results52, go_sem]; exact ⟨⟨rfl, rfl⟩, rfl, rfl⟩) rfl ⟨rfl, rfl⟩

/-- a float that is a whole number, cut to one -/
theorem whole (n : Int) (h : n.natAbs < 2 ^ 53) (w : World) : (convert 119 3 (.float .f64 (fl n))).run Try.prog w = .ok (.int .i64 n) w :=
  run_convert_float_int w _ _ .f64 .i64 _ n (by rw [Try.underlying119]; rfl) Try.underlying3 (toInt_fl n h)
theorem unpair (a : V) (w : World) (h : Small a) :
    Calls Try.prog 53 #[.agg #[.complex .f64 (fl a.cpu) (fl a.mem), .complex .f64 (fl a.gpu) (fl a.lic)]] w
      fun e w' => e = .returned (.tuple #[(.agg #[.int .i64 (outR a).cpu, .int .i64 (outR a).mem, .int .i64 (outR a).gpu, .int .i64 (outR a).lic]), .int .i64 (outE a)]) ∧ Below w.heap.size w w' := by
  have c0 := whole _ h.1
  have c1 := whole _ h.2.1
  have c2 := whole _ h.2.2.1
  have c3 := whole _ h.2.2.2
  clear h
  by_cases ho : a.Ok
  · rw [(out_ok ho).1, (out_ok ho).2]
    have H := Lib.hid (fun w => right a w)
    rw [right_yes ho] at H
    clear ho
    go_enter Try.func53, Try.ntmps53
    go_wp2_with (simp only [c0, c1, c2, c3])
    refine (H.out _).mono ?_; rintro e w1 ⟨rfl, hb⟩
    obtain ⟨hc, hf⟩ := bcell hb
    have hz := hb.size; try simp at hz
    go_wp2
    exact bodyPost_ret (v := .tuple #[(.agg #[.int .i64 a.cpu, .int .i64 a.mem, .int .i64 a.gpu, .int .i64 a.lic]), .int .i64 0]) (by simp [results, Try.results53, go_sem, hc, hz]) rfl ⟨rfl, (by repeat' (first | exact Below.refl _ _ | assumption | exact And.left (by assumption) | refine Below.drew ?_ | refine below_drewN ?_ _ | refine Below.setCell ?_ (by first | (simp; done) | (simp; omega) | omega) _ | refine Below.alloc ?_ (by first | (simp; done) | (simp; omega) | omega) _ | refine after (by assumption) (by first | (simp; done) | (simp; omega) | omega) ?_))⟩
  · rw [(out_over ho).1, (out_over ho).2]
    have H := Lib.hid (fun w => right a w)
    rw [right_no ho] at H
    clear ho
    go_enter Try.func53, Try.ntmps53
    go_wp2_with (simp only [c0, c1, c2, c3])
    refine (H.out _).mono ?_; rintro e w1 ⟨rfl, hb⟩
    obtain ⟨hc, hf⟩ := bcell hb
    have hz := hb.size; try simp at hz
    go_wp2
    exact bodyPost_ret (v := .tuple #[(.agg #[.int .i64 V.zero.cpu, .int .i64 V.zero.mem, .int .i64 V.zero.gpu, .int .i64 V.zero.lic]), .int .i64 20]) (by simp [results, Try.results53, go_sem, hc, hz]; try (unfold V.zero; simp)) rfl ⟨rfl, (by repeat' (first | exact Below.refl _ _ | assumption | exact And.left (by assumption) | refine Below.drew ?_ | refine below_drewN ?_ _ | refine Below.setCell ?_ (by first | (simp; done) | (simp; omega) | omega) _ | refine Below.alloc ?_ (by first | (simp; done) | (simp; omega) | omega) _ | refine after (by assumption) (by first | (simp; done) | (simp; omega) | omega) ?_))⟩

end Go.Proofs.Ytcdajfiohhbdgaa.W
