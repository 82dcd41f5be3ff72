/-
  Several texts in one: VecTimes, PnLess.
-/
import Derived.Test.YtcdajfiohhbdgaaVec
import Derived.Test.YtcdajfiohhbdgaaJ35
import Derived.Test.YtcdajfiohhbdgaaJ36

/-
  Contract of vec.Times.
-/
namespace Go.Proofs.Ytcdajfiohhbdgaa.W
set_option linter.unusedVariables false
set_option linter.unusedSimpArgs false
open Go.ChangeShapes Go.WideShapes Go.ChangeAt Go.RowKit
attribute [local go_sem] run_store_complex

theorem fl_zero : fl 0 = 0 := by decide +kernel
theorem mul0 {a : V} {n : Int} (h : a.Ok) (g : 0 ≤ n ∧ n ≤ 1048577) (t : TypeId) (w : World) :
    (binOp .mul t (.complex .f64 (fl a.cpu) (fl a.mem)) (.complex .f64 (floatOfInt .f64 n) 0)).run Try.prog w = .ok (.complex .f64 (fl (a.by n).cpu) (fl (a.by n).mem)) w := by
  have := run_complex_mul (P := Try.prog) w t _ _ _ _ _ _ (cmul_by0 h g)
  rw [fl_zero] at this; exact this
theorem mul1 {a : V} {n : Int} (h : a.Ok) (g : 0 ≤ n ∧ n ≤ 1048577) (t : TypeId) (w : World) :
    (binOp .mul t (.complex .f64 (fl a.gpu) (fl a.lic)) (.complex .f64 (floatOfInt .f64 n) 0)).run Try.prog w = .ok (.complex .f64 (fl (a.by n).gpu) (fl (a.by n).lic)) w := by
  have := run_complex_mul (P := Try.prog) w t _ _ _ _ _ _ (cmul_by1 h g)
  rw [fl_zero] at this; exact this
set_option maxHeartbeats 4000000 in
/-- so many times, and so many are not too many to be reckoned -/
theorem times (a : V) (n : Int) (w : World) (hn : n ≤ 9223372036854775807) :
    Calls Try.prog 41 #[(.agg #[.int .i64 a.cpu, .int .i64 a.mem, .int .i64 a.gpu, .int .i64 a.lic]), .int .i64 n] w
      fun e w' => e = .returned (.tuple #[(.agg #[.int .i64 (timesR a n).cpu, .int .i64 (timesR a n).mem, .int .i64 (timesR a n).gpu, .int .i64 (timesR a n).lic]), .int .i64 (timesE a n)]) ∧ Below w.heap.size w w' := by
  have HA := Lib.hid (fun w => right a w)
  have hs1 : ∀ a b : Nat, a < b → a < b + 1 := (fun _ _ _ => by omega); have hs2 : ∀ a b : Nat, a < b → a < b + 1 + 1 := (fun _ _ _ => by omega); have hs3 : ∀ a b : Nat, a < b → a < b + 1 + 1 + 1 := (fun _ _ _ => by omega); have hs4 : ∀ a b : Nat, a < b → a < b + 1 + 1 + 1 + 1 := (fun _ _ _ => by omega); have hs5 : ∀ a b : Nat, a < b → a < b + 1 + 1 + 1 + 1 + 1 := (fun _ _ _ => by omega)
  by_cases h0 : a.Ok
  · rw [right_yes h0] at HA
    by_cases h1 : 0 ≤ n
    · rw [(times_in ⟨h0, h1⟩).1, (times_in ⟨h0, h1⟩).2]
      by_cases h2 : 1048577 < n
      · rw [(by_enough h0 h2).1, (by_enough h0 h2).2]
        have U := Lib.hid (fun w => unpair (a.by 1048577) w (small_by h0 (by omega)))
        have e0 := fun t w => mul0 (n := 1048577) h0 (by omega) t w
        have e1 := fun t w => mul1 (n := 1048577) h0 (by omega) t w
        clear h0
        go_enter Try.func41, Try.ntmps41
        go_wp2_with fail
        refine (HA.out _).mono ?_; rintro e w1 ⟨rfl, hb1⟩
        obtain ⟨hc1, hf1⟩ := bcell hb1
        have hz1 := hb1.size; try simp at hz1
        have lt_w1_0 : w.heap.size < w1.heap.size := (by omega); have lt_w1_1 : w.heap.size + 1 < w1.heap.size := (by omega)
        go_wp2_with fail
        refine (pair a _).mono ?_; rintro e w2 ⟨rfl, rfl⟩
        go_wp2_with (simp only [e0, e1])
        refine (U.out _).mono ?_; rintro e w3 ⟨rfl, hb3⟩
        obtain ⟨hc3, hf3⟩ := bcell hb3
        have hz3 := hb3.size; try simp at hz3
        have lt_w3_0 : w.heap.size < w3.heap.size := (by omega); have lt_w3_1 : w.heap.size + 1 < w3.heap.size := (by omega)
        have q_w3_0 : w3.cell? ⟨w.heap.size + 1, 0, none⟩ = some (.int .i64 0) := (by repeat' (first | assumption | (simp [go_sem]; done) | refine carry (by assumption) ?_ | refine carry_alloc ?_ _)); have q_w3_1 : w3.cell? ⟨w.heap.size + 1, 1, none⟩ = some (.int .i64 0) := (by repeat' (first | assumption | (simp [go_sem]; done) | refine carry (by assumption) ?_ | refine carry_alloc ?_ _)); have q_w3_2 : w3.cell? ⟨w.heap.size + 1, 2, none⟩ = some (.int .i64 0) := (by repeat' (first | assumption | (simp [go_sem]; done) | refine carry (by assumption) ?_ | refine carry_alloc ?_ _)); have q_w3_3 : w3.cell? ⟨w.heap.size + 1, 3, none⟩ = some (.int .i64 0) := (by repeat' (first | assumption | (simp [go_sem]; done) | refine carry (by assumption) ?_ | refine carry_alloc ?_ _))
        go_wp2
        exact bodyPost_ret (v := .tuple #[(.agg #[.int .i64 (outR (a.by 1048577)).cpu, .int .i64 (outR (a.by 1048577)).mem, .int .i64 (outR (a.by 1048577)).gpu, .int .i64 (outR (a.by 1048577)).lic]), .int .i64 (outE (a.by 1048577))]) (by simp [results, Try.results41, go_sem, *]) rfl ⟨rfl, (by repeat' (first | exact Below.refl _ _ | assumption | exact And.left (by assumption) | refine Below.drew ?_ | refine below_drewN ?_ _ | refine Below.setCell ?_ (by first | (simp; done) | (simp; omega) | omega) _ | refine Below.alloc ?_ (by first | (simp; done) | (simp; omega) | omega) _ | refine after (by assumption) (by first | (simp; done) | (simp; omega) | omega) ?_))⟩
      · have h3 : n ≤ 1048577 := by omega
        have U := Lib.hid (fun w => unpair (a.by n) w (small_by h0 (by omega)))
        have e0 := fun t w => mul0 (n := n) h0 (by omega) t w
        have e1 := fun t w => mul1 (n := n) h0 (by omega) t w
        clear h0
        go_enter Try.func41, Try.ntmps41
        go_wp2_with fail
        refine (HA.out _).mono ?_; rintro e w1 ⟨rfl, hb1⟩
        obtain ⟨hc1, hf1⟩ := bcell hb1
        have hz1 := hb1.size; try simp at hz1
        have lt_w1_0 : w.heap.size < w1.heap.size := (by omega); have lt_w1_1 : w.heap.size + 1 < w1.heap.size := (by omega)
        go_wp2_with fail
        refine (pair a _).mono ?_; rintro e w2 ⟨rfl, rfl⟩
        go_wp2_with (simp only [e0, e1])
        refine (U.out _).mono ?_; rintro e w3 ⟨rfl, hb3⟩
        obtain ⟨hc3, hf3⟩ := bcell hb3
        have hz3 := hb3.size; try simp at hz3
        have lt_w3_0 : w.heap.size < w3.heap.size := (by omega); have lt_w3_1 : w.heap.size + 1 < w3.heap.size := (by omega)
        have q_w3_0 : w3.cell? ⟨w.heap.size + 1, 0, none⟩ = some (.int .i64 0) := (by repeat' (first | assumption | (simp [go_sem]; done) | refine carry (by assumption) ?_ | refine carry_alloc ?_ _)); have q_w3_1 : w3.cell? ⟨w.heap.size + 1, 1, none⟩ = some (.int .i64 0) := (by repeat' (first | assumption | (simp [go_sem]; done) | refine carry (by assumption) ?_ | refine carry_alloc ?_ _)); have q_w3_2 : w3.cell? ⟨w.heap.size + 1, 2, none⟩ = some (.int .i64 0) := (by repeat' (first | assumption | (simp [go_sem]; done) | refine carry (by assumption) ?_ | refine carry_alloc ?_ _)); have q_w3_3 : w3.cell? ⟨w.heap.size + 1, 3, none⟩ = some (.int .i64 0) := (by repeat' (first | assumption | (simp [go_sem]; done) | refine carry (by assumption) ?_ | refine carry_alloc ?_ _))
        go_wp2
        exact bodyPost_ret (v := .tuple #[(.agg #[.int .i64 (outR (a.by n)).cpu, .int .i64 (outR (a.by n)).mem, .int .i64 (outR (a.by n)).gpu, .int .i64 (outR (a.by n)).lic]), .int .i64 (outE (a.by n))]) (by simp [results, Try.results41, go_sem, *]) rfl ⟨rfl, (by repeat' (first | exact Below.refl _ _ | assumption | exact And.left (by assumption) | refine Below.drew ?_ | refine below_drewN ?_ _ | refine Below.setCell ?_ (by first | (simp; done) | (simp; omega) | omega) _ | refine Below.alloc ?_ (by first | (simp; done) | (simp; omega) | omega) _ | refine after (by assumption) (by first | (simp; done) | (simp; omega) | omega) ?_))⟩
    · rw [(times_arg (fun x => h1 x.2)).1, (times_arg (fun x => h1 x.2)).2]
      clear h0
      go_enter Try.func41, Try.ntmps41
      go_wp2_with fail
      refine (HA.out _).mono ?_; rintro e w1 ⟨rfl, hb1⟩
      obtain ⟨hc1, hf1⟩ := bcell hb1
      have hz1 := hb1.size; try simp at hz1
      have lt_w1_0 : w.heap.size < w1.heap.size := (by omega); have lt_w1_1 : w.heap.size + 1 < w1.heap.size := (by omega)
      go_wp2
      exact bodyPost_ret (v := .tuple #[(.agg #[.int .i64 V.zero.cpu, .int .i64 V.zero.mem, .int .i64 V.zero.gpu, .int .i64 V.zero.lic]), .int .i64 2]) (by simp [results, Try.results41, go_sem, V.zero, *]) rfl ⟨rfl, (by repeat' (first | exact Below.refl _ _ | assumption | exact And.left (by assumption) | refine Below.drew ?_ | refine below_drewN ?_ _ | refine Below.setCell ?_ (by first | (simp; done) | (simp; omega) | omega) _ | refine Below.alloc ?_ (by first | (simp; done) | (simp; omega) | omega) _ | refine after (by assumption) (by first | (simp; done) | (simp; omega) | omega) ?_))⟩
  · rw [right_no h0] at HA
    rw [(times_arg (fun x => h0 x.1)).1, (times_arg (fun x => h0 x.1)).2]
    clear h0
    go_enter Try.func41, Try.ntmps41
    go_wp2_with fail
    refine (HA.out _).mono ?_; rintro e w1 ⟨rfl, hb1⟩
    obtain ⟨hc1, hf1⟩ := bcell hb1
    have hz1 := hb1.size; try simp at hz1
    have lt_w1_0 : w.heap.size < w1.heap.size := (by omega); have lt_w1_1 : w.heap.size + 1 < w1.heap.size := (by omega)
    go_wp2
    exact bodyPost_ret (v := .tuple #[(.agg #[.int .i64 V.zero.cpu, .int .i64 V.zero.mem, .int .i64 V.zero.gpu, .int .i64 V.zero.lic]), .int .i64 2]) (by simp [results, Try.results41, go_sem, V.zero, *]) rfl ⟨rfl, (by repeat' (first | exact Below.refl _ _ | assumption | exact And.left (by assumption) | refine Below.drew ?_ | refine below_drewN ?_ _ | refine Below.setCell ?_ (by first | (simp; done) | (simp; omega) | omega) _ | refine Below.alloc ?_ (by first | (simp; done) | (simp; omega) | omega) _ | refine after (by assumption) (by first | (simp; done) | (simp; omega) | omega) ?_))⟩
end Go.Proofs.Ytcdajfiohhbdgaa.W


/-
  Contracts of slices.Clone over rows of steps, of plan's less.
-/
namespace Go.Proofs.Ytcdajfiohhbdgaa.W
set_option maxRecDepth 100000
set_option linter.unusedVariables false
set_option linter.unusedSimpArgs false
open Go.ChangeShapes Go.WideShapes Go.ChangeAt Go.RowKit

set_option maxHeartbeats 1000000 in
theorem cloneFr (b off cap : Nat) (F : List Stl) (w : World) (hl : F.length ≤ 100000) (h : FrAt w (some ⟨b, off, none⟩) cap F) :
    Calls Try.prog 40 #[.slice (some ⟨b, off, none⟩) F.length cap] w fun e w' => ∃ v, e = .returned v ∧ FrOwn w' w.heap.size v F ∧ Below w.heap.size w w' := by
  obtain ⟨i0, hi, hzz, hzs, hzb⟩ := info_parts infoStl
  have H := Lib.hid h
  clear h
  have q22 : ∀ (w : World) (a : Option Addr) (n c n' c' : Nat), (binOp .eql 71 (.slice a n c) (.slice none n' c')).run Try.prog w = .ok (.bool a.isNone) w := fun w a n c n' c' => Lib.run_eql_slice_nil w _ _ a n c n' c' Try.underlying71
  have hcells : ∀ u ∈ F.map stlV, u.oneCell' = true := by
    intro u hu
    obtain ⟨p, _, rfl⟩ := List.mem_map.1 hu
    rfl
  have hxl : (F.map stlV).length = F.length * 1 := by simp
  go_enter Try.func40, Try.ntmps40
  go_wp2_with (at_builtin; refine pushBig _ _ 71 79 1 24 _ i0 Try.underlying71 hi hzz hzs hzb rfl (by decide) (by decide) w.heap.size w.heap.size 0 F.length cap [] (F.map stlV) _ ⟨b, off, none⟩ w _ rfl rfl rfl rfl hxl (World.ownsRow_lit w #[] 0 (Nat.le_refl _) (by decide) rfl) (H.out.row.alloc _) ((Below.refl _ _).alloc (Nat.le_refl _) _) (Nat.le_refl _) (by simp) hcells (by omega) ?_)
  intro v' w1 hown hb1 _
  go_wp2
  go_ret
  refine ⟨_, rfl, ⟨?_, fun p hp => (H.out.each p hp).later hb1⟩, hb1⟩
  simpa using hown
/-- a list of steps with something taken, where it lies -/
theorem sTake2 (a : Option Addr) (cap : Nat) (l : List St) (hl : l.length ≤ 80000) (f t : Int) (need : V) (w : World) (HA : StAt w a cap l) :
    Calls Try.prog 39 #[.slice a l.length cap, .int .i64 f, .int .i64 t, (.agg #[.int .i64 need.cpu, .int .i64 need.mem, .int .i64 need.gpu, .int .i64 need.lic])] w
      fun e w' => ∃ a' c', e = .returned (.tuple #[.slice a' (turnR false l f t need).length c', .int .i64 (turnE false l f t need)]) ∧ StlAt w' ⟨a', c', turnR false l f t need⟩ ∧ Below w.heap.size w w' := by
  refine (sTake a cap l hl f t need w HA).mono ?_
  rintro e w' ⟨v, rfl, ho, hb⟩
  obtain ⟨a', c', rfl, h⟩ := own_stl ho
  exact ⟨a', c', rfl, h, hb⟩
def plSp (gg n cg sb db kk : Nat) (pa : Option Addr) (pl pc : Nat) (f t : Int) (d : V) (E : Int) (R : List St) : List Sp :=
  [Sp.c (.slice (some ⟨gg, 0, none⟩) n cg) [],
   Sp.c (.pointer (some ⟨sb, 0, none⟩)) [],
   Sp.c (.int .i64 (kk : Int)) [1],
   Sp.c (.slice (some ⟨gg, 0, none⟩) n cg) [],
   Sp.c (.pointer (some ⟨sb, 0, none⟩)) [],
   Sp.c (.int .i64 (kk : Int)) [4],
   Sp.c (.pointer (some ⟨gg, kk, none⟩)) [3, 5],
   Sp.c (.slice pa pl pc) [6],
   Sp.c (.int .i64 f) [],
   Sp.c (.int .i64 t) [],
   Sp.c ((.agg #[.int .i64 d.cpu, .int .i64 d.mem, .int .i64 d.gpu, .int .i64 d.lic])) [],
   Sp.m true (fun x wm => ∃ a c, x = .tuple #[.slice a R.length c, .int .i64 E] ∧ StlAt wm ⟨a, c, R⟩) [7, 8, 9, 10],
   Sp.m true (fun x wm => ∃ a c, x = .tuple #[.slice a R.length c, .int .i64 E] ∧ StlAt wm ⟨a, c, R⟩) [11],
   Sp.m true (fun x wm => ∃ a c, x = .slice a R.length c ∧ StlAt wm ⟨a, c, R⟩) [12],
   Sp.c (.int .i64 E) [12],
   Sp.c (.pointer (some ⟨gg, kk, none⟩)) [0, 2]]
theorem lessF_head {need : V} {f t : Int} {F : FL} {s : Sh} {r : List Sh} {kk : Nat} (hk : s.node.toNat = kk) (h : timesE need s.many = 0) :
    lessF need f t F (s :: r) = if turnE false (F.getD kk []) f t (timesR need s.many) = 0 then lessF need f t (F.set kk (turnR false (F.getD kk []) f t (timesR need s.many))) r else none := by
  subst hk
  rw [lessF, if_pos h]
  unfold takeL
  split
  · rename_i e; split at e
    · rename_i h2; injection e with e; subst e; rw [if_pos h2]
    · cases e
  · rename_i e; split at e
    · cases e
    · rename_i h2; rw [if_neg h2]
set_option maxHeartbeats 8000000 in
theorem pLess (fb fo fc : Nat) (F : List Stl) (hF : F.length ≤ 16) (hpos : 0 < F.length) (B0 : Nat) (hB : LenLe (flOf F) B0) (sa : Option Addr) (sc : Nat) (l : List Sh) (hl : l.length ≤ 40) (hB2 : B0 + 2 * l.length ≤ 80000) (hr : RiseH F.length (-1) l) (need : V) (f t : Int) (w : World)
    (HF : FrAt w (some ⟨fb, fo, none⟩) fc F) (HS : RowAt w sa (shsV l)) :
    Calls Try.prog 24 #[.slice (some ⟨fb, fo, none⟩) F.length fc, .slice sa l.length sc, (.agg #[.int .i64 need.cpu, .int .i64 need.mem, .int .i64 need.gpu, .int .i64 need.lic]), .int .i64 f, .int .i64 t] w fun e w' =>
      ∃ v E, e = .returned (.tuple #[v, .int .i64 E]) ∧ Below w.heap.size w w' ∧ ((E = 0 ∧ ∃ F', FrOwn w' w.heap.size v F' ∧ lessF need f t (flOf F) l = some (flOf F')) ∨ (E ≠ 0 ∧ v = .slice none 0 0 ∧ lessF need f t (flOf F) l = none)) := by
  have HR := Lib.hid HF
  have HSR := Lib.hid HS
  have HB := Lib.hid hB
  have HB2 := Lib.hid hB2
  have HRI := Lib.hid hr
  have HC := Lib.hid (fun w' h => cloneFr fb fo fc F w' (by omega) h)
  have HPOS := Lib.hid hpos
  clear HF HS hB hB2 hr hpos
  generalize hn : F.length = n at hF HC HRI HPOS
  have HN := Lib.hid hn
  clear hn
  go_enter Try.func24, Try.ntmps24
  go_wp2_with fail
  generalize hw0 : World.alloc w _ = w0
  have hb0 : Below w.heap.size w w0 := by rw [← hw0]; exact (by repeat' (first | exact Below.refl _ _ | assumption | exact And.left (by assumption) | refine Below.drew ?_ | refine below_drewN ?_ _ | refine Below.setCell ?_ (by first | (simp; done) | (simp; omega) | omega) _ | refine Below.alloc ?_ (by first | (simp; done) | (simp; omega) | omega) _ | refine after (by assumption) (by first | (simp; done) | (simp; omega) | omega) ?_))
  have n0 : w0.cell? ⟨w.heap.size, 0, none⟩ = some (.int .i64 need.cpu) := by rw [← hw0]; simp [go_sem]
  have n1 : w0.cell? ⟨w.heap.size, 1, none⟩ = some (.int .i64 need.mem) := by rw [← hw0]; simp [go_sem]
  have n2 : w0.cell? ⟨w.heap.size, 2, none⟩ = some (.int .i64 need.gpu) := by rw [← hw0]; simp [go_sem]
  have n3 : w0.cell? ⟨w.heap.size, 3, none⟩ = some (.int .i64 need.lic) := by rw [← hw0]; simp [go_sem]
  have hw0l : w.heap.size < w0.heap.size := World.block_lt_of_cell? _ _ n0
  clear hw0
  have hz0 := hb0.size
  refine (HC.out w0 (HR.out.later hb0)).mono ?_; rintro e w1 ⟨v1, rfl, hO1, hb1⟩
  have k1 := hb0.trans (hb1.mono hb0.size)
  have hz1 := k1.size
  replace n0 := carry hb1 n0
  replace n1 := carry hb1 n1
  replace n2 := carry hb1 n2
  replace n3 := carry hb1 n3
  have hO1' := hO1.more hb0.size
  obtain ⟨a1, c1, rfl, _, hg1⟩ := hO1.shape
  obtain ⟨gg, rfl, hgg, hgg2⟩ := hg1 (by intro e; have := HPOS.out; have := HN.out; rw [e] at this; simp at this; omega)
  have hggl : w.heap.size < gg := by omega
  rw [HN.out] at hO1' ⊢
  have HO1 := Lib.hid hO1'
  have HGG := Lib.hid hgg
  have HGG2 := Lib.hid hgg2
  clear hO1 hO1' hg1 hgg hgg2 HC
  go_wp2
  go_loopw [21] (fun x wr => ∃ k : Nat, k ≤ l.length ∧ x = .int .i64 k ∧ Below w1.heap.size w1 w1 ∧ Below w.heap.size w wr ∧ Hid (∃ F', FrOwn wr w.heap.size (.slice (some ⟨gg, 0, none⟩) n c1) F' ∧ F'.length = n ∧ LenLe (flOf F') (B0 + 2 * k) ∧ lessF need f t (flOf F) l = lessF need f t (flOf F') (l.drop k)) ∧ wr.cell? ⟨w.heap.size, 0, none⟩ = some (.int .i64 need.cpu) ∧ wr.cell? ⟨w.heap.size, 1, none⟩ = some (.int .i64 need.mem) ∧ wr.cell? ⟨w.heap.size, 2, none⟩ = some (.int .i64 need.gpu) ∧ wr.cell? ⟨w.heap.size, 3, none⟩ = some (.int .i64 need.lic)) (fun x _ => l.length - (intOf x).toNat)
  case atStart => exact ⟨0, Nat.zero_le _, rfl, Below.refl _ _, k1, Lib.hid ⟨F, HO1.out, HN.out, by simpa using HB.out, by simp⟩, n0, n1, n2, n3⟩
  case round =>
    obtain ⟨k, hk, rfl, _, hb, HI, m0, m1, m2, m3⟩ := hrel
    have hwl : w.heap.size < wr.heap.size := World.block_lt_of_cell? _ _ m0
    have hz := hb.size
    by_cases hlt : k < l.length
    · obtain ⟨b, off, ea, hbl, q0, q1⟩ := (RowAt.later HSR.out hb).sh hlt
      subst ea
      have hs := riseH_mem HRI.out l[k] (List.getElem_mem hlt)
      have hsm : l[k].many ≤ 9223372036854775807 := by omega
      obtain ⟨kk, hkk⟩ : ∃ kk : Nat, (kk : Int) = l[k].node := ⟨l[k].node.toNat, by omega⟩
      have hkn : kk < n := by omega
      have HD := Lib.hid (drop_at l k hlt)
      have HT := Lib.hid (fun w' => times need l[k].many w' hsm)
      have hkt : l[k].node.toNat = kk := by omega
      have HKT := Lib.hid hkt
      have HH := Lib.hid (fun (G : FL) (r : List Sh) => lessF_head (need := need) (f := f) (t := t) (F := G) (s := l[k]) (r := r) hkt)
      have HH2 := Lib.hid (fun (G : FL) (r : List Sh) (h : ¬ timesE need l[k].many = 0) => (show lessF need f t G (l[k] :: r) = none from if_neg h))
      rw [← hkk] at q0
      clear hs hsm hkk hkt
      generalize l[k] = s at q0 q1 HD HT HH HH2 HKT
      go_wp2_with fail
      generalize hw2 : World.alloc wr _ = w2
      have hb2 : Below wr.heap.size wr w2 := by rw [← hw2]; exact (by repeat' (first | exact Below.refl _ _ | assumption | exact And.left (by assumption) | refine Below.drew ?_ | refine below_drewN ?_ _ | refine Below.setCell ?_ (by first | (simp; done) | (simp; omega) | omega) _ | refine Below.alloc ?_ (by first | (simp; done) | (simp; omega) | omega) _ | refine after (by assumption) (by first | (simp; done) | (simp; omega) | omega) ?_))
      have z0 : w2.cell? ⟨wr.heap.size, 0, none⟩ = some (.int .i64 (kk : Int)) := by rw [← hw2]; simp [go_sem]
      have z9 : w2.cell? ⟨wr.heap.size, 1, none⟩ = some (.int .i64 s.many) := by rw [← hw2]; simp [go_sem]
      clear hw2
      replace m0 := carry hb2 m0
      replace m1 := carry hb2 m1
      replace m2 := carry hb2 m2
      replace m3 := carry hb2 m3
      generalize hsb : wr.heap.size = sb at z0 z9 hb2 ⊢
      have HSB := Lib.hid hsb
      clear hsb
      go_wp2_with fail
      refine (HT.out w2).mono ?_; rintro e w3 ⟨rfl, hb3⟩
      have k3 : Below w.heap.size w w3 := by rw [← HSB.out] at hb2; exact (hb.trans (hb2.mono hz)).trans (hb3.mono (by have := hb2.size; have := hb2.size; omega))
      have hr3 : Below wr.heap.size wr w3 := by rw [← HSB.out] at hb2; exact hb2.trans (hb3.mono hb2.size)
      replace m0 := carry hb3 m0
      replace m1 := carry hb3 m1
      replace m2 := carry hb3 m2
      replace m3 := carry hb3 m3
      replace z0 := carry hb3 z0
      have hz3 := k3.size
      by_cases hT : timesE need s.many = 0
      · replace HH := Lib.hid (fun G r => HH.out G r hT)
        rw [hT]
        clear hT HH2 z9
        generalize timesR need s.many = d at HH ⊢
        go_wp2_with fail
        go_upto_region 8 with fail
        generalize hw4 : World.alloc w3 _ = w4
        have hb4 : Below w3.heap.size w3 w4 := by rw [← hw4]; exact (by repeat' (first | exact Below.refl _ _ | assumption | exact And.left (by assumption) | refine Below.drew ?_ | refine below_drewN ?_ _ | refine Below.setCell ?_ (by first | (simp; done) | (simp; omega) | omega) _ | refine Below.alloc ?_ (by first | (simp; done) | (simp; omega) | omega) _ | refine after (by assumption) (by first | (simp; done) | (simp; omega) | omega) ?_))
        have e0 : w4.cell? ⟨w3.heap.size, 0, none⟩ = some (.int .i64 d.cpu) := by rw [← hw4]; simp [go_sem]
        have e1 : w4.cell? ⟨w3.heap.size, 1, none⟩ = some (.int .i64 d.mem) := by rw [← hw4]; simp [go_sem]
        have e2 : w4.cell? ⟨w3.heap.size, 2, none⟩ = some (.int .i64 d.gpu) := by rw [← hw4]; simp [go_sem]
        have e3 : w4.cell? ⟨w3.heap.size, 3, none⟩ = some (.int .i64 d.lic) := by rw [← hw4]; simp [go_sem]
        clear hw4
        replace m0 := carry hb4 m0
        replace m1 := carry hb4 m1
        replace m2 := carry hb4 m2
        replace m3 := carry hb4 m3
        replace z0 := carry hb4 z0
        have hr4 := hr3.trans (hb4.mono hr3.size)
        have k4 := k3.trans (hb4.mono k3.size)
        have hz4 := k4.size
        obtain ⟨F', hO, hFn, hFB, hFe⟩ := HI.out
        have hO4 := hO.later hr4
        have hkF : kk < F'.length := by omega
        have z1 : w4.cell? ⟨gg, kk, none⟩ = some (.slice F'[kk].a F'[kk].l.length F'[kk].cap) := by
          have h := hO4.own
          rw [hFn] at h
          rw [h.cellAt kk (by omega)]
          simp [hkF, stlV]
        have hzf : w4.frozen? ⟨gg, kk, none⟩ = false := by
          have h := hO4.own
          rw [hFn] at h
          exact h.frozenAt kk
        have HFN := Lib.hid hFn
        have HEX := Lib.hid (hO4.each _ (List.getElem_mem hkF))
        have hpl := hFB F'[kk].l (List.mem_map.2 ⟨_, List.getElem_mem hkF, rfl⟩)
        have HTK := Lib.hid (fun (w' : World) (h : StAt w' F'[kk].a F'[kk].cap F'[kk].l) => sTake2 F'[kk].a F'[kk].cap F'[kk].l (by have := HB2.out; omega) f t d w' h)
        have HPUT := Lib.hid (fun (W : World) (p : Stl) (h : FrOwn W w.heap.size (.slice (some ⟨gg, 0, none⟩) n c1) F') (hp : StlAt W p) => h.put hFn.symm hkF hp)
        have HFR := Lib.hid (fun (W : World) (hw : Below w4.heap.size w4 W) => hO4.later hw)
        have HL2 := Lib.hid (fun (x : List St) (E : Int) (hx : x = turnR false F'[kk].l f t d) (hE : E = turnE false F'[kk].l f t d) => (show lessF need f t (flOf F) l = if E = 0 then lessF need f t ((flOf F').set kk x) (l.drop (k + 1)) else none from by
          rw [hFe, HD.out, HH.out, hx, hE, flOf_at hkF]))
        have HLL := Lib.hid (fun (x : List St) (hx : x = turnR false F'[kk].l f t d) => (show LenLe ((flOf F').set kk x) (B0 + 2 * (k + 1)) from by
          intro y hy
          rcases List.mem_or_eq_of_mem_set hy with hy | rfl
          · have := hFB y hy; omega
          · rw [hx]
            have := turnR_lenP (m := false) (l := F'[kk].l) (f := f) (t := t) (need := d)
            have := hpl
            omega))
        generalize hR : turnR false F'[kk].l f t d = R at HTK HL2 HLL
        generalize hE : turnE false F'[kk].l f t d = E at HTK HL2
        replace HL2 := Lib.hid (HL2.out R E rfl rfl)
        replace HLL := Lib.hid (HLL.out R rfl)
        clear hR hE hpl hO hO4 hFe hFB HI HD HH HT
        generalize F'[kk] = p at z1 HEX HTK
        obtain ⟨pa, pc, pls⟩ := p
        generalize hpl : pls.length = pl at z1
        simp only [hpl] at HTK
        generalize hdb : w3.heap.size = db at e0 e1 e2 e3 hb4 ⊢
        have HDB := Lib.hid hdb
        clear hdb hpl
        have hk0 : (0 : Int) ≤ kk := by omega
        have hk1 : (kk : Int) < n := by omega
        have hkt : ((kk : Int)).toNat = kk := by omega
        refine region_mono_tailj 16 (plSp gg n c1 sb db kk pa pl pc f t d E R) [36, 37, 38, 39, 40, 41, 42, 43, 44, 45, 46, 47, 35, 48, 49, 50] (by kernel_rfl) (by kernel_rfl) (by kernel_rfl) 14 (by kernel_rfl) (by kernel_rfl) (stables_cons (Sp.c_stable _ _) (stables_cons (Sp.c_stable _ _) (stables_cons (Sp.c_stable _ _) (stables_cons (Sp.c_stable _ _) (stables_cons (Sp.c_stable _ _) (stables_cons (Sp.c_stable _ _) (stables_cons (Sp.c_stable _ _) (stables_cons (Sp.c_stable _ _) (stables_cons (Sp.c_stable _ _) (stables_cons (Sp.c_stable _ _) (stables_cons (Sp.c_stable _ _) (stables_cons (Sp.m_stable _ _ _ (fun v w w' h hb => by obtain ⟨a, c, e, h⟩ := h; exact ⟨a, c, e, h.later hb⟩)) (stables_cons (Sp.m_stable _ _ _ (fun v w w' h hb => by obtain ⟨a, c, e, h⟩ := h; exact ⟨a, c, e, h.later hb⟩)) (stables_cons (Sp.m_stable _ _ _ (fun v w w' h hb => by obtain ⟨a, c, e, h⟩ := h; exact ⟨a, c, e, h.later hb⟩)) (stables_cons (Sp.c_stable _ _) (stables_cons (Sp.c_stable _ _) (trivial))))))))))))))))) _ (.int .i64 E) [12] (by decide) rfl rfl (by kernel_rfl) (by kernel_rfl) (fun b w9 h9 => by
          obtain ⟨a9, c9, e9, _⟩ := Sp.of_m (h9 12 _ (by decide) rfl) rfl
          have e8 : b.tmps.getD 35 undef = _ := e9
          refine .inl ⟨wanted_free rfl, fun w => ?_⟩
          go_simp) (fun c a w h => h) ?_ ?_
        · intro am wm L hbm hbase hbase2
          have s3 : am.tmps.getD 3 undef = .int .i64 f := (hbase 3 rfl).trans (by simp only [Array.getD_eq_getD_getElem?, List.getElem?_toArray, List.getElem?_cons_succ, List.getElem?_cons_zero, Option.getD_some])
          have s4 : am.tmps.getD 4 undef = .int .i64 t := (hbase 4 rfl).trans (by simp only [Array.getD_eq_getD_getElem?, List.getElem?_toArray, List.getElem?_cons_succ, List.getElem?_cons_zero, Option.getD_some])
          have s12 : am.tmps.getD 12 undef = .slice (some ⟨gg, 0, none⟩) n c1 := (hbase 12 rfl).trans (by simp only [Array.getD_eq_getD_getElem?, List.getElem?_toArray, List.getElem?_cons_succ, List.getElem?_cons_zero, Option.getD_some])
          have s14 : am.tmps.getD 14 undef = .pointer (some ⟨sb, 0, none⟩) := (hbase 14 rfl).trans (by simp only [Array.getD_eq_getD_getElem?, List.getElem?_toArray, List.getElem?_cons_succ, List.getElem?_cons_zero, Option.getD_some])
          have s15 : am.tmps.getD 15 undef = .pointer (some ⟨db, 0, none⟩) := (hbase 15 rfl).trans (by simp only [Array.getD_eq_getD_getElem?, List.getElem?_toArray, List.getElem?_cons_succ, List.getElem?_cons_zero, Option.getD_some])
          clear hbase hbase2
          have q0 := carry hbm z0
          have p0 := carry hbm z1
          have d0 := carry hbm e0
          have d1 := carry hbm e1
          have d2 := carry hbm e2
          have d3 := carry hbm e3
          refine steps_cons (fun hn hl => ?_) fun H0 => ?_
          · skip
            clear hn hl 
            refine stepC (wanted_free rfl) fun K hK => ?_
            go_simp
            exact hK _ (Below.refl _ _)
          refine steps_cons (fun hn hl => ?_) fun H1 => ?_
          · skip
            clear hn hl H0
            refine stepC (wanted_free rfl) fun K hK => ?_
            go_simp
            exact hK _ (Below.refl _ _)
          refine steps_cons (fun hn hl => ?_) fun H2 => ?_
          · skip
            have h37 := Sp.of_c (H1 (hn 1 (show 1 ∈ [1] from .head _)))
            clear hn hl H0 H1
            refine stepC (wanted_free rfl) fun K hK => ?_
            go_simp
            exact hK _ (Below.refl _ _)
          refine steps_cons (fun hn hl => ?_) fun H3 => ?_
          · skip
            clear hn hl H0 H1 H2
            refine stepC (wanted_free rfl) fun K hK => ?_
            go_simp
            exact hK _ (Below.refl _ _)
          refine steps_cons (fun hn hl => ?_) fun H4 => ?_
          · skip
            clear hn hl H0 H1 H2 H3
            refine stepC (wanted_free rfl) fun K hK => ?_
            go_simp
            exact hK _ (Below.refl _ _)
          refine steps_cons (fun hn hl => ?_) fun H5 => ?_
          · skip
            have h40 := Sp.of_c (H4 (hn 4 (show 4 ∈ [4] from .head _)))
            clear hn hl H0 H1 H2 H3 H4
            refine stepC (wanted_free rfl) fun K hK => ?_
            go_simp
            exact hK _ (Below.refl _ _)
          refine steps_cons (fun hn hl => ?_) fun H6 => ?_
          · skip
            have h39 := Sp.of_c (H3 (hn 3 (show 3 ∈ [3, 5] from .head _)))
            have h41 := Sp.of_c (H5 (hn 5 (show 5 ∈ [3, 5] from .tail _ (.head _))))
            clear hn hl H0 H1 H2 H3 H4 H5
            refine stepC (wanted_free rfl) fun K hK => ?_
            go_simp
            exact hK _ (Below.refl _ _)
          refine steps_cons (fun hn hl => ?_) fun H7 => ?_
          · skip
            have h42 := Sp.of_c (H6 (hn 6 (show 6 ∈ [6] from .head _)))
            clear hn hl H0 H1 H2 H3 H4 H5 H6
            refine stepC (wanted_free rfl) fun K hK => ?_
            go_simp
            exact hK _ (Below.refl _ _)
          refine steps_cons (fun hn hl => ?_) fun H8 => ?_
          · skip
            clear hn hl H0 H1 H2 H3 H4 H5 H6 H7
            refine stepC (wanted_free rfl) fun K hK => ?_
            go_simp
            exact hK _ (Below.refl _ _)
          refine steps_cons (fun hn hl => ?_) fun H9 => ?_
          · skip
            clear hn hl H0 H1 H2 H3 H4 H5 H6 H7 H8
            refine stepC (wanted_free rfl) fun K hK => ?_
            go_simp
            exact hK _ (Below.refl _ _)
          refine steps_cons (fun hn hl => ?_) fun H10 => ?_
          · skip
            clear hn hl H0 H1 H2 H3 H4 H5 H6 H7 H8 H9
            refine stepC (wanted_free rfl) fun K hK => ?_
            go_simp
            exact hK _ (Below.refl _ _)
          refine steps_cons (fun hn hl => ?_) fun H11 => ?_
          · skip
            have h43 := Sp.of_c (H7 (hn 7 (show 7 ∈ [7, 8, 9, 10] from .head _)))
            have h44 := Sp.of_c (H8 (hn 8 (show 8 ∈ [7, 8, 9, 10] from .tail _ (.head _))))
            have h45 := Sp.of_c (H9 (hn 9 (show 9 ∈ [7, 8, 9, 10] from .tail _ (.tail _ (.head _)))))
            have h46 := Sp.of_c (H10 (hn 10 (show 10 ∈ [7, 8, 9, 10] from .tail _ (.tail _ (.tail _ (.head _))))))
            clear hn hl H0 H1 H2 H3 H4 H5 H6 H7 H8 H9 H10
            refine stepR (wanted_free rfl) fun K hK => ?_
            go_simp
            (with_reducible refine (HTK.out _ (HEX.out.later hbm).1).mono ?_); rintro e w6 ⟨a6, c6, rfl, ho6, hb6⟩; exact hK _ _ hb6 ⟨_, _, rfl, ho6⟩
          refine steps_cons (fun hn hl => ?_) fun H12 => ?_
          · skip
            obtain ⟨b, y0, h47, y1⟩ := Sp.of_m (H11 (hn 11 (show 11 ∈ [11] from .head _))) rfl
            clear hn hl H0 H1 H2 H3 H4 H5 H6 H7 H8 H9 H10 H11
            refine stepR (wanted_free rfl) fun K hK => ?_
            go_simp
            exact hK _ _ (Below.refl _ _) ⟨_, _, rfl, y1⟩
          refine steps_cons (fun hn hl => ?_) fun H13 => ?_
          · skip
            obtain ⟨b, y0, h35, y1⟩ := Sp.of_m (H12 (hn 12 (show 12 ∈ [12] from .head _))) rfl
            clear hn hl H0 H1 H2 H3 H4 H5 H6 H7 H8 H9 H10 H11 H12
            refine stepR (wanted_free rfl) fun K hK => ?_
            go_simp
            exact hK _ _ (Below.refl _ _) ⟨_, _, rfl, y1⟩
          refine steps_cons (fun hn hl => ?_) fun H14 => ?_
          · skip
            obtain ⟨b, y0, h35, y1⟩ := Sp.of_m (H12 (hn 12 (show 12 ∈ [12] from .head _))) rfl
            clear hn hl H0 H1 H2 H3 H4 H5 H6 H7 H8 H9 H10 H11 H12 H13
            refine stepC (wanted_free rfl) fun K hK => ?_
            go_simp
            exact hK _ (Below.refl _ _)
          refine steps_cons (fun hn hl => ?_) fun H15 => ?_
          · skip
            have h36 := Sp.of_c (H0 (hn 0 (show 0 ∈ [0, 2] from .head _)))
            have h38 := Sp.of_c (H2 (hn 2 (show 2 ∈ [0, 2] from .tail _ (.head _))))
            clear hn hl H0 H1 H2 H3 H4 H5 H6 H7 H8 H9 H10 H11 H12 H13 H14
            refine stepC (wanted_free rfl) fun K hK => ?_
            go_simp
            exact hK _ (Below.refl _ _)
          exact trivial
        · intro w5 hb5
          have hz5 := hb5.size
          refine end_cons ?_; rintro _ rfl
          refine end_cons ?_; rintro _ rfl
          refine end_cons ?_; rintro _ rfl
          refine end_cons ?_; rintro _ rfl
          refine end_cons ?_; rintro _ rfl
          refine end_cons ?_; rintro _ rfl
          refine end_cons ?_; rintro _ rfl
          refine end_cons ?_; rintro _ rfl
          refine end_cons ?_; rintro _ rfl
          refine end_cons ?_; rintro _ rfl
          refine end_cons ?_; rintro _ rfl
          refine end_cons ?_; rintro _ ⟨b47, y47_0, rfl, y47_1⟩
          refine end_cons ?_; rintro _ ⟨b35, y35_0, rfl, y35_1⟩
          refine end_cons ?_; rintro _ ⟨b48, y48_0, rfl, y48_1⟩
          refine end_cons ?_; rintro _ rfl
          refine end_cons ?_; rintro _ rfl
          refine end_nil ?_
          simp only [List.setIfInBounds_toArray, List.set_cons_succ, List.set_cons_zero, Bool.not_false, Bool.not_true, Bool.true_or, Bool.or_true, Bool.false_or, Bool.or_false]
          simp only [List.drop_succ_cons, List.drop_zero]
          have hzo := z1
          replace z1 := carry hb5 z1
          have hzf5 : w5.frozen? ⟨gg, kk, none⟩ = false := (World.frozen?_of_block (w := w4) (hb5.block gg (World.block_lt_of_cell? _ _ hzo))).trans hzf
          go_upto_region 9 with fail
          have hput := HPUT.out w5 ⟨b48, y48_0, R⟩ (HFR.out w5 hb5) y48_1
          generalize hw6 : World.setCell w5 _ _ = w6
          have k6 : Below w.heap.size w w6 := by rw [← hw6]; exact (k4.trans (hb5.mono k4.size)).setCell (p := ⟨gg, kk, none⟩) (by show w.heap.size ≤ gg; omega) _
          have m0' : w6.cell? ⟨w.heap.size, 0, none⟩ = some (.int .i64 need.cpu) := by rw [← hw6, cell_set_ne _ (by omega)]; exact carry hb5 m0
          have m1' : w6.cell? ⟨w.heap.size, 1, none⟩ = some (.int .i64 need.mem) := by rw [← hw6, cell_set_ne _ (by omega)]; exact carry hb5 m1
          have m2' : w6.cell? ⟨w.heap.size, 2, none⟩ = some (.int .i64 need.gpu) := by rw [← hw6, cell_set_ne _ (by omega)]; exact carry hb5 m2
          have m3' : w6.cell? ⟨w.heap.size, 3, none⟩ = some (.int .i64 need.lic) := by rw [← hw6, cell_set_ne _ (by omega)]; exact carry hb5 m3
          have HO6 : Hid (FrOwn w6 w.heap.size (.slice (some ⟨gg, 0, none⟩) n c1) (F'.set kk ⟨b48, y48_0, R⟩)) := Lib.hid (by rw [← hw6]; exact hput)
          clear hw6 hput HPUT HFR m0 m1 m2 m3
          by_cases hE : E = 0
          · subst hE
            go_wp2
            go_roundw
            case rel => exact ⟨k + 1, by omega, by go_num, Below.refl _ _, k6, Lib.hid ⟨_, HO6.out, by rw [List.length_set, HFN.out], by rw [flOf_set]; exact HLL.out, by rw [flOf_set, HL2.out, if_pos rfl]⟩, m0', m1', m2', m3'⟩
            case measure => simp [intOf]; omega
          · have hne : (E == 0) = false := by simpa using hE
            go_wp2
            go_ret2
            exact ⟨_, E, rfl, k6, .inr ⟨hE, rfl, HL2.out.trans (if_neg hE)⟩⟩
      · obtain ⟨F', hO, hFn, hFB, hFe⟩ := HI.out
        have HX : Hid (lessF need f t (flOf F) l = none) := Lib.hid (by rw [hFe, HD.out]; exact HH2.out _ _ hT)
        clear hO hFn hFB hFe HI HH HH2 HD HT
        generalize timesR need s.many = d
        generalize timesE need s.many = E at hT ⊢
        have hne : (E == 0) = false := by simpa using hT
        go_wp2
        go_ret2
        exact ⟨_, E, rfl, (by repeat' (first | exact Below.refl _ _ | assumption | exact And.left (by assumption) | refine Below.drew ?_ | refine below_drewN ?_ _ | refine Below.setCell ?_ (by first | (simp; done) | (simp; omega) | omega) _ | refine Below.alloc ?_ (by first | (simp; done) | (simp; omega) | omega) _ | refine after (by assumption) (by first | (simp; done) | (simp; omega) | omega) ?_)), .inr ⟨hT, rfl, HX.out⟩⟩
    · obtain ⟨F', hO, hFn, hFB, hFe⟩ := HI.out
      have hkl : k = l.length := by omega
      have HX : Hid (∃ F', FrOwn wr w.heap.size (.slice (some ⟨gg, 0, none⟩) n c1) F' ∧ lessF need f t (flOf F) l = some (flOf F')) := Lib.hid ⟨F', hO, by rw [hFe, hkl, List.drop_length]; rfl⟩
      clear hO hFn hFB hFe HI
      go_wp2
      go_ret2
      exact ⟨_, 0, rfl, hb, .inl ⟨rfl, HX.out⟩⟩
end Go.Proofs.Ytcdajfiohhbdgaa.W
