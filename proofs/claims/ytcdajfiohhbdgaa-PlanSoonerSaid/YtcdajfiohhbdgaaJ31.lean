/-
  Several texts in one: StNew, SpecSmall, SpecNodes, SpecQueues.
-/
import Derived.Test.YtcdajfiohhbdgaaStRight
import Derived.Test.YtcdajfiohhbdgaaSpecMem
import Derived.Deep.QuietTactic
import Derived.BigQuiet
import Derived.IntWalk

/-
  Contract of steps.New.
-/
namespace Go.Proofs.Ytcdajfiohhbdgaa.W
set_option maxRecDepth 100000
set_option linter.unusedVariables false
set_option linter.unusedSimpArgs false
open Go.ChangeShapes Go.WideShapes Go.ChangeAt Go.RowKit

def newR (t : Int) (v : V) : List St := if (0 ≤ t ∧ t ≤ 281474976710656) ∧ v.Ok then [⟨t, v⟩] else []
def newE (t : Int) (v : V) : Int := if (0 ≤ t ∧ t ≤ 281474976710656) ∧ v.Ok then 0 else 2
theorem one_ok (t : Int) (v : V) : OkS [⟨t, v⟩] ↔ (0 ≤ t ∧ t ≤ 281474976710656) ∧ v.Ok := by
  unfold OkS Rise Rise
  simp only [ne_eq, reduceCtorEq, not_false_eq_true, List.cons_ne_self, true_and, and_true]
  constructor
  · rintro ⟨h0, h1, h2⟩; exact ⟨⟨by omega, h1⟩, h2⟩
  · rintro ⟨⟨h0, h1⟩, h2⟩; exact ⟨by omega, h1, h2⟩
set_option maxHeartbeats 1000000 in
theorem sNew (t : Int) (v : V) (w : World) :
    Calls Try.prog 37 #[.int .i64 t, (.agg #[.int .i64 v.cpu, .int .i64 v.mem, .int .i64 v.gpu, .int .i64 v.lic])] w fun e w' => ∃ x, e = .returned (.tuple #[x, .int .i64 (newE t v)]) ∧ w'.ownsRow w.heap.size 101 5 x (newR t v).length (stsV (newR t v)) ∧ Below w.heap.size w w' := by
  have HP := Lib.hid (fun (b : Nat) (w' : World) (h : StAt w' (some ⟨b, 0, none⟩) 1 [⟨t, v⟩]) => sRight (some ⟨b, 0, none⟩) 1 [⟨t, v⟩] (by simp) w' h)
  have HX := Lib.hid (fun (w' : World) => (show StAt (w'.alloc (.cells #[.int .i64 t, .int .i64 v.cpu, .int .i64 v.mem, .int .i64 v.gpu, .int .i64 v.lic] 101)) (some ⟨w'.heap.size, 0, none⟩) 1 [⟨t, v⟩] from ⟨row_new _ _ _, Nat.le_refl _, fun h => (by cases h)⟩))
  have HO := Lib.hid (fun (w' : World) (h : w.heap.size ≤ w'.heap.size) => World.ownsRow_lit (base := w.heap.size) (e := 101) (size := 5) w' #[.int .i64 t, .int .i64 v.cpu, .int .i64 v.mem, .int .i64 v.gpu, .int .i64 v.lic] 1 h (by decide) rfl)
  by_cases h : (0 ≤ t ∧ t ≤ 281474976710656) ∧ v.Ok
  · have HR : Hid (newR t v = [⟨t, v⟩] ∧ newE t v = 0) := Lib.hid ⟨if_pos h, if_pos h⟩
    rw [show rightS [⟨t, v⟩] = true from decide_eq_true ((one_ok t v).2 h)] at HP
    clear h
    go_enter Try.func37, Try.ntmps37
    go_wp2_with fail
    have K := HX.out (w.alloc (.cells #[.int .i64 v.cpu, .int .i64 v.mem, .int .i64 v.gpu, .int .i64 v.lic] 34))
    have ho2 := HO.out (w.alloc (.cells #[.int .i64 v.cpu, .int .i64 v.mem, .int .i64 v.gpu, .int .i64 v.lic] 34)) (by simp)
    simp only [World.size_alloc] at K ho2
    have HO2 := Lib.hid ho2
    clear ho2
    refine (HP.out _ _ K).mono ?_; rintro e w1 ⟨rfl, hb1⟩
    go_wp2
    go_ret2
    exact ⟨_, by rw [HR.out.2]; rfl, by rw [HR.out.1]; exact own_later HO2.out hb1, (by repeat' (first | exact Below.refl _ _ | assumption | exact And.left (by assumption) | refine Below.drew ?_ | refine below_drewN ?_ _ | refine Below.setCell ?_ (by first | (simp; done) | (simp; omega) | omega) _ | refine Below.alloc ?_ (by first | (simp; done) | (simp; omega) | omega) _ | refine after (by assumption) (by first | (simp; done) | (simp; omega) | omega) ?_))⟩
  · have HR : Hid (newR t v = [] ∧ newE t v = 2) := Lib.hid ⟨if_neg h, if_neg h⟩
    rw [show rightS [⟨t, v⟩] = false from decide_eq_false (fun x => h ((one_ok t v).1 x))] at HP
    clear h
    go_enter Try.func37, Try.ntmps37
    go_wp2_with fail
    have K := HX.out (w.alloc (.cells #[.int .i64 v.cpu, .int .i64 v.mem, .int .i64 v.gpu, .int .i64 v.lic] 34))
    simp only [World.size_alloc] at K
    refine (HP.out _ _ K).mono ?_; rintro e w1 ⟨rfl, hb1⟩
    go_wp2
    go_ret2
    exact ⟨_, by rw [HR.out.2]; rfl, by rw [HR.out.1]; exact World.ownsRow_nil _ _ _ _, (by repeat' (first | exact Below.refl _ _ | assumption | exact And.left (by assumption) | refine Below.drew ?_ | refine below_drewN ?_ _ | refine Below.setCell ?_ (by first | (simp; done) | (simp; omega) | omega) _ | refine Below.alloc ?_ (by first | (simp; done) | (simp; omega) | omega) _ | refine after (by assumption) (by first | (simp; done) | (simp; omega) | omega) ?_))⟩
end Go.Proofs.Ytcdajfiohhbdgaa.W


/-
  Contracts of the small functions of layer 7 (spec) and of the document's own: within, rises, has, in, Rising.
-/
namespace Go.Proofs.Ytcdajfiohhbdgaa.W
set_option linter.unusedVariables false
set_option linter.unusedSimpArgs false
open Go.ChangeShapes Go.WideShapes Go.ChangeAt Go.RowKit

def Within (l : List Int) (lo hi : Int) : Prop := ∀ i, i < l.length → lo ≤ l.getD i 0 ∧ l.getD i 0 ≤ hi
instance (l : List Int) (lo hi : Int) : Decidable (Within l lo hi) := by unfold Within; infer_instance
def withinB (l : List Int) (lo hi : Int) : Bool := decide (Within l lo hi)

theorem within (lo hi : Int) (a : Option Addr) (cap : Nat) (l : List Int) (w : World) (hp : SlAt w ⟨a, cap, l⟩) (hl : l.length ≤ 100000) :
    Calls Try.prog 60 #[.int .i64 lo, .int .i64 hi, .slice a l.length cap] w fun e w' => e = .returned (.bool (withinB l lo hi)) ∧ w = w' := by
  have HP := Lib.hid hp
  have HT := Lib.hid (show (∀ i, i < l.length → lo ≤ l.getD i 0 ∧ l.getD i 0 ≤ hi) → withinB l lo hi = true from fun h => decide_eq_true h)
  have HF := Lib.hid (show ∀ i, i < l.length → ¬ (lo ≤ l.getD i 0 ∧ l.getD i 0 ≤ hi) → withinB l lo hi = false from fun i hi' h => decide_eq_false fun x => h (x i hi'))
  clear hp
  go_enter Try.func60, Try.ntmps60
  go_wp2
  go_loop [11] (fun x => ∃ k : Nat, k ≤ l.length ∧ x = .int .i64 k ∧ ∀ i, i < k → lo ≤ l.getD i 0 ∧ l.getD i 0 ≤ hi) (fun x => l.length - (intOf x).toNat)
  case atStart => exact ⟨0, Nat.zero_le _, rfl, fun i h => by omega⟩
  case round =>
    obtain ⟨k, hk, rfl, hall⟩ := hrel
    have HA := Lib.hid hall
    clear hall
    by_cases hlt : k < l.length
    · obtain ⟨b, off, x, ex, rfl, hb, hc⟩ := HP.out.at_ hlt
      have HX := Lib.hid ex
      clear ex
      have HC := Lib.hid hc
      clear hc
      by_cases h0 : lo ≤ x
      · by_cases h1 : x ≤ hi
        · have hc := HC.out
          go_wp2
          go_round
          case rel => exact ⟨k + 1, by omega, by go_num, fun i hi' => by
            rcases Nat.lt_or_ge i k with h | h
            · exact HA.out i h
            · obtain rfl : i = k := by omega
              exact HX.out ▸ ⟨h0, h1⟩⟩
          case measure => simp [intOf]; omega
        · have E := Lib.hid (HF.out k hlt (fun z => h1 (HX.out ▸ z.2)))
          have hc := HC.out
          go_wp2
          go_ret
          exact ⟨by rw [E.out]; rfl, rfl⟩
      · have E := Lib.hid (HF.out k hlt (fun z => h0 (HX.out ▸ z.1)))
        have hc := HC.out
        go_wp2
        go_ret
        exact ⟨by rw [E.out]; rfl, rfl⟩
    · have E := Lib.hid (HT.out fun i hi' => HA.out i (by omega))
      go_wp2
      go_ret
      exact ⟨by rw [E.out]; rfl, rfl⟩

theorem rises (a : Option Addr) (cap : Nat) (l : List Int) (n : Int) (w : World) (hp : SlAt w ⟨a, cap, l⟩) (hl : l.length ≤ 100000) :
    Calls Try.prog 87 #[.slice a l.length cap, .int .i64 n] w fun e w' => e = .returned (.bool (riseB l n)) ∧ w = w' := by
  have HP := Lib.hid hp
  have HT := Lib.hid (show (∀ i, i < l.length → prevI l i < l.getD i 0 ∧ l.getD i 0 < n) → riseB l n = true from fun h => decide_eq_true h)
  have HF := Lib.hid (show ∀ i, i < l.length → ¬ (prevI l i < l.getD i 0 ∧ l.getD i 0 < n) → riseB l n = false from fun i hi' h => decide_eq_false fun x => h (x i hi'))
  clear hp
  go_enter Try.func87, Try.ntmps87
  go_wp2
  go_loop [5, 10] (fun y x => ∃ k : Nat, k ≤ l.length ∧ x = .int .i64 k ∧ y = .int .i64 (prevI l k) ∧ ∀ i, i < k → prevI l i < l.getD i 0 ∧ l.getD i 0 < n) (fun _ x => l.length - (intOf x).toNat)
  case atStart => exact ⟨0, Nat.zero_le _, rfl, rfl, fun i h => by omega⟩
  case round =>
    obtain ⟨k, hk, rfl, rfl, hall⟩ := hrel
    obtain ⟨y, ey⟩ : ∃ y, y = prevI l k := ⟨_, rfl⟩
    rw [← ey]
    have HY := Lib.hid ey
    clear ey
    have HA := Lib.hid hall
    clear hall
    by_cases hlt : k < l.length
    · obtain ⟨b, off, x, ex, rfl, hb, hc⟩ := HP.out.at_ hlt
      have HX := Lib.hid ex
      clear ex
      have HC := Lib.hid hc
      clear hc
      by_cases h0 : y < x
      · by_cases h1 : x < n
        · have hc := HC.out
          go_wp2
          go_round
          case rel => exact ⟨k + 1, by omega, by go_num, by rw [HX.out]; rfl, fun i hi' => by
            rcases Nat.lt_or_ge i k with h | h
            · exact HA.out i h
            · obtain rfl : i = k := by omega
              exact HX.out ▸ HY.out ▸ ⟨h0, h1⟩⟩
          case measure => simp [intOf]; omega
        · have E := Lib.hid (HF.out k hlt (fun z => h1 (HX.out ▸ z.2)))
          have hc := HC.out
          go_wp2
          go_ret
          exact ⟨by rw [E.out]; rfl, rfl⟩
      · have E := Lib.hid (HF.out k hlt (fun z => h0 (HX.out ▸ HY.out ▸ z.1)))
        have hc := HC.out
        go_wp2
        go_ret
        exact ⟨by rw [E.out]; rfl, rfl⟩
    · have E := Lib.hid (HT.out fun i hi' => HA.out i (by omega))
      go_wp2
      go_ret
      exact ⟨by rw [E.out]; rfl, rfl⟩

def hasB (len : Nat) (n : Int) : Bool := decide (0 ≤ n ∧ n < len)
theorem hasParts (a : Option Addr) (len cap : Nat) (n : Int) (w : World) :
    Calls Try.prog 88 #[.slice a len cap, .int .i64 n] w fun e w' => e = .returned (.bool (hasB len n)) ∧ w = w' := by
  by_cases h0 : 0 ≤ n
  · by_cases h1 : n < len
    · rw [show hasB len n = true from decide_eq_true ⟨h0, h1⟩]
      go_enter Try.func88, Try.ntmps88
      go_wp2
      go_ret
      exact ⟨rfl, rfl⟩
    · rw [show hasB len n = false from decide_eq_false fun x => h1 x.2]
      go_enter Try.func88, Try.ntmps88
      go_wp2
      go_ret
      exact ⟨rfl, rfl⟩
  · rw [show hasB len n = false from decide_eq_false fun x => h0 x.1]
    go_enter Try.func88, Try.ntmps88
    go_wp2
    go_ret
    exact ⟨rfl, rfl⟩
end Go.Proofs.Ytcdajfiohhbdgaa.W


/-
  Contracts of what layer 7 (spec) looks at in a set-up: nodes, parts.
-/
namespace Go.Proofs.Ytcdajfiohhbdgaa.W
set_option linter.unusedVariables false
set_option linter.unusedSimpArgs false
open Go.ChangeShapes Go.WideShapes Go.ChangeAt Go.RowKit

theorem slAt_lit {w : World} {b : Nat} {xs : List Int} (h : ∀ i (h : i < xs.length), w.cell? ⟨b, i, none⟩ = some (.int .i64 xs[i])) (hp : 0 < xs.length) : SlAt w ⟨some ⟨b, 0, none⟩, xs.length, xs⟩ :=
  .inr ⟨b, 0, rfl, World.block_lt_of_cell? _ _ (h 0 hp), fun i u hu => by
    rw [Nat.zero_add]
    have hi : i < xs.length := by
      rcases Nat.lt_or_ge i xs.length with h' | h'
      · exact h'
      · rw [List.getElem?_eq_none (by rw [vals_len]; exact h')] at hu; cases hu
    rw [vals_at _ _ hi] at hu
    rw [← Option.some.inj hu]
    exact h i hi⟩
theorem within_one (x lo hi : Int) : withinB [x] lo hi = inB x lo hi := by
  unfold withinB inB
  congr 1
  rw [eq_iff_iff]
  constructor
  · intro h; exact h 0 (by simp)
  · intro h i hi'; have : i = 0 := by simpa using hi'
    subst this; exact h
theorem within1 (lo hi x : Int) (b : Nat) (w : World) (h : w.cell? ⟨b, 0, none⟩ = some (.int .i64 x)) :
    Calls Try.prog 60 #[.int .i64 lo, .int .i64 hi, .slice (some ⟨b, 0, none⟩) 1 1] w fun e w' => e = .returned (.bool (inB x lo hi)) ∧ w = w' := by
  rw [← within_one]
  refine within lo hi (some ⟨b, 0, none⟩) 1 [x] w (slAt_lit (xs := [x]) (fun i hi' => ?_) (by simp)) (by simp)
  have : i = 0 := by simpa using hi'
  subst this
  exact h

theorem in_yes {n lo hi : Int} (h : lo ≤ n ∧ n ≤ hi) : inB n lo hi = true := decide_eq_true h
theorem in_no {n lo hi : Int} (h : ¬ (lo ≤ n ∧ n ≤ hi)) : inB n lo hi = false := decide_eq_false h

set_option maxHeartbeats 1000000 in
theorem nodesSo (s : S) (g : Nat) (na : Option Addr) (hna : s.na = na) (w : World) (HB : Box w g s) (HR : Rows w s) :
    Calls Try.prog 57 #[.pointer (some ⟨g, 0, none⟩)] w fun e w' => e = .returned (.bool (nodesB s)) ∧ Below w.heap.size w w' := by
  have c0 : w.cell? ⟨g, 0, none⟩ = some (.slice na s.nodes.length s.nc) := by rw [← hna]; exact HB.c0
  have hg := HB.lt
  have HN := Lib.hid hna
  have HR := Lib.hid HR
  clear hna HB
  by_cases h : 1 ≤ s.nodes.length ∧ s.nodes.length ≤ 16
  · have H := Lib.hid (fun b w (h : World.cell? w ⟨b, 0, none⟩ = some (.int .i64 (s.nodes.length : Int))) => within1 1 16 (s.nodes.length : Int) b w h)
    rw [in_yes (n := (s.nodes.length : Int)) (by omega)] at H
    have HT := Lib.hid (show (∀ i (hi : i < s.nodes.length), s.nodes[i].Ok) → nodesB s = true from fun hh => decide_eq_true ⟨h, fun v hv => by obtain ⟨i, hi, rfl⟩ := List.getElem_of_mem hv; exact hh i hi⟩)
    have HF := Lib.hid (show ∀ i (hi : i < s.nodes.length), ¬ s.nodes[i].Ok → nodesB s = false from fun i hi hh => decide_eq_false fun x => hh (x.2 _ (List.getElem_mem hi)))
    obtain ⟨hl0, hl1⟩ := h
    go_enter Try.func57, Try.ntmps57
    go_wp2_with fail
    refine (H.out _ _ (by simp [go_sem])).mono ?_; rintro e w1 ⟨rfl, rfl⟩
    go_wp2
    go_loopw [18] (fun x wr => ∃ k : Nat, k ≤ s.nodes.length ∧ x = .int .i64 k ∧ Below w.heap.size w wr ∧ Hid (∀ i (hi : i < s.nodes.length), i < k → s.nodes[i].Ok)) (fun x _ => s.nodes.length - (intOf x).toNat)
    case atStart => exact ⟨0, Nat.zero_le _, rfl, (by repeat' (first | exact Below.refl _ _ | assumption | exact And.left (by assumption) | refine Below.drew ?_ | refine below_drewN ?_ _ | refine Below.setCell ?_ (by first | (simp; done) | (simp; omega) | omega) _ | refine Below.alloc ?_ (by first | (simp; done) | (simp; omega) | omega) _ | refine after (by assumption) (by first | (simp; done) | (simp; omega) | omega) ?_)), Lib.hid fun i hi h => by omega⟩
    case round =>
      obtain ⟨k, hk, rfl, hb, HA⟩ := hrel
      have hz := hb.size
      by_cases hlt : k < s.nodes.length
      · obtain ⟨b, off, ea, hbl, q0, q1, q2, q3⟩ := (HR.out.later hb).node hlt
        rw [HN.out] at ea
        subst ea
        by_cases ho : s.nodes[k].Ok
        · have HK := Lib.hid (fun w => right s.nodes[k] w)
          rw [right_yes ho] at HK
          have HO := Lib.hid ho
          clear ho
          go_wp2_with fail
          refine (HK.out _).mono ?_; rintro e w2 ⟨rfl, hb2⟩
          have hz2 := hb2.size; try simp at hz2
          go_wp2
          go_roundw
          case rel => exact ⟨k + 1, by omega, by go_num, (by repeat' (first | exact Below.refl _ _ | assumption | exact And.left (by assumption) | refine Below.drew ?_ | refine below_drewN ?_ _ | refine Below.setCell ?_ (by first | (simp; done) | (simp; omega) | omega) _ | refine Below.alloc ?_ (by first | (simp; done) | (simp; omega) | omega) _ | refine after (by assumption) (by first | (simp; done) | (simp; omega) | omega) ?_)), Lib.hid fun i hi h => by
            rcases Nat.lt_or_ge i k with h' | h'
            · exact HA.out i hi h'
            · obtain rfl : i = k := by omega
              exact HO.out⟩
          case measure => simp [intOf]; omega
        · have HK := Lib.hid (fun w => right s.nodes[k] w)
          rw [right_no ho] at HK
          have E := Lib.hid (HF.out k hlt ho)
          clear ho
          go_wp2_with fail
          refine (HK.out _).mono ?_; rintro e w2 ⟨rfl, hb2⟩
          have hz2 := hb2.size; try simp at hz2
          go_wp2
          go_ret
          exact ⟨by rw [E.out]; rfl, (by repeat' (first | exact Below.refl _ _ | assumption | exact And.left (by assumption) | refine Below.drew ?_ | refine below_drewN ?_ _ | refine Below.setCell ?_ (by first | (simp; done) | (simp; omega) | omega) _ | refine Below.alloc ?_ (by first | (simp; done) | (simp; omega) | omega) _ | refine after (by assumption) (by first | (simp; done) | (simp; omega) | omega) ?_))⟩
      · have E := Lib.hid (HT.out fun i hi => HA.out i hi (by omega))
        go_wp2
        go_ret
        exact ⟨by rw [E.out]; rfl, (by repeat' (first | exact Below.refl _ _ | assumption | exact And.left (by assumption) | refine Below.drew ?_ | refine below_drewN ?_ _ | refine Below.setCell ?_ (by first | (simp; done) | (simp; omega) | omega) _ | refine Below.alloc ?_ (by first | (simp; done) | (simp; omega) | omega) _ | refine after (by assumption) (by first | (simp; done) | (simp; omega) | omega) ?_))⟩
  · have H := Lib.hid (fun b w (h : World.cell? w ⟨b, 0, none⟩ = some (.int .i64 (s.nodes.length : Int))) => within1 1 16 (s.nodes.length : Int) b w h)
    rw [in_no (n := (s.nodes.length : Int)) (by omega)] at H
    rw [show nodesB s = false from decide_eq_false fun x => h x.1]
    clear h
    go_enter Try.func57, Try.ntmps57
    go_wp2_with fail
    refine (H.out _ _ (by simp [go_sem])).mono ?_; rintro e w1 ⟨rfl, rfl⟩
    go_wp2
    go_ret
    exact ⟨rfl, (by repeat' (first | exact Below.refl _ _ | assumption | exact And.left (by assumption) | refine Below.drew ?_ | refine below_drewN ?_ _ | refine Below.setCell ?_ (by first | (simp; done) | (simp; omega) | omega) _ | refine Below.alloc ?_ (by first | (simp; done) | (simp; omega) | omega) _ | refine after (by assumption) (by first | (simp; done) | (simp; omega) | omega) ?_))⟩

set_option maxHeartbeats 1000000 in
theorem partsSo (s : S) (g : Nat) (pa : Option Addr) (hpa : s.pa = pa) (w : World) (HB : Box w g s) (HR : Rows w s) (hfew : ∀ p ∈ s.parts, p.l.length ≤ 100000) :
    Calls Try.prog 58 #[.pointer (some ⟨g, 0, none⟩)] w fun e w' => e = .returned (.bool (partsB s)) ∧ Below w.heap.size w w' := by
  have c1 : w.cell? ⟨g, 1, none⟩ = some (.slice pa s.parts.length s.pc) := by rw [← hpa]; exact HB.c1
  have c0 := HB.c0
  have hg := HB.lt
  have HN := Lib.hid hpa
  have HR := Lib.hid HR
  have HW := Lib.hid hfew
  clear hpa HB hfew
  by_cases h : 1 ≤ s.parts.length ∧ s.parts.length ≤ 8
  · have H := Lib.hid (fun b w (h : World.cell? w ⟨b, 0, none⟩ = some (.int .i64 (s.parts.length : Int))) => within1 1 8 (s.parts.length : Int) b w h)
    rw [in_yes (n := (s.parts.length : Int)) (by omega)] at H
    have HT := Lib.hid (show (∀ i (hi : i < s.parts.length), s.parts[i].l ≠ [] ∧ RiseSp s.parts[i].l s.nodes.length) → partsB s = true from fun hh => decide_eq_true ⟨h, fun v hv => by obtain ⟨i, hi, rfl⟩ := List.getElem_of_mem hv; exact hh i hi⟩)
    have HF := Lib.hid (show ∀ i (hi : i < s.parts.length), ¬ (s.parts[i].l ≠ [] ∧ RiseSp s.parts[i].l s.nodes.length) → partsB s = false from fun i hi hh => decide_eq_false fun x => hh (x.2 _ (List.getElem_mem hi)))
    obtain ⟨hl0, hl1⟩ := h
    go_enter Try.func58, Try.ntmps58
    go_wp2_with fail
    refine (H.out _ _ (by simp [go_sem])).mono ?_; rintro e w1 ⟨rfl, rfl⟩
    go_wp2
    go_loopw [18] (fun x wr => ∃ k : Nat, k ≤ s.parts.length ∧ x = .int .i64 k ∧ Below w.heap.size w wr ∧ Hid (∀ i (hi : i < s.parts.length), i < k → s.parts[i].l ≠ [] ∧ RiseSp s.parts[i].l s.nodes.length)) (fun x _ => s.parts.length - (intOf x).toNat)
    case atStart => exact ⟨0, Nat.zero_le _, rfl, (by repeat' (first | exact Below.refl _ _ | assumption | exact And.left (by assumption) | refine Below.drew ?_ | refine below_drewN ?_ _ | refine Below.setCell ?_ (by first | (simp; done) | (simp; omega) | omega) _ | refine Below.alloc ?_ (by first | (simp; done) | (simp; omega) | omega) _ | refine after (by assumption) (by first | (simp; done) | (simp; omega) | omega) ?_)), Lib.hid fun i hi h => by omega⟩
    case round =>
      obtain ⟨k, hk, rfl, hb, HA⟩ := hrel
      have hz := hb.size
      have d0 := carry hb c0
      by_cases hlt : k < s.parts.length
      · obtain ⟨b, off, ea, hbl, q0⟩ := (HR.out.later hb).part_ hlt
        rw [HN.out] at ea
        subst ea
        have HP := Lib.hid (fun w' (h : SlAt w' s.parts[k]) => rises s.parts[k].a s.parts[k].cap s.parts[k].l (s.nodes.length : Int) w' h (HW.out _ (List.getElem_mem hlt)))
        have HS := Lib.hid ((HR.out.part _ (List.getElem_mem hlt)).later hb)
        by_cases hne : s.parts[k].l = []
        · have E := Lib.hid (HF.out k hlt (fun z => z.1 hne))
          have hl0 : s.parts[k].l.length = 0 := by rw [hne]; rfl
          have hz0 : ((s.parts[k].l.length : Int) == 0) = true := by rw [hl0]; rfl
          clear hne hl0
          go_wp2
          go_ret
          exact ⟨by rw [E.out]; rfl, (by repeat' (first | exact Below.refl _ _ | assumption | exact And.left (by assumption) | refine Below.drew ?_ | refine below_drewN ?_ _ | refine Below.setCell ?_ (by first | (simp; done) | (simp; omega) | omega) _ | refine Below.alloc ?_ (by first | (simp; done) | (simp; omega) | omega) _ | refine after (by assumption) (by first | (simp; done) | (simp; omega) | omega) ?_))⟩
        · have hz0 : ((s.parts[k].l.length : Int) == 0) = false := by
            have : 0 < s.parts[k].l.length := List.length_pos_iff.2 hne
            simp; omega
          by_cases ho : RiseSp s.parts[k].l s.nodes.length
          · rw [show riseB s.parts[k].l s.nodes.length = true from decide_eq_true ho] at HP
            have HO := Lib.hid (⟨hne, ho⟩ : s.parts[k].l ≠ [] ∧ RiseSp s.parts[k].l s.nodes.length)
            clear ho hne
            go_wp2_with fail
            refine (HP.out _ HS.out).mono ?_; rintro e w2 ⟨rfl, rfl⟩
            go_wp2
            go_roundw
            case rel => exact ⟨k + 1, by omega, by go_num, (by repeat' (first | exact Below.refl _ _ | assumption | exact And.left (by assumption) | refine Below.drew ?_ | refine below_drewN ?_ _ | refine Below.setCell ?_ (by first | (simp; done) | (simp; omega) | omega) _ | refine Below.alloc ?_ (by first | (simp; done) | (simp; omega) | omega) _ | refine after (by assumption) (by first | (simp; done) | (simp; omega) | omega) ?_)), Lib.hid fun i hi h => by
              rcases Nat.lt_or_ge i k with h' | h'
              · exact HA.out i hi h'
              · obtain rfl : i = k := by omega
                exact HO.out⟩
            case measure => simp [intOf]; omega
          · rw [show riseB s.parts[k].l s.nodes.length = false from decide_eq_false ho] at HP
            have E := Lib.hid (HF.out k hlt (fun z => ho z.2))
            clear ho hne
            go_wp2_with fail
            refine (HP.out _ HS.out).mono ?_; rintro e w2 ⟨rfl, rfl⟩
            go_wp2
            go_ret
            exact ⟨by rw [E.out]; rfl, (by repeat' (first | exact Below.refl _ _ | assumption | exact And.left (by assumption) | refine Below.drew ?_ | refine below_drewN ?_ _ | refine Below.setCell ?_ (by first | (simp; done) | (simp; omega) | omega) _ | refine Below.alloc ?_ (by first | (simp; done) | (simp; omega) | omega) _ | refine after (by assumption) (by first | (simp; done) | (simp; omega) | omega) ?_))⟩
      · have E := Lib.hid (HT.out fun i hi => HA.out i hi (by omega))
        go_wp2
        go_ret
        exact ⟨by rw [E.out]; rfl, (by repeat' (first | exact Below.refl _ _ | assumption | exact And.left (by assumption) | refine Below.drew ?_ | refine below_drewN ?_ _ | refine Below.setCell ?_ (by first | (simp; done) | (simp; omega) | omega) _ | refine Below.alloc ?_ (by first | (simp; done) | (simp; omega) | omega) _ | refine after (by assumption) (by first | (simp; done) | (simp; omega) | omega) ?_))⟩
  · have H := Lib.hid (fun b w (h : World.cell? w ⟨b, 0, none⟩ = some (.int .i64 (s.parts.length : Int))) => within1 1 8 (s.parts.length : Int) b w h)
    rw [in_no (n := (s.parts.length : Int)) (by omega)] at H
    rw [show partsB s = false from decide_eq_false fun x => h x.1]
    clear h
    go_enter Try.func58, Try.ntmps58
    go_wp2_with fail
    refine (H.out _ _ (by simp [go_sem])).mono ?_; rintro e w1 ⟨rfl, rfl⟩
    go_wp2
    go_ret
    exact ⟨rfl, (by repeat' (first | exact Below.refl _ _ | assumption | exact And.left (by assumption) | refine Below.drew ?_ | refine below_drewN ?_ _ | refine Below.setCell ?_ (by first | (simp; done) | (simp; omega) | omega) _ | refine Below.alloc ?_ (by first | (simp; done) | (simp; omega) | omega) _ | refine after (by assumption) (by first | (simp; done) | (simp; omega) | omega) ?_))⟩
end Go.Proofs.Ytcdajfiohhbdgaa.W


/-
  Contract of queuesAreSo: each queue's tests, cut short by the first that fails; within a test the order is drawn.
-/
namespace Go.Proofs.Ytcdajfiohhbdgaa.W
set_option linter.unusedVariables false
set_option linter.unusedSimpArgs false
open Go.ChangeShapes Go.WideShapes Go.ChangeAt Go.RowKit

def within3B (x y z lo hi : Int) : Bool := withinB [x, y, z] lo hi
theorem within3_iff (x y z lo hi : Int) : within3B x y z lo hi = true ↔ (lo ≤ x ∧ x ≤ hi) ∧ (lo ≤ y ∧ y ≤ hi) ∧ (lo ≤ z ∧ z ≤ hi) := by
  unfold within3B withinB
  rw [decide_eq_true_iff]
  constructor
  · intro h; exact ⟨h 0 (by simp), h 1 (by simp), h 2 (by simp)⟩
  · rintro ⟨h0, h1, h2⟩ i hi'
    match i, hi' with
    | 0, _ => exact h0
    | 1, _ => exact h1
    | 2, _ => exact h2
    | n + 3, h => simp at h; omega
theorem within3 (lo hi x y z : Int) (b : Nat) (w : World) (h0 : w.cell? ⟨b, 0, none⟩ = some (.int .i64 x)) (h1 : w.cell? ⟨b, 1, none⟩ = some (.int .i64 y)) (h2 : w.cell? ⟨b, 2, none⟩ = some (.int .i64 z)) :
    Calls Try.prog 60 #[.int .i64 lo, .int .i64 hi, .slice (some ⟨b, 0, none⟩) 3 3] w fun e w' => e = .returned (.bool (within3B x y z lo hi)) ∧ w = w' := by
  refine within lo hi (some ⟨b, 0, none⟩) 3 [x, y, z] w (slAt_lit (xs := [x, y, z]) (fun i hi' => ?_) (by simp)) (by simp)
  match i, hi' with
  | 0, _ => exact h0
  | 1, _ => exact h1
  | 2, _ => exact h2
  | n + 3, h => simp at h; omega

def qSp (g h : Nat) (pa : Option Addr) (np pc : Nat) (q : QR) (us : Int) (r1 r2 r3 r4 : Bool) : List Sp :=
  [Sp.c (.pointer (some ⟨g, 0, none⟩)) [],
   Sp.c (.pointer (some ⟨g, 0, none⟩)) [0],
   Sp.c (.pointer (some ⟨g, 1, none⟩)) [1],
   Sp.c (.slice pa np pc) [2],
   Sp.c (.pointer (some ⟨h, 0, none⟩)) [],
   Sp.c (.int .i64 q.part) [4],
   Sp.c (.bool r1) [3, 5],
   Sp.c (.bool (!r1)) [6],
   Sp.c (.bool (!r1)) [7],
   Sp.g (r1) (.pointer (some ⟨h, 1, none⟩)) [8],
   Sp.g (r1) (.slice q.users.a q.users.l.length q.users.cap) [9, 8],
   Sp.g (r1) (.pointer (some ⟨g, 0, none⟩)) [8],
   Sp.g (r1) (.pointer (some ⟨g, 0, none⟩)) [11, 8],
   Sp.g (r1) (.pointer (some ⟨g, 3, none⟩)) [12, 8],
   Sp.g (r1) (.int .i64 us) [13, 8],
   Sp.g (r1) (.bool r2) [10, 14, 8],
   Sp.g (r1) (.bool (!r2)) [15, 8],
   Sp.c (.bool (!r1 || !r2)) [8, 16],
   Sp.c (.bool (!r1 || !r2)) [17],
   Sp.g (r1 && r2) (.pointer (some ⟨h, 2, none⟩)) [18],
   Sp.g (r1 && r2) (.int .i64 q.mj) [19, 18],
   Sp.g (r1 && r2) (.pointer (some ⟨h, 3, none⟩)) [18],
   Sp.g (r1 && r2) (.int .i64 q.mr) [21, 18],
   Sp.g (r1 && r2) (.pointer (some ⟨h, 4, none⟩)) [18],
   Sp.g (r1 && r2) (.int .i64 q.mu) [23, 18],
   Sp.m (r1 && r2) (fun v w => ∃ b, v = .slice (some ⟨b, 0, none⟩) 3 3 ∧ w.cell? ⟨b, 0, none⟩ = some (.int .i64 q.mj) ∧ w.cell? ⟨b, 1, none⟩ = some (.int .i64 q.mr) ∧ w.cell? ⟨b, 2, none⟩ = some (.int .i64 q.mu)) [20, 22, 24, 18],
   Sp.g (r1 && r2) (.bool r3) [25, 18],
   Sp.g (r1 && r2) (.bool (!r3)) [26, 18],
   Sp.c (.bool (!r1 || !r2 || !r3)) [18, 27],
   Sp.c (.bool (!r1 || !r2 || !r3)) [28],
   Sp.g (r1 && r2 && r3) (.pointer (some ⟨h, 5, none⟩)) [29],
   Sp.g (r1 && r2 && r3) (.int .i64 q.qos) [30, 29],
   Sp.m (r1 && r2 && r3) (fun v w => ∃ b, v = .slice (some ⟨b, 0, none⟩) 1 1 ∧ w.cell? ⟨b, 0, none⟩ = some (.int .i64 q.qos)) [31, 29],
   Sp.g (r1 && r2 && r3) (.bool r4) [32, 29],
   Sp.g (r1 && r2 && r3) (.bool (!r4)) [33, 29],
   Sp.c (.bool (!r1 || !r2 || !r3 || !r4)) [29, 34]]
set_option maxRecDepth 100000 in
set_option maxHeartbeats 4000000 in
theorem queuesSo (s : S) (g : Nat) (pa qa : Option Addr) (hpa : s.pa = pa) (hqa : s.qa = qa) (w : World) (HB : Box w g s) (HR : Rows w s) (hfew : ∀ q ∈ s.queues, q.users.l.length ≤ 100000) :
    Calls Try.prog 61 #[.pointer (some ⟨g, 0, none⟩)] w fun e w' => e = .returned (.bool (queuesB s)) ∧ Below w.heap.size w w' := by
  have c1 : w.cell? ⟨g, 1, none⟩ = some (.slice pa s.parts.length s.pc) := by rw [← hpa]; exact HB.c1
  have c2 : w.cell? ⟨g, 2, none⟩ = some (.slice qa s.queues.length s.qc) := by rw [← hqa]; exact HB.c2
  have c3 := HB.c3
  have hg := HB.lt
  have HN := Lib.hid hqa
  have HR := Lib.hid HR
  have HW := Lib.hid hfew
  clear hpa hqa HB hfew
  by_cases h : 1 ≤ s.queues.length ∧ s.queues.length ≤ 8
  · have H := Lib.hid (fun b w (h : World.cell? w ⟨b, 0, none⟩ = some (.int .i64 (s.queues.length : Int))) => within1 1 8 (s.queues.length : Int) b w h)
    rw [in_yes (n := (s.queues.length : Int)) (by omega)] at H
    have HT := Lib.hid (show (∀ i (hi : i < s.queues.length), QueueOk s s.queues[i]) → queuesB s = true from fun hh => decide_eq_true ⟨h, fun v hv => by obtain ⟨i, hi, rfl⟩ := List.getElem_of_mem hv; exact hh i hi⟩)
    have HF := Lib.hid (show ∀ i (hi : i < s.queues.length), ¬ QueueOk s s.queues[i] → queuesB s = false from fun i hi hh => decide_eq_false fun x => hh (x.2 _ (List.getElem_mem hi)))
    obtain ⟨hl0, hl1⟩ := h
    go_enter Try.func61, Try.ntmps61
    go_wp2_with fail
    refine (H.out _ _ (by simp [go_sem])).mono ?_; rintro e w1 ⟨rfl, rfl⟩
    go_wp2
    go_loopw [18] (fun x wr => ∃ k : Nat, k ≤ s.queues.length ∧ x = .int .i64 k ∧ Below w.heap.size w wr ∧ Hid (∀ i (hi : i < s.queues.length), i < k → QueueOk s s.queues[i])) (fun x _ => s.queues.length - (intOf x).toNat)
    case atStart => exact ⟨0, Nat.zero_le _, rfl, (by repeat' (first | exact Below.refl _ _ | assumption | exact And.left (by assumption) | refine Below.drew ?_ | refine below_drewN ?_ _ | refine Below.setCell ?_ (by first | (simp; done) | (simp; omega) | omega) _ | refine Below.alloc ?_ (by first | (simp; done) | (simp; omega) | omega) _ | refine after (by assumption) (by first | (simp; done) | (simp; omega) | omega) ?_)), Lib.hid fun i hi h => by omega⟩
    case round =>
      obtain ⟨k, hk, rfl, hb, HA⟩ := hrel
      have hz := hb.size
      by_cases hlt : k < s.queues.length
      · obtain ⟨b, off, ea, hbl, q0, q1, q2, q3, q4, q5⟩ := (HR.out.later hb).queue hlt
        rw [HN.out] at ea
        subst ea
        have hfk := HW.out _ (List.getElem_mem hlt)
        have hsk := (HR.out.users _ (List.getElem_mem hlt)).later hb
        have HF := Lib.hid (HF.out k hlt)
        have HQ := Lib.hid (fun (ho : QueueOk s s.queues[k]) => (⟨k + 1, by omega, by go_num, fun i hi h => by
            rcases Nat.lt_or_ge i k with h' | h'
            · exact HA.out i hi h'
            · obtain rfl : i = k := by omega
              exact ho⟩ : ∃ n : Nat, n ≤ s.queues.length ∧ Value.int .i64 ((k : Int) + 1) = .int .i64 n ∧ ∀ i (hi : i < s.queues.length), i < n → QueueOk s s.queues[i]))
        generalize s.queues[k] = q at q0 q1 q2 q3 q4 q5 hfk hsk HF HQ
        have HRI := Lib.hid (fun w' (h : SlAt w' q.users) => rises q.users.a q.users.cap q.users.l s.users w' h hfk)
        have HS := Lib.hid hsk
        have HH := Lib.hid (fun w' => hasParts pa s.parts.length s.pc q.part w')
        have HW3 := Lib.hid (fun b w' h0 h1 h2 => within3 1 256 q.mj q.mr q.mu b w' h0 h1 h2)
        have HW1 := Lib.hid (fun b w' h0 => within1 0 100 q.qos b w' h0)
        clear hsk hfk
        have d1 := carry hb c1
        have d3 := carry hb c3
        go_wp2_with fail
        generalize hw4 : wr.alloc _ = w4
        have hb4 : Below w.heap.size w w4 := by rw [← hw4]; exact (by repeat' (first | exact Below.refl _ _ | assumption | exact And.left (by assumption) | refine Below.drew ?_ | refine below_drewN ?_ _ | refine Below.setCell ?_ (by first | (simp; done) | (simp; omega) | omega) _ | refine Below.alloc ?_ (by first | (simp; done) | (simp; omega) | omega) _ | refine after (by assumption) (by first | (simp; done) | (simp; omega) | omega) ?_))
        have hbr4 : Below wr.heap.size wr w4 := by rw [← hw4]; exact (by repeat' (first | exact Below.refl _ _ | assumption | exact And.left (by assumption) | refine Below.drew ?_ | refine below_drewN ?_ _ | refine Below.setCell ?_ (by first | (simp; done) | (simp; omega) | omega) _ | refine Below.alloc ?_ (by first | (simp; done) | (simp; omega) | omega) _ | refine after (by assumption) (by first | (simp; done) | (simp; omega) | omega) ?_))
        have e1 := carry hbr4 d1
        have e3 := carry hbr4 d3
        have k0 : w4.cell? ⟨wr.heap.size, 0, none⟩ = some (.int .i64 q.part) := by rw [← hw4]; simp [go_sem]
        have k1 : w4.cell? ⟨wr.heap.size, 1, none⟩ = some (.slice q.users.a q.users.l.length q.users.cap) := by rw [← hw4]; simp [go_sem]
        have k2 : w4.cell? ⟨wr.heap.size, 2, none⟩ = some (.int .i64 q.mj) := by rw [← hw4]; simp [go_sem]
        have k3 : w4.cell? ⟨wr.heap.size, 3, none⟩ = some (.int .i64 q.mr) := by rw [← hw4]; simp [go_sem]
        have k4 : w4.cell? ⟨wr.heap.size, 4, none⟩ = some (.int .i64 q.mu) := by rw [← hw4]; simp [go_sem]
        have k5 : w4.cell? ⟨wr.heap.size, 5, none⟩ = some (.int .i64 q.qos) := by rw [← hw4]; simp [go_sem]
        clear hw4
        have HS4 := Lib.hid (HS.out.later hbr4)
        have hz4 := hb4.size
        by_cases h1 : 0 ≤ q.part ∧ q.part < s.parts.length
        · rw [show hasB s.parts.length q.part = true from decide_eq_true h1] at HH
          by_cases h2 : RiseSp q.users.l s.users
          · rw [show riseB q.users.l s.users = true from decide_eq_true h2] at HRI
            by_cases h3 : (1 ≤ q.mj ∧ q.mj ≤ 256) ∧ (1 ≤ q.mr ∧ q.mr ≤ 256) ∧ (1 ≤ q.mu ∧ q.mu ≤ 256)
            · rw [(within3_iff _ _ _ _ _).2 h3] at HW3
              by_cases h4 : 0 ≤ q.qos ∧ q.qos ≤ 100
              · rw [in_yes h4] at HW1
                have HO := Lib.hid (HQ.out ⟨h1, h2, h3.1, h3.2.1, h3.2.2, h4⟩)
                clear h1 h2 h3 h4
                refine region_mono (qSp g wr.heap.size pa s.parts.length s.pc q s.users true true true true) [22, 23, 24, 25, 26, 27, 28, 29, 30, 31, 32, 33, 34, 35, 36, 37, 38, 39, 40, 41, 42, 43, 44, 45, 46, 47, 48, 49, 50, 51, 52, 53, 54, 55, 56, 57] (by kernel_rfl) (by kernel_rfl) (by kernel_rfl) (by kernel_rfl) (stables_cons (Sp.c_stable _ _) (stables_cons (Sp.c_stable _ _) (stables_cons (Sp.c_stable _ _) (stables_cons (Sp.c_stable _ _) (stables_cons (Sp.c_stable _ _) (stables_cons (Sp.c_stable _ _) (stables_cons (Sp.c_stable _ _) (stables_cons (Sp.c_stable _ _) (stables_cons (Sp.c_stable _ _) (stables_cons (Sp.g_stable _ _ _) (stables_cons (Sp.g_stable _ _ _) (stables_cons (Sp.g_stable _ _ _) (stables_cons (Sp.g_stable _ _ _) (stables_cons (Sp.g_stable _ _ _) (stables_cons (Sp.g_stable _ _ _) (stables_cons (Sp.g_stable _ _ _) (stables_cons (Sp.g_stable _ _ _) (stables_cons (Sp.c_stable _ _) (stables_cons (Sp.c_stable _ _) (stables_cons (Sp.g_stable _ _ _) (stables_cons (Sp.g_stable _ _ _) (stables_cons (Sp.g_stable _ _ _) (stables_cons (Sp.g_stable _ _ _) (stables_cons (Sp.g_stable _ _ _) (stables_cons (Sp.g_stable _ _ _) (stables_cons (Sp.m_stable _ _ _ (fun v w w' ⟨b', e, y0, y1, y2⟩ hbw => ⟨b', e, carry hbw y0, carry hbw y1, carry hbw y2⟩)) (stables_cons (Sp.g_stable _ _ _) (stables_cons (Sp.g_stable _ _ _) (stables_cons (Sp.c_stable _ _) (stables_cons (Sp.c_stable _ _) (stables_cons (Sp.g_stable _ _ _) (stables_cons (Sp.g_stable _ _ _) (stables_cons (Sp.m_stable _ _ _ (fun v w w' ⟨b', e, y0⟩ hbw => ⟨b', e, carry hbw y0⟩)) (stables_cons (Sp.g_stable _ _ _) (stables_cons (Sp.g_stable _ _ _) (stables_cons (Sp.c_stable _ _) (trivial))))))))))))))))))))))))))))))))))))) ?_ ?_
                · intro am wm L hbm hbase hbase2
                  have s0 : am.tmps.getD 0 undef = .pointer (some ⟨g, 0, none⟩) := (hbase 0 rfl).trans (by simp only [Array.getD_eq_getD_getElem?, List.getElem?_toArray, List.getElem?_cons_succ, List.getElem?_cons_zero, Option.getD_some])
                  have s4 : am.tmps.getD 4 undef = .pointer (some ⟨wr.heap.size, 0, none⟩) := (hbase 4 rfl).trans (by simp only [Array.getD_eq_getD_getElem?, List.getElem?_toArray, List.getElem?_cons_succ, List.getElem?_cons_zero, Option.getD_some])
                  clear hbase hbase2
                  have m1 := carry hbm e1
                  have m3 := carry hbm e3
                  have n0 := carry hbm k0
                  have n1 := carry hbm k1
                  have n2 := carry hbm k2
                  have n3 := carry hbm k3
                  have n4 := carry hbm k4
                  have n5 := carry hbm k5
                  refine steps_cons (fun hn hl => ?_) fun H0 => ?_
                  · skip
                    clear hn hl 
                    refine stepC (wanted_free rfl) fun K hK => ?_
                    go_simp
                    exact hK _ (Below.refl _ _)
                  refine steps_cons (fun hn hl => ?_) fun H1 => ?_
                  · skip
                    have h22 := Sp.of_c (H0 (hn 0 (show 0 ∈ [0] from .head _)))
                    clear hn hl H0
                    refine stepC (wanted_free rfl) fun K hK => ?_
                    go_simp
                    exact hK _ (Below.refl _ _)
                  refine steps_cons (fun hn hl => ?_) fun H2 => ?_
                  · skip
                    have h23 := Sp.of_c (H1 (hn 1 (show 1 ∈ [1] from .head _)))
                    clear hn hl H0 H1
                    refine stepC (wanted_free rfl) fun K hK => ?_
                    go_simp
                    exact hK _ (Below.refl _ _)
                  refine steps_cons (fun hn hl => ?_) fun H3 => ?_
                  · skip
                    have h24 := Sp.of_c (H2 (hn 2 (show 2 ∈ [2] from .head _)))
                    clear hn hl H0 H1 H2
                    refine stepC (wanted_free rfl) fun K hK => ?_
                    go_simp
                    exact hK _ (Below.refl _ _)
                  refine steps_cons (fun hn hl => ?_) fun H4 => ?_
                  · skip
                    clear hn hl H0 H1 H2 H3
                    refine stepC (wanted_free rfl) fun K hK => ?_
                    go_simp
                    exact hK _ (Below.refl _ _)
                  refine steps_cons (fun hn hl => ?_) fun H5 => ?_
                  · skip
                    have h26 := Sp.of_c (H4 (hn 4 (show 4 ∈ [4] from .head _)))
                    clear hn hl H0 H1 H2 H3 H4
                    refine stepC (wanted_free rfl) fun K hK => ?_
                    go_simp
                    exact hK _ (Below.refl _ _)
                  refine steps_cons (fun hn hl => ?_) fun H6 => ?_
                  · skip
                    have h25 := Sp.of_c (H3 (hn 3 (show 3 ∈ [3, 5] from .head _)))
                    have h27 := Sp.of_c (H5 (hn 5 (show 5 ∈ [3, 5] from .tail _ (.head _))))
                    clear hn hl H0 H1 H2 H3 H4 H5
                    refine stepC (wanted_free rfl) fun K hK => ?_
                    go_simp
                    first
                      | ((with_reducible refine (HH.out _).mono ?_); rintro e w6 ⟨rfl, rfl⟩; exact hK _ (Below.refl _ _))
                      | ((with_reducible refine (HRI.out _ (SlAt.later HS4.out hbm)).mono ?_); rintro e w6 ⟨rfl, rfl⟩; exact hK _ (Below.refl _ _))
                      | ((with_reducible refine (HW3.out _ _ y0 y1 y2).mono ?_); rintro e w6 ⟨rfl, rfl⟩; exact hK _ (Below.refl _ _))
                      | ((with_reducible refine (HW1.out _ _ z0).mono ?_); rintro e w6 ⟨rfl, rfl⟩; exact hK _ (Below.refl _ _))
                  refine steps_cons (fun hn hl => ?_) fun H7 => ?_
                  · skip
                    have h28 := Sp.of_c (H6 (hn 6 (show 6 ∈ [6] from .head _)))
                    clear hn hl H0 H1 H2 H3 H4 H5 H6
                    refine stepC (wanted_free rfl) fun K hK => ?_
                    go_simp
                    exact hK _ (Below.refl _ _)
                  refine steps_cons (fun hn hl => ?_) fun H8 => ?_
                  · skip
                    have h29 := Sp.of_c (H7 (hn 7 (show 7 ∈ [7] from .head _)))
                    clear hn hl H0 H1 H2 H3 H4 H5 H6 H7
                    refine stepC (wanted_free rfl) fun K hK => ?_
                    go_simp
                    exact hK _ (Below.refl _ _)
                  refine steps_cons (fun hn hl => ?_) fun H9 => ?_
                  · skip
                    have h30 := Sp.of_c (H8 (hn 8 (show 8 ∈ [8] from .head _)))
                    clear hn hl H0 H1 H2 H3 H4 H5 H6 H7 H8
                    refine stepC (wanted_guard rfl rfl h30 rfl) fun K hK => ?_
                    go_simp
                    exact hK _ (Below.refl _ _)
                  refine steps_cons (fun hn hl => ?_) fun H10 => ?_
                  · skip
                    have h31 := Sp.of_g (H9 (hn 9 (show 9 ∈ [9, 8] from .head _))) rfl
                    have h30 := Sp.of_c (H8 (hn 8 (show 8 ∈ [9, 8] from .tail _ (.head _))))
                    clear hn hl H0 H1 H2 H3 H4 H5 H6 H7 H8 H9
                    refine stepC (wanted_guard rfl rfl h30 rfl) fun K hK => ?_
                    go_simp
                    exact hK _ (Below.refl _ _)
                  refine steps_cons (fun hn hl => ?_) fun H11 => ?_
                  · skip
                    have h30 := Sp.of_c (H8 (hn 8 (show 8 ∈ [8] from .head _)))
                    clear hn hl H0 H1 H2 H3 H4 H5 H6 H7 H8 H9 H10
                    refine stepC (wanted_guard rfl rfl h30 rfl) fun K hK => ?_
                    go_simp
                    exact hK _ (Below.refl _ _)
                  refine steps_cons (fun hn hl => ?_) fun H12 => ?_
                  · skip
                    have h33 := Sp.of_g (H11 (hn 11 (show 11 ∈ [11, 8] from .head _))) rfl
                    have h30 := Sp.of_c (H8 (hn 8 (show 8 ∈ [11, 8] from .tail _ (.head _))))
                    clear hn hl H0 H1 H2 H3 H4 H5 H6 H7 H8 H9 H10 H11
                    refine stepC (wanted_guard rfl rfl h30 rfl) fun K hK => ?_
                    go_simp
                    exact hK _ (Below.refl _ _)
                  refine steps_cons (fun hn hl => ?_) fun H13 => ?_
                  · skip
                    have h34 := Sp.of_g (H12 (hn 12 (show 12 ∈ [12, 8] from .head _))) rfl
                    have h30 := Sp.of_c (H8 (hn 8 (show 8 ∈ [12, 8] from .tail _ (.head _))))
                    clear hn hl H0 H1 H2 H3 H4 H5 H6 H7 H8 H9 H10 H11 H12
                    refine stepC (wanted_guard rfl rfl h30 rfl) fun K hK => ?_
                    go_simp
                    exact hK _ (Below.refl _ _)
                  refine steps_cons (fun hn hl => ?_) fun H14 => ?_
                  · skip
                    have h35 := Sp.of_g (H13 (hn 13 (show 13 ∈ [13, 8] from .head _))) rfl
                    have h30 := Sp.of_c (H8 (hn 8 (show 8 ∈ [13, 8] from .tail _ (.head _))))
                    clear hn hl H0 H1 H2 H3 H4 H5 H6 H7 H8 H9 H10 H11 H12 H13
                    refine stepC (wanted_guard rfl rfl h30 rfl) fun K hK => ?_
                    go_simp
                    exact hK _ (Below.refl _ _)
                  refine steps_cons (fun hn hl => ?_) fun H15 => ?_
                  · skip
                    have h32 := Sp.of_g (H10 (hn 10 (show 10 ∈ [10, 14, 8] from .head _))) rfl
                    have h36 := Sp.of_g (H14 (hn 14 (show 14 ∈ [10, 14, 8] from .tail _ (.head _)))) rfl
                    have h30 := Sp.of_c (H8 (hn 8 (show 8 ∈ [10, 14, 8] from .tail _ (.tail _ (.head _)))))
                    clear hn hl H0 H1 H2 H3 H4 H5 H6 H7 H8 H9 H10 H11 H12 H13 H14
                    refine stepC (wanted_guard rfl rfl h30 rfl) fun K hK => ?_
                    go_simp
                    first
                      | ((with_reducible refine (HH.out _).mono ?_); rintro e w6 ⟨rfl, rfl⟩; exact hK _ (Below.refl _ _))
                      | ((with_reducible refine (HRI.out _ (SlAt.later HS4.out hbm)).mono ?_); rintro e w6 ⟨rfl, rfl⟩; exact hK _ (Below.refl _ _))
                      | ((with_reducible refine (HW3.out _ _ y0 y1 y2).mono ?_); rintro e w6 ⟨rfl, rfl⟩; exact hK _ (Below.refl _ _))
                      | ((with_reducible refine (HW1.out _ _ z0).mono ?_); rintro e w6 ⟨rfl, rfl⟩; exact hK _ (Below.refl _ _))
                  refine steps_cons (fun hn hl => ?_) fun H16 => ?_
                  · skip
                    have h37 := Sp.of_g (H15 (hn 15 (show 15 ∈ [15, 8] from .head _))) rfl
                    have h30 := Sp.of_c (H8 (hn 8 (show 8 ∈ [15, 8] from .tail _ (.head _))))
                    clear hn hl H0 H1 H2 H3 H4 H5 H6 H7 H8 H9 H10 H11 H12 H13 H14 H15
                    refine stepC (wanted_guard rfl rfl h30 rfl) fun K hK => ?_
                    go_simp
                    exact hK _ (Below.refl _ _)
                  refine steps_cons (fun hn hl => ?_) fun H17 => ?_
                  · skip
                    have h30 := Sp.of_c (H8 (hn 8 (show 8 ∈ [8, 16] from .head _)))
                    have h38 := Sp.of_g (H16 (hn 16 (show 16 ∈ [8, 16] from .tail _ (.head _)))) rfl
                    clear hn hl H0 H1 H2 H3 H4 H5 H6 H7 H8 H9 H10 H11 H12 H13 H14 H15 H16
                    refine stepC (wanted_free rfl) fun K hK => ?_
                    go_simp
                    exact hK _ (Below.refl _ _)
                  refine steps_cons (fun hn hl => ?_) fun H18 => ?_
                  · skip
                    have h39 := Sp.of_c (H17 (hn 17 (show 17 ∈ [17] from .head _)))
                    clear hn hl H0 H1 H2 H3 H4 H5 H6 H7 H8 H9 H10 H11 H12 H13 H14 H15 H16 H17
                    refine stepC (wanted_free rfl) fun K hK => ?_
                    go_simp
                    exact hK _ (Below.refl _ _)
                  refine steps_cons (fun hn hl => ?_) fun H19 => ?_
                  · skip
                    have h40 := Sp.of_c (H18 (hn 18 (show 18 ∈ [18] from .head _)))
                    clear hn hl H0 H1 H2 H3 H4 H5 H6 H7 H8 H9 H10 H11 H12 H13 H14 H15 H16 H17 H18
                    refine stepC (wanted_guard rfl rfl h40 rfl) fun K hK => ?_
                    go_simp
                    exact hK _ (Below.refl _ _)
                  refine steps_cons (fun hn hl => ?_) fun H20 => ?_
                  · skip
                    have h41 := Sp.of_g (H19 (hn 19 (show 19 ∈ [19, 18] from .head _))) rfl
                    have h40 := Sp.of_c (H18 (hn 18 (show 18 ∈ [19, 18] from .tail _ (.head _))))
                    clear hn hl H0 H1 H2 H3 H4 H5 H6 H7 H8 H9 H10 H11 H12 H13 H14 H15 H16 H17 H18 H19
                    refine stepC (wanted_guard rfl rfl h40 rfl) fun K hK => ?_
                    go_simp
                    exact hK _ (Below.refl _ _)
                  refine steps_cons (fun hn hl => ?_) fun H21 => ?_
                  · skip
                    have h40 := Sp.of_c (H18 (hn 18 (show 18 ∈ [18] from .head _)))
                    clear hn hl H0 H1 H2 H3 H4 H5 H6 H7 H8 H9 H10 H11 H12 H13 H14 H15 H16 H17 H18 H19 H20
                    refine stepC (wanted_guard rfl rfl h40 rfl) fun K hK => ?_
                    go_simp
                    exact hK _ (Below.refl _ _)
                  refine steps_cons (fun hn hl => ?_) fun H22 => ?_
                  · skip
                    have h43 := Sp.of_g (H21 (hn 21 (show 21 ∈ [21, 18] from .head _))) rfl
                    have h40 := Sp.of_c (H18 (hn 18 (show 18 ∈ [21, 18] from .tail _ (.head _))))
                    clear hn hl H0 H1 H2 H3 H4 H5 H6 H7 H8 H9 H10 H11 H12 H13 H14 H15 H16 H17 H18 H19 H20 H21
                    refine stepC (wanted_guard rfl rfl h40 rfl) fun K hK => ?_
                    go_simp
                    exact hK _ (Below.refl _ _)
                  refine steps_cons (fun hn hl => ?_) fun H23 => ?_
                  · skip
                    have h40 := Sp.of_c (H18 (hn 18 (show 18 ∈ [18] from .head _)))
                    clear hn hl H0 H1 H2 H3 H4 H5 H6 H7 H8 H9 H10 H11 H12 H13 H14 H15 H16 H17 H18 H19 H20 H21 H22
                    refine stepC (wanted_guard rfl rfl h40 rfl) fun K hK => ?_
                    go_simp
                    exact hK _ (Below.refl _ _)
                  refine steps_cons (fun hn hl => ?_) fun H24 => ?_
                  · skip
                    have h45 := Sp.of_g (H23 (hn 23 (show 23 ∈ [23, 18] from .head _))) rfl
                    have h40 := Sp.of_c (H18 (hn 18 (show 18 ∈ [23, 18] from .tail _ (.head _))))
                    clear hn hl H0 H1 H2 H3 H4 H5 H6 H7 H8 H9 H10 H11 H12 H13 H14 H15 H16 H17 H18 H19 H20 H21 H22 H23
                    refine stepC (wanted_guard rfl rfl h40 rfl) fun K hK => ?_
                    go_simp
                    exact hK _ (Below.refl _ _)
                  refine steps_cons (fun hn hl => ?_) fun H25 => ?_
                  · skip
                    have h42 := Sp.of_g (H20 (hn 20 (show 20 ∈ [20, 22, 24, 18] from .head _))) rfl
                    have h44 := Sp.of_g (H22 (hn 22 (show 22 ∈ [20, 22, 24, 18] from .tail _ (.head _)))) rfl
                    have h46 := Sp.of_g (H24 (hn 24 (show 24 ∈ [20, 22, 24, 18] from .tail _ (.tail _ (.head _))))) rfl
                    have h40 := Sp.of_c (H18 (hn 18 (show 18 ∈ [20, 22, 24, 18] from .tail _ (.tail _ (.tail _ (.head _))))))
                    clear hn hl H0 H1 H2 H3 H4 H5 H6 H7 H8 H9 H10 H11 H12 H13 H14 H15 H16 H17 H18 H19 H20 H21 H22 H23 H24
                    refine stepR (wanted_guard rfl rfl h40 rfl) fun K hK => ?_
                    simp only [Array.getD_eq_getD_getElem?] at h42 h44 h46 h40
                    go_simp
                    exact hK _ _ ((Below.refl _ _).alloc (Nat.le_refl _) _) ⟨_, rfl, by simp [go_sem], by simp [go_sem], by simp [go_sem]⟩
                  refine steps_cons (fun hn hl => ?_) fun H26 => ?_
                  · skip
                    obtain ⟨b, h47, y0, y1, y2⟩ := Sp.of_m (H25 (hn 25 (show 25 ∈ [25, 18] from .head _))) rfl
                    have h40 := Sp.of_c (H18 (hn 18 (show 18 ∈ [25, 18] from .tail _ (.head _))))
                    clear hn hl H0 H1 H2 H3 H4 H5 H6 H7 H8 H9 H10 H11 H12 H13 H14 H15 H16 H17 H18 H19 H20 H21 H22 H23 H24 H25
                    refine stepC (wanted_guard rfl rfl h40 rfl) fun K hK => ?_
                    go_simp
                    first
                      | ((with_reducible refine (HH.out _).mono ?_); rintro e w6 ⟨rfl, rfl⟩; exact hK _ (Below.refl _ _))
                      | ((with_reducible refine (HRI.out _ (SlAt.later HS4.out hbm)).mono ?_); rintro e w6 ⟨rfl, rfl⟩; exact hK _ (Below.refl _ _))
                      | ((with_reducible refine (HW3.out _ _ y0 y1 y2).mono ?_); rintro e w6 ⟨rfl, rfl⟩; exact hK _ (Below.refl _ _))
                      | ((with_reducible refine (HW1.out _ _ z0).mono ?_); rintro e w6 ⟨rfl, rfl⟩; exact hK _ (Below.refl _ _))
                  refine steps_cons (fun hn hl => ?_) fun H27 => ?_
                  · skip
                    have h48 := Sp.of_g (H26 (hn 26 (show 26 ∈ [26, 18] from .head _))) rfl
                    have h40 := Sp.of_c (H18 (hn 18 (show 18 ∈ [26, 18] from .tail _ (.head _))))
                    clear hn hl H0 H1 H2 H3 H4 H5 H6 H7 H8 H9 H10 H11 H12 H13 H14 H15 H16 H17 H18 H19 H20 H21 H22 H23 H24 H25 H26
                    refine stepC (wanted_guard rfl rfl h40 rfl) fun K hK => ?_
                    go_simp
                    exact hK _ (Below.refl _ _)
                  refine steps_cons (fun hn hl => ?_) fun H28 => ?_
                  · skip
                    have h40 := Sp.of_c (H18 (hn 18 (show 18 ∈ [18, 27] from .head _)))
                    have h49 := Sp.of_g (H27 (hn 27 (show 27 ∈ [18, 27] from .tail _ (.head _)))) rfl
                    clear hn hl H0 H1 H2 H3 H4 H5 H6 H7 H8 H9 H10 H11 H12 H13 H14 H15 H16 H17 H18 H19 H20 H21 H22 H23 H24 H25 H26 H27
                    refine stepC (wanted_free rfl) fun K hK => ?_
                    go_simp
                    exact hK _ (Below.refl _ _)
                  refine steps_cons (fun hn hl => ?_) fun H29 => ?_
                  · skip
                    have h50 := Sp.of_c (H28 (hn 28 (show 28 ∈ [28] from .head _)))
                    clear hn hl H0 H1 H2 H3 H4 H5 H6 H7 H8 H9 H10 H11 H12 H13 H14 H15 H16 H17 H18 H19 H20 H21 H22 H23 H24 H25 H26 H27 H28
                    refine stepC (wanted_free rfl) fun K hK => ?_
                    go_simp
                    exact hK _ (Below.refl _ _)
                  refine steps_cons (fun hn hl => ?_) fun H30 => ?_
                  · skip
                    have h51 := Sp.of_c (H29 (hn 29 (show 29 ∈ [29] from .head _)))
                    clear hn hl H0 H1 H2 H3 H4 H5 H6 H7 H8 H9 H10 H11 H12 H13 H14 H15 H16 H17 H18 H19 H20 H21 H22 H23 H24 H25 H26 H27 H28 H29
                    refine stepC (wanted_guard rfl rfl h51 rfl) fun K hK => ?_
                    go_simp
                    exact hK _ (Below.refl _ _)
                  refine steps_cons (fun hn hl => ?_) fun H31 => ?_
                  · skip
                    have h52 := Sp.of_g (H30 (hn 30 (show 30 ∈ [30, 29] from .head _))) rfl
                    have h51 := Sp.of_c (H29 (hn 29 (show 29 ∈ [30, 29] from .tail _ (.head _))))
                    clear hn hl H0 H1 H2 H3 H4 H5 H6 H7 H8 H9 H10 H11 H12 H13 H14 H15 H16 H17 H18 H19 H20 H21 H22 H23 H24 H25 H26 H27 H28 H29 H30
                    refine stepC (wanted_guard rfl rfl h51 rfl) fun K hK => ?_
                    go_simp
                    exact hK _ (Below.refl _ _)
                  refine steps_cons (fun hn hl => ?_) fun H32 => ?_
                  · skip
                    have h53 := Sp.of_g (H31 (hn 31 (show 31 ∈ [31, 29] from .head _))) rfl
                    have h51 := Sp.of_c (H29 (hn 29 (show 29 ∈ [31, 29] from .tail _ (.head _))))
                    clear hn hl H0 H1 H2 H3 H4 H5 H6 H7 H8 H9 H10 H11 H12 H13 H14 H15 H16 H17 H18 H19 H20 H21 H22 H23 H24 H25 H26 H27 H28 H29 H30 H31
                    refine stepR (wanted_guard rfl rfl h51 rfl) fun K hK => ?_
                    simp only [Array.getD_eq_getD_getElem?] at h53 h51
                    go_simp
                    exact hK _ _ ((Below.refl _ _).alloc (Nat.le_refl _) _) ⟨_, rfl, by simp [go_sem]⟩
                  refine steps_cons (fun hn hl => ?_) fun H33 => ?_
                  · skip
                    obtain ⟨b, h54, z0⟩ := Sp.of_m (H32 (hn 32 (show 32 ∈ [32, 29] from .head _))) rfl
                    have h51 := Sp.of_c (H29 (hn 29 (show 29 ∈ [32, 29] from .tail _ (.head _))))
                    clear hn hl H0 H1 H2 H3 H4 H5 H6 H7 H8 H9 H10 H11 H12 H13 H14 H15 H16 H17 H18 H19 H20 H21 H22 H23 H24 H25 H26 H27 H28 H29 H30 H31 H32
                    refine stepC (wanted_guard rfl rfl h51 rfl) fun K hK => ?_
                    go_simp
                    first
                      | ((with_reducible refine (HH.out _).mono ?_); rintro e w6 ⟨rfl, rfl⟩; exact hK _ (Below.refl _ _))
                      | ((with_reducible refine (HRI.out _ (SlAt.later HS4.out hbm)).mono ?_); rintro e w6 ⟨rfl, rfl⟩; exact hK _ (Below.refl _ _))
                      | ((with_reducible refine (HW3.out _ _ y0 y1 y2).mono ?_); rintro e w6 ⟨rfl, rfl⟩; exact hK _ (Below.refl _ _))
                      | ((with_reducible refine (HW1.out _ _ z0).mono ?_); rintro e w6 ⟨rfl, rfl⟩; exact hK _ (Below.refl _ _))
                  refine steps_cons (fun hn hl => ?_) fun H34 => ?_
                  · skip
                    have h55 := Sp.of_g (H33 (hn 33 (show 33 ∈ [33, 29] from .head _))) rfl
                    have h51 := Sp.of_c (H29 (hn 29 (show 29 ∈ [33, 29] from .tail _ (.head _))))
                    clear hn hl H0 H1 H2 H3 H4 H5 H6 H7 H8 H9 H10 H11 H12 H13 H14 H15 H16 H17 H18 H19 H20 H21 H22 H23 H24 H25 H26 H27 H28 H29 H30 H31 H32 H33
                    refine stepC (wanted_guard rfl rfl h51 rfl) fun K hK => ?_
                    go_simp
                    exact hK _ (Below.refl _ _)
                  refine steps_cons (fun hn hl => ?_) fun H35 => ?_
                  · skip
                    have h51 := Sp.of_c (H29 (hn 29 (show 29 ∈ [29, 34] from .head _)))
                    have h56 := Sp.of_g (H34 (hn 34 (show 34 ∈ [29, 34] from .tail _ (.head _)))) rfl
                    clear hn hl H0 H1 H2 H3 H4 H5 H6 H7 H8 H9 H10 H11 H12 H13 H14 H15 H16 H17 H18 H19 H20 H21 H22 H23 H24 H25 H26 H27 H28 H29 H30 H31 H32 H33 H34
                    refine stepC (wanted_free rfl) fun K hK => ?_
                    go_simp
                    exact hK _ (Below.refl _ _)
                  exact trivial
                · intro w5 hb5
                  have hz5 := hb5.size
                  refine end_cons ?_; rintro _ rfl
                  refine end_cons ?_; rintro _ rfl
                  refine end_cons ?_; rintro _ rfl
                  refine end_cons ?_; rintro _ rfl
                  refine end_cons ?_; rintro _ rfl
                  refine end_cons ?_; rintro _ rfl
                  refine end_cons ?_; rintro _ rfl
                  refine end_cons ?_; rintro _ rfl
                  refine end_cons ?_; rintro _ rfl
                  refine end_cons ?_; rintro _ rfl
                  refine end_cons ?_; rintro _ rfl
                  refine end_cons ?_; rintro _ rfl
                  refine end_cons ?_; rintro _ rfl
                  refine end_cons ?_; rintro _ rfl
                  refine end_cons ?_; rintro _ rfl
                  refine end_cons ?_; rintro _ rfl
                  refine end_cons ?_; rintro _ rfl
                  refine end_cons ?_; rintro _ rfl
                  refine end_cons ?_; rintro _ rfl
                  refine end_cons ?_; rintro _ rfl
                  refine end_cons ?_; rintro _ rfl
                  refine end_cons ?_; rintro _ rfl
                  refine end_cons ?_; rintro _ rfl
                  refine end_cons ?_; rintro _ rfl
                  refine end_cons ?_; rintro _ rfl
                  refine end_cons ?_; rintro _ ⟨b47, rfl, y47_0, y47_1, y47_2⟩
                  refine end_cons ?_; rintro _ rfl
                  refine end_cons ?_; rintro _ rfl
                  refine end_cons ?_; rintro _ rfl
                  refine end_cons ?_; rintro _ rfl
                  refine end_cons ?_; rintro _ rfl
                  refine end_cons ?_; rintro _ rfl
                  refine end_cons ?_; rintro _ ⟨b54, rfl, z0⟩
                  refine end_cons ?_; rintro _ rfl
                  refine end_cons ?_; rintro _ rfl
                  refine end_cons ?_; rintro _ rfl
                  refine end_nil ?_
                  simp only [List.setIfInBounds_toArray, List.set_cons_succ, List.set_cons_zero, Bool.not_false, Bool.not_true, Bool.true_or, Bool.or_true, Bool.false_or, Bool.or_false]
                  go_wp2
                  go_roundw
                  case rel => obtain ⟨n, hn, he, hall⟩ := HO.out; exact ⟨n, hn, he, (by repeat' (first | exact Below.refl _ _ | assumption | exact And.left (by assumption) | refine Below.drew ?_ | refine below_drewN ?_ _ | refine Below.setCell ?_ (by first | (simp; done) | (simp; omega) | omega) _ | refine Below.alloc ?_ (by first | (simp; done) | (simp; omega) | omega) _ | refine after (by assumption) (by first | (simp; done) | (simp; omega) | omega) ?_)), Lib.hid hall⟩
                  case measure => simp [intOf]; omega
              · rw [in_no h4] at HW1
                have E := Lib.hid (HF.out fun z => h4 z.2.2.2.2.2)
                clear h1 h2 h3 h4
                refine region_mono (qSp g wr.heap.size pa s.parts.length s.pc q s.users true true true false) [22, 23, 24, 25, 26, 27, 28, 29, 30, 31, 32, 33, 34, 35, 36, 37, 38, 39, 40, 41, 42, 43, 44, 45, 46, 47, 48, 49, 50, 51, 52, 53, 54, 55, 56, 57] (by kernel_rfl) (by kernel_rfl) (by kernel_rfl) (by kernel_rfl) (stables_cons (Sp.c_stable _ _) (stables_cons (Sp.c_stable _ _) (stables_cons (Sp.c_stable _ _) (stables_cons (Sp.c_stable _ _) (stables_cons (Sp.c_stable _ _) (stables_cons (Sp.c_stable _ _) (stables_cons (Sp.c_stable _ _) (stables_cons (Sp.c_stable _ _) (stables_cons (Sp.c_stable _ _) (stables_cons (Sp.g_stable _ _ _) (stables_cons (Sp.g_stable _ _ _) (stables_cons (Sp.g_stable _ _ _) (stables_cons (Sp.g_stable _ _ _) (stables_cons (Sp.g_stable _ _ _) (stables_cons (Sp.g_stable _ _ _) (stables_cons (Sp.g_stable _ _ _) (stables_cons (Sp.g_stable _ _ _) (stables_cons (Sp.c_stable _ _) (stables_cons (Sp.c_stable _ _) (stables_cons (Sp.g_stable _ _ _) (stables_cons (Sp.g_stable _ _ _) (stables_cons (Sp.g_stable _ _ _) (stables_cons (Sp.g_stable _ _ _) (stables_cons (Sp.g_stable _ _ _) (stables_cons (Sp.g_stable _ _ _) (stables_cons (Sp.m_stable _ _ _ (fun v w w' ⟨b', e, y0, y1, y2⟩ hbw => ⟨b', e, carry hbw y0, carry hbw y1, carry hbw y2⟩)) (stables_cons (Sp.g_stable _ _ _) (stables_cons (Sp.g_stable _ _ _) (stables_cons (Sp.c_stable _ _) (stables_cons (Sp.c_stable _ _) (stables_cons (Sp.g_stable _ _ _) (stables_cons (Sp.g_stable _ _ _) (stables_cons (Sp.m_stable _ _ _ (fun v w w' ⟨b', e, y0⟩ hbw => ⟨b', e, carry hbw y0⟩)) (stables_cons (Sp.g_stable _ _ _) (stables_cons (Sp.g_stable _ _ _) (stables_cons (Sp.c_stable _ _) (trivial))))))))))))))))))))))))))))))))))))) ?_ ?_
                · intro am wm L hbm hbase hbase2
                  have s0 : am.tmps.getD 0 undef = .pointer (some ⟨g, 0, none⟩) := (hbase 0 rfl).trans (by simp only [Array.getD_eq_getD_getElem?, List.getElem?_toArray, List.getElem?_cons_succ, List.getElem?_cons_zero, Option.getD_some])
                  have s4 : am.tmps.getD 4 undef = .pointer (some ⟨wr.heap.size, 0, none⟩) := (hbase 4 rfl).trans (by simp only [Array.getD_eq_getD_getElem?, List.getElem?_toArray, List.getElem?_cons_succ, List.getElem?_cons_zero, Option.getD_some])
                  clear hbase hbase2
                  have m1 := carry hbm e1
                  have m3 := carry hbm e3
                  have n0 := carry hbm k0
                  have n1 := carry hbm k1
                  have n2 := carry hbm k2
                  have n3 := carry hbm k3
                  have n4 := carry hbm k4
                  have n5 := carry hbm k5
                  refine steps_cons (fun hn hl => ?_) fun H0 => ?_
                  · skip
                    clear hn hl 
                    refine stepC (wanted_free rfl) fun K hK => ?_
                    go_simp
                    exact hK _ (Below.refl _ _)
                  refine steps_cons (fun hn hl => ?_) fun H1 => ?_
                  · skip
                    have h22 := Sp.of_c (H0 (hn 0 (show 0 ∈ [0] from .head _)))
                    clear hn hl H0
                    refine stepC (wanted_free rfl) fun K hK => ?_
                    go_simp
                    exact hK _ (Below.refl _ _)
                  refine steps_cons (fun hn hl => ?_) fun H2 => ?_
                  · skip
                    have h23 := Sp.of_c (H1 (hn 1 (show 1 ∈ [1] from .head _)))
                    clear hn hl H0 H1
                    refine stepC (wanted_free rfl) fun K hK => ?_
                    go_simp
                    exact hK _ (Below.refl _ _)
                  refine steps_cons (fun hn hl => ?_) fun H3 => ?_
                  · skip
                    have h24 := Sp.of_c (H2 (hn 2 (show 2 ∈ [2] from .head _)))
                    clear hn hl H0 H1 H2
                    refine stepC (wanted_free rfl) fun K hK => ?_
                    go_simp
                    exact hK _ (Below.refl _ _)
                  refine steps_cons (fun hn hl => ?_) fun H4 => ?_
                  · skip
                    clear hn hl H0 H1 H2 H3
                    refine stepC (wanted_free rfl) fun K hK => ?_
                    go_simp
                    exact hK _ (Below.refl _ _)
                  refine steps_cons (fun hn hl => ?_) fun H5 => ?_
                  · skip
                    have h26 := Sp.of_c (H4 (hn 4 (show 4 ∈ [4] from .head _)))
                    clear hn hl H0 H1 H2 H3 H4
                    refine stepC (wanted_free rfl) fun K hK => ?_
                    go_simp
                    exact hK _ (Below.refl _ _)
                  refine steps_cons (fun hn hl => ?_) fun H6 => ?_
                  · skip
                    have h25 := Sp.of_c (H3 (hn 3 (show 3 ∈ [3, 5] from .head _)))
                    have h27 := Sp.of_c (H5 (hn 5 (show 5 ∈ [3, 5] from .tail _ (.head _))))
                    clear hn hl H0 H1 H2 H3 H4 H5
                    refine stepC (wanted_free rfl) fun K hK => ?_
                    go_simp
                    first
                      | ((with_reducible refine (HH.out _).mono ?_); rintro e w6 ⟨rfl, rfl⟩; exact hK _ (Below.refl _ _))
                      | ((with_reducible refine (HRI.out _ (SlAt.later HS4.out hbm)).mono ?_); rintro e w6 ⟨rfl, rfl⟩; exact hK _ (Below.refl _ _))
                      | ((with_reducible refine (HW3.out _ _ y0 y1 y2).mono ?_); rintro e w6 ⟨rfl, rfl⟩; exact hK _ (Below.refl _ _))
                      | ((with_reducible refine (HW1.out _ _ z0).mono ?_); rintro e w6 ⟨rfl, rfl⟩; exact hK _ (Below.refl _ _))
                  refine steps_cons (fun hn hl => ?_) fun H7 => ?_
                  · skip
                    have h28 := Sp.of_c (H6 (hn 6 (show 6 ∈ [6] from .head _)))
                    clear hn hl H0 H1 H2 H3 H4 H5 H6
                    refine stepC (wanted_free rfl) fun K hK => ?_
                    go_simp
                    exact hK _ (Below.refl _ _)
                  refine steps_cons (fun hn hl => ?_) fun H8 => ?_
                  · skip
                    have h29 := Sp.of_c (H7 (hn 7 (show 7 ∈ [7] from .head _)))
                    clear hn hl H0 H1 H2 H3 H4 H5 H6 H7
                    refine stepC (wanted_free rfl) fun K hK => ?_
                    go_simp
                    exact hK _ (Below.refl _ _)
                  refine steps_cons (fun hn hl => ?_) fun H9 => ?_
                  · skip
                    have h30 := Sp.of_c (H8 (hn 8 (show 8 ∈ [8] from .head _)))
                    clear hn hl H0 H1 H2 H3 H4 H5 H6 H7 H8
                    refine stepC (wanted_guard rfl rfl h30 rfl) fun K hK => ?_
                    go_simp
                    exact hK _ (Below.refl _ _)
                  refine steps_cons (fun hn hl => ?_) fun H10 => ?_
                  · skip
                    have h31 := Sp.of_g (H9 (hn 9 (show 9 ∈ [9, 8] from .head _))) rfl
                    have h30 := Sp.of_c (H8 (hn 8 (show 8 ∈ [9, 8] from .tail _ (.head _))))
                    clear hn hl H0 H1 H2 H3 H4 H5 H6 H7 H8 H9
                    refine stepC (wanted_guard rfl rfl h30 rfl) fun K hK => ?_
                    go_simp
                    exact hK _ (Below.refl _ _)
                  refine steps_cons (fun hn hl => ?_) fun H11 => ?_
                  · skip
                    have h30 := Sp.of_c (H8 (hn 8 (show 8 ∈ [8] from .head _)))
                    clear hn hl H0 H1 H2 H3 H4 H5 H6 H7 H8 H9 H10
                    refine stepC (wanted_guard rfl rfl h30 rfl) fun K hK => ?_
                    go_simp
                    exact hK _ (Below.refl _ _)
                  refine steps_cons (fun hn hl => ?_) fun H12 => ?_
                  · skip
                    have h33 := Sp.of_g (H11 (hn 11 (show 11 ∈ [11, 8] from .head _))) rfl
                    have h30 := Sp.of_c (H8 (hn 8 (show 8 ∈ [11, 8] from .tail _ (.head _))))
                    clear hn hl H0 H1 H2 H3 H4 H5 H6 H7 H8 H9 H10 H11
                    refine stepC (wanted_guard rfl rfl h30 rfl) fun K hK => ?_
                    go_simp
                    exact hK _ (Below.refl _ _)
                  refine steps_cons (fun hn hl => ?_) fun H13 => ?_
                  · skip
                    have h34 := Sp.of_g (H12 (hn 12 (show 12 ∈ [12, 8] from .head _))) rfl
                    have h30 := Sp.of_c (H8 (hn 8 (show 8 ∈ [12, 8] from .tail _ (.head _))))
                    clear hn hl H0 H1 H2 H3 H4 H5 H6 H7 H8 H9 H10 H11 H12
                    refine stepC (wanted_guard rfl rfl h30 rfl) fun K hK => ?_
                    go_simp
                    exact hK _ (Below.refl _ _)
                  refine steps_cons (fun hn hl => ?_) fun H14 => ?_
                  · skip
                    have h35 := Sp.of_g (H13 (hn 13 (show 13 ∈ [13, 8] from .head _))) rfl
                    have h30 := Sp.of_c (H8 (hn 8 (show 8 ∈ [13, 8] from .tail _ (.head _))))
                    clear hn hl H0 H1 H2 H3 H4 H5 H6 H7 H8 H9 H10 H11 H12 H13
                    refine stepC (wanted_guard rfl rfl h30 rfl) fun K hK => ?_
                    go_simp
                    exact hK _ (Below.refl _ _)
                  refine steps_cons (fun hn hl => ?_) fun H15 => ?_
                  · skip
                    have h32 := Sp.of_g (H10 (hn 10 (show 10 ∈ [10, 14, 8] from .head _))) rfl
                    have h36 := Sp.of_g (H14 (hn 14 (show 14 ∈ [10, 14, 8] from .tail _ (.head _)))) rfl
                    have h30 := Sp.of_c (H8 (hn 8 (show 8 ∈ [10, 14, 8] from .tail _ (.tail _ (.head _)))))
                    clear hn hl H0 H1 H2 H3 H4 H5 H6 H7 H8 H9 H10 H11 H12 H13 H14
                    refine stepC (wanted_guard rfl rfl h30 rfl) fun K hK => ?_
                    go_simp
                    first
                      | ((with_reducible refine (HH.out _).mono ?_); rintro e w6 ⟨rfl, rfl⟩; exact hK _ (Below.refl _ _))
                      | ((with_reducible refine (HRI.out _ (SlAt.later HS4.out hbm)).mono ?_); rintro e w6 ⟨rfl, rfl⟩; exact hK _ (Below.refl _ _))
                      | ((with_reducible refine (HW3.out _ _ y0 y1 y2).mono ?_); rintro e w6 ⟨rfl, rfl⟩; exact hK _ (Below.refl _ _))
                      | ((with_reducible refine (HW1.out _ _ z0).mono ?_); rintro e w6 ⟨rfl, rfl⟩; exact hK _ (Below.refl _ _))
                  refine steps_cons (fun hn hl => ?_) fun H16 => ?_
                  · skip
                    have h37 := Sp.of_g (H15 (hn 15 (show 15 ∈ [15, 8] from .head _))) rfl
                    have h30 := Sp.of_c (H8 (hn 8 (show 8 ∈ [15, 8] from .tail _ (.head _))))
                    clear hn hl H0 H1 H2 H3 H4 H5 H6 H7 H8 H9 H10 H11 H12 H13 H14 H15
                    refine stepC (wanted_guard rfl rfl h30 rfl) fun K hK => ?_
                    go_simp
                    exact hK _ (Below.refl _ _)
                  refine steps_cons (fun hn hl => ?_) fun H17 => ?_
                  · skip
                    have h30 := Sp.of_c (H8 (hn 8 (show 8 ∈ [8, 16] from .head _)))
                    have h38 := Sp.of_g (H16 (hn 16 (show 16 ∈ [8, 16] from .tail _ (.head _)))) rfl
                    clear hn hl H0 H1 H2 H3 H4 H5 H6 H7 H8 H9 H10 H11 H12 H13 H14 H15 H16
                    refine stepC (wanted_free rfl) fun K hK => ?_
                    go_simp
                    exact hK _ (Below.refl _ _)
                  refine steps_cons (fun hn hl => ?_) fun H18 => ?_
                  · skip
                    have h39 := Sp.of_c (H17 (hn 17 (show 17 ∈ [17] from .head _)))
                    clear hn hl H0 H1 H2 H3 H4 H5 H6 H7 H8 H9 H10 H11 H12 H13 H14 H15 H16 H17
                    refine stepC (wanted_free rfl) fun K hK => ?_
                    go_simp
                    exact hK _ (Below.refl _ _)
                  refine steps_cons (fun hn hl => ?_) fun H19 => ?_
                  · skip
                    have h40 := Sp.of_c (H18 (hn 18 (show 18 ∈ [18] from .head _)))
                    clear hn hl H0 H1 H2 H3 H4 H5 H6 H7 H8 H9 H10 H11 H12 H13 H14 H15 H16 H17 H18
                    refine stepC (wanted_guard rfl rfl h40 rfl) fun K hK => ?_
                    go_simp
                    exact hK _ (Below.refl _ _)
                  refine steps_cons (fun hn hl => ?_) fun H20 => ?_
                  · skip
                    have h41 := Sp.of_g (H19 (hn 19 (show 19 ∈ [19, 18] from .head _))) rfl
                    have h40 := Sp.of_c (H18 (hn 18 (show 18 ∈ [19, 18] from .tail _ (.head _))))
                    clear hn hl H0 H1 H2 H3 H4 H5 H6 H7 H8 H9 H10 H11 H12 H13 H14 H15 H16 H17 H18 H19
                    refine stepC (wanted_guard rfl rfl h40 rfl) fun K hK => ?_
                    go_simp
                    exact hK _ (Below.refl _ _)
                  refine steps_cons (fun hn hl => ?_) fun H21 => ?_
                  · skip
                    have h40 := Sp.of_c (H18 (hn 18 (show 18 ∈ [18] from .head _)))
                    clear hn hl H0 H1 H2 H3 H4 H5 H6 H7 H8 H9 H10 H11 H12 H13 H14 H15 H16 H17 H18 H19 H20
                    refine stepC (wanted_guard rfl rfl h40 rfl) fun K hK => ?_
                    go_simp
                    exact hK _ (Below.refl _ _)
                  refine steps_cons (fun hn hl => ?_) fun H22 => ?_
                  · skip
                    have h43 := Sp.of_g (H21 (hn 21 (show 21 ∈ [21, 18] from .head _))) rfl
                    have h40 := Sp.of_c (H18 (hn 18 (show 18 ∈ [21, 18] from .tail _ (.head _))))
                    clear hn hl H0 H1 H2 H3 H4 H5 H6 H7 H8 H9 H10 H11 H12 H13 H14 H15 H16 H17 H18 H19 H20 H21
                    refine stepC (wanted_guard rfl rfl h40 rfl) fun K hK => ?_
                    go_simp
                    exact hK _ (Below.refl _ _)
                  refine steps_cons (fun hn hl => ?_) fun H23 => ?_
                  · skip
                    have h40 := Sp.of_c (H18 (hn 18 (show 18 ∈ [18] from .head _)))
                    clear hn hl H0 H1 H2 H3 H4 H5 H6 H7 H8 H9 H10 H11 H12 H13 H14 H15 H16 H17 H18 H19 H20 H21 H22
                    refine stepC (wanted_guard rfl rfl h40 rfl) fun K hK => ?_
                    go_simp
                    exact hK _ (Below.refl _ _)
                  refine steps_cons (fun hn hl => ?_) fun H24 => ?_
                  · skip
                    have h45 := Sp.of_g (H23 (hn 23 (show 23 ∈ [23, 18] from .head _))) rfl
                    have h40 := Sp.of_c (H18 (hn 18 (show 18 ∈ [23, 18] from .tail _ (.head _))))
                    clear hn hl H0 H1 H2 H3 H4 H5 H6 H7 H8 H9 H10 H11 H12 H13 H14 H15 H16 H17 H18 H19 H20 H21 H22 H23
                    refine stepC (wanted_guard rfl rfl h40 rfl) fun K hK => ?_
                    go_simp
                    exact hK _ (Below.refl _ _)
                  refine steps_cons (fun hn hl => ?_) fun H25 => ?_
                  · skip
                    have h42 := Sp.of_g (H20 (hn 20 (show 20 ∈ [20, 22, 24, 18] from .head _))) rfl
                    have h44 := Sp.of_g (H22 (hn 22 (show 22 ∈ [20, 22, 24, 18] from .tail _ (.head _)))) rfl
                    have h46 := Sp.of_g (H24 (hn 24 (show 24 ∈ [20, 22, 24, 18] from .tail _ (.tail _ (.head _))))) rfl
                    have h40 := Sp.of_c (H18 (hn 18 (show 18 ∈ [20, 22, 24, 18] from .tail _ (.tail _ (.tail _ (.head _))))))
                    clear hn hl H0 H1 H2 H3 H4 H5 H6 H7 H8 H9 H10 H11 H12 H13 H14 H15 H16 H17 H18 H19 H20 H21 H22 H23 H24
                    refine stepR (wanted_guard rfl rfl h40 rfl) fun K hK => ?_
                    simp only [Array.getD_eq_getD_getElem?] at h42 h44 h46 h40
                    go_simp
                    exact hK _ _ ((Below.refl _ _).alloc (Nat.le_refl _) _) ⟨_, rfl, by simp [go_sem], by simp [go_sem], by simp [go_sem]⟩
                  refine steps_cons (fun hn hl => ?_) fun H26 => ?_
                  · skip
                    obtain ⟨b, h47, y0, y1, y2⟩ := Sp.of_m (H25 (hn 25 (show 25 ∈ [25, 18] from .head _))) rfl
                    have h40 := Sp.of_c (H18 (hn 18 (show 18 ∈ [25, 18] from .tail _ (.head _))))
                    clear hn hl H0 H1 H2 H3 H4 H5 H6 H7 H8 H9 H10 H11 H12 H13 H14 H15 H16 H17 H18 H19 H20 H21 H22 H23 H24 H25
                    refine stepC (wanted_guard rfl rfl h40 rfl) fun K hK => ?_
                    go_simp
                    first
                      | ((with_reducible refine (HH.out _).mono ?_); rintro e w6 ⟨rfl, rfl⟩; exact hK _ (Below.refl _ _))
                      | ((with_reducible refine (HRI.out _ (SlAt.later HS4.out hbm)).mono ?_); rintro e w6 ⟨rfl, rfl⟩; exact hK _ (Below.refl _ _))
                      | ((with_reducible refine (HW3.out _ _ y0 y1 y2).mono ?_); rintro e w6 ⟨rfl, rfl⟩; exact hK _ (Below.refl _ _))
                      | ((with_reducible refine (HW1.out _ _ z0).mono ?_); rintro e w6 ⟨rfl, rfl⟩; exact hK _ (Below.refl _ _))
                  refine steps_cons (fun hn hl => ?_) fun H27 => ?_
                  · skip
                    have h48 := Sp.of_g (H26 (hn 26 (show 26 ∈ [26, 18] from .head _))) rfl
                    have h40 := Sp.of_c (H18 (hn 18 (show 18 ∈ [26, 18] from .tail _ (.head _))))
                    clear hn hl H0 H1 H2 H3 H4 H5 H6 H7 H8 H9 H10 H11 H12 H13 H14 H15 H16 H17 H18 H19 H20 H21 H22 H23 H24 H25 H26
                    refine stepC (wanted_guard rfl rfl h40 rfl) fun K hK => ?_
                    go_simp
                    exact hK _ (Below.refl _ _)
                  refine steps_cons (fun hn hl => ?_) fun H28 => ?_
                  · skip
                    have h40 := Sp.of_c (H18 (hn 18 (show 18 ∈ [18, 27] from .head _)))
                    have h49 := Sp.of_g (H27 (hn 27 (show 27 ∈ [18, 27] from .tail _ (.head _)))) rfl
                    clear hn hl H0 H1 H2 H3 H4 H5 H6 H7 H8 H9 H10 H11 H12 H13 H14 H15 H16 H17 H18 H19 H20 H21 H22 H23 H24 H25 H26 H27
                    refine stepC (wanted_free rfl) fun K hK => ?_
                    go_simp
                    exact hK _ (Below.refl _ _)
                  refine steps_cons (fun hn hl => ?_) fun H29 => ?_
                  · skip
                    have h50 := Sp.of_c (H28 (hn 28 (show 28 ∈ [28] from .head _)))
                    clear hn hl H0 H1 H2 H3 H4 H5 H6 H7 H8 H9 H10 H11 H12 H13 H14 H15 H16 H17 H18 H19 H20 H21 H22 H23 H24 H25 H26 H27 H28
                    refine stepC (wanted_free rfl) fun K hK => ?_
                    go_simp
                    exact hK _ (Below.refl _ _)
                  refine steps_cons (fun hn hl => ?_) fun H30 => ?_
                  · skip
                    have h51 := Sp.of_c (H29 (hn 29 (show 29 ∈ [29] from .head _)))
                    clear hn hl H0 H1 H2 H3 H4 H5 H6 H7 H8 H9 H10 H11 H12 H13 H14 H15 H16 H17 H18 H19 H20 H21 H22 H23 H24 H25 H26 H27 H28 H29
                    refine stepC (wanted_guard rfl rfl h51 rfl) fun K hK => ?_
                    go_simp
                    exact hK _ (Below.refl _ _)
                  refine steps_cons (fun hn hl => ?_) fun H31 => ?_
                  · skip
                    have h52 := Sp.of_g (H30 (hn 30 (show 30 ∈ [30, 29] from .head _))) rfl
                    have h51 := Sp.of_c (H29 (hn 29 (show 29 ∈ [30, 29] from .tail _ (.head _))))
                    clear hn hl H0 H1 H2 H3 H4 H5 H6 H7 H8 H9 H10 H11 H12 H13 H14 H15 H16 H17 H18 H19 H20 H21 H22 H23 H24 H25 H26 H27 H28 H29 H30
                    refine stepC (wanted_guard rfl rfl h51 rfl) fun K hK => ?_
                    go_simp
                    exact hK _ (Below.refl _ _)
                  refine steps_cons (fun hn hl => ?_) fun H32 => ?_
                  · skip
                    have h53 := Sp.of_g (H31 (hn 31 (show 31 ∈ [31, 29] from .head _))) rfl
                    have h51 := Sp.of_c (H29 (hn 29 (show 29 ∈ [31, 29] from .tail _ (.head _))))
                    clear hn hl H0 H1 H2 H3 H4 H5 H6 H7 H8 H9 H10 H11 H12 H13 H14 H15 H16 H17 H18 H19 H20 H21 H22 H23 H24 H25 H26 H27 H28 H29 H30 H31
                    refine stepR (wanted_guard rfl rfl h51 rfl) fun K hK => ?_
                    simp only [Array.getD_eq_getD_getElem?] at h53 h51
                    go_simp
                    exact hK _ _ ((Below.refl _ _).alloc (Nat.le_refl _) _) ⟨_, rfl, by simp [go_sem]⟩
                  refine steps_cons (fun hn hl => ?_) fun H33 => ?_
                  · skip
                    obtain ⟨b, h54, z0⟩ := Sp.of_m (H32 (hn 32 (show 32 ∈ [32, 29] from .head _))) rfl
                    have h51 := Sp.of_c (H29 (hn 29 (show 29 ∈ [32, 29] from .tail _ (.head _))))
                    clear hn hl H0 H1 H2 H3 H4 H5 H6 H7 H8 H9 H10 H11 H12 H13 H14 H15 H16 H17 H18 H19 H20 H21 H22 H23 H24 H25 H26 H27 H28 H29 H30 H31 H32
                    refine stepC (wanted_guard rfl rfl h51 rfl) fun K hK => ?_
                    go_simp
                    first
                      | ((with_reducible refine (HH.out _).mono ?_); rintro e w6 ⟨rfl, rfl⟩; exact hK _ (Below.refl _ _))
                      | ((with_reducible refine (HRI.out _ (SlAt.later HS4.out hbm)).mono ?_); rintro e w6 ⟨rfl, rfl⟩; exact hK _ (Below.refl _ _))
                      | ((with_reducible refine (HW3.out _ _ y0 y1 y2).mono ?_); rintro e w6 ⟨rfl, rfl⟩; exact hK _ (Below.refl _ _))
                      | ((with_reducible refine (HW1.out _ _ z0).mono ?_); rintro e w6 ⟨rfl, rfl⟩; exact hK _ (Below.refl _ _))
                  refine steps_cons (fun hn hl => ?_) fun H34 => ?_
                  · skip
                    have h55 := Sp.of_g (H33 (hn 33 (show 33 ∈ [33, 29] from .head _))) rfl
                    have h51 := Sp.of_c (H29 (hn 29 (show 29 ∈ [33, 29] from .tail _ (.head _))))
                    clear hn hl H0 H1 H2 H3 H4 H5 H6 H7 H8 H9 H10 H11 H12 H13 H14 H15 H16 H17 H18 H19 H20 H21 H22 H23 H24 H25 H26 H27 H28 H29 H30 H31 H32 H33
                    refine stepC (wanted_guard rfl rfl h51 rfl) fun K hK => ?_
                    go_simp
                    exact hK _ (Below.refl _ _)
                  refine steps_cons (fun hn hl => ?_) fun H35 => ?_
                  · skip
                    have h51 := Sp.of_c (H29 (hn 29 (show 29 ∈ [29, 34] from .head _)))
                    have h56 := Sp.of_g (H34 (hn 34 (show 34 ∈ [29, 34] from .tail _ (.head _)))) rfl
                    clear hn hl H0 H1 H2 H3 H4 H5 H6 H7 H8 H9 H10 H11 H12 H13 H14 H15 H16 H17 H18 H19 H20 H21 H22 H23 H24 H25 H26 H27 H28 H29 H30 H31 H32 H33 H34
                    refine stepC (wanted_free rfl) fun K hK => ?_
                    go_simp
                    exact hK _ (Below.refl _ _)
                  exact trivial
                · intro w5 hb5
                  have hz5 := hb5.size
                  refine end_cons ?_; rintro _ rfl
                  refine end_cons ?_; rintro _ rfl
                  refine end_cons ?_; rintro _ rfl
                  refine end_cons ?_; rintro _ rfl
                  refine end_cons ?_; rintro _ rfl
                  refine end_cons ?_; rintro _ rfl
                  refine end_cons ?_; rintro _ rfl
                  refine end_cons ?_; rintro _ rfl
                  refine end_cons ?_; rintro _ rfl
                  refine end_cons ?_; rintro _ rfl
                  refine end_cons ?_; rintro _ rfl
                  refine end_cons ?_; rintro _ rfl
                  refine end_cons ?_; rintro _ rfl
                  refine end_cons ?_; rintro _ rfl
                  refine end_cons ?_; rintro _ rfl
                  refine end_cons ?_; rintro _ rfl
                  refine end_cons ?_; rintro _ rfl
                  refine end_cons ?_; rintro _ rfl
                  refine end_cons ?_; rintro _ rfl
                  refine end_cons ?_; rintro _ rfl
                  refine end_cons ?_; rintro _ rfl
                  refine end_cons ?_; rintro _ rfl
                  refine end_cons ?_; rintro _ rfl
                  refine end_cons ?_; rintro _ rfl
                  refine end_cons ?_; rintro _ rfl
                  refine end_cons ?_; rintro _ ⟨b47, rfl, y47_0, y47_1, y47_2⟩
                  refine end_cons ?_; rintro _ rfl
                  refine end_cons ?_; rintro _ rfl
                  refine end_cons ?_; rintro _ rfl
                  refine end_cons ?_; rintro _ rfl
                  refine end_cons ?_; rintro _ rfl
                  refine end_cons ?_; rintro _ rfl
                  refine end_cons ?_; rintro _ ⟨b54, rfl, z0⟩
                  refine end_cons ?_; rintro _ rfl
                  refine end_cons ?_; rintro _ rfl
                  refine end_cons ?_; rintro _ rfl
                  refine end_nil ?_
                  simp only [List.setIfInBounds_toArray, List.set_cons_succ, List.set_cons_zero, Bool.not_false, Bool.not_true, Bool.true_or, Bool.or_true, Bool.false_or, Bool.or_false]
                  go_wp2
                  go_ret
                  exact ⟨by rw [E.out]; rfl, (by repeat' (first | exact Below.refl _ _ | assumption | exact And.left (by assumption) | refine Below.drew ?_ | refine below_drewN ?_ _ | refine Below.setCell ?_ (by first | (simp; done) | (simp; omega) | omega) _ | refine Below.alloc ?_ (by first | (simp; done) | (simp; omega) | omega) _ | refine after (by assumption) (by first | (simp; done) | (simp; omega) | omega) ?_))⟩
            · rw [show within3B q.mj q.mr q.mu 1 256 = false by rw [Bool.eq_false_iff]; exact fun z => h3 ((within3_iff _ _ _ _ _).1 z)] at HW3
              have E := Lib.hid (HF.out fun z => h3 ⟨z.2.2.1, z.2.2.2.1, z.2.2.2.2.1⟩)
              clear h1 h2 h3
              refine region_mono (qSp g wr.heap.size pa s.parts.length s.pc q s.users true true false true) [22, 23, 24, 25, 26, 27, 28, 29, 30, 31, 32, 33, 34, 35, 36, 37, 38, 39, 40, 41, 42, 43, 44, 45, 46, 47, 48, 49, 50, 51, 52, 53, 54, 55, 56, 57] (by kernel_rfl) (by kernel_rfl) (by kernel_rfl) (by kernel_rfl) (stables_cons (Sp.c_stable _ _) (stables_cons (Sp.c_stable _ _) (stables_cons (Sp.c_stable _ _) (stables_cons (Sp.c_stable _ _) (stables_cons (Sp.c_stable _ _) (stables_cons (Sp.c_stable _ _) (stables_cons (Sp.c_stable _ _) (stables_cons (Sp.c_stable _ _) (stables_cons (Sp.c_stable _ _) (stables_cons (Sp.g_stable _ _ _) (stables_cons (Sp.g_stable _ _ _) (stables_cons (Sp.g_stable _ _ _) (stables_cons (Sp.g_stable _ _ _) (stables_cons (Sp.g_stable _ _ _) (stables_cons (Sp.g_stable _ _ _) (stables_cons (Sp.g_stable _ _ _) (stables_cons (Sp.g_stable _ _ _) (stables_cons (Sp.c_stable _ _) (stables_cons (Sp.c_stable _ _) (stables_cons (Sp.g_stable _ _ _) (stables_cons (Sp.g_stable _ _ _) (stables_cons (Sp.g_stable _ _ _) (stables_cons (Sp.g_stable _ _ _) (stables_cons (Sp.g_stable _ _ _) (stables_cons (Sp.g_stable _ _ _) (stables_cons (Sp.m_stable _ _ _ (fun v w w' ⟨b', e, y0, y1, y2⟩ hbw => ⟨b', e, carry hbw y0, carry hbw y1, carry hbw y2⟩)) (stables_cons (Sp.g_stable _ _ _) (stables_cons (Sp.g_stable _ _ _) (stables_cons (Sp.c_stable _ _) (stables_cons (Sp.c_stable _ _) (stables_cons (Sp.g_stable _ _ _) (stables_cons (Sp.g_stable _ _ _) (stables_cons (Sp.m_stable _ _ _ (fun v w w' ⟨b', e, y0⟩ hbw => ⟨b', e, carry hbw y0⟩)) (stables_cons (Sp.g_stable _ _ _) (stables_cons (Sp.g_stable _ _ _) (stables_cons (Sp.c_stable _ _) (trivial))))))))))))))))))))))))))))))))))))) ?_ ?_
              · intro am wm L hbm hbase hbase2
                have s0 : am.tmps.getD 0 undef = .pointer (some ⟨g, 0, none⟩) := (hbase 0 rfl).trans (by simp only [Array.getD_eq_getD_getElem?, List.getElem?_toArray, List.getElem?_cons_succ, List.getElem?_cons_zero, Option.getD_some])
                have s4 : am.tmps.getD 4 undef = .pointer (some ⟨wr.heap.size, 0, none⟩) := (hbase 4 rfl).trans (by simp only [Array.getD_eq_getD_getElem?, List.getElem?_toArray, List.getElem?_cons_succ, List.getElem?_cons_zero, Option.getD_some])
                clear hbase hbase2
                have m1 := carry hbm e1
                have m3 := carry hbm e3
                have n0 := carry hbm k0
                have n1 := carry hbm k1
                have n2 := carry hbm k2
                have n3 := carry hbm k3
                have n4 := carry hbm k4
                have n5 := carry hbm k5
                refine steps_cons (fun hn hl => ?_) fun H0 => ?_
                · skip
                  clear hn hl 
                  refine stepC (wanted_free rfl) fun K hK => ?_
                  go_simp
                  exact hK _ (Below.refl _ _)
                refine steps_cons (fun hn hl => ?_) fun H1 => ?_
                · skip
                  have h22 := Sp.of_c (H0 (hn 0 (show 0 ∈ [0] from .head _)))
                  clear hn hl H0
                  refine stepC (wanted_free rfl) fun K hK => ?_
                  go_simp
                  exact hK _ (Below.refl _ _)
                refine steps_cons (fun hn hl => ?_) fun H2 => ?_
                · skip
                  have h23 := Sp.of_c (H1 (hn 1 (show 1 ∈ [1] from .head _)))
                  clear hn hl H0 H1
                  refine stepC (wanted_free rfl) fun K hK => ?_
                  go_simp
                  exact hK _ (Below.refl _ _)
                refine steps_cons (fun hn hl => ?_) fun H3 => ?_
                · skip
                  have h24 := Sp.of_c (H2 (hn 2 (show 2 ∈ [2] from .head _)))
                  clear hn hl H0 H1 H2
                  refine stepC (wanted_free rfl) fun K hK => ?_
                  go_simp
                  exact hK _ (Below.refl _ _)
                refine steps_cons (fun hn hl => ?_) fun H4 => ?_
                · skip
                  clear hn hl H0 H1 H2 H3
                  refine stepC (wanted_free rfl) fun K hK => ?_
                  go_simp
                  exact hK _ (Below.refl _ _)
                refine steps_cons (fun hn hl => ?_) fun H5 => ?_
                · skip
                  have h26 := Sp.of_c (H4 (hn 4 (show 4 ∈ [4] from .head _)))
                  clear hn hl H0 H1 H2 H3 H4
                  refine stepC (wanted_free rfl) fun K hK => ?_
                  go_simp
                  exact hK _ (Below.refl _ _)
                refine steps_cons (fun hn hl => ?_) fun H6 => ?_
                · skip
                  have h25 := Sp.of_c (H3 (hn 3 (show 3 ∈ [3, 5] from .head _)))
                  have h27 := Sp.of_c (H5 (hn 5 (show 5 ∈ [3, 5] from .tail _ (.head _))))
                  clear hn hl H0 H1 H2 H3 H4 H5
                  refine stepC (wanted_free rfl) fun K hK => ?_
                  go_simp
                  first
                    | ((with_reducible refine (HH.out _).mono ?_); rintro e w6 ⟨rfl, rfl⟩; exact hK _ (Below.refl _ _))
                    | ((with_reducible refine (HRI.out _ (SlAt.later HS4.out hbm)).mono ?_); rintro e w6 ⟨rfl, rfl⟩; exact hK _ (Below.refl _ _))
                    | ((with_reducible refine (HW3.out _ _ y0 y1 y2).mono ?_); rintro e w6 ⟨rfl, rfl⟩; exact hK _ (Below.refl _ _))
                    | ((with_reducible refine (HW1.out _ _ z0).mono ?_); rintro e w6 ⟨rfl, rfl⟩; exact hK _ (Below.refl _ _))
                refine steps_cons (fun hn hl => ?_) fun H7 => ?_
                · skip
                  have h28 := Sp.of_c (H6 (hn 6 (show 6 ∈ [6] from .head _)))
                  clear hn hl H0 H1 H2 H3 H4 H5 H6
                  refine stepC (wanted_free rfl) fun K hK => ?_
                  go_simp
                  exact hK _ (Below.refl _ _)
                refine steps_cons (fun hn hl => ?_) fun H8 => ?_
                · skip
                  have h29 := Sp.of_c (H7 (hn 7 (show 7 ∈ [7] from .head _)))
                  clear hn hl H0 H1 H2 H3 H4 H5 H6 H7
                  refine stepC (wanted_free rfl) fun K hK => ?_
                  go_simp
                  exact hK _ (Below.refl _ _)
                refine steps_cons (fun hn hl => ?_) fun H9 => ?_
                · skip
                  have h30 := Sp.of_c (H8 (hn 8 (show 8 ∈ [8] from .head _)))
                  clear hn hl H0 H1 H2 H3 H4 H5 H6 H7 H8
                  refine stepC (wanted_guard rfl rfl h30 rfl) fun K hK => ?_
                  go_simp
                  exact hK _ (Below.refl _ _)
                refine steps_cons (fun hn hl => ?_) fun H10 => ?_
                · skip
                  have h31 := Sp.of_g (H9 (hn 9 (show 9 ∈ [9, 8] from .head _))) rfl
                  have h30 := Sp.of_c (H8 (hn 8 (show 8 ∈ [9, 8] from .tail _ (.head _))))
                  clear hn hl H0 H1 H2 H3 H4 H5 H6 H7 H8 H9
                  refine stepC (wanted_guard rfl rfl h30 rfl) fun K hK => ?_
                  go_simp
                  exact hK _ (Below.refl _ _)
                refine steps_cons (fun hn hl => ?_) fun H11 => ?_
                · skip
                  have h30 := Sp.of_c (H8 (hn 8 (show 8 ∈ [8] from .head _)))
                  clear hn hl H0 H1 H2 H3 H4 H5 H6 H7 H8 H9 H10
                  refine stepC (wanted_guard rfl rfl h30 rfl) fun K hK => ?_
                  go_simp
                  exact hK _ (Below.refl _ _)
                refine steps_cons (fun hn hl => ?_) fun H12 => ?_
                · skip
                  have h33 := Sp.of_g (H11 (hn 11 (show 11 ∈ [11, 8] from .head _))) rfl
                  have h30 := Sp.of_c (H8 (hn 8 (show 8 ∈ [11, 8] from .tail _ (.head _))))
                  clear hn hl H0 H1 H2 H3 H4 H5 H6 H7 H8 H9 H10 H11
                  refine stepC (wanted_guard rfl rfl h30 rfl) fun K hK => ?_
                  go_simp
                  exact hK _ (Below.refl _ _)
                refine steps_cons (fun hn hl => ?_) fun H13 => ?_
                · skip
                  have h34 := Sp.of_g (H12 (hn 12 (show 12 ∈ [12, 8] from .head _))) rfl
                  have h30 := Sp.of_c (H8 (hn 8 (show 8 ∈ [12, 8] from .tail _ (.head _))))
                  clear hn hl H0 H1 H2 H3 H4 H5 H6 H7 H8 H9 H10 H11 H12
                  refine stepC (wanted_guard rfl rfl h30 rfl) fun K hK => ?_
                  go_simp
                  exact hK _ (Below.refl _ _)
                refine steps_cons (fun hn hl => ?_) fun H14 => ?_
                · skip
                  have h35 := Sp.of_g (H13 (hn 13 (show 13 ∈ [13, 8] from .head _))) rfl
                  have h30 := Sp.of_c (H8 (hn 8 (show 8 ∈ [13, 8] from .tail _ (.head _))))
                  clear hn hl H0 H1 H2 H3 H4 H5 H6 H7 H8 H9 H10 H11 H12 H13
                  refine stepC (wanted_guard rfl rfl h30 rfl) fun K hK => ?_
                  go_simp
                  exact hK _ (Below.refl _ _)
                refine steps_cons (fun hn hl => ?_) fun H15 => ?_
                · skip
                  have h32 := Sp.of_g (H10 (hn 10 (show 10 ∈ [10, 14, 8] from .head _))) rfl
                  have h36 := Sp.of_g (H14 (hn 14 (show 14 ∈ [10, 14, 8] from .tail _ (.head _)))) rfl
                  have h30 := Sp.of_c (H8 (hn 8 (show 8 ∈ [10, 14, 8] from .tail _ (.tail _ (.head _)))))
                  clear hn hl H0 H1 H2 H3 H4 H5 H6 H7 H8 H9 H10 H11 H12 H13 H14
                  refine stepC (wanted_guard rfl rfl h30 rfl) fun K hK => ?_
                  go_simp
                  first
                    | ((with_reducible refine (HH.out _).mono ?_); rintro e w6 ⟨rfl, rfl⟩; exact hK _ (Below.refl _ _))
                    | ((with_reducible refine (HRI.out _ (SlAt.later HS4.out hbm)).mono ?_); rintro e w6 ⟨rfl, rfl⟩; exact hK _ (Below.refl _ _))
                    | ((with_reducible refine (HW3.out _ _ y0 y1 y2).mono ?_); rintro e w6 ⟨rfl, rfl⟩; exact hK _ (Below.refl _ _))
                    | ((with_reducible refine (HW1.out _ _ z0).mono ?_); rintro e w6 ⟨rfl, rfl⟩; exact hK _ (Below.refl _ _))
                refine steps_cons (fun hn hl => ?_) fun H16 => ?_
                · skip
                  have h37 := Sp.of_g (H15 (hn 15 (show 15 ∈ [15, 8] from .head _))) rfl
                  have h30 := Sp.of_c (H8 (hn 8 (show 8 ∈ [15, 8] from .tail _ (.head _))))
                  clear hn hl H0 H1 H2 H3 H4 H5 H6 H7 H8 H9 H10 H11 H12 H13 H14 H15
                  refine stepC (wanted_guard rfl rfl h30 rfl) fun K hK => ?_
                  go_simp
                  exact hK _ (Below.refl _ _)
                refine steps_cons (fun hn hl => ?_) fun H17 => ?_
                · skip
                  have h30 := Sp.of_c (H8 (hn 8 (show 8 ∈ [8, 16] from .head _)))
                  have h38 := Sp.of_g (H16 (hn 16 (show 16 ∈ [8, 16] from .tail _ (.head _)))) rfl
                  clear hn hl H0 H1 H2 H3 H4 H5 H6 H7 H8 H9 H10 H11 H12 H13 H14 H15 H16
                  refine stepC (wanted_free rfl) fun K hK => ?_
                  go_simp
                  exact hK _ (Below.refl _ _)
                refine steps_cons (fun hn hl => ?_) fun H18 => ?_
                · skip
                  have h39 := Sp.of_c (H17 (hn 17 (show 17 ∈ [17] from .head _)))
                  clear hn hl H0 H1 H2 H3 H4 H5 H6 H7 H8 H9 H10 H11 H12 H13 H14 H15 H16 H17
                  refine stepC (wanted_free rfl) fun K hK => ?_
                  go_simp
                  exact hK _ (Below.refl _ _)
                refine steps_cons (fun hn hl => ?_) fun H19 => ?_
                · skip
                  have h40 := Sp.of_c (H18 (hn 18 (show 18 ∈ [18] from .head _)))
                  clear hn hl H0 H1 H2 H3 H4 H5 H6 H7 H8 H9 H10 H11 H12 H13 H14 H15 H16 H17 H18
                  refine stepC (wanted_guard rfl rfl h40 rfl) fun K hK => ?_
                  go_simp
                  exact hK _ (Below.refl _ _)
                refine steps_cons (fun hn hl => ?_) fun H20 => ?_
                · skip
                  have h41 := Sp.of_g (H19 (hn 19 (show 19 ∈ [19, 18] from .head _))) rfl
                  have h40 := Sp.of_c (H18 (hn 18 (show 18 ∈ [19, 18] from .tail _ (.head _))))
                  clear hn hl H0 H1 H2 H3 H4 H5 H6 H7 H8 H9 H10 H11 H12 H13 H14 H15 H16 H17 H18 H19
                  refine stepC (wanted_guard rfl rfl h40 rfl) fun K hK => ?_
                  go_simp
                  exact hK _ (Below.refl _ _)
                refine steps_cons (fun hn hl => ?_) fun H21 => ?_
                · skip
                  have h40 := Sp.of_c (H18 (hn 18 (show 18 ∈ [18] from .head _)))
                  clear hn hl H0 H1 H2 H3 H4 H5 H6 H7 H8 H9 H10 H11 H12 H13 H14 H15 H16 H17 H18 H19 H20
                  refine stepC (wanted_guard rfl rfl h40 rfl) fun K hK => ?_
                  go_simp
                  exact hK _ (Below.refl _ _)
                refine steps_cons (fun hn hl => ?_) fun H22 => ?_
                · skip
                  have h43 := Sp.of_g (H21 (hn 21 (show 21 ∈ [21, 18] from .head _))) rfl
                  have h40 := Sp.of_c (H18 (hn 18 (show 18 ∈ [21, 18] from .tail _ (.head _))))
                  clear hn hl H0 H1 H2 H3 H4 H5 H6 H7 H8 H9 H10 H11 H12 H13 H14 H15 H16 H17 H18 H19 H20 H21
                  refine stepC (wanted_guard rfl rfl h40 rfl) fun K hK => ?_
                  go_simp
                  exact hK _ (Below.refl _ _)
                refine steps_cons (fun hn hl => ?_) fun H23 => ?_
                · skip
                  have h40 := Sp.of_c (H18 (hn 18 (show 18 ∈ [18] from .head _)))
                  clear hn hl H0 H1 H2 H3 H4 H5 H6 H7 H8 H9 H10 H11 H12 H13 H14 H15 H16 H17 H18 H19 H20 H21 H22
                  refine stepC (wanted_guard rfl rfl h40 rfl) fun K hK => ?_
                  go_simp
                  exact hK _ (Below.refl _ _)
                refine steps_cons (fun hn hl => ?_) fun H24 => ?_
                · skip
                  have h45 := Sp.of_g (H23 (hn 23 (show 23 ∈ [23, 18] from .head _))) rfl
                  have h40 := Sp.of_c (H18 (hn 18 (show 18 ∈ [23, 18] from .tail _ (.head _))))
                  clear hn hl H0 H1 H2 H3 H4 H5 H6 H7 H8 H9 H10 H11 H12 H13 H14 H15 H16 H17 H18 H19 H20 H21 H22 H23
                  refine stepC (wanted_guard rfl rfl h40 rfl) fun K hK => ?_
                  go_simp
                  exact hK _ (Below.refl _ _)
                refine steps_cons (fun hn hl => ?_) fun H25 => ?_
                · skip
                  have h42 := Sp.of_g (H20 (hn 20 (show 20 ∈ [20, 22, 24, 18] from .head _))) rfl
                  have h44 := Sp.of_g (H22 (hn 22 (show 22 ∈ [20, 22, 24, 18] from .tail _ (.head _)))) rfl
                  have h46 := Sp.of_g (H24 (hn 24 (show 24 ∈ [20, 22, 24, 18] from .tail _ (.tail _ (.head _))))) rfl
                  have h40 := Sp.of_c (H18 (hn 18 (show 18 ∈ [20, 22, 24, 18] from .tail _ (.tail _ (.tail _ (.head _))))))
                  clear hn hl H0 H1 H2 H3 H4 H5 H6 H7 H8 H9 H10 H11 H12 H13 H14 H15 H16 H17 H18 H19 H20 H21 H22 H23 H24
                  refine stepR (wanted_guard rfl rfl h40 rfl) fun K hK => ?_
                  simp only [Array.getD_eq_getD_getElem?] at h42 h44 h46 h40
                  go_simp
                  exact hK _ _ ((Below.refl _ _).alloc (Nat.le_refl _) _) ⟨_, rfl, by simp [go_sem], by simp [go_sem], by simp [go_sem]⟩
                refine steps_cons (fun hn hl => ?_) fun H26 => ?_
                · skip
                  obtain ⟨b, h47, y0, y1, y2⟩ := Sp.of_m (H25 (hn 25 (show 25 ∈ [25, 18] from .head _))) rfl
                  have h40 := Sp.of_c (H18 (hn 18 (show 18 ∈ [25, 18] from .tail _ (.head _))))
                  clear hn hl H0 H1 H2 H3 H4 H5 H6 H7 H8 H9 H10 H11 H12 H13 H14 H15 H16 H17 H18 H19 H20 H21 H22 H23 H24 H25
                  refine stepC (wanted_guard rfl rfl h40 rfl) fun K hK => ?_
                  go_simp
                  first
                    | ((with_reducible refine (HH.out _).mono ?_); rintro e w6 ⟨rfl, rfl⟩; exact hK _ (Below.refl _ _))
                    | ((with_reducible refine (HRI.out _ (SlAt.later HS4.out hbm)).mono ?_); rintro e w6 ⟨rfl, rfl⟩; exact hK _ (Below.refl _ _))
                    | ((with_reducible refine (HW3.out _ _ y0 y1 y2).mono ?_); rintro e w6 ⟨rfl, rfl⟩; exact hK _ (Below.refl _ _))
                    | ((with_reducible refine (HW1.out _ _ z0).mono ?_); rintro e w6 ⟨rfl, rfl⟩; exact hK _ (Below.refl _ _))
                refine steps_cons (fun hn hl => ?_) fun H27 => ?_
                · skip
                  have h48 := Sp.of_g (H26 (hn 26 (show 26 ∈ [26, 18] from .head _))) rfl
                  have h40 := Sp.of_c (H18 (hn 18 (show 18 ∈ [26, 18] from .tail _ (.head _))))
                  clear hn hl H0 H1 H2 H3 H4 H5 H6 H7 H8 H9 H10 H11 H12 H13 H14 H15 H16 H17 H18 H19 H20 H21 H22 H23 H24 H25 H26
                  refine stepC (wanted_guard rfl rfl h40 rfl) fun K hK => ?_
                  go_simp
                  exact hK _ (Below.refl _ _)
                refine steps_cons (fun hn hl => ?_) fun H28 => ?_
                · skip
                  have h40 := Sp.of_c (H18 (hn 18 (show 18 ∈ [18, 27] from .head _)))
                  have h49 := Sp.of_g (H27 (hn 27 (show 27 ∈ [18, 27] from .tail _ (.head _)))) rfl
                  clear hn hl H0 H1 H2 H3 H4 H5 H6 H7 H8 H9 H10 H11 H12 H13 H14 H15 H16 H17 H18 H19 H20 H21 H22 H23 H24 H25 H26 H27
                  refine stepC (wanted_free rfl) fun K hK => ?_
                  go_simp
                  exact hK _ (Below.refl _ _)
                refine steps_cons (fun hn hl => ?_) fun H29 => ?_
                · skip
                  have h50 := Sp.of_c (H28 (hn 28 (show 28 ∈ [28] from .head _)))
                  clear hn hl H0 H1 H2 H3 H4 H5 H6 H7 H8 H9 H10 H11 H12 H13 H14 H15 H16 H17 H18 H19 H20 H21 H22 H23 H24 H25 H26 H27 H28
                  refine stepC (wanted_free rfl) fun K hK => ?_
                  go_simp
                  exact hK _ (Below.refl _ _)
                refine steps_cons (fun hn hl => ?_) fun H30 => ?_
                · skip
                  have h51 := Sp.of_c (H29 (hn 29 (show 29 ∈ [29] from .head _)))
                  clear hn hl H0 H1 H2 H3 H4 H5 H6 H7 H8 H9 H10 H11 H12 H13 H14 H15 H16 H17 H18 H19 H20 H21 H22 H23 H24 H25 H26 H27 H28 H29
                  exact stepN (unwanted_guard rfl rfl h51 rfl)
                refine steps_cons (fun hn hl => ?_) fun H31 => ?_
                · skip
                  have h52 := Sp.of_off (H30 (hn 30 (show 30 ∈ [30, 29] from .head _))) rfl
                  have h51 := Sp.of_c (H29 (hn 29 (show 29 ∈ [30, 29] from .tail _ (.head _))))
                  clear hn hl H0 H1 H2 H3 H4 H5 H6 H7 H8 H9 H10 H11 H12 H13 H14 H15 H16 H17 H18 H19 H20 H21 H22 H23 H24 H25 H26 H27 H28 H29 H30
                  exact stepN (unwanted_guard rfl rfl h51 rfl)
                refine steps_cons (fun hn hl => ?_) fun H32 => ?_
                · skip
                  have h53 := Sp.of_off (H31 (hn 31 (show 31 ∈ [31, 29] from .head _))) rfl
                  have h51 := Sp.of_c (H29 (hn 29 (show 29 ∈ [31, 29] from .tail _ (.head _))))
                  clear hn hl H0 H1 H2 H3 H4 H5 H6 H7 H8 H9 H10 H11 H12 H13 H14 H15 H16 H17 H18 H19 H20 H21 H22 H23 H24 H25 H26 H27 H28 H29 H30 H31
                  exact stepN (unwanted_guard rfl rfl h51 rfl)
                refine steps_cons (fun hn hl => ?_) fun H33 => ?_
                · skip
                  have h54 := Sp.of_moff (H32 (hn 32 (show 32 ∈ [32, 29] from .head _))) rfl
                  have h51 := Sp.of_c (H29 (hn 29 (show 29 ∈ [32, 29] from .tail _ (.head _))))
                  clear hn hl H0 H1 H2 H3 H4 H5 H6 H7 H8 H9 H10 H11 H12 H13 H14 H15 H16 H17 H18 H19 H20 H21 H22 H23 H24 H25 H26 H27 H28 H29 H30 H31 H32
                  exact stepN (unwanted_guard rfl rfl h51 rfl)
                refine steps_cons (fun hn hl => ?_) fun H34 => ?_
                · skip
                  have h55 := Sp.of_off (H33 (hn 33 (show 33 ∈ [33, 29] from .head _))) rfl
                  have h51 := Sp.of_c (H29 (hn 29 (show 29 ∈ [33, 29] from .tail _ (.head _))))
                  clear hn hl H0 H1 H2 H3 H4 H5 H6 H7 H8 H9 H10 H11 H12 H13 H14 H15 H16 H17 H18 H19 H20 H21 H22 H23 H24 H25 H26 H27 H28 H29 H30 H31 H32 H33
                  exact stepN (unwanted_guard rfl rfl h51 rfl)
                refine steps_cons (fun hn hl => ?_) fun H35 => ?_
                · skip
                  have h51 := Sp.of_c (H29 (hn 29 (show 29 ∈ [29, 34] from .head _)))
                  have h56 := Sp.of_off (H34 (hn 34 (show 34 ∈ [29, 34] from .tail _ (.head _)))) rfl
                  clear hn hl H0 H1 H2 H3 H4 H5 H6 H7 H8 H9 H10 H11 H12 H13 H14 H15 H16 H17 H18 H19 H20 H21 H22 H23 H24 H25 H26 H27 H28 H29 H30 H31 H32 H33 H34
                  refine stepC (wanted_free rfl) fun K hK => ?_
                  go_simp
                  exact hK _ (Below.refl _ _)
                exact trivial
              · intro w5 hb5
                have hz5 := hb5.size
                refine end_cons ?_; rintro _ rfl
                refine end_cons ?_; rintro _ rfl
                refine end_cons ?_; rintro _ rfl
                refine end_cons ?_; rintro _ rfl
                refine end_cons ?_; rintro _ rfl
                refine end_cons ?_; rintro _ rfl
                refine end_cons ?_; rintro _ rfl
                refine end_cons ?_; rintro _ rfl
                refine end_cons ?_; rintro _ rfl
                refine end_cons ?_; rintro _ rfl
                refine end_cons ?_; rintro _ rfl
                refine end_cons ?_; rintro _ rfl
                refine end_cons ?_; rintro _ rfl
                refine end_cons ?_; rintro _ rfl
                refine end_cons ?_; rintro _ rfl
                refine end_cons ?_; rintro _ rfl
                refine end_cons ?_; rintro _ rfl
                refine end_cons ?_; rintro _ rfl
                refine end_cons ?_; rintro _ rfl
                refine end_cons ?_; rintro _ rfl
                refine end_cons ?_; rintro _ rfl
                refine end_cons ?_; rintro _ rfl
                refine end_cons ?_; rintro _ rfl
                refine end_cons ?_; rintro _ rfl
                refine end_cons ?_; rintro _ rfl
                refine end_cons ?_; rintro _ ⟨b47, rfl, y47_0, y47_1, y47_2⟩
                refine end_cons ?_; rintro _ rfl
                refine end_cons ?_; rintro _ rfl
                refine end_cons ?_; rintro _ rfl
                refine end_cons ?_; rintro _ rfl
                refine end_cons ?_; rintro _ rfl
                refine end_cons ?_; rintro _ rfl
                refine end_cons ?_; rintro _ rfl
                refine end_cons ?_; rintro _ rfl
                refine end_cons ?_; rintro _ rfl
                refine end_cons ?_; rintro _ rfl
                refine end_nil ?_
                simp only [List.setIfInBounds_toArray, List.set_cons_succ, List.set_cons_zero, Bool.not_false, Bool.not_true, Bool.true_or, Bool.or_true, Bool.false_or, Bool.or_false]
                go_wp2
                go_ret
                exact ⟨by rw [E.out]; rfl, (by repeat' (first | exact Below.refl _ _ | assumption | exact And.left (by assumption) | refine Below.drew ?_ | refine below_drewN ?_ _ | refine Below.setCell ?_ (by first | (simp; done) | (simp; omega) | omega) _ | refine Below.alloc ?_ (by first | (simp; done) | (simp; omega) | omega) _ | refine after (by assumption) (by first | (simp; done) | (simp; omega) | omega) ?_))⟩
          · rw [show riseB q.users.l s.users = false from decide_eq_false h2] at HRI
            have E := Lib.hid (HF.out fun z => h2 z.2.1)
            clear h1 h2
            refine region_mono (qSp g wr.heap.size pa s.parts.length s.pc q s.users true false true true) [22, 23, 24, 25, 26, 27, 28, 29, 30, 31, 32, 33, 34, 35, 36, 37, 38, 39, 40, 41, 42, 43, 44, 45, 46, 47, 48, 49, 50, 51, 52, 53, 54, 55, 56, 57] (by kernel_rfl) (by kernel_rfl) (by kernel_rfl) (by kernel_rfl) (stables_cons (Sp.c_stable _ _) (stables_cons (Sp.c_stable _ _) (stables_cons (Sp.c_stable _ _) (stables_cons (Sp.c_stable _ _) (stables_cons (Sp.c_stable _ _) (stables_cons (Sp.c_stable _ _) (stables_cons (Sp.c_stable _ _) (stables_cons (Sp.c_stable _ _) (stables_cons (Sp.c_stable _ _) (stables_cons (Sp.g_stable _ _ _) (stables_cons (Sp.g_stable _ _ _) (stables_cons (Sp.g_stable _ _ _) (stables_cons (Sp.g_stable _ _ _) (stables_cons (Sp.g_stable _ _ _) (stables_cons (Sp.g_stable _ _ _) (stables_cons (Sp.g_stable _ _ _) (stables_cons (Sp.g_stable _ _ _) (stables_cons (Sp.c_stable _ _) (stables_cons (Sp.c_stable _ _) (stables_cons (Sp.g_stable _ _ _) (stables_cons (Sp.g_stable _ _ _) (stables_cons (Sp.g_stable _ _ _) (stables_cons (Sp.g_stable _ _ _) (stables_cons (Sp.g_stable _ _ _) (stables_cons (Sp.g_stable _ _ _) (stables_cons (Sp.m_stable _ _ _ (fun v w w' ⟨b', e, y0, y1, y2⟩ hbw => ⟨b', e, carry hbw y0, carry hbw y1, carry hbw y2⟩)) (stables_cons (Sp.g_stable _ _ _) (stables_cons (Sp.g_stable _ _ _) (stables_cons (Sp.c_stable _ _) (stables_cons (Sp.c_stable _ _) (stables_cons (Sp.g_stable _ _ _) (stables_cons (Sp.g_stable _ _ _) (stables_cons (Sp.m_stable _ _ _ (fun v w w' ⟨b', e, y0⟩ hbw => ⟨b', e, carry hbw y0⟩)) (stables_cons (Sp.g_stable _ _ _) (stables_cons (Sp.g_stable _ _ _) (stables_cons (Sp.c_stable _ _) (trivial))))))))))))))))))))))))))))))))))))) ?_ ?_
            · intro am wm L hbm hbase hbase2
              have s0 : am.tmps.getD 0 undef = .pointer (some ⟨g, 0, none⟩) := (hbase 0 rfl).trans (by simp only [Array.getD_eq_getD_getElem?, List.getElem?_toArray, List.getElem?_cons_succ, List.getElem?_cons_zero, Option.getD_some])
              have s4 : am.tmps.getD 4 undef = .pointer (some ⟨wr.heap.size, 0, none⟩) := (hbase 4 rfl).trans (by simp only [Array.getD_eq_getD_getElem?, List.getElem?_toArray, List.getElem?_cons_succ, List.getElem?_cons_zero, Option.getD_some])
              clear hbase hbase2
              have m1 := carry hbm e1
              have m3 := carry hbm e3
              have n0 := carry hbm k0
              have n1 := carry hbm k1
              have n2 := carry hbm k2
              have n3 := carry hbm k3
              have n4 := carry hbm k4
              have n5 := carry hbm k5
              refine steps_cons (fun hn hl => ?_) fun H0 => ?_
              · skip
                clear hn hl 
                refine stepC (wanted_free rfl) fun K hK => ?_
                go_simp
                exact hK _ (Below.refl _ _)
              refine steps_cons (fun hn hl => ?_) fun H1 => ?_
              · skip
                have h22 := Sp.of_c (H0 (hn 0 (show 0 ∈ [0] from .head _)))
                clear hn hl H0
                refine stepC (wanted_free rfl) fun K hK => ?_
                go_simp
                exact hK _ (Below.refl _ _)
              refine steps_cons (fun hn hl => ?_) fun H2 => ?_
              · skip
                have h23 := Sp.of_c (H1 (hn 1 (show 1 ∈ [1] from .head _)))
                clear hn hl H0 H1
                refine stepC (wanted_free rfl) fun K hK => ?_
                go_simp
                exact hK _ (Below.refl _ _)
              refine steps_cons (fun hn hl => ?_) fun H3 => ?_
              · skip
                have h24 := Sp.of_c (H2 (hn 2 (show 2 ∈ [2] from .head _)))
                clear hn hl H0 H1 H2
                refine stepC (wanted_free rfl) fun K hK => ?_
                go_simp
                exact hK _ (Below.refl _ _)
              refine steps_cons (fun hn hl => ?_) fun H4 => ?_
              · skip
                clear hn hl H0 H1 H2 H3
                refine stepC (wanted_free rfl) fun K hK => ?_
                go_simp
                exact hK _ (Below.refl _ _)
              refine steps_cons (fun hn hl => ?_) fun H5 => ?_
              · skip
                have h26 := Sp.of_c (H4 (hn 4 (show 4 ∈ [4] from .head _)))
                clear hn hl H0 H1 H2 H3 H4
                refine stepC (wanted_free rfl) fun K hK => ?_
                go_simp
                exact hK _ (Below.refl _ _)
              refine steps_cons (fun hn hl => ?_) fun H6 => ?_
              · skip
                have h25 := Sp.of_c (H3 (hn 3 (show 3 ∈ [3, 5] from .head _)))
                have h27 := Sp.of_c (H5 (hn 5 (show 5 ∈ [3, 5] from .tail _ (.head _))))
                clear hn hl H0 H1 H2 H3 H4 H5
                refine stepC (wanted_free rfl) fun K hK => ?_
                go_simp
                first
                  | ((with_reducible refine (HH.out _).mono ?_); rintro e w6 ⟨rfl, rfl⟩; exact hK _ (Below.refl _ _))
                  | ((with_reducible refine (HRI.out _ (SlAt.later HS4.out hbm)).mono ?_); rintro e w6 ⟨rfl, rfl⟩; exact hK _ (Below.refl _ _))
                  | ((with_reducible refine (HW3.out _ _ y0 y1 y2).mono ?_); rintro e w6 ⟨rfl, rfl⟩; exact hK _ (Below.refl _ _))
                  | ((with_reducible refine (HW1.out _ _ z0).mono ?_); rintro e w6 ⟨rfl, rfl⟩; exact hK _ (Below.refl _ _))
              refine steps_cons (fun hn hl => ?_) fun H7 => ?_
              · skip
                have h28 := Sp.of_c (H6 (hn 6 (show 6 ∈ [6] from .head _)))
                clear hn hl H0 H1 H2 H3 H4 H5 H6
                refine stepC (wanted_free rfl) fun K hK => ?_
                go_simp
                exact hK _ (Below.refl _ _)
              refine steps_cons (fun hn hl => ?_) fun H8 => ?_
              · skip
                have h29 := Sp.of_c (H7 (hn 7 (show 7 ∈ [7] from .head _)))
                clear hn hl H0 H1 H2 H3 H4 H5 H6 H7
                refine stepC (wanted_free rfl) fun K hK => ?_
                go_simp
                exact hK _ (Below.refl _ _)
              refine steps_cons (fun hn hl => ?_) fun H9 => ?_
              · skip
                have h30 := Sp.of_c (H8 (hn 8 (show 8 ∈ [8] from .head _)))
                clear hn hl H0 H1 H2 H3 H4 H5 H6 H7 H8
                refine stepC (wanted_guard rfl rfl h30 rfl) fun K hK => ?_
                go_simp
                exact hK _ (Below.refl _ _)
              refine steps_cons (fun hn hl => ?_) fun H10 => ?_
              · skip
                have h31 := Sp.of_g (H9 (hn 9 (show 9 ∈ [9, 8] from .head _))) rfl
                have h30 := Sp.of_c (H8 (hn 8 (show 8 ∈ [9, 8] from .tail _ (.head _))))
                clear hn hl H0 H1 H2 H3 H4 H5 H6 H7 H8 H9
                refine stepC (wanted_guard rfl rfl h30 rfl) fun K hK => ?_
                go_simp
                exact hK _ (Below.refl _ _)
              refine steps_cons (fun hn hl => ?_) fun H11 => ?_
              · skip
                have h30 := Sp.of_c (H8 (hn 8 (show 8 ∈ [8] from .head _)))
                clear hn hl H0 H1 H2 H3 H4 H5 H6 H7 H8 H9 H10
                refine stepC (wanted_guard rfl rfl h30 rfl) fun K hK => ?_
                go_simp
                exact hK _ (Below.refl _ _)
              refine steps_cons (fun hn hl => ?_) fun H12 => ?_
              · skip
                have h33 := Sp.of_g (H11 (hn 11 (show 11 ∈ [11, 8] from .head _))) rfl
                have h30 := Sp.of_c (H8 (hn 8 (show 8 ∈ [11, 8] from .tail _ (.head _))))
                clear hn hl H0 H1 H2 H3 H4 H5 H6 H7 H8 H9 H10 H11
                refine stepC (wanted_guard rfl rfl h30 rfl) fun K hK => ?_
                go_simp
                exact hK _ (Below.refl _ _)
              refine steps_cons (fun hn hl => ?_) fun H13 => ?_
              · skip
                have h34 := Sp.of_g (H12 (hn 12 (show 12 ∈ [12, 8] from .head _))) rfl
                have h30 := Sp.of_c (H8 (hn 8 (show 8 ∈ [12, 8] from .tail _ (.head _))))
                clear hn hl H0 H1 H2 H3 H4 H5 H6 H7 H8 H9 H10 H11 H12
                refine stepC (wanted_guard rfl rfl h30 rfl) fun K hK => ?_
                go_simp
                exact hK _ (Below.refl _ _)
              refine steps_cons (fun hn hl => ?_) fun H14 => ?_
              · skip
                have h35 := Sp.of_g (H13 (hn 13 (show 13 ∈ [13, 8] from .head _))) rfl
                have h30 := Sp.of_c (H8 (hn 8 (show 8 ∈ [13, 8] from .tail _ (.head _))))
                clear hn hl H0 H1 H2 H3 H4 H5 H6 H7 H8 H9 H10 H11 H12 H13
                refine stepC (wanted_guard rfl rfl h30 rfl) fun K hK => ?_
                go_simp
                exact hK _ (Below.refl _ _)
              refine steps_cons (fun hn hl => ?_) fun H15 => ?_
              · skip
                have h32 := Sp.of_g (H10 (hn 10 (show 10 ∈ [10, 14, 8] from .head _))) rfl
                have h36 := Sp.of_g (H14 (hn 14 (show 14 ∈ [10, 14, 8] from .tail _ (.head _)))) rfl
                have h30 := Sp.of_c (H8 (hn 8 (show 8 ∈ [10, 14, 8] from .tail _ (.tail _ (.head _)))))
                clear hn hl H0 H1 H2 H3 H4 H5 H6 H7 H8 H9 H10 H11 H12 H13 H14
                refine stepC (wanted_guard rfl rfl h30 rfl) fun K hK => ?_
                go_simp
                first
                  | ((with_reducible refine (HH.out _).mono ?_); rintro e w6 ⟨rfl, rfl⟩; exact hK _ (Below.refl _ _))
                  | ((with_reducible refine (HRI.out _ (SlAt.later HS4.out hbm)).mono ?_); rintro e w6 ⟨rfl, rfl⟩; exact hK _ (Below.refl _ _))
                  | ((with_reducible refine (HW3.out _ _ y0 y1 y2).mono ?_); rintro e w6 ⟨rfl, rfl⟩; exact hK _ (Below.refl _ _))
                  | ((with_reducible refine (HW1.out _ _ z0).mono ?_); rintro e w6 ⟨rfl, rfl⟩; exact hK _ (Below.refl _ _))
              refine steps_cons (fun hn hl => ?_) fun H16 => ?_
              · skip
                have h37 := Sp.of_g (H15 (hn 15 (show 15 ∈ [15, 8] from .head _))) rfl
                have h30 := Sp.of_c (H8 (hn 8 (show 8 ∈ [15, 8] from .tail _ (.head _))))
                clear hn hl H0 H1 H2 H3 H4 H5 H6 H7 H8 H9 H10 H11 H12 H13 H14 H15
                refine stepC (wanted_guard rfl rfl h30 rfl) fun K hK => ?_
                go_simp
                exact hK _ (Below.refl _ _)
              refine steps_cons (fun hn hl => ?_) fun H17 => ?_
              · skip
                have h30 := Sp.of_c (H8 (hn 8 (show 8 ∈ [8, 16] from .head _)))
                have h38 := Sp.of_g (H16 (hn 16 (show 16 ∈ [8, 16] from .tail _ (.head _)))) rfl
                clear hn hl H0 H1 H2 H3 H4 H5 H6 H7 H8 H9 H10 H11 H12 H13 H14 H15 H16
                refine stepC (wanted_free rfl) fun K hK => ?_
                go_simp
                exact hK _ (Below.refl _ _)
              refine steps_cons (fun hn hl => ?_) fun H18 => ?_
              · skip
                have h39 := Sp.of_c (H17 (hn 17 (show 17 ∈ [17] from .head _)))
                clear hn hl H0 H1 H2 H3 H4 H5 H6 H7 H8 H9 H10 H11 H12 H13 H14 H15 H16 H17
                refine stepC (wanted_free rfl) fun K hK => ?_
                go_simp
                exact hK _ (Below.refl _ _)
              refine steps_cons (fun hn hl => ?_) fun H19 => ?_
              · skip
                have h40 := Sp.of_c (H18 (hn 18 (show 18 ∈ [18] from .head _)))
                clear hn hl H0 H1 H2 H3 H4 H5 H6 H7 H8 H9 H10 H11 H12 H13 H14 H15 H16 H17 H18
                exact stepN (unwanted_guard rfl rfl h40 rfl)
              refine steps_cons (fun hn hl => ?_) fun H20 => ?_
              · skip
                have h41 := Sp.of_off (H19 (hn 19 (show 19 ∈ [19, 18] from .head _))) rfl
                have h40 := Sp.of_c (H18 (hn 18 (show 18 ∈ [19, 18] from .tail _ (.head _))))
                clear hn hl H0 H1 H2 H3 H4 H5 H6 H7 H8 H9 H10 H11 H12 H13 H14 H15 H16 H17 H18 H19
                exact stepN (unwanted_guard rfl rfl h40 rfl)
              refine steps_cons (fun hn hl => ?_) fun H21 => ?_
              · skip
                have h40 := Sp.of_c (H18 (hn 18 (show 18 ∈ [18] from .head _)))
                clear hn hl H0 H1 H2 H3 H4 H5 H6 H7 H8 H9 H10 H11 H12 H13 H14 H15 H16 H17 H18 H19 H20
                exact stepN (unwanted_guard rfl rfl h40 rfl)
              refine steps_cons (fun hn hl => ?_) fun H22 => ?_
              · skip
                have h43 := Sp.of_off (H21 (hn 21 (show 21 ∈ [21, 18] from .head _))) rfl
                have h40 := Sp.of_c (H18 (hn 18 (show 18 ∈ [21, 18] from .tail _ (.head _))))
                clear hn hl H0 H1 H2 H3 H4 H5 H6 H7 H8 H9 H10 H11 H12 H13 H14 H15 H16 H17 H18 H19 H20 H21
                exact stepN (unwanted_guard rfl rfl h40 rfl)
              refine steps_cons (fun hn hl => ?_) fun H23 => ?_
              · skip
                have h40 := Sp.of_c (H18 (hn 18 (show 18 ∈ [18] from .head _)))
                clear hn hl H0 H1 H2 H3 H4 H5 H6 H7 H8 H9 H10 H11 H12 H13 H14 H15 H16 H17 H18 H19 H20 H21 H22
                exact stepN (unwanted_guard rfl rfl h40 rfl)
              refine steps_cons (fun hn hl => ?_) fun H24 => ?_
              · skip
                have h45 := Sp.of_off (H23 (hn 23 (show 23 ∈ [23, 18] from .head _))) rfl
                have h40 := Sp.of_c (H18 (hn 18 (show 18 ∈ [23, 18] from .tail _ (.head _))))
                clear hn hl H0 H1 H2 H3 H4 H5 H6 H7 H8 H9 H10 H11 H12 H13 H14 H15 H16 H17 H18 H19 H20 H21 H22 H23
                exact stepN (unwanted_guard rfl rfl h40 rfl)
              refine steps_cons (fun hn hl => ?_) fun H25 => ?_
              · skip
                have h42 := Sp.of_off (H20 (hn 20 (show 20 ∈ [20, 22, 24, 18] from .head _))) rfl
                have h44 := Sp.of_off (H22 (hn 22 (show 22 ∈ [20, 22, 24, 18] from .tail _ (.head _)))) rfl
                have h46 := Sp.of_off (H24 (hn 24 (show 24 ∈ [20, 22, 24, 18] from .tail _ (.tail _ (.head _))))) rfl
                have h40 := Sp.of_c (H18 (hn 18 (show 18 ∈ [20, 22, 24, 18] from .tail _ (.tail _ (.tail _ (.head _))))))
                clear hn hl H0 H1 H2 H3 H4 H5 H6 H7 H8 H9 H10 H11 H12 H13 H14 H15 H16 H17 H18 H19 H20 H21 H22 H23 H24
                exact stepN (unwanted_guard rfl rfl h40 rfl)
              refine steps_cons (fun hn hl => ?_) fun H26 => ?_
              · skip
                have h47 := Sp.of_moff (H25 (hn 25 (show 25 ∈ [25, 18] from .head _))) rfl
                have h40 := Sp.of_c (H18 (hn 18 (show 18 ∈ [25, 18] from .tail _ (.head _))))
                clear hn hl H0 H1 H2 H3 H4 H5 H6 H7 H8 H9 H10 H11 H12 H13 H14 H15 H16 H17 H18 H19 H20 H21 H22 H23 H24 H25
                exact stepN (unwanted_guard rfl rfl h40 rfl)
              refine steps_cons (fun hn hl => ?_) fun H27 => ?_
              · skip
                have h48 := Sp.of_off (H26 (hn 26 (show 26 ∈ [26, 18] from .head _))) rfl
                have h40 := Sp.of_c (H18 (hn 18 (show 18 ∈ [26, 18] from .tail _ (.head _))))
                clear hn hl H0 H1 H2 H3 H4 H5 H6 H7 H8 H9 H10 H11 H12 H13 H14 H15 H16 H17 H18 H19 H20 H21 H22 H23 H24 H25 H26
                exact stepN (unwanted_guard rfl rfl h40 rfl)
              refine steps_cons (fun hn hl => ?_) fun H28 => ?_
              · skip
                have h40 := Sp.of_c (H18 (hn 18 (show 18 ∈ [18, 27] from .head _)))
                have h49 := Sp.of_off (H27 (hn 27 (show 27 ∈ [18, 27] from .tail _ (.head _)))) rfl
                clear hn hl H0 H1 H2 H3 H4 H5 H6 H7 H8 H9 H10 H11 H12 H13 H14 H15 H16 H17 H18 H19 H20 H21 H22 H23 H24 H25 H26 H27
                refine stepC (wanted_free rfl) fun K hK => ?_
                go_simp
                exact hK _ (Below.refl _ _)
              refine steps_cons (fun hn hl => ?_) fun H29 => ?_
              · skip
                have h50 := Sp.of_c (H28 (hn 28 (show 28 ∈ [28] from .head _)))
                clear hn hl H0 H1 H2 H3 H4 H5 H6 H7 H8 H9 H10 H11 H12 H13 H14 H15 H16 H17 H18 H19 H20 H21 H22 H23 H24 H25 H26 H27 H28
                refine stepC (wanted_free rfl) fun K hK => ?_
                go_simp
                exact hK _ (Below.refl _ _)
              refine steps_cons (fun hn hl => ?_) fun H30 => ?_
              · skip
                have h51 := Sp.of_c (H29 (hn 29 (show 29 ∈ [29] from .head _)))
                clear hn hl H0 H1 H2 H3 H4 H5 H6 H7 H8 H9 H10 H11 H12 H13 H14 H15 H16 H17 H18 H19 H20 H21 H22 H23 H24 H25 H26 H27 H28 H29
                exact stepN (unwanted_guard rfl rfl h51 rfl)
              refine steps_cons (fun hn hl => ?_) fun H31 => ?_
              · skip
                have h52 := Sp.of_off (H30 (hn 30 (show 30 ∈ [30, 29] from .head _))) rfl
                have h51 := Sp.of_c (H29 (hn 29 (show 29 ∈ [30, 29] from .tail _ (.head _))))
                clear hn hl H0 H1 H2 H3 H4 H5 H6 H7 H8 H9 H10 H11 H12 H13 H14 H15 H16 H17 H18 H19 H20 H21 H22 H23 H24 H25 H26 H27 H28 H29 H30
                exact stepN (unwanted_guard rfl rfl h51 rfl)
              refine steps_cons (fun hn hl => ?_) fun H32 => ?_
              · skip
                have h53 := Sp.of_off (H31 (hn 31 (show 31 ∈ [31, 29] from .head _))) rfl
                have h51 := Sp.of_c (H29 (hn 29 (show 29 ∈ [31, 29] from .tail _ (.head _))))
                clear hn hl H0 H1 H2 H3 H4 H5 H6 H7 H8 H9 H10 H11 H12 H13 H14 H15 H16 H17 H18 H19 H20 H21 H22 H23 H24 H25 H26 H27 H28 H29 H30 H31
                exact stepN (unwanted_guard rfl rfl h51 rfl)
              refine steps_cons (fun hn hl => ?_) fun H33 => ?_
              · skip
                have h54 := Sp.of_moff (H32 (hn 32 (show 32 ∈ [32, 29] from .head _))) rfl
                have h51 := Sp.of_c (H29 (hn 29 (show 29 ∈ [32, 29] from .tail _ (.head _))))
                clear hn hl H0 H1 H2 H3 H4 H5 H6 H7 H8 H9 H10 H11 H12 H13 H14 H15 H16 H17 H18 H19 H20 H21 H22 H23 H24 H25 H26 H27 H28 H29 H30 H31 H32
                exact stepN (unwanted_guard rfl rfl h51 rfl)
              refine steps_cons (fun hn hl => ?_) fun H34 => ?_
              · skip
                have h55 := Sp.of_off (H33 (hn 33 (show 33 ∈ [33, 29] from .head _))) rfl
                have h51 := Sp.of_c (H29 (hn 29 (show 29 ∈ [33, 29] from .tail _ (.head _))))
                clear hn hl H0 H1 H2 H3 H4 H5 H6 H7 H8 H9 H10 H11 H12 H13 H14 H15 H16 H17 H18 H19 H20 H21 H22 H23 H24 H25 H26 H27 H28 H29 H30 H31 H32 H33
                exact stepN (unwanted_guard rfl rfl h51 rfl)
              refine steps_cons (fun hn hl => ?_) fun H35 => ?_
              · skip
                have h51 := Sp.of_c (H29 (hn 29 (show 29 ∈ [29, 34] from .head _)))
                have h56 := Sp.of_off (H34 (hn 34 (show 34 ∈ [29, 34] from .tail _ (.head _)))) rfl
                clear hn hl H0 H1 H2 H3 H4 H5 H6 H7 H8 H9 H10 H11 H12 H13 H14 H15 H16 H17 H18 H19 H20 H21 H22 H23 H24 H25 H26 H27 H28 H29 H30 H31 H32 H33 H34
                refine stepC (wanted_free rfl) fun K hK => ?_
                go_simp
                exact hK _ (Below.refl _ _)
              exact trivial
            · intro w5 hb5
              have hz5 := hb5.size
              refine end_cons ?_; rintro _ rfl
              refine end_cons ?_; rintro _ rfl
              refine end_cons ?_; rintro _ rfl
              refine end_cons ?_; rintro _ rfl
              refine end_cons ?_; rintro _ rfl
              refine end_cons ?_; rintro _ rfl
              refine end_cons ?_; rintro _ rfl
              refine end_cons ?_; rintro _ rfl
              refine end_cons ?_; rintro _ rfl
              refine end_cons ?_; rintro _ rfl
              refine end_cons ?_; rintro _ rfl
              refine end_cons ?_; rintro _ rfl
              refine end_cons ?_; rintro _ rfl
              refine end_cons ?_; rintro _ rfl
              refine end_cons ?_; rintro _ rfl
              refine end_cons ?_; rintro _ rfl
              refine end_cons ?_; rintro _ rfl
              refine end_cons ?_; rintro _ rfl
              refine end_cons ?_; rintro _ rfl
              refine end_cons ?_; rintro _ rfl
              refine end_cons ?_; rintro _ rfl
              refine end_cons ?_; rintro _ rfl
              refine end_cons ?_; rintro _ rfl
              refine end_cons ?_; rintro _ rfl
              refine end_cons ?_; rintro _ rfl
              refine end_cons ?_; rintro _ rfl
              refine end_cons ?_; rintro _ rfl
              refine end_cons ?_; rintro _ rfl
              refine end_cons ?_; rintro _ rfl
              refine end_cons ?_; rintro _ rfl
              refine end_cons ?_; rintro _ rfl
              refine end_cons ?_; rintro _ rfl
              refine end_cons ?_; rintro _ rfl
              refine end_cons ?_; rintro _ rfl
              refine end_cons ?_; rintro _ rfl
              refine end_cons ?_; rintro _ rfl
              refine end_nil ?_
              simp only [List.setIfInBounds_toArray, List.set_cons_succ, List.set_cons_zero, Bool.not_false, Bool.not_true, Bool.true_or, Bool.or_true, Bool.false_or, Bool.or_false]
              go_wp2
              go_ret
              exact ⟨by rw [E.out]; rfl, (by repeat' (first | exact Below.refl _ _ | assumption | exact And.left (by assumption) | refine Below.drew ?_ | refine below_drewN ?_ _ | refine Below.setCell ?_ (by first | (simp; done) | (simp; omega) | omega) _ | refine Below.alloc ?_ (by first | (simp; done) | (simp; omega) | omega) _ | refine after (by assumption) (by first | (simp; done) | (simp; omega) | omega) ?_))⟩
        · rw [show hasB s.parts.length q.part = false from decide_eq_false h1] at HH
          have E := Lib.hid (HF.out fun z => h1 z.1)
          clear h1
          refine region_mono (qSp g wr.heap.size pa s.parts.length s.pc q s.users false true true true) [22, 23, 24, 25, 26, 27, 28, 29, 30, 31, 32, 33, 34, 35, 36, 37, 38, 39, 40, 41, 42, 43, 44, 45, 46, 47, 48, 49, 50, 51, 52, 53, 54, 55, 56, 57] (by kernel_rfl) (by kernel_rfl) (by kernel_rfl) (by kernel_rfl) (stables_cons (Sp.c_stable _ _) (stables_cons (Sp.c_stable _ _) (stables_cons (Sp.c_stable _ _) (stables_cons (Sp.c_stable _ _) (stables_cons (Sp.c_stable _ _) (stables_cons (Sp.c_stable _ _) (stables_cons (Sp.c_stable _ _) (stables_cons (Sp.c_stable _ _) (stables_cons (Sp.c_stable _ _) (stables_cons (Sp.g_stable _ _ _) (stables_cons (Sp.g_stable _ _ _) (stables_cons (Sp.g_stable _ _ _) (stables_cons (Sp.g_stable _ _ _) (stables_cons (Sp.g_stable _ _ _) (stables_cons (Sp.g_stable _ _ _) (stables_cons (Sp.g_stable _ _ _) (stables_cons (Sp.g_stable _ _ _) (stables_cons (Sp.c_stable _ _) (stables_cons (Sp.c_stable _ _) (stables_cons (Sp.g_stable _ _ _) (stables_cons (Sp.g_stable _ _ _) (stables_cons (Sp.g_stable _ _ _) (stables_cons (Sp.g_stable _ _ _) (stables_cons (Sp.g_stable _ _ _) (stables_cons (Sp.g_stable _ _ _) (stables_cons (Sp.m_stable _ _ _ (fun v w w' ⟨b', e, y0, y1, y2⟩ hbw => ⟨b', e, carry hbw y0, carry hbw y1, carry hbw y2⟩)) (stables_cons (Sp.g_stable _ _ _) (stables_cons (Sp.g_stable _ _ _) (stables_cons (Sp.c_stable _ _) (stables_cons (Sp.c_stable _ _) (stables_cons (Sp.g_stable _ _ _) (stables_cons (Sp.g_stable _ _ _) (stables_cons (Sp.m_stable _ _ _ (fun v w w' ⟨b', e, y0⟩ hbw => ⟨b', e, carry hbw y0⟩)) (stables_cons (Sp.g_stable _ _ _) (stables_cons (Sp.g_stable _ _ _) (stables_cons (Sp.c_stable _ _) (trivial))))))))))))))))))))))))))))))))))))) ?_ ?_
          · intro am wm L hbm hbase hbase2
            have s0 : am.tmps.getD 0 undef = .pointer (some ⟨g, 0, none⟩) := (hbase 0 rfl).trans (by simp only [Array.getD_eq_getD_getElem?, List.getElem?_toArray, List.getElem?_cons_succ, List.getElem?_cons_zero, Option.getD_some])
            have s4 : am.tmps.getD 4 undef = .pointer (some ⟨wr.heap.size, 0, none⟩) := (hbase 4 rfl).trans (by simp only [Array.getD_eq_getD_getElem?, List.getElem?_toArray, List.getElem?_cons_succ, List.getElem?_cons_zero, Option.getD_some])
            clear hbase hbase2
            have m1 := carry hbm e1
            have m3 := carry hbm e3
            have n0 := carry hbm k0
            have n1 := carry hbm k1
            have n2 := carry hbm k2
            have n3 := carry hbm k3
            have n4 := carry hbm k4
            have n5 := carry hbm k5
            refine steps_cons (fun hn hl => ?_) fun H0 => ?_
            · skip
              clear hn hl 
              refine stepC (wanted_free rfl) fun K hK => ?_
              go_simp
              exact hK _ (Below.refl _ _)
            refine steps_cons (fun hn hl => ?_) fun H1 => ?_
            · skip
              have h22 := Sp.of_c (H0 (hn 0 (show 0 ∈ [0] from .head _)))
              clear hn hl H0
              refine stepC (wanted_free rfl) fun K hK => ?_
              go_simp
              exact hK _ (Below.refl _ _)
            refine steps_cons (fun hn hl => ?_) fun H2 => ?_
            · skip
              have h23 := Sp.of_c (H1 (hn 1 (show 1 ∈ [1] from .head _)))
              clear hn hl H0 H1
              refine stepC (wanted_free rfl) fun K hK => ?_
              go_simp
              exact hK _ (Below.refl _ _)
            refine steps_cons (fun hn hl => ?_) fun H3 => ?_
            · skip
              have h24 := Sp.of_c (H2 (hn 2 (show 2 ∈ [2] from .head _)))
              clear hn hl H0 H1 H2
              refine stepC (wanted_free rfl) fun K hK => ?_
              go_simp
              exact hK _ (Below.refl _ _)
            refine steps_cons (fun hn hl => ?_) fun H4 => ?_
            · skip
              clear hn hl H0 H1 H2 H3
              refine stepC (wanted_free rfl) fun K hK => ?_
              go_simp
              exact hK _ (Below.refl _ _)
            refine steps_cons (fun hn hl => ?_) fun H5 => ?_
            · skip
              have h26 := Sp.of_c (H4 (hn 4 (show 4 ∈ [4] from .head _)))
              clear hn hl H0 H1 H2 H3 H4
              refine stepC (wanted_free rfl) fun K hK => ?_
              go_simp
              exact hK _ (Below.refl _ _)
            refine steps_cons (fun hn hl => ?_) fun H6 => ?_
            · skip
              have h25 := Sp.of_c (H3 (hn 3 (show 3 ∈ [3, 5] from .head _)))
              have h27 := Sp.of_c (H5 (hn 5 (show 5 ∈ [3, 5] from .tail _ (.head _))))
              clear hn hl H0 H1 H2 H3 H4 H5
              refine stepC (wanted_free rfl) fun K hK => ?_
              go_simp
              first
                | ((with_reducible refine (HH.out _).mono ?_); rintro e w6 ⟨rfl, rfl⟩; exact hK _ (Below.refl _ _))
                | ((with_reducible refine (HRI.out _ (SlAt.later HS4.out hbm)).mono ?_); rintro e w6 ⟨rfl, rfl⟩; exact hK _ (Below.refl _ _))
                | ((with_reducible refine (HW3.out _ _ y0 y1 y2).mono ?_); rintro e w6 ⟨rfl, rfl⟩; exact hK _ (Below.refl _ _))
                | ((with_reducible refine (HW1.out _ _ z0).mono ?_); rintro e w6 ⟨rfl, rfl⟩; exact hK _ (Below.refl _ _))
            refine steps_cons (fun hn hl => ?_) fun H7 => ?_
            · skip
              have h28 := Sp.of_c (H6 (hn 6 (show 6 ∈ [6] from .head _)))
              clear hn hl H0 H1 H2 H3 H4 H5 H6
              refine stepC (wanted_free rfl) fun K hK => ?_
              go_simp
              exact hK _ (Below.refl _ _)
            refine steps_cons (fun hn hl => ?_) fun H8 => ?_
            · skip
              have h29 := Sp.of_c (H7 (hn 7 (show 7 ∈ [7] from .head _)))
              clear hn hl H0 H1 H2 H3 H4 H5 H6 H7
              refine stepC (wanted_free rfl) fun K hK => ?_
              go_simp
              exact hK _ (Below.refl _ _)
            refine steps_cons (fun hn hl => ?_) fun H9 => ?_
            · skip
              have h30 := Sp.of_c (H8 (hn 8 (show 8 ∈ [8] from .head _)))
              clear hn hl H0 H1 H2 H3 H4 H5 H6 H7 H8
              exact stepN (unwanted_guard rfl rfl h30 rfl)
            refine steps_cons (fun hn hl => ?_) fun H10 => ?_
            · skip
              have h31 := Sp.of_off (H9 (hn 9 (show 9 ∈ [9, 8] from .head _))) rfl
              have h30 := Sp.of_c (H8 (hn 8 (show 8 ∈ [9, 8] from .tail _ (.head _))))
              clear hn hl H0 H1 H2 H3 H4 H5 H6 H7 H8 H9
              exact stepN (unwanted_guard rfl rfl h30 rfl)
            refine steps_cons (fun hn hl => ?_) fun H11 => ?_
            · skip
              have h30 := Sp.of_c (H8 (hn 8 (show 8 ∈ [8] from .head _)))
              clear hn hl H0 H1 H2 H3 H4 H5 H6 H7 H8 H9 H10
              exact stepN (unwanted_guard rfl rfl h30 rfl)
            refine steps_cons (fun hn hl => ?_) fun H12 => ?_
            · skip
              have h33 := Sp.of_off (H11 (hn 11 (show 11 ∈ [11, 8] from .head _))) rfl
              have h30 := Sp.of_c (H8 (hn 8 (show 8 ∈ [11, 8] from .tail _ (.head _))))
              clear hn hl H0 H1 H2 H3 H4 H5 H6 H7 H8 H9 H10 H11
              exact stepN (unwanted_guard rfl rfl h30 rfl)
            refine steps_cons (fun hn hl => ?_) fun H13 => ?_
            · skip
              have h34 := Sp.of_off (H12 (hn 12 (show 12 ∈ [12, 8] from .head _))) rfl
              have h30 := Sp.of_c (H8 (hn 8 (show 8 ∈ [12, 8] from .tail _ (.head _))))
              clear hn hl H0 H1 H2 H3 H4 H5 H6 H7 H8 H9 H10 H11 H12
              exact stepN (unwanted_guard rfl rfl h30 rfl)
            refine steps_cons (fun hn hl => ?_) fun H14 => ?_
            · skip
              have h35 := Sp.of_off (H13 (hn 13 (show 13 ∈ [13, 8] from .head _))) rfl
              have h30 := Sp.of_c (H8 (hn 8 (show 8 ∈ [13, 8] from .tail _ (.head _))))
              clear hn hl H0 H1 H2 H3 H4 H5 H6 H7 H8 H9 H10 H11 H12 H13
              exact stepN (unwanted_guard rfl rfl h30 rfl)
            refine steps_cons (fun hn hl => ?_) fun H15 => ?_
            · skip
              have h32 := Sp.of_off (H10 (hn 10 (show 10 ∈ [10, 14, 8] from .head _))) rfl
              have h36 := Sp.of_off (H14 (hn 14 (show 14 ∈ [10, 14, 8] from .tail _ (.head _)))) rfl
              have h30 := Sp.of_c (H8 (hn 8 (show 8 ∈ [10, 14, 8] from .tail _ (.tail _ (.head _)))))
              clear hn hl H0 H1 H2 H3 H4 H5 H6 H7 H8 H9 H10 H11 H12 H13 H14
              exact stepN (unwanted_guard rfl rfl h30 rfl)
            refine steps_cons (fun hn hl => ?_) fun H16 => ?_
            · skip
              have h37 := Sp.of_off (H15 (hn 15 (show 15 ∈ [15, 8] from .head _))) rfl
              have h30 := Sp.of_c (H8 (hn 8 (show 8 ∈ [15, 8] from .tail _ (.head _))))
              clear hn hl H0 H1 H2 H3 H4 H5 H6 H7 H8 H9 H10 H11 H12 H13 H14 H15
              exact stepN (unwanted_guard rfl rfl h30 rfl)
            refine steps_cons (fun hn hl => ?_) fun H17 => ?_
            · skip
              have h30 := Sp.of_c (H8 (hn 8 (show 8 ∈ [8, 16] from .head _)))
              have h38 := Sp.of_off (H16 (hn 16 (show 16 ∈ [8, 16] from .tail _ (.head _)))) rfl
              clear hn hl H0 H1 H2 H3 H4 H5 H6 H7 H8 H9 H10 H11 H12 H13 H14 H15 H16
              refine stepC (wanted_free rfl) fun K hK => ?_
              go_simp
              exact hK _ (Below.refl _ _)
            refine steps_cons (fun hn hl => ?_) fun H18 => ?_
            · skip
              have h39 := Sp.of_c (H17 (hn 17 (show 17 ∈ [17] from .head _)))
              clear hn hl H0 H1 H2 H3 H4 H5 H6 H7 H8 H9 H10 H11 H12 H13 H14 H15 H16 H17
              refine stepC (wanted_free rfl) fun K hK => ?_
              go_simp
              exact hK _ (Below.refl _ _)
            refine steps_cons (fun hn hl => ?_) fun H19 => ?_
            · skip
              have h40 := Sp.of_c (H18 (hn 18 (show 18 ∈ [18] from .head _)))
              clear hn hl H0 H1 H2 H3 H4 H5 H6 H7 H8 H9 H10 H11 H12 H13 H14 H15 H16 H17 H18
              exact stepN (unwanted_guard rfl rfl h40 rfl)
            refine steps_cons (fun hn hl => ?_) fun H20 => ?_
            · skip
              have h41 := Sp.of_off (H19 (hn 19 (show 19 ∈ [19, 18] from .head _))) rfl
              have h40 := Sp.of_c (H18 (hn 18 (show 18 ∈ [19, 18] from .tail _ (.head _))))
              clear hn hl H0 H1 H2 H3 H4 H5 H6 H7 H8 H9 H10 H11 H12 H13 H14 H15 H16 H17 H18 H19
              exact stepN (unwanted_guard rfl rfl h40 rfl)
            refine steps_cons (fun hn hl => ?_) fun H21 => ?_
            · skip
              have h40 := Sp.of_c (H18 (hn 18 (show 18 ∈ [18] from .head _)))
              clear hn hl H0 H1 H2 H3 H4 H5 H6 H7 H8 H9 H10 H11 H12 H13 H14 H15 H16 H17 H18 H19 H20
              exact stepN (unwanted_guard rfl rfl h40 rfl)
            refine steps_cons (fun hn hl => ?_) fun H22 => ?_
            · skip
              have h43 := Sp.of_off (H21 (hn 21 (show 21 ∈ [21, 18] from .head _))) rfl
              have h40 := Sp.of_c (H18 (hn 18 (show 18 ∈ [21, 18] from .tail _ (.head _))))
              clear hn hl H0 H1 H2 H3 H4 H5 H6 H7 H8 H9 H10 H11 H12 H13 H14 H15 H16 H17 H18 H19 H20 H21
              exact stepN (unwanted_guard rfl rfl h40 rfl)
            refine steps_cons (fun hn hl => ?_) fun H23 => ?_
            · skip
              have h40 := Sp.of_c (H18 (hn 18 (show 18 ∈ [18] from .head _)))
              clear hn hl H0 H1 H2 H3 H4 H5 H6 H7 H8 H9 H10 H11 H12 H13 H14 H15 H16 H17 H18 H19 H20 H21 H22
              exact stepN (unwanted_guard rfl rfl h40 rfl)
            refine steps_cons (fun hn hl => ?_) fun H24 => ?_
            · skip
              have h45 := Sp.of_off (H23 (hn 23 (show 23 ∈ [23, 18] from .head _))) rfl
              have h40 := Sp.of_c (H18 (hn 18 (show 18 ∈ [23, 18] from .tail _ (.head _))))
              clear hn hl H0 H1 H2 H3 H4 H5 H6 H7 H8 H9 H10 H11 H12 H13 H14 H15 H16 H17 H18 H19 H20 H21 H22 H23
              exact stepN (unwanted_guard rfl rfl h40 rfl)
            refine steps_cons (fun hn hl => ?_) fun H25 => ?_
            · skip
              have h42 := Sp.of_off (H20 (hn 20 (show 20 ∈ [20, 22, 24, 18] from .head _))) rfl
              have h44 := Sp.of_off (H22 (hn 22 (show 22 ∈ [20, 22, 24, 18] from .tail _ (.head _)))) rfl
              have h46 := Sp.of_off (H24 (hn 24 (show 24 ∈ [20, 22, 24, 18] from .tail _ (.tail _ (.head _))))) rfl
              have h40 := Sp.of_c (H18 (hn 18 (show 18 ∈ [20, 22, 24, 18] from .tail _ (.tail _ (.tail _ (.head _))))))
              clear hn hl H0 H1 H2 H3 H4 H5 H6 H7 H8 H9 H10 H11 H12 H13 H14 H15 H16 H17 H18 H19 H20 H21 H22 H23 H24
              exact stepN (unwanted_guard rfl rfl h40 rfl)
            refine steps_cons (fun hn hl => ?_) fun H26 => ?_
            · skip
              have h47 := Sp.of_moff (H25 (hn 25 (show 25 ∈ [25, 18] from .head _))) rfl
              have h40 := Sp.of_c (H18 (hn 18 (show 18 ∈ [25, 18] from .tail _ (.head _))))
              clear hn hl H0 H1 H2 H3 H4 H5 H6 H7 H8 H9 H10 H11 H12 H13 H14 H15 H16 H17 H18 H19 H20 H21 H22 H23 H24 H25
              exact stepN (unwanted_guard rfl rfl h40 rfl)
            refine steps_cons (fun hn hl => ?_) fun H27 => ?_
            · skip
              have h48 := Sp.of_off (H26 (hn 26 (show 26 ∈ [26, 18] from .head _))) rfl
              have h40 := Sp.of_c (H18 (hn 18 (show 18 ∈ [26, 18] from .tail _ (.head _))))
              clear hn hl H0 H1 H2 H3 H4 H5 H6 H7 H8 H9 H10 H11 H12 H13 H14 H15 H16 H17 H18 H19 H20 H21 H22 H23 H24 H25 H26
              exact stepN (unwanted_guard rfl rfl h40 rfl)
            refine steps_cons (fun hn hl => ?_) fun H28 => ?_
            · skip
              have h40 := Sp.of_c (H18 (hn 18 (show 18 ∈ [18, 27] from .head _)))
              have h49 := Sp.of_off (H27 (hn 27 (show 27 ∈ [18, 27] from .tail _ (.head _)))) rfl
              clear hn hl H0 H1 H2 H3 H4 H5 H6 H7 H8 H9 H10 H11 H12 H13 H14 H15 H16 H17 H18 H19 H20 H21 H22 H23 H24 H25 H26 H27
              refine stepC (wanted_free rfl) fun K hK => ?_
              go_simp
              exact hK _ (Below.refl _ _)
            refine steps_cons (fun hn hl => ?_) fun H29 => ?_
            · skip
              have h50 := Sp.of_c (H28 (hn 28 (show 28 ∈ [28] from .head _)))
              clear hn hl H0 H1 H2 H3 H4 H5 H6 H7 H8 H9 H10 H11 H12 H13 H14 H15 H16 H17 H18 H19 H20 H21 H22 H23 H24 H25 H26 H27 H28
              refine stepC (wanted_free rfl) fun K hK => ?_
              go_simp
              exact hK _ (Below.refl _ _)
            refine steps_cons (fun hn hl => ?_) fun H30 => ?_
            · skip
              have h51 := Sp.of_c (H29 (hn 29 (show 29 ∈ [29] from .head _)))
              clear hn hl H0 H1 H2 H3 H4 H5 H6 H7 H8 H9 H10 H11 H12 H13 H14 H15 H16 H17 H18 H19 H20 H21 H22 H23 H24 H25 H26 H27 H28 H29
              exact stepN (unwanted_guard rfl rfl h51 rfl)
            refine steps_cons (fun hn hl => ?_) fun H31 => ?_
            · skip
              have h52 := Sp.of_off (H30 (hn 30 (show 30 ∈ [30, 29] from .head _))) rfl
              have h51 := Sp.of_c (H29 (hn 29 (show 29 ∈ [30, 29] from .tail _ (.head _))))
              clear hn hl H0 H1 H2 H3 H4 H5 H6 H7 H8 H9 H10 H11 H12 H13 H14 H15 H16 H17 H18 H19 H20 H21 H22 H23 H24 H25 H26 H27 H28 H29 H30
              exact stepN (unwanted_guard rfl rfl h51 rfl)
            refine steps_cons (fun hn hl => ?_) fun H32 => ?_
            · skip
              have h53 := Sp.of_off (H31 (hn 31 (show 31 ∈ [31, 29] from .head _))) rfl
              have h51 := Sp.of_c (H29 (hn 29 (show 29 ∈ [31, 29] from .tail _ (.head _))))
              clear hn hl H0 H1 H2 H3 H4 H5 H6 H7 H8 H9 H10 H11 H12 H13 H14 H15 H16 H17 H18 H19 H20 H21 H22 H23 H24 H25 H26 H27 H28 H29 H30 H31
              exact stepN (unwanted_guard rfl rfl h51 rfl)
            refine steps_cons (fun hn hl => ?_) fun H33 => ?_
            · skip
              have h54 := Sp.of_moff (H32 (hn 32 (show 32 ∈ [32, 29] from .head _))) rfl
              have h51 := Sp.of_c (H29 (hn 29 (show 29 ∈ [32, 29] from .tail _ (.head _))))
              clear hn hl H0 H1 H2 H3 H4 H5 H6 H7 H8 H9 H10 H11 H12 H13 H14 H15 H16 H17 H18 H19 H20 H21 H22 H23 H24 H25 H26 H27 H28 H29 H30 H31 H32
              exact stepN (unwanted_guard rfl rfl h51 rfl)
            refine steps_cons (fun hn hl => ?_) fun H34 => ?_
            · skip
              have h55 := Sp.of_off (H33 (hn 33 (show 33 ∈ [33, 29] from .head _))) rfl
              have h51 := Sp.of_c (H29 (hn 29 (show 29 ∈ [33, 29] from .tail _ (.head _))))
              clear hn hl H0 H1 H2 H3 H4 H5 H6 H7 H8 H9 H10 H11 H12 H13 H14 H15 H16 H17 H18 H19 H20 H21 H22 H23 H24 H25 H26 H27 H28 H29 H30 H31 H32 H33
              exact stepN (unwanted_guard rfl rfl h51 rfl)
            refine steps_cons (fun hn hl => ?_) fun H35 => ?_
            · skip
              have h51 := Sp.of_c (H29 (hn 29 (show 29 ∈ [29, 34] from .head _)))
              have h56 := Sp.of_off (H34 (hn 34 (show 34 ∈ [29, 34] from .tail _ (.head _)))) rfl
              clear hn hl H0 H1 H2 H3 H4 H5 H6 H7 H8 H9 H10 H11 H12 H13 H14 H15 H16 H17 H18 H19 H20 H21 H22 H23 H24 H25 H26 H27 H28 H29 H30 H31 H32 H33 H34
              refine stepC (wanted_free rfl) fun K hK => ?_
              go_simp
              exact hK _ (Below.refl _ _)
            exact trivial
          · intro w5 hb5
            have hz5 := hb5.size
            refine end_cons ?_; rintro _ rfl
            refine end_cons ?_; rintro _ rfl
            refine end_cons ?_; rintro _ rfl
            refine end_cons ?_; rintro _ rfl
            refine end_cons ?_; rintro _ rfl
            refine end_cons ?_; rintro _ rfl
            refine end_cons ?_; rintro _ rfl
            refine end_cons ?_; rintro _ rfl
            refine end_cons ?_; rintro _ rfl
            refine end_cons ?_; rintro _ rfl
            refine end_cons ?_; rintro _ rfl
            refine end_cons ?_; rintro _ rfl
            refine end_cons ?_; rintro _ rfl
            refine end_cons ?_; rintro _ rfl
            refine end_cons ?_; rintro _ rfl
            refine end_cons ?_; rintro _ rfl
            refine end_cons ?_; rintro _ rfl
            refine end_cons ?_; rintro _ rfl
            refine end_cons ?_; rintro _ rfl
            refine end_cons ?_; rintro _ rfl
            refine end_cons ?_; rintro _ rfl
            refine end_cons ?_; rintro _ rfl
            refine end_cons ?_; rintro _ rfl
            refine end_cons ?_; rintro _ rfl
            refine end_cons ?_; rintro _ rfl
            refine end_cons ?_; rintro _ rfl
            refine end_cons ?_; rintro _ rfl
            refine end_cons ?_; rintro _ rfl
            refine end_cons ?_; rintro _ rfl
            refine end_cons ?_; rintro _ rfl
            refine end_cons ?_; rintro _ rfl
            refine end_cons ?_; rintro _ rfl
            refine end_cons ?_; rintro _ rfl
            refine end_cons ?_; rintro _ rfl
            refine end_cons ?_; rintro _ rfl
            refine end_cons ?_; rintro _ rfl
            refine end_nil ?_
            simp only [List.setIfInBounds_toArray, List.set_cons_succ, List.set_cons_zero, Bool.not_false, Bool.not_true, Bool.true_or, Bool.or_true, Bool.false_or, Bool.or_false]
            go_wp2
            go_ret
            exact ⟨by rw [E.out]; rfl, (by repeat' (first | exact Below.refl _ _ | assumption | exact And.left (by assumption) | refine Below.drew ?_ | refine below_drewN ?_ _ | refine Below.setCell ?_ (by first | (simp; done) | (simp; omega) | omega) _ | refine Below.alloc ?_ (by first | (simp; done) | (simp; omega) | omega) _ | refine after (by assumption) (by first | (simp; done) | (simp; omega) | omega) ?_))⟩
      · have E := Lib.hid (HT.out fun i hi => HA.out i hi (by omega))
        go_wp2
        go_ret
        exact ⟨by rw [E.out]; rfl, (by repeat' (first | exact Below.refl _ _ | assumption | exact And.left (by assumption) | refine Below.drew ?_ | refine below_drewN ?_ _ | refine Below.setCell ?_ (by first | (simp; done) | (simp; omega) | omega) _ | refine Below.alloc ?_ (by first | (simp; done) | (simp; omega) | omega) _ | refine after (by assumption) (by first | (simp; done) | (simp; omega) | omega) ?_))⟩
  · have H := Lib.hid (fun b w (h : World.cell? w ⟨b, 0, none⟩ = some (.int .i64 (s.queues.length : Int))) => within1 1 8 (s.queues.length : Int) b w h)
    rw [in_no (n := (s.queues.length : Int)) (by omega)] at H
    rw [show queuesB s = false from decide_eq_false fun x => h x.1]
    clear h
    go_enter Try.func61, Try.ntmps61
    go_wp2_with fail
    refine (H.out _ _ (by simp [go_sem])).mono ?_; rintro e w1 ⟨rfl, rfl⟩
    go_wp2
    go_ret
    exact ⟨rfl, (by repeat' (first | exact Below.refl _ _ | assumption | exact And.left (by assumption) | refine Below.drew ?_ | refine below_drewN ?_ _ | refine Below.setCell ?_ (by first | (simp; done) | (simp; omega) | omega) _ | refine Below.alloc ?_ (by first | (simp; done) | (simp; omega) | omega) _ | refine after (by assumption) (by first | (simp; done) | (simp; omega) | omega) ?_))⟩
end Go.Proofs.Ytcdajfiohhbdgaa.W
