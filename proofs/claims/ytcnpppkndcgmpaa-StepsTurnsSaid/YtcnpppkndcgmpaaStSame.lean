/-
  Contract of the document's Same over steps.
-/
import Derived.Test.YtcnpppkndcgmpaaStPlain
namespace Go.Proofs.Ytcnpppkndcgmpaa.W
set_option linter.unusedVariables false
set_option linter.unusedSimpArgs false
open Go.ChangeShapes Go.WideShapes Go.ChangeAt Go.RowKit

instance : DecidableEq St := fun a b => decidable_of_iff (a.at_ = b.at_ ∧ a.free = b.free) ⟨fun h => St.ext' h.1 h.2, fun h => by subst h; exact ⟨rfl, rfl⟩⟩
theorem st_first {a b : St} (h : ¬ a = b) : (a.at_ == b.at_) = false ∨ ((a.at_ == b.at_) = true ∧ (a.free.cpu == b.free.cpu) = false) ∨ ((a.at_ == b.at_) = true ∧ (a.free.cpu == b.free.cpu) = true ∧ (a.free.mem == b.free.mem) = false) ∨
    ((a.at_ == b.at_) = true ∧ (a.free.cpu == b.free.cpu) = true ∧ (a.free.mem == b.free.mem) = true ∧ (a.free.gpu == b.free.gpu) = false) ∨
    ((a.at_ == b.at_) = true ∧ (a.free.cpu == b.free.cpu) = true ∧ (a.free.mem == b.free.mem) = true ∧ (a.free.gpu == b.free.gpu) = true ∧ (a.free.lic == b.free.lic) = false) := by
  by_cases h0 : a.at_ = b.at_
  · have hv : ¬ a.free = b.free := fun x => h (St.ext' h0 x)
    have h1 : (a.at_ == b.at_) = true := by simpa using h0
    rcases ne_first hv with k | ⟨k0, k1⟩ | ⟨k0, k1, k2⟩ | ⟨k0, k1, k2, k3⟩
    · exact .inr (.inl ⟨h1, k⟩)
    · exact .inr (.inr (.inl ⟨h1, k0, k1⟩))
    · exact .inr (.inr (.inr (.inl ⟨h1, k0, k1, k2⟩)))
    · exact .inr (.inr (.inr (.inr ⟨h1, k0, k1, k2, k3⟩)))
  · exact .inl (by simpa using h0)
theorem take_eq_next {α : Type} {x y : List α} {k : Nat} (h : x.take k = y.take k) (hx : k < x.length) (hy : k < y.length) (e : x[k] = y[k]) : x.take (k + 1) = y.take (k + 1) := by
  rw [take_app x k hx, take_app y k hy, h, e]
set_option maxHeartbeats 2000000 in
theorem rSame (a b : Option Addr) (ca cb : Nat) (x y : List St) (hx : x.length ≤ 100000) (hy : y.length ≤ 100000) (w : World) (ha : StAt w a ca x) (hb : StAt w b cb y) :
    Calls Try.prog 11 #[.slice a x.length ca, .slice b y.length cb] w fun e w' => e = .returned (.bool (decide (x = y))) ∧ Below w.heap.size w w' := by
  by_cases hl : x.length = y.length
  · have HA := Lib.hid ha
    have HB := Lib.hid hb
    have HL := Lib.hid hl
    clear ha hb
    rw [← hl]
    clear hl hy
    go_enter Try.func11, Try.ntmps11
    go_wp2
    go_loopw [5] (fun i wr => ∃ k : Nat, k ≤ x.length ∧ i = .int .i64 (k : Int) ∧ Hid (x.take k = y.take k) ∧ Below w.heap.size w wr) (fun i _ => x.length - (intOf i).toNat)
    case atStart => exact ⟨0, Nat.zero_le _, rfl, Lib.hid rfl, Below.refl _ _⟩
    case round =>
      obtain ⟨k, hk, rfl, HE, hbw⟩ := hrel
      by_cases hlt : k < x.length
      · have hlt2 : k < y.length := by have := HL.out; omega
        obtain ⟨b1, o1, e1, _, c0, c1, c2, c3, c4⟩ := (HA.out.later hbw).row.step hlt
        obtain ⟨b2, o2, e2, _, d0, d1, d2, d3, d4⟩ := (HB.out.later hbw).row.step hlt2
        have HT : Hid (x[k] = y[k] → x.take (k + 1) = y.take (k + 1)) := Lib.hid (fun e => take_eq_next HE.out hlt hlt2 e)
        have HF := Lib.hid (fun (e : ¬ x[k] = y[k]) => (decide_eq_false (fun (h : x = y) => e (by subst h; rfl)) : decide (x = y) = false))
        have E1 := Lib.hid e1
        have E2 := Lib.hid e2
        clear e1 e2
        generalize x[k] = p at c0 c1 c2 c3 c4 HT HF
        generalize y[k] = r at d0 d1 d2 d3 d4 HT HF
        clear hlt2
        obtain rfl := E1.out
        obtain rfl := E2.out
        by_cases he : p = r
        · subst he
          have HT2 := Lib.hid (HT.out rfl)
          clear HT HF
          go_wp2_with fail
          go_quiet (fail)
          go_wp2
          go_roundw
          case rel => exact ⟨k + 1, by omega, by go_num, HT2, (by repeat' (first | exact Below.refl _ _ | assumption | exact And.left (by assumption) | refine Below.drew ?_ | refine below_drewN ?_ _ | refine Below.setCell ?_ (by first | (simp; done) | (simp; omega) | omega) _ | refine Below.alloc ?_ (by first | (simp; done) | (simp; omega) | omega) _ | refine after (by assumption) (by first | (simp; done) | (simp; omega) | omega) ?_))⟩
          case measure => simp [intOf]; omega
        · have HD := Lib.hid (HF.out he)
          have key := st_first he
          clear he HT HF
          rcases key with h1 | ⟨h1, h2⟩ | ⟨h1, h2, h3⟩ | ⟨h1, h2, h3, h4⟩ | ⟨h1, h2, h3, h4, h5⟩
          all_goals
            go_wp2_with fail
            go_quiet (fail)
            go_wp2
            go_ret
            exact ⟨by rw [HD.out]; rfl, (by repeat' (first | exact Below.refl _ _ | assumption | exact And.left (by assumption) | refine Below.drew ?_ | refine below_drewN ?_ _ | refine Below.setCell ?_ (by first | (simp; done) | (simp; omega) | omega) _ | refine Below.alloc ?_ (by first | (simp; done) | (simp; omega) | omega) _ | refine after (by assumption) (by first | (simp; done) | (simp; omega) | omega) ?_))⟩
      · have hkl : k = x.length := by omega
        subst hkl
        have HD : Hid (decide (x = y) = true) := Lib.hid (decide_eq_true (by
          have h1 := HE.out
          have h2 := HL.out
          rw [List.take_length] at h1
          rw [h1, List.take_of_length_le (by omega)]))
        go_wp2
        go_ret
        exact ⟨by rw [HD.out]; rfl, hbw⟩
  · have HD : Hid (decide (x = y) = false) := Lib.hid (decide_eq_false (fun e => hl (by rw [e])))
    have h1 : ¬ ((x.length : Int) = (y.length : Int)) := by omega
    have h2 : ((x.length : Int) == (y.length : Int)) = false := by simpa using h1
    have h3 : ((x.length : Int) != (y.length : Int)) = true := by simpa using h1
    clear hl ha hb
    go_enter Try.func11, Try.ntmps11
    go_wp2
    go_ret
    exact ⟨by rw [HD.out]; rfl, (by repeat' (first | exact Below.refl _ _ | assumption | exact And.left (by assumption) | refine Below.drew ?_ | refine below_drewN ?_ _ | refine Below.setCell ?_ (by first | (simp; done) | (simp; omega) | omega) _ | refine Below.alloc ?_ (by first | (simp; done) | (simp; omega) | omega) _ | refine after (by assumption) (by first | (simp; done) | (simp; omega) | omega) ?_))⟩
end Go.Proofs.Ytcnpppkndcgmpaa.W
