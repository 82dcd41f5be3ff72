/-
  Contracts of what layer 7 (spec) looks at in a set-up: nodes, parts.
-/
import Derived.Test.YtgopjpnlpcmldaaGreatDoorSpecSmall
namespace Go.Proofs.YtgopjpnlpcmldaaGreatDoor.W
set_option linter.unusedVariables false
set_option linter.unusedSimpArgs false
open Go.ChangeShapes Go.WideShapes Go.ChangeAt Go.RowKit

theorem slAt_lit {w : World} {b : Nat} {xs : List Int} (h : ∀ i (h : i < xs.length), w.cell? ⟨b, i, none⟩ = some (.int .i64 xs[i])) (hp : 0 < xs.length) : SlAt w ⟨some ⟨b, 0, none⟩, xs.length, xs⟩ :=
  .inr ⟨b, 0, rfl, World.block_lt_of_cell? _ _ (h 0 hp), fun i u hu => by
    rw [Nat.zero_add]
    have hi : i < xs.length := by
      rcases Nat.lt_or_ge i xs.length with h' | h'
      · exact h'
      · rw [List.getElem?_eq_none (by rw [vals_len]; exact h')] at hu; cases hu
    rw [vals_at _ _ hi] at hu
    rw [← Option.some.inj hu]
    exact h i hi⟩
theorem within_one (x lo hi : Int) : withinB [x] lo hi = inB x lo hi := by
  unfold withinB inB
  congr 1
  rw [eq_iff_iff]
  constructor
  · intro h; exact h 0 (by simp)
  · intro h i hi'; have : i = 0 := by simpa using hi'
    subst this; exact h
theorem within1 (lo hi x : Int) (b : Nat) (w : World) (h : w.cell? ⟨b, 0, none⟩ = some (.int .i64 x)) :
    Calls Tryz.prog 64 #[.int .i64 lo, .int .i64 hi, .slice (some ⟨b, 0, none⟩) 1 1] w fun e w' => e = .returned (.bool (inB x lo hi)) ∧ w = w' := by
  rw [← within_one]
  refine within lo hi (some ⟨b, 0, none⟩) 1 [x] w (slAt_lit (xs := [x]) (fun i hi' => ?_) (by simp)) (by simp)
  have : i = 0 := by simpa using hi'
  subst this
  exact h

theorem in_yes {n lo hi : Int} (h : lo ≤ n ∧ n ≤ hi) : inB n lo hi = true := decide_eq_true h
theorem in_no {n lo hi : Int} (h : ¬ (lo ≤ n ∧ n ≤ hi)) : inB n lo hi = false := decide_eq_false h

set_option maxHeartbeats 1000000 in
theorem nodesSo (s : S) (g : Nat) (na : Option Addr) (hna : s.na = na) (w : World) (HB : Box w g s) (HR : Rows w s) :
    Calls Tryz.prog 61 #[.pointer (some ⟨g, 0, none⟩)] w fun e w' => e = .returned (.bool (nodesB s)) ∧ Below w.heap.size w w' := by
  have c0 : w.cell? ⟨g, 0, none⟩ = some (.slice na s.nodes.length s.nc) := by rw [← hna]; exact HB.c0
  have hg := HB.lt
  have HN := Lib.hid hna
  have HR := Lib.hid HR
  clear hna HB
  by_cases h : 1 ≤ s.nodes.length ∧ s.nodes.length ≤ 16
  · have H := Lib.hid (fun b w (h : World.cell? w ⟨b, 0, none⟩ = some (.int .i64 (s.nodes.length : Int))) => within1 1 16 (s.nodes.length : Int) b w h)
    rw [in_yes (n := (s.nodes.length : Int)) (by omega)] at H
    have HT := Lib.hid (show (∀ i (hi : i < s.nodes.length), s.nodes[i].Ok) → nodesB s = true from fun hh => decide_eq_true ⟨h, fun v hv => by obtain ⟨i, hi, rfl⟩ := List.getElem_of_mem hv; exact hh i hi⟩)
    have HF := Lib.hid (show ∀ i (hi : i < s.nodes.length), ¬ s.nodes[i].Ok → nodesB s = false from fun i hi hh => decide_eq_false fun x => hh (x.2 _ (List.getElem_mem hi)))
    obtain ⟨hl0, hl1⟩ := h
    go_enter Tryz.func61, Tryz.ntmps61
    go_wp2_with fail
    refine (H.out _ _ (by simp [go_sem])).mono ?_; rintro e w1 ⟨rfl, rfl⟩
    go_wp2
    go_loopw [18] (fun x wr => ∃ k : Nat, k ≤ s.nodes.length ∧ x = .int .i64 k ∧ Below w.heap.size w wr ∧ Hid (∀ i (hi : i < s.nodes.length), i < k → s.nodes[i].Ok)) (fun x _ => s.nodes.length - (intOf x).toNat)
    case atStart => exact ⟨0, Nat.zero_le _, rfl, (by repeat' (first | exact Below.refl _ _ | assumption | exact And.left (by assumption) | refine Below.drew ?_ | refine below_drewN ?_ _ | refine Below.setCell ?_ (by first | (simp; done) | (simp; omega) | omega) _ | refine Below.alloc ?_ (by first | (simp; done) | (simp; omega) | omega) _ | refine after (by assumption) (by first | (simp; done) | (simp; omega) | omega) ?_)), Lib.hid fun i hi h => by omega⟩
    case round =>
      obtain ⟨k, hk, rfl, hb, HA⟩ := hrel
      have hz := hb.size
      by_cases hlt : k < s.nodes.length
      · obtain ⟨b, off, ea, hbl, q0, q1, q2, q3⟩ := (HR.out.later hb).node hlt
        rw [HN.out] at ea
        subst ea
        by_cases ho : s.nodes[k].Ok
        · have HK := Lib.hid (fun w => right s.nodes[k] w)
          rw [right_yes ho] at HK
          have HO := Lib.hid ho
          clear ho
          go_wp2_with fail
          refine (HK.out _).mono ?_; rintro e w2 ⟨rfl, hb2⟩
          have hz2 := hb2.size; try simp at hz2
          go_wp2
          go_roundw
          case rel => exact ⟨k + 1, by omega, by go_num, (by repeat' (first | exact Below.refl _ _ | assumption | exact And.left (by assumption) | refine Below.drew ?_ | refine below_drewN ?_ _ | refine Below.setCell ?_ (by first | (simp; done) | (simp; omega) | omega) _ | refine Below.alloc ?_ (by first | (simp; done) | (simp; omega) | omega) _ | refine after (by assumption) (by first | (simp; done) | (simp; omega) | omega) ?_)), Lib.hid fun i hi h => by
            rcases Nat.lt_or_ge i k with h' | h'
            · exact HA.out i hi h'
            · obtain rfl : i = k := by omega
              exact HO.out⟩
          case measure => simp [intOf]; omega
        · have HK := Lib.hid (fun w => right s.nodes[k] w)
          rw [right_no ho] at HK
          have E := Lib.hid (HF.out k hlt ho)
          clear ho
          go_wp2_with fail
          refine (HK.out _).mono ?_; rintro e w2 ⟨rfl, hb2⟩
          have hz2 := hb2.size; try simp at hz2
          go_wp2
          go_ret
          exact ⟨by rw [E.out]; rfl, (by repeat' (first | exact Below.refl _ _ | assumption | exact And.left (by assumption) | refine Below.drew ?_ | refine below_drewN ?_ _ | refine Below.setCell ?_ (by first | (simp; done) | (simp; omega) | omega) _ | refine Below.alloc ?_ (by first | (simp; done) | (simp; omega) | omega) _ | refine after (by assumption) (by first | (simp; done) | (simp; omega) | omega) ?_))⟩
      · have E := Lib.hid (HT.out fun i hi => HA.out i hi (by omega))
        go_wp2
        go_ret
        exact ⟨by rw [E.out]; rfl, (by repeat' (first | exact Below.refl _ _ | assumption | exact And.left (by assumption) | refine Below.drew ?_ | refine below_drewN ?_ _ | refine Below.setCell ?_ (by first | (simp; done) | (simp; omega) | omega) _ | refine Below.alloc ?_ (by first | (simp; done) | (simp; omega) | omega) _ | refine after (by assumption) (by first | (simp; done) | (simp; omega) | omega) ?_))⟩
  · have H := Lib.hid (fun b w (h : World.cell? w ⟨b, 0, none⟩ = some (.int .i64 (s.nodes.length : Int))) => within1 1 16 (s.nodes.length : Int) b w h)
    rw [in_no (n := (s.nodes.length : Int)) (by omega)] at H
    rw [show nodesB s = false from decide_eq_false fun x => h x.1]
    clear h
    go_enter Tryz.func61, Tryz.ntmps61
    go_wp2_with fail
    refine (H.out _ _ (by simp [go_sem])).mono ?_; rintro e w1 ⟨rfl, rfl⟩
    go_wp2
    go_ret
    exact ⟨rfl, (by repeat' (first | exact Below.refl _ _ | assumption | exact And.left (by assumption) | refine Below.drew ?_ | refine below_drewN ?_ _ | refine Below.setCell ?_ (by first | (simp; done) | (simp; omega) | omega) _ | refine Below.alloc ?_ (by first | (simp; done) | (simp; omega) | omega) _ | refine after (by assumption) (by first | (simp; done) | (simp; omega) | omega) ?_))⟩

set_option maxHeartbeats 1000000 in
theorem partsSo (s : S) (g : Nat) (pa : Option Addr) (hpa : s.pa = pa) (w : World) (HB : Box w g s) (HR : Rows w s) (hfew : ∀ p ∈ s.parts, p.l.length ≤ 100000) :
    Calls Tryz.prog 62 #[.pointer (some ⟨g, 0, none⟩)] w fun e w' => e = .returned (.bool (partsB s)) ∧ Below w.heap.size w w' := by
  have c1 : w.cell? ⟨g, 1, none⟩ = some (.slice pa s.parts.length s.pc) := by rw [← hpa]; exact HB.c1
  have c0 := HB.c0
  have hg := HB.lt
  have HN := Lib.hid hpa
  have HR := Lib.hid HR
  have HW := Lib.hid hfew
  clear hpa HB hfew
  by_cases h : 1 ≤ s.parts.length ∧ s.parts.length ≤ 8
  · have H := Lib.hid (fun b w (h : World.cell? w ⟨b, 0, none⟩ = some (.int .i64 (s.parts.length : Int))) => within1 1 8 (s.parts.length : Int) b w h)
    rw [in_yes (n := (s.parts.length : Int)) (by omega)] at H
    have HT := Lib.hid (show (∀ i (hi : i < s.parts.length), s.parts[i].l ≠ [] ∧ Rise s.parts[i].l s.nodes.length) → partsB s = true from fun hh => decide_eq_true ⟨h, fun v hv => by obtain ⟨i, hi, rfl⟩ := List.getElem_of_mem hv; exact hh i hi⟩)
    have HF := Lib.hid (show ∀ i (hi : i < s.parts.length), ¬ (s.parts[i].l ≠ [] ∧ Rise s.parts[i].l s.nodes.length) → partsB s = false from fun i hi hh => decide_eq_false fun x => hh (x.2 _ (List.getElem_mem hi)))
    obtain ⟨hl0, hl1⟩ := h
    go_enter Tryz.func62, Tryz.ntmps62
    go_wp2_with fail
    refine (H.out _ _ (by simp [go_sem])).mono ?_; rintro e w1 ⟨rfl, rfl⟩
    go_wp2
    go_loopw [18] (fun x wr => ∃ k : Nat, k ≤ s.parts.length ∧ x = .int .i64 k ∧ Below w.heap.size w wr ∧ Hid (∀ i (hi : i < s.parts.length), i < k → s.parts[i].l ≠ [] ∧ Rise s.parts[i].l s.nodes.length)) (fun x _ => s.parts.length - (intOf x).toNat)
    case atStart => exact ⟨0, Nat.zero_le _, rfl, (by repeat' (first | exact Below.refl _ _ | assumption | exact And.left (by assumption) | refine Below.drew ?_ | refine below_drewN ?_ _ | refine Below.setCell ?_ (by first | (simp; done) | (simp; omega) | omega) _ | refine Below.alloc ?_ (by first | (simp; done) | (simp; omega) | omega) _ | refine after (by assumption) (by first | (simp; done) | (simp; omega) | omega) ?_)), Lib.hid fun i hi h => by omega⟩
    case round =>
      obtain ⟨k, hk, rfl, hb, HA⟩ := hrel
      have hz := hb.size
      have d0 := carry hb c0
      by_cases hlt : k < s.parts.length
      · obtain ⟨b, off, ea, hbl, q0⟩ := (HR.out.later hb).part_ hlt
        rw [HN.out] at ea
        subst ea
        have HP := Lib.hid (fun w' (h : SlAt w' s.parts[k]) => rises s.parts[k].a s.parts[k].cap s.parts[k].l (s.nodes.length : Int) w' h (HW.out _ (List.getElem_mem hlt)))
        have HS := Lib.hid ((HR.out.part _ (List.getElem_mem hlt)).later hb)
        by_cases hne : s.parts[k].l = []
        · have E := Lib.hid (HF.out k hlt (fun z => z.1 hne))
          have hl0 : s.parts[k].l.length = 0 := by rw [hne]; rfl
          have hz0 : ((s.parts[k].l.length : Int) == 0) = true := by rw [hl0]; rfl
          clear hne hl0
          go_wp2
          go_ret
          exact ⟨by rw [E.out]; rfl, (by repeat' (first | exact Below.refl _ _ | assumption | exact And.left (by assumption) | refine Below.drew ?_ | refine below_drewN ?_ _ | refine Below.setCell ?_ (by first | (simp; done) | (simp; omega) | omega) _ | refine Below.alloc ?_ (by first | (simp; done) | (simp; omega) | omega) _ | refine after (by assumption) (by first | (simp; done) | (simp; omega) | omega) ?_))⟩
        · have hz0 : ((s.parts[k].l.length : Int) == 0) = false := by
            have : 0 < s.parts[k].l.length := List.length_pos_iff.2 hne
            simp; omega
          by_cases ho : Rise s.parts[k].l s.nodes.length
          · rw [show riseB s.parts[k].l s.nodes.length = true from decide_eq_true ho] at HP
            have HO := Lib.hid (⟨hne, ho⟩ : s.parts[k].l ≠ [] ∧ Rise s.parts[k].l s.nodes.length)
            clear ho hne
            go_wp2_with fail
            refine (HP.out _ HS.out).mono ?_; rintro e w2 ⟨rfl, rfl⟩
            go_wp2
            go_roundw
            case rel => exact ⟨k + 1, by omega, by go_num, (by repeat' (first | exact Below.refl _ _ | assumption | exact And.left (by assumption) | refine Below.drew ?_ | refine below_drewN ?_ _ | refine Below.setCell ?_ (by first | (simp; done) | (simp; omega) | omega) _ | refine Below.alloc ?_ (by first | (simp; done) | (simp; omega) | omega) _ | refine after (by assumption) (by first | (simp; done) | (simp; omega) | omega) ?_)), Lib.hid fun i hi h => by
              rcases Nat.lt_or_ge i k with h' | h'
              · exact HA.out i hi h'
              · obtain rfl : i = k := by omega
                exact HO.out⟩
            case measure => simp [intOf]; omega
          · rw [show riseB s.parts[k].l s.nodes.length = false from decide_eq_false ho] at HP
            have E := Lib.hid (HF.out k hlt (fun z => ho z.2))
            clear ho hne
            go_wp2_with fail
            refine (HP.out _ HS.out).mono ?_; rintro e w2 ⟨rfl, rfl⟩
            go_wp2
            go_ret
            exact ⟨by rw [E.out]; rfl, (by repeat' (first | exact Below.refl _ _ | assumption | exact And.left (by assumption) | refine Below.drew ?_ | refine below_drewN ?_ _ | refine Below.setCell ?_ (by first | (simp; done) | (simp; omega) | omega) _ | refine Below.alloc ?_ (by first | (simp; done) | (simp; omega) | omega) _ | refine after (by assumption) (by first | (simp; done) | (simp; omega) | omega) ?_))⟩
      · have E := Lib.hid (HT.out fun i hi => HA.out i hi (by omega))
        go_wp2
        go_ret
        exact ⟨by rw [E.out]; rfl, (by repeat' (first | exact Below.refl _ _ | assumption | exact And.left (by assumption) | refine Below.drew ?_ | refine below_drewN ?_ _ | refine Below.setCell ?_ (by first | (simp; done) | (simp; omega) | omega) _ | refine Below.alloc ?_ (by first | (simp; done) | (simp; omega) | omega) _ | refine after (by assumption) (by first | (simp; done) | (simp; omega) | omega) ?_))⟩
  · have H := Lib.hid (fun b w (h : World.cell? w ⟨b, 0, none⟩ = some (.int .i64 (s.parts.length : Int))) => within1 1 8 (s.parts.length : Int) b w h)
    rw [in_no (n := (s.parts.length : Int)) (by omega)] at H
    rw [show partsB s = false from decide_eq_false fun x => h x.1]
    clear h
    go_enter Tryz.func62, Tryz.ntmps62
    go_wp2_with fail
    refine (H.out _ _ (by simp [go_sem])).mono ?_; rintro e w1 ⟨rfl, rfl⟩
    go_wp2
    go_ret
    exact ⟨rfl, (by repeat' (first | exact Below.refl _ _ | assumption | exact And.left (by assumption) | refine Below.drew ?_ | refine below_drewN ?_ _ | refine Below.setCell ?_ (by first | (simp; done) | (simp; omega) | omega) _ | refine Below.alloc ?_ (by first | (simp; done) | (simp; omega) | omega) _ | refine after (by assumption) (by first | (simp; done) | (simp; omega) | omega) ?_))⟩
end Go.Proofs.YtgopjpnlpcmldaaGreatDoor.W
