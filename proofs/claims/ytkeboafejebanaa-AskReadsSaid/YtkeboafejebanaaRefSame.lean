/-
  Contract of the document's own Same (layer 8).
-/
import Derived.Test.YtkeboafejebanaaRefRight
import Derived.Deep.QuietTactic
import Derived.BigQuiet
namespace Go.Proofs.Ytkeboafejebanaa.W
set_option linter.unusedVariables false
set_option linter.unusedSimpArgs false
open Go.ChangeShapes Go.WideShapes Go.ChangeAt Go.RowKit

theorem two_at (a b : Rq) (i : Nat) (h : i < 15) : ∃ x y : Int, (vals (allL a))[i]? = some (.int .i64 x) ∧ (vals (allL b))[i]? = some (.int .i64 y) ∧ (x = y ↔ (i = 0 ∨ a.n i = b.n i)) := by
  by_cases h0 : i = 0
  · subst h0; exact ⟨0, 0, rfl, rfl, by simp⟩
  · exact ⟨_, _, allL_at a i (by omega) (by omega), allL_at b i (by omega) (by omega), by simp [h0]⟩
theorem rs_no (a b : Rq) (w : World) (h : ¬ a.kind = b.kind ∨ (a.kind = b.kind ∧ ¬ a.key = b.key) ∨ (a.kind = b.kind ∧ a.key = b.key ∧ ¬ a.af.length = b.af.length)) :
    Calls Try.prog 14 #[.agg #[.int .i64 a.kind, .int .i64 a.key, .int .i64 (a.n 1), .int .i64 (a.n 2), .int .i64 (a.n 3), .int .i64 (a.n 4), .int .i64 (a.n 5), .int .i64 (a.n 6), .int .i64 (a.n 7), .int .i64 (a.n 8), .int .i64 (a.n 9), .int .i64 (a.n 10), .slice a.aa a.af.length a.ac, .int .i64 (a.n 11), .int .i64 (a.n 12), .int .i64 (a.n 13), .int .i64 (a.n 14)], .agg #[.int .i64 b.kind, .int .i64 b.key, .int .i64 (b.n 1), .int .i64 (b.n 2), .int .i64 (b.n 3), .int .i64 (b.n 4), .int .i64 (b.n 5), .int .i64 (b.n 6), .int .i64 (b.n 7), .int .i64 (b.n 8), .int .i64 (b.n 9), .int .i64 (b.n 10), .slice b.aa b.af.length b.ac, .int .i64 (b.n 11), .int .i64 (b.n 12), .int .i64 (b.n 13), .int .i64 (b.n 14)]] w fun e w' => e = .returned (.bool false) ∧ Below w.heap.size w w' := by
  rcases h with h | ⟨h0, h⟩ | ⟨h0, h1, h⟩
  · have q1 : (a.kind == b.kind) = false := by simpa using h
    have q2 : (a.kind != b.kind) = true := by simpa using h
    clear h
    go_enter Try.func14, Try.ntmps14
    go_wp2
    go_ret
    exact ⟨rfl, (by repeat' (first | exact Below.refl _ _ | assumption | exact And.left (by assumption) | refine Below.drew ?_ | refine below_drewN ?_ _ | refine Below.setCell ?_ (by first | (simp; done) | (simp; omega) | omega) _ | refine Below.alloc ?_ (by first | (simp; done) | (simp; omega) | omega) _ | refine after (by assumption) (by first | (simp; done) | (simp; omega) | omega) ?_))⟩
  · have p1 : (a.kind == b.kind) = true := by simpa using h0
    have p2 : (a.kind != b.kind) = false := by simpa using h0
    have q1 : (a.key == b.key) = false := by simpa using h
    have q2 : (a.key != b.key) = true := by simpa using h
    clear h h0
    go_enter Try.func14, Try.ntmps14
    go_wp2
    go_ret
    exact ⟨rfl, (by repeat' (first | exact Below.refl _ _ | assumption | exact And.left (by assumption) | refine Below.drew ?_ | refine below_drewN ?_ _ | refine Below.setCell ?_ (by first | (simp; done) | (simp; omega) | omega) _ | refine Below.alloc ?_ (by first | (simp; done) | (simp; omega) | omega) _ | refine after (by assumption) (by first | (simp; done) | (simp; omega) | omega) ?_))⟩
  · have p1 : (a.kind == b.kind) = true := by simpa using h0
    have p2 : (a.kind != b.kind) = false := by simpa using h0
    have r1 : (a.key == b.key) = true := by simpa using h1
    have r2 : (a.key != b.key) = false := by simpa using h1
    have g1 : ¬ ((a.af.length : Int) = (b.af.length : Int)) := by omega
    have q1 : ((a.af.length : Int) == (b.af.length : Int)) = false := by simpa using g1
    have q2 : ((a.af.length : Int) != (b.af.length : Int)) = true := by simpa using g1
    clear h h0 h1 g1
    go_enter Try.func14, Try.ntmps14
    go_wp2
    go_ret
    exact ⟨rfl, (by repeat' (first | exact Below.refl _ _ | assumption | exact And.left (by assumption) | refine Below.drew ?_ | refine below_drewN ?_ _ | refine Below.setCell ?_ (by first | (simp; done) | (simp; omega) | omega) _ | refine Below.alloc ?_ (by first | (simp; done) | (simp; omega) | omega) _ | refine after (by assumption) (by first | (simp; done) | (simp; omega) | omega) ?_))⟩
set_option maxRecDepth 100000 in
set_option maxHeartbeats 2000000 in
theorem rs_in (a b : Rq) (hfa : a.af.length ≤ 1000) (w : World) (ha : RowAt w a.aa (depsV a.af)) (hb : RowAt w b.aa (depsV b.af)) (h0 : a.kind = b.kind) (h1 : a.key = b.key) (hl : a.af.length = b.af.length) :
    Calls Try.prog 14 #[.agg #[.int .i64 a.kind, .int .i64 a.key, .int .i64 (a.n 1), .int .i64 (a.n 2), .int .i64 (a.n 3), .int .i64 (a.n 4), .int .i64 (a.n 5), .int .i64 (a.n 6), .int .i64 (a.n 7), .int .i64 (a.n 8), .int .i64 (a.n 9), .int .i64 (a.n 10), .slice a.aa a.af.length a.ac, .int .i64 (a.n 11), .int .i64 (a.n 12), .int .i64 (a.n 13), .int .i64 (a.n 14)], .agg #[.int .i64 b.kind, .int .i64 b.key, .int .i64 (b.n 1), .int .i64 (b.n 2), .int .i64 (b.n 3), .int .i64 (b.n 4), .int .i64 (b.n 5), .int .i64 (b.n 6), .int .i64 (b.n 7), .int .i64 (b.n 8), .int .i64 (b.n 9), .int .i64 (b.n 10), .slice b.aa b.af.length b.ac, .int .i64 (b.n 11), .int .i64 (b.n 12), .int .i64 (b.n 13), .int .i64 (b.n 14)]] w fun e w' => e = .returned (.bool (sameQ a b)) ∧ Below w.heap.size w w' := by
  have p1 : (a.kind == b.kind) = true := by simpa using h0
  have p2 : (a.kind != b.kind) = false := by simpa using h0
  have r1 : (a.key == b.key) = true := by simpa using h1
  have r2 : (a.key != b.key) = false := by simpa using h1
  have s1 : ((a.af.length : Int) == (b.af.length : Int)) = true := by simp; omega
  have s2 : ((a.af.length : Int) != (b.af.length : Int)) = false := by simp; omega
  have HL := Lib.hid hl
  have HAB := Lib.hid (sameQ_iff a b)
  have H0 := Lib.hid h0
  have H1 := Lib.hid h1
  have HA := Lib.hid ha
  have HB := Lib.hid hb
  have HTW := Lib.hid (two_at a b)
  have HRA := Lib.hid (fun w' => rall a w')
  have HRB := Lib.hid (fun w' => rall b w')
  clear h0 h1 hl ha hb
  generalize allL a = la at HTW HRA
  generalize allL b = lb at HTW HRB
  go_enter Try.func14, Try.ntmps14
  go_wp2_with fail
  have HX0 : BoxQ ((w.alloc (.cells #[.int .i64 a.kind, .int .i64 a.key, .int .i64 (a.n 1), .int .i64 (a.n 2), .int .i64 (a.n 3), .int .i64 (a.n 4), .int .i64 (a.n 5), .int .i64 (a.n 6), .int .i64 (a.n 7), .int .i64 (a.n 8), .int .i64 (a.n 9), .int .i64 (a.n 10), .slice a.aa a.af.length a.ac, .int .i64 (a.n 11), .int .i64 (a.n 12), .int .i64 (a.n 13), .int .i64 (a.n 14)] 26)).alloc (.cells #[.int .i64 b.kind, .int .i64 b.key, .int .i64 (b.n 1), .int .i64 (b.n 2), .int .i64 (b.n 3), .int .i64 (b.n 4), .int .i64 (b.n 5), .int .i64 (b.n 6), .int .i64 (b.n 7), .int .i64 (b.n 8), .int .i64 (b.n 9), .int .i64 (b.n 10), .slice b.aa b.af.length b.ac, .int .i64 (b.n 11), .int .i64 (b.n 12), .int .i64 (b.n 13), .int .i64 (b.n 14)] 26)) w.heap.size a := (BoxQ.new w a).alloc _
  have HY0 : BoxQ ((w.alloc (.cells #[.int .i64 a.kind, .int .i64 a.key, .int .i64 (a.n 1), .int .i64 (a.n 2), .int .i64 (a.n 3), .int .i64 (a.n 4), .int .i64 (a.n 5), .int .i64 (a.n 6), .int .i64 (a.n 7), .int .i64 (a.n 8), .int .i64 (a.n 9), .int .i64 (a.n 10), .slice a.aa a.af.length a.ac, .int .i64 (a.n 11), .int .i64 (a.n 12), .int .i64 (a.n 13), .int .i64 (a.n 14)] 26)).alloc (.cells #[.int .i64 b.kind, .int .i64 b.key, .int .i64 (b.n 1), .int .i64 (b.n 2), .int .i64 (b.n 3), .int .i64 (b.n 4), .int .i64 (b.n 5), .int .i64 (b.n 6), .int .i64 (b.n 7), .int .i64 (b.n 8), .int .i64 (b.n 9), .int .i64 (b.n 10), .slice b.aa b.af.length b.ac, .int .i64 (b.n 11), .int .i64 (b.n 12), .int .i64 (b.n 13), .int .i64 (b.n 14)] 26)) (w.heap.size + 1) b := by simpa using BoxQ.new (w.alloc (.cells #[.int .i64 a.kind, .int .i64 a.key, .int .i64 (a.n 1), .int .i64 (a.n 2), .int .i64 (a.n 3), .int .i64 (a.n 4), .int .i64 (a.n 5), .int .i64 (a.n 6), .int .i64 (a.n 7), .int .i64 (a.n 8), .int .i64 (a.n 9), .int .i64 (a.n 10), .slice a.aa a.af.length a.ac, .int .i64 (a.n 11), .int .i64 (a.n 12), .int .i64 (a.n 13), .int .i64 (a.n 14)] 26)) b
  generalize hw0 : World.alloc (World.alloc w _) _ = w0 at HX0 HY0 ⊢
  have hb0 : Below w.heap.size w w0 := by rw [← hw0]; exact (by repeat' (first | exact Below.refl _ _ | assumption | exact And.left (by assumption) | refine Below.drew ?_ | refine below_drewN ?_ _ | refine Below.setCell ?_ (by first | (simp; done) | (simp; omega) | omega) _ | refine Below.alloc ?_ (by first | (simp; done) | (simp; omega) | omega) _ | refine after (by assumption) (by first | (simp; done) | (simp; omega) | omega) ?_))
  have HX := Lib.hid HX0
  have HY := Lib.hid HY0
  have HA0 := Lib.hid (HA.out.later hb0)
  have HB0 := Lib.hid (HB.out.later hb0)
  have hz0 := hb0.size
  clear hw0 HX0 HY0 p1 p2 r1 r2 s1 s2
  go_loopw [5] (fun v5 wr => ∃ k : Nat, k ≤ a.af.length ∧ v5 = .int .i64 (k : Int) ∧ Hid (a.af.take k = b.af.take k) ∧ Below w0.heap.size w0 wr) (fun v5 _ => a.af.length - (intOf v5).toNat)
  case atStart => exact ⟨0, Nat.zero_le _, rfl, Lib.hid rfl, Below.refl _ _⟩
  case round =>
    obtain ⟨k, hk, rfl, HE, hbw⟩ := hrel
    have hz := hbw.size
    have x12 := (HX.out.on hbw).c12
    have y12 := (HY.out.on hbw).c12
    by_cases hlt : k < a.af.length
    · have hlt2 : k < b.af.length := by have := HL.out; omega
      obtain ⟨b1, o1, e1, _, c1, c2⟩ := dep_at (HA0.out.later hbw) hlt
      obtain ⟨b2, o2, e2, _, d1, d2⟩ := dep_at (HB0.out.later hbw) hlt2
      have HT : Hid (a.af[k] = b.af[k] → a.af.take (k + 1) = b.af.take (k + 1)) := Lib.hid (fun e => take_eq_succ HE.out hlt hlt2 e)
      have HF : Hid (¬ a.af[k] = b.af[k] → sameQ a b = false) := Lib.hid (fun e => Bool.eq_false_iff.2 (fun h => e (by have := (HAB.out.1 h).2.2.1; simp [this])))
      have hlt3 : (k : Int) < (b.af.length : Int) := by omega
      rw [e1] at x12
      rw [e2] at y12
      clear e1 e2
      generalize a.af[k] = p at c1 c2 HT HF
      generalize b.af[k] = r at d1 d2 HT HF
      clear hlt2
      obtain ⟨p1, p2⟩ := p
      obtain ⟨r1, r2⟩ := r
      simp only at c1 c2 d1 d2
      by_cases he : p1 = r1
      · subst he
        by_cases he2 : p2 = r2
        · subst he2
          have HT2 := Lib.hid (HT.out rfl)
          clear HT HF
          go_wp2_with fail
          go_quiet (fail)
          go_wp2
          go_roundw
          case rel => exact ⟨k + 1, by omega, by go_num, HT2, (by repeat' (first | exact Below.refl _ _ | assumption | exact And.left (by assumption) | refine Below.drew ?_ | refine below_drewN ?_ _ | refine Below.setCell ?_ (by first | (simp; done) | (simp; omega) | omega) _ | refine Below.alloc ?_ (by first | (simp; done) | (simp; omega) | omega) _ | refine after (by assumption) (by first | (simp; done) | (simp; omega) | omega) ?_))⟩
          case measure => simp [intOf]; omega
        · have HD := Lib.hid (HF.out (fun h => he2 (by injection h)))
          have q1 : (p2 == r2) = false := by simpa using he2
          have q2 : (p2 != r2) = true := by simpa using he2
          clear he2
          go_wp2_with fail
          go_quiet (fail)
          go_wp2
          go_ret
          exact ⟨by rw [HD.out]; rfl, hb0.trans (Below.mono ((by repeat' (first | exact Below.refl _ _ | assumption | exact And.left (by assumption) | refine Below.drew ?_ | refine below_drewN ?_ _ | refine Below.setCell ?_ (by first | (simp; done) | (simp; omega) | omega) _ | refine Below.alloc ?_ (by first | (simp; done) | (simp; omega) | omega) _ | refine after (by assumption) (by first | (simp; done) | (simp; omega) | omega) ?_))) hz0)⟩
      · have HD := Lib.hid (HF.out (fun h => he (by injection h)))
        have q1 : (p1 == r1) = false := by simpa using he
        have q2 : (p1 != r1) = true := by simpa using he
        clear he
        go_wp2_with fail
        go_quiet (fail)
        go_wp2
        go_ret
        exact ⟨by rw [HD.out]; rfl, hb0.trans (Below.mono ((by repeat' (first | exact Below.refl _ _ | assumption | exact And.left (by assumption) | refine Below.drew ?_ | refine below_drewN ?_ _ | refine Below.setCell ?_ (by first | (simp; done) | (simp; omega) | omega) _ | refine Below.alloc ?_ (by first | (simp; done) | (simp; omega) | omega) _ | refine after (by assumption) (by first | (simp; done) | (simp; omega) | omega) ?_))) hz0)⟩
    · have hkl : k = a.af.length := by omega
      subst hkl
      have HAF : Hid (a.af = b.af) := Lib.hid (by
        have h1 := HE.out
        have h2 := HL.out
        rw [List.take_length] at h1
        rw [h1, List.take_of_length_le (by omega)])
      have HXr := Lib.hid (HX.out.on hbw)
      have HYr := Lib.hid (HY.out.on hbw)
      clear HE y12
      go_wp2_with (with_reducible refine wpList_load_q (q := a) rfl (.tmp 2) rfl rfl HXr.out ?_)
      refine (HRA.out wr).mono ?_; rintro e w1 ⟨v1, rfl, hown1, hb1⟩
      obtain ⟨A1, c1, rfl, _, hrow1, _⟩ := own_form hown1
      have HY1 := Lib.hid (HYr.out.on hb1)
      have HR1 := Lib.hid hrow1
      have hz1 := hb1.size
      clear hown1 hrow1 HYr x12
      go_wp2_with (with_reducible refine wpList_load_q (q := b) rfl (.tmp 3) rfl rfl HY1.out ?_)
      refine (HRB.out w1).mono ?_; rintro e w2 ⟨v2, rfl, hown2, hb2⟩
      obtain ⟨A2, c2, rfl, _, hrow2, _⟩ := own_form hown2
      have HR2 := Lib.hid hrow2
      have HR12 := Lib.hid (HR1.out.later hb2)
      have hz2 := hb2.size
      have hW : Below w.heap.size w w2 := ((hb0.trans (hbw.mono hz0)).trans (hb1.mono (by omega))).trans (hb2.mono (by omega))
      clear hown2 hrow2 HR1
      go_wp2_with fail
      go_loopw [8] (fun v8 wr => ∃ i : Nat, i ≤ 15 ∧ v8 = .int .i64 (i : Int) ∧ Hid (∀ j, 1 ≤ j → j < i → a.n j = b.n j) ∧ Below w2.heap.size w2 wr) (fun v8 _ => 15 - (intOf v8).toNat)
      case atStart => exact ⟨0, by omega, rfl, Lib.hid (fun j a b => by omega), Below.refl _ _⟩
      case round =>
        obtain ⟨i, hi, rfl, HN, hbw2⟩ := hrel
        have hzz := hbw2.size
        by_cases hlt : i < 15
        · obtain ⟨x, y, ex, ey, hxy⟩ := HTW.out i hlt
          have hpa : 0 < (vals la).length := by
            rcases Nat.lt_or_ge i (vals la).length with h | h
            · omega
            · rw [List.getElem?_eq_none h] at ex; cases ex
          have hpb : 0 < (vals lb).length := by
            rcases Nat.lt_or_ge i (vals lb).length with h | h
            · omega
            · rw [List.getElem?_eq_none h] at ey; cases ey
          obtain ⟨b1, o1, e1, _, f1⟩ := (HR12.out.later hbw2).row hpa
          obtain ⟨b2, o2, e2, _, f2⟩ := (HR2.out.later hbw2).row hpb
          have g1 := f1 i _ ex
          have g2 := f2 i _ ey
          have E1 := Lib.hid e1
          have E2 := Lib.hid e2
          have HXY := Lib.hid hxy
          clear f1 f2 e1 e2 ex ey hpa hpb hxy
          obtain rfl := E1.out
          obtain rfl := E2.out
          have dlt : decide ((i : Int) < 15) = true := decide_eq_true (by omega)
          by_cases he : x = y
          · have HN2 : Hid (∀ j, 1 ≤ j → j < i + 1 → a.n j = b.n j) := Lib.hid (fun j h1 h2 => by
              rcases Nat.lt_or_ge j i with h | h
              · exact HN.out j h1 h
              · have hj : j = i := by omega
                subst hj
                exact (HXY.out.1 he).resolve_left (by omega))
            subst he
            go_wp2_with fail
            go_quiet (fail)
            go_wp2
            go_roundw
            case rel => exact ⟨i + 1, by omega, by go_num, HN2, (by repeat' (first | exact Below.refl _ _ | assumption | exact And.left (by assumption) | refine Below.drew ?_ | refine below_drewN ?_ _ | refine Below.setCell ?_ (by first | (simp; done) | (simp; omega) | omega) _ | refine Below.alloc ?_ (by first | (simp; done) | (simp; omega) | omega) _ | refine after (by assumption) (by first | (simp; done) | (simp; omega) | omega) ?_))⟩
            case measure => simp [intOf]; omega
          · have HD : Hid (sameQ a b = false) := Lib.hid (Bool.eq_false_iff.2 (fun h => he (HXY.out.2 (by
              by_cases h0 : i = 0
              · exact .inl h0
              · exact .inr ((HAB.out.1 h).2.2.2 i (by omega) (by omega))))))
            have q1 : (x == y) = false := by simpa using he
            have q2 : (x != y) = true := by simpa using he
            clear he
            go_wp2_with fail
            go_quiet (fail)
            go_wp2
            go_ret
            exact ⟨by rw [HD.out]; rfl, hW.trans (Below.mono ((by repeat' (first | exact Below.refl _ _ | assumption | exact And.left (by assumption) | refine Below.drew ?_ | refine below_drewN ?_ _ | refine Below.setCell ?_ (by first | (simp; done) | (simp; omega) | omega) _ | refine Below.alloc ?_ (by first | (simp; done) | (simp; omega) | omega) _ | refine after (by assumption) (by first | (simp; done) | (simp; omega) | omega) ?_))) hW.size)⟩
        · have hi15 : i = 15 := by omega
          subst hi15
          have HD : Hid (sameQ a b = true) := Lib.hid (HAB.out.2 ⟨H0.out, H1.out, HAF.out, fun j h1 h2 => HN.out j h1 (by omega)⟩)
          go_wp2
          go_ret
          exact ⟨by rw [HD.out]; rfl, hW.trans (hbw2.mono hW.size)⟩
/-- are two requests the same, as the document says? -/
theorem refSame (a b : Rq) (hfa : a.af.length ≤ 1000) (w : World) (ha : RowAt w a.aa (depsV a.af)) (hb : RowAt w b.aa (depsV b.af)) :
    Calls Try.prog 14 #[.agg #[.int .i64 a.kind, .int .i64 a.key, .int .i64 (a.n 1), .int .i64 (a.n 2), .int .i64 (a.n 3), .int .i64 (a.n 4), .int .i64 (a.n 5), .int .i64 (a.n 6), .int .i64 (a.n 7), .int .i64 (a.n 8), .int .i64 (a.n 9), .int .i64 (a.n 10), .slice a.aa a.af.length a.ac, .int .i64 (a.n 11), .int .i64 (a.n 12), .int .i64 (a.n 13), .int .i64 (a.n 14)], .agg #[.int .i64 b.kind, .int .i64 b.key, .int .i64 (b.n 1), .int .i64 (b.n 2), .int .i64 (b.n 3), .int .i64 (b.n 4), .int .i64 (b.n 5), .int .i64 (b.n 6), .int .i64 (b.n 7), .int .i64 (b.n 8), .int .i64 (b.n 9), .int .i64 (b.n 10), .slice b.aa b.af.length b.ac, .int .i64 (b.n 11), .int .i64 (b.n 12), .int .i64 (b.n 13), .int .i64 (b.n 14)]] w fun e w' => e = .returned (.bool (sameQ a b)) ∧ Below w.heap.size w w' := by
  have hno : (¬ a.kind = b.kind ∨ (a.kind = b.kind ∧ ¬ a.key = b.key) ∨ (a.kind = b.kind ∧ a.key = b.key ∧ ¬ a.af.length = b.af.length)) → sameQ a b = false := fun h => Bool.eq_false_iff.2 (fun hs => by
    obtain ⟨h1, h2, h3, _⟩ := (sameQ_iff a b).1 hs
    rcases h with h | ⟨_, h⟩ | ⟨_, _, h⟩
    · exact h h1
    · exact h h2
    · exact h (by rw [h3]))
  by_cases h0 : a.kind = b.kind
  · by_cases h1 : a.key = b.key
    · by_cases h2 : a.af.length = b.af.length
      · exact rs_in a b hfa w ha hb h0 h1 h2
      · rw [hno (.inr (.inr ⟨h0, h1, h2⟩))]; exact rs_no a b w (.inr (.inr ⟨h0, h1, h2⟩))
    · rw [hno (.inr (.inl ⟨h0, h1⟩))]; exact rs_no a b w (.inr (.inl ⟨h0, h1⟩))
  · rw [hno (.inl h0)]; exact rs_no a b w (.inl h0)
end Go.Proofs.Ytkeboafejebanaa.W
