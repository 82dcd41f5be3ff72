/-
  Contracts of codec's reader by its plain state: Number, Within, Err, End.
-/
import Derived.Test.YtbnlchbklpgejaaDoorAskReadS
import Derived.Test.YtbnlchbklpgejaaDoorAskMem
namespace Go.Proofs.YtbnlchbklpgejaaDoor.W
set_option linter.unusedVariables false
set_option linter.unusedSimpArgs false
open Go.ChangeShapes Go.WideShapes Go.ChangeAt Go.RowKit

structure RdS (w : World) (g : Nat) (s : St) : Prop where
  rd : Rd w g s.1 (s.2 : Int)
  bad : s.2 ≠ 0 → s.1 = []
  few : s.1.length ≤ 100000
theorem RdS.on {w w' : World} {g : Nat} {s : St} (h : RdS w g s) (hb : Below w.heap.size w w') : RdS w' g s := ⟨h.rd.on hb, h.bad, h.few⟩
theorem RdS.lt {w : World} {g : Nat} {s : St} (h : RdS w g s) : g < w.heap.size := h.rd.lt
/-- where another block alone was turned: one that holds no bytes, and is no reader -/
theorem RdS.grown {w w' : World} {g : Nat} {s : St} {row : Option Nat} (h : RdS w g s) (hg : w.grownBy w' row) (hr : ∀ k, row = some k → ∃ t cs, Row w k t cs ∧ t ≠ 60 ∧ t ≠ 5) : RdS w' g s := ⟨h.rd.grown hg hr, h.bad, h.few⟩
theorem numS_few {s : St} (h : s.1.length ≤ 100000) : (numS s).2.1.length ≤ 100000 := by
  unfold numS
  split
  · split
    · simp only [List.length_drop]; omega
    · simp
  · simp
theorem numS_none {s : St} (h : (numS s).2.2 ≠ 0) : (numS s).2.1 = [] := by
  unfold numS at h ⊢
  split
  · rename_i h0
    rw [if_pos h0] at h
    split
    · rename_i h1
      rw [if_pos h1] at h
      exact absurd rfl h
    · rfl
  · rfl

theorem number_err (g : Nat) (e : Nat) (he : e ≠ 0) (w : World) (h : Rd w g [] (e : Int)) :
    Calls Tryd.prog 33 #[.pointer (some ⟨g, 0, none⟩)] w fun x w' => x = .returned (.int .i64 0) ∧ w = w' := by
  obtain ⟨a, cap, hr, _⟩ := h
  have c0 := hr.cell 0
  have c1 := hr.cell 1
  simp only [List.getElem?_toArray, List.getElem?_cons_zero, List.getElem?_cons_succ] at c0 c1
  have h1 : ¬ ((e : Int) = 0) := by omega
  have h2 : ((e : Int) == 0) = false := by simpa using h1
  have h3 : ((e : Int) != 0) = true := by simpa using h1
  clear hr he
  generalize (e : Int) = x at c1 h1 h2 h3
  go_enter Tryd.func33, Tryd.ntmps33
  go_wp2
  go_ret
  exact ⟨rfl, rfl⟩
theorem numberS (g : Nat) (s : St) (w : World) (h : RdS w g s) :
    Calls Tryd.prog 33 #[.pointer (some ⟨g, 0, none⟩)] w fun x w' => x = .returned (.int .i64 ((numS s).1 : Int)) ∧ RdS w' g (numS s).2 ∧ w.grownBy w' (some g) := by
  have hf := numS_few h.few
  obtain ⟨l, e⟩ := s
  by_cases he : e = 0
  · subst he
    by_cases h2 : (firstS l).2.2 = 0
    · have hs : firstS l = ((firstS l).1, (firstS l).2.1, 0) := by rw [← h2]
      obtain ⟨h3, h4, t, h5⟩ := first_back hs
      have hn : numS (l, 0) = ((firstS l).1, (l.drop (firstS l).2.1, 0)) := by unfold numS; simp [h2]
      rw [hn] at hf ⊢
      have hp := enc_len1 (firstS l).1
      have hle : (firstS l).2.1 ≤ l.length := by
        rw [h4]
        conv => rhs; rw [h5, List.length_append]
        omega
      refine (number_ok g l h.few _ _ (by omega) hle hs w h.rd).mono ?_
      rintro x w' ⟨rfl, h6, h7⟩
      exact ⟨rfl, ⟨h6, fun x => absurd rfl x, hf⟩, h7⟩
    · have hn : numS (l, 0) = (0, ([], (firstS l).2.2)) := by unfold numS; simp [h2]
      have hs : firstS l = ((firstS l).1, (firstS l).2.1, (firstS l).2.2) := rfl
      obtain ⟨h3, h4, h5⟩ := first_wrong hs h2
      rw [hn]
      refine (number_no g l h.few (firstS l).2.2 h2 h5 (Prod.ext h3 (Prod.ext h4 rfl)) w h.rd).mono ?_
      rintro x w' ⟨rfl, h6, h7⟩
      exact ⟨rfl, ⟨h6, fun _ => rfl, by simp⟩, h7⟩
  · have hl : l = [] := h.bad he
    subst hl
    rw [numS_bad (s := ([], e)) he]
    refine (number_err g e he w h.rd).mono ?_
    rintro x w' ⟨rfl, rfl⟩
    exact ⟨rfl, h, grown_refl _ _⟩
theorem withinS_of {lo hi : Nat} {s : St} {n : Nat} {l : List UInt8} {e : Nat} (h : numS s = (n, (l, e))) : withinS lo hi s = if e = 0 then (if lo ≤ n ∧ n ≤ hi then (n, (l, e)) else (0, ([], 11))) else (0, (l, e)) := by
  unfold withinS
  rw [h]
theorem withinR (lo hi : Nat) (g : Nat) (s : St) (w : World) (h : RdS w g s) :
    Calls Tryd.prog 24 #[.pointer (some ⟨g, 0, none⟩), .int .i64 (lo : Int), .int .i64 (hi : Int)] w fun x w' => x = .returned (.int .i64 ((withinS lo hi s).1 : Int)) ∧ RdS w' g (withinS lo hi s).2 ∧ w.grownBy w' (some g) := by
  have HN := Lib.hid (numberS g s w h)
  have hno := numS_none (s := s)
  generalize hr : numS s = r at HN hno
  obtain ⟨n, l, e⟩ := r
  rw [withinS_of hr]
  clear hr h
  have HNO := Lib.hid hno
  clear hno
  by_cases he : e = 0
  · subst he
    rw [if_pos rfl]
    by_cases h1 : lo ≤ n
    · by_cases h2 : n ≤ hi
      · rw [if_pos ⟨h1, h2⟩]
        have d1 : decide (n < lo) = false := decide_eq_false (by omega)
        have d2 : decide (hi < n) = false := decide_eq_false (by omega)
        clear h1 h2
        go_enter Tryd.func24, Tryd.ntmps24
        go_wp2_with fail
        refine HN.out.mono ?_; rintro x w1 ⟨rfl, h1, g1⟩
        have H1 := Lib.hid h1
        have G1 := Lib.hid g1
        have K := errOf g _ _ w1 h1.rd
        clear h1 g1
        go_wp2_with fail
        refine K.mono ?_; rintro x w2 ⟨rfl, rfl⟩
        clear K
        go_wp2
        go_ret
        exact ⟨rfl, H1.out, G1.out⟩
      · rw [if_neg (fun x => h2 x.2)]
        have d1 : decide (n < lo) = false := decide_eq_false (by omega)
        have d2 : decide (hi < n) = true := decide_eq_true (by omega)
        clear h1 h2
        go_enter Tryd.func24, Tryd.ntmps24
        go_wp2_with fail
        refine HN.out.mono ?_; rintro x w1 ⟨rfl, h1, g1⟩
        have H1 := Lib.hid h1
        have G1 := Lib.hid g1
        have K := errOf g _ _ w1 h1.rd
        have K2 := failR g _ _ 11 w1 h1.rd
        clear h1 g1
        go_wp2_with fail
        refine K.mono ?_; rintro x w2 ⟨rfl, rfl⟩
        clear K
        go_wp2_with fail
        refine K2.mono ?_; rintro x w3 ⟨rfl, h3, g3⟩
        have H3 := Lib.hid h3
        have G3 := Lib.hid g3
        clear h3 g3 K2
        go_wp2
        go_ret
        exact ⟨rfl, ⟨H3.out, fun _ => rfl, by simp⟩, grown_trans G1.out G3.out⟩
    · rw [if_neg (fun x => h1 x.1)]
      have d1 : decide (n < lo) = true := decide_eq_true (by omega)
      clear h1
      go_enter Tryd.func24, Tryd.ntmps24
      go_wp2_with fail
      refine HN.out.mono ?_; rintro x w1 ⟨rfl, h1, g1⟩
      have H1 := Lib.hid h1
      have G1 := Lib.hid g1
      have K := errOf g _ _ w1 h1.rd
      have K2 := failR g _ _ 11 w1 h1.rd
      clear h1 g1
      go_wp2_with fail
      refine K.mono ?_; rintro x w2 ⟨rfl, rfl⟩
      clear K
      go_wp2_with fail
      refine K2.mono ?_; rintro x w3 ⟨rfl, h3, g3⟩
      have H3 := Lib.hid h3
      have G3 := Lib.hid g3
      clear h3 g3 K2
      go_wp2
      go_ret
      exact ⟨rfl, ⟨H3.out, fun _ => rfl, by simp⟩, grown_trans G1.out G3.out⟩
  · rw [if_neg he]
    have h1 : ¬ ((e : Int) = 0) := by omega
    have h2 : ((e : Int) == 0) = false := by simpa using h1
    have h3 : ((e : Int) != 0) = true := by simpa using h1
    have E := Lib.hid he
    clear he h1
    go_enter Tryd.func24, Tryd.ntmps24
    go_wp2_with fail
    refine HN.out.mono ?_; rintro x w1 ⟨rfl, h1, g1⟩
    have H1 := Lib.hid h1
    have G1 := Lib.hid g1
    have K := errOf g _ _ w1 h1.rd
    clear h1 g1
    go_wp2_with fail
    refine K.mono ?_; rintro x w2 ⟨rfl, rfl⟩
    clear K
    go_wp2
    go_ret
    exact ⟨rfl, H1.out, G1.out⟩
theorem errR (g : Nat) (s : St) (w : World) (h : RdS w g s) :
    Calls Tryd.prog 34 #[.pointer (some ⟨g, 0, none⟩)] w fun x w' => x = .returned (.int .i64 (s.2 : Int)) ∧ w = w' :=
  (errOf g s.1 s.2 w h.rd).mono fun x w' h => ⟨h.1, h.2.symm⟩
theorem leftR (g : Nat) (s : St) (w : World) (h : RdS w g s) :
    Calls Tryd.prog 36 #[.pointer (some ⟨g, 0, none⟩)] w fun x w' => x = .returned (.int .i64 (s.1.length : Int)) ∧ w = w' :=
  (left g s.1 s.2 w h.rd).mono fun x w' h => ⟨h.1, h.2.symm⟩
theorem endR (g : Nat) (s : St) (w : World) (h : RdS w g s) :
    Calls Tryd.prog 26 #[.pointer (some ⟨g, 0, none⟩)] w fun x w' => x = .returned (.int .i64 (endS s : Int)) ∧ w = w' := by
  have H1 := Lib.hid (errR g s w h)
  have H2 := Lib.hid (leftR g s w h)
  obtain ⟨l, e⟩ := s
  clear h
  by_cases he : e = 0
  · subst he
    by_cases hl : 0 < l.length
    · rw [show endS (l, 0) = 11 from if_pos ⟨rfl, hl⟩]
      have hl' : (0 : Int) < (l.length : Int) := by omega
      go_enter Tryd.func26, Tryd.ntmps26
      go_wp2_with fail
      refine H1.out.mono ?_; rintro e w1 ⟨rfl, rfl⟩
      go_wp2_with fail
      refine H2.out.mono ?_; rintro e w2 ⟨rfl, rfl⟩
      go_wp2
      go_ret
      exact ⟨rfl, rfl⟩
    · rw [show endS (l, 0) = 0 from if_neg (fun x => hl x.2)]
      have hl' : ¬ (0 : Int) < (l.length : Int) := by omega
      go_enter Tryd.func26, Tryd.ntmps26
      go_wp2_with fail
      refine H1.out.mono ?_; rintro e w1 ⟨rfl, rfl⟩
      go_wp2_with fail
      refine H2.out.mono ?_; rintro e w2 ⟨rfl, rfl⟩
      go_wp2_with fail
      refine H1.out.mono ?_; rintro e w3 ⟨rfl, rfl⟩
      go_wp2
      go_ret
      exact ⟨rfl, rfl⟩
  · rw [show endS (l, e) = e from if_neg (fun x => he x.1)]
    have h1 : ¬ ((e : Int) = 0) := by omega
    have h2 : ((e : Int) == 0) = false := by simpa using h1
    have h3 : ((e : Int) != 0) = true := by simpa using h1
    clear he h1
    go_enter Tryd.func26, Tryd.ntmps26
    go_wp2_with fail
    refine H1.out.mono ?_; rintro x w1 ⟨rfl, rfl⟩
    go_wp2_with fail
    refine H1.out.mono ?_; rintro x w3 ⟨rfl, rfl⟩
    go_wp2
    go_ret
    exact ⟨rfl, rfl⟩
end Go.Proofs.YtbnlchbklpgejaaDoor.W
