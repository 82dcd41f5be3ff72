/-
  Contract of ask.readAfter: the After that stands next.
-/
import Derived.Test.YtkeboafejebanaaAskWrite
import Derived.Test.YtkeboafejebanaaAskRd
namespace Go.Proofs.Ytkeboafejebanaa.W
set_option linter.unusedVariables false
set_option linter.unusedSimpArgs false
open Go.ChangeShapes Go.WideShapes Go.ChangeAt Go.RowKit

theorem grown_own {w wr w' : World} {row row' : Option Nat} (h : w.grownBy wr row) (h' : wr.grownBy w' row') (hr : ∀ k, row' = some k → w.heap.size ≤ k ∨ row = some k) : w.grownBy w' row :=
  ⟨h'.os.trans h.os, h'.tape.trans h.tape, h'.output.trans h.output, Nat.le_trans h.size h'.size, fun i hi hne => (h'.block i (Nat.lt_of_lt_of_le hi h.size) (fun e => by
    rcases hr i e.symm with h1 | h1
    · omega
    · exact hne h1.symm)).trans (h.block i hi hne)⟩
theorem below_grown {w wr w' : World} {row : Option Nat} (h : w.grownBy wr row) (hb : Below wr.heap.size wr w') : w.grownBy w' row :=
  ⟨hb.os.trans h.os, hb.tape.trans h.tape, hb.output.trans h.output, Nat.le_trans h.size hb.size, fun i hi hne => (hb.block i (Nat.lt_of_lt_of_le hi h.size)).trans (h.block i hi hne)⟩
theorem infoD : (Try.prog.info? 53).map (fun i => (i.zero, i.size, i.bytes)) = some (some (.agg #[.int .i64 0, .bool false]), 2, 16) := by kernel_rfl
/-- an append of one to an After of the call's own -/
theorem pushD {ops : Array Oper} {rest : List Oper} {o : Oper} {a : Act} {Q : Exit → Act → World → Prop} (s x : Operand)
    (base n : Nat) (xs : List (Int × Bool)) (d : Int × Bool) (v : Value) (ty : TypeId) (wr : World) (g : Nat) (hgd : o.guard = none)
    (ho : o.op = .call { callee := .builtin .append, args := #[s, x], argTypes := #[24, 24] })
    (hs : a.eval s = v) (hx : a.eval x = .slice (some ⟨g, 0, none⟩) 1 1) (hg : g = wr.heap.size)
    (hown : wr.ownsRow base 53 2 v n (depsV xs)) (hbase : base ≤ wr.heap.size) (hn : n ≤ 1000)
    (h : ∀ v' w', w'.ownsRow base 53 2 v' (n + 1) (depsV (xs ++ [d])) → (wr.alloc (.cells #[.int .i64 d.1, .bool d.2] ty)).grownBy w' v.ownBlock → wpList Try.prog ops Q rest (a.put o.dst v') w') :
    wpList Try.prog ops Q (o :: rest) a (wr.alloc (.cells #[.int .i64 d.1, .bool d.2] ty)) := by
  obtain ⟨i0, hi, hz0, hz1, hz2⟩ := info_parts infoD
  subst hg
  refine wpList_append_own _ hgd s x 24 ho base 53 i0 (.agg #[.int .i64 0, .bool false]) 2 16 Try.underlying24 hi hz0 hz1 hz2 rfl (by decide) v n (depsV xs) hs (hown.alloc _) ⟨wr.heap.size, 0, none⟩ 1 1 [.int .i64 d.1, .bool d.2] hx rfl ?_ ?_ ?_ ?_ ?_ ?_
  · intro j y hj
    rw [add_plain, Nat.zero_add, cell_of_row _ _ _ #[.int .i64 d.1, .bool d.2] ty (0, 0) (heap_alloc_new wr _)]
    simpa using hj
  · intro u hu; simp at hu; rcases hu with rfl | rfl <;> rfl
  · unfold maxLen; omega
  · omega
  · simp; omega
  · intro v' w' o' g' _
    exact h v' w' (by rw [depsV_snoc]; exact o') g'
theorem own_formS {w : World} {base s : Nat} {e : TypeId} {n : Nat} {v : Value} {xs : List Value} (h : w.ownsRow base e s v n xs) :
    ∃ a cap, v = .slice a n cap ∧ RowAt w a xs ∧ ((a = none ∧ n = 0 ∧ cap = 0) ∨ ∃ g, a = some ⟨g, 0, none⟩ ∧ base ≤ g) := by
  have hc := fun g => h.cells (g := g)
  have hlt := h.lt
  obtain ⟨hl, h | ⟨g, cap, cur, rfl, hg, hh, hn, _⟩⟩ := h
  · obtain ⟨rfl, rfl⟩ := h
    have hx : xs = [] := List.eq_nil_of_length_eq_zero (by rw [hl]; simp)
    exact ⟨none, 0, rfl, .inl hx, .inl ⟨rfl, rfl, rfl⟩⟩
  · refine ⟨_, cap, rfl, .inr ⟨g, 0, rfl, (hlt g rfl).2, fun i u hu => ?_⟩, .inr ⟨g, rfl, hg⟩⟩
    have := hc g rfl i u hu
    rwa [add_plain] at this
theorem RdS.row {w : World} {g : Nat} {s : St} (h : RdS w g s) : ∃ cs, Row w g 71 cs := by
  obtain ⟨a, cap, h1, _⟩ := h.rd
  exact ⟨_, h1⟩
/-- of an append's block: it is none of the reader's -/
theorem RdS.pushed {w w' : World} {B g n sz : Nat} {v : Value} {xs : List Value} {s : St} {e : TypeId} (hd : RdS w g s) (h : w.ownsRow B e sz v n xs) (h1 : e ≠ 71) (h2 : e ≠ 5) (o : Obj) (hg : (w.alloc o).grownBy w' v.ownBlock) : RdS w' g s :=
  (hd.on ((Below.refl _ w).alloc (Nat.le_refl _) o)).grown hg fun k hk => by
    obtain ⟨cs, hr⟩ := own_row h k hk
    exact ⟨_, cs, hr.alloc o, h1, h2⟩
theorem own_turned {w w' : World} {B g n sz : Nat} {v : Value} {xs : List Value} {s : St} {e : TypeId} (h : w.ownsRow B e sz v n xs) (hd : RdS w g s) (h1 : e ≠ 71) (hg : w.grownBy w' (some g)) : w'.ownsRow B e sz v n xs := by
  obtain ⟨cs, hr⟩ := hd.row
  exact h.kept hg (.inr (own_row_ne h hr h1))
theorem withinS_le {lo hi : Nat} {s : St} : (withinS lo hi s).1 ≤ hi := by
  unfold withinS
  split
  · split
    · rename_i h; exact h.2
    · simp
  · simp

set_option maxRecDepth 100000 in
set_option maxHeartbeats 2000000 in
theorem readAfter (g : Nat) (s : St) (w : World) (h : RdS w g s) :
    Calls Try.prog 30 #[.pointer (some ⟨g, 0, none⟩)] w fun e w' => ∃ v, e = .returned v ∧ w'.ownsRow w.heap.size 53 2 v (withinS 0 4 s).1 (depsV (depsS (withinS 0 4 s).1 (withinS 0 4 s).2).1) ∧
      RdS w' g (depsS (withinS 0 4 s).1 (withinS 0 4 s).2).2 ∧ w.grownBy w' (some g) := by
  have HM : Hid (∀ w', RdS w' g s → Calls Try.prog 29 #[.pointer (some ⟨g, 0, none⟩), .int .i64 0, .int .i64 4] w' fun x w'' => x = .returned (.int .i64 ((withinS 0 4 s).1 : Int)) ∧ RdS w'' g (withinS 0 4 s).2 ∧ w'.grownBy w'' (some g)) := Lib.hid (fun w' h => withinR 0 4 g s w' h)
  have HN := Lib.hid (fun s w' h => numberS g s w' h)
  have HO : Hid (∀ s w', RdS w' g s → Calls Try.prog 29 #[.pointer (some ⟨g, 0, none⟩), .int .i64 0, .int .i64 1] w' fun x w'' => x = .returned (.int .i64 ((withinS 0 1 s).1 : Int)) ∧ RdS w'' g (withinS 0 1 s).2 ∧ w'.grownBy w'' (some g)) := Lib.hid (fun s w' h => withinR 0 1 g s w' h)
  have HR := Lib.hid h
  have hle := withinS_le (lo := 0) (hi := 4) (s := s)
  have hgl := h.lt
  clear h
  generalize withinS 0 4 s = r at HM hle ⊢
  obtain ⟨m, s1⟩ := r
  simp only at hle HM ⊢
  go_enter Try.func30, Try.ntmps30
  go_wp2_with fail
  refine (HM.out w HR.out).mono ?_; rintro e w1 ⟨rfl, hr1, hg1⟩
  have HR1 := Lib.hid hr1
  have HG1 := Lib.hid hg1
  clear hr1 hg1 HM
  go_wp2_with fail
  go_loopw [3, 7] (fun v3 v7 wr => ∃ k : Nat, k ≤ m ∧ v7 = .int .i64 (k : Int) ∧ Hid (wr.ownsRow w.heap.size 53 2 v3 k (depsV (depsS k s1).1)) ∧ Hid (RdS wr g (depsS k s1).2) ∧ Hid (w.grownBy wr (some g))) (fun _ v7 _ => m - (intOf v7).toNat)
  case atStart => exact ⟨0, Nat.zero_le _, rfl, Lib.hid (World.ownsRow_nil _ _ _ _), HR1, HG1⟩
  case round =>
    obtain ⟨k, hk, rfl, HOw, HRr, HG⟩ := hrel
    have hz := HG.out.size
    clear HR1 HG1 HR
    by_cases hlt : k < m
    · have HD : Hid ((depsS (k + 1) s1).1 = (depsS k s1).1 ++ [(((numS (depsS k s1).2).1 : Int), decide ((withinS 0 1 (numS (depsS k s1).2).2).1 = 1))] ∧ (depsS (k + 1) s1).2 = (withinS 0 1 (numS (depsS k s1).2).2).2) := Lib.hid ⟨rfl, rfl⟩
      have KN := HN.out _ wr HRr.out
      generalize (depsS k s1).2 = s2 at KN HRr HD
      have KO := Lib.hid (fun w' h => HO.out (numS s2).2 w' h)
      generalize numS s2 = r2 at KN KO HD
      obtain ⟨n2, s3⟩ := r2
      simp only at KN KO HD
      generalize withinS 0 1 s3 = r3 at KO HD
      obtain ⟨n3, s4⟩ := r3
      simp only at KO HD
      go_wp2_with fail
      refine KN.mono ?_; rintro e w2 ⟨rfl, hr2, hg2⟩
      have HO2 := Lib.hid (own_turned HOw.out HRr.out (by decide) hg2)
      have HG2 := Lib.hid (grown_trans HG.out hg2)
      have HR2 := Lib.hid hr2
      clear hr2 hg2 HOw HRr HG KN
      go_wp2_with fail
      refine (KO.out w2 HR2.out).mono ?_; rintro e w3 ⟨rfl, hr3, hg3⟩
      have HO3 := Lib.hid (own_turned HO2.out HR2.out (by decide) hg3)
      have HG3 := Lib.hid (grown_trans HG2.out hg3)
      have HR3 := Lib.hid hr3
      have hz3 := HG3.out.size
      clear hr3 hg3 HO2 HR2 HG2 KO
      have hb3 : Hid (((n3 : Int) == 1) = decide (n3 = 1)) := Lib.hid (by
        rw [Bool.eq_iff_iff]; simp; omega)
      have hb4 := hb3.out
      generalize decide (n3 = 1) = ok at hb4 HD
      go_wp2_with (at_builtin; refine pushD _ _ w.heap.size k _ ((n2 : Int), ok) _ _ w3 _ rfl rfl rfl rfl rfl HO3.out hz3 (by omega) ?_)
      intro v5 w5 hown5 hg5
      have HR5 := Lib.hid (HR3.out.pushed HO3.out (by decide) (by decide) _ hg5)
      have HG5 : Hid (w.grownBy w5 (some g)) := Lib.hid (grown_own (below_grown HG3.out ((Below.refl _ w3).alloc (Nat.le_refl _) _)) hg5 (fun j hj => .inl (HO3.out.lt j hj).1))
      have HO5 : Hid (w5.ownsRow w.heap.size 53 2 v5 (k + 1) (depsV (depsS (k + 1) s1).1)) := Lib.hid (by rw [HD.out.1]; exact hown5)
      have HR6 : Hid (RdS w5 g (depsS (k + 1) s1).2) := Lib.hid (by rw [HD.out.2]; exact HR5.out)
      clear hown5 hg5 HR5 HO3 HR3 HG3 hb4 hb3 HD
      go_wp2
      go_roundw
      case rel => exact ⟨k + 1, by omega, by go_num, HO5, HR6, HG5⟩
      case measure => simp [intOf]; omega
    · have hkl : k = m := by omega
      subst hkl
      go_wp2
      go_ret
      exact ⟨_, rfl, HOw.out, HRr.out, HG.out⟩
end Go.Proofs.Ytkeboafejebanaa.W
