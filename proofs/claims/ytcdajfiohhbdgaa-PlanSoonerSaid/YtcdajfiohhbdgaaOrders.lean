/-
  A region that draws its order, by an invariant of what has come up: each operation once, whatever the order.
-/
import Derived.Test.YtcdajfiohhbdgaaVec
import Derived.Orders
namespace Go.Proofs.Ytcdajfiohhbdgaa.W
set_option linter.unusedVariables false
set_option linter.unusedSimpArgs false
open Go.ChangeShapes Go.WideShapes Go.ChangeAt Go.RowKit

theorem count_set : ∀ (l : List Bool) (i : Nat), l[i]? = some false → (l.set i true).countP (fun b => !b) + 1 = l.countP (fun b => !b)
  | [], i, h => by simp at h
  | b :: l, 0, h => by simp at h; subst h; simp
  | b :: l, i + 1, h => by
    have := count_set l i (by simpa using h)
    simp only [List.set_cons_succ, List.countP_cons]
    omega

section
variable {P : Program} {md : Region.Mode} {ops : Array Oper} {Q : Exit → Act → World → Prop}
theorem wpOp_one {i : Nat} {o : Oper} {K : Act → World → Prop} {a : Act} {w : World} (ho : ops[i]? = some o) (hw : Region.wanted o (yielded ops a.tmps) = true)
    (h : ∀ K' : Act → World → Prop, (∀ a w, K a w → K' a w) → o.wp P a w K' Q) : wpOp P ops Q i K a w := by
  unfold wpOp
  rw [ho]
  simp only [hw, if_true]
  exact .inl (h K (fun _ _ x => x))
theorem wpAny_inv (I : Array Bool → Act → World → Prop) (hend : ∀ listed a w, I listed a w → Region.ready md ops listed = [] → Q .normal a w)
    (hstep : ∀ i listed a w, I listed a w → listed.getD i true = false → (∃ o, ops[i]? = some o ∧ ∀ e ∈ o.after, Region.binds md e = true → listed.getD e.on false = true) → wpOp P ops Q i (I (listed.setIfInBounds i true)) a w) :
    ∀ (fuel : Nat) (listed : Array Bool) (a : Act) (w : World), listed.toList.countP (fun b => !b) ≤ fuel → I listed a w → wpAny P md ops Q fuel listed a w
  | 0, listed, a, w, hc, hI => by
    have hr : Region.ready md ops listed = [] := by
      cases h : Region.ready md ops listed with
      | nil => rfl
      | cons j js =>
        have hj : j ∈ Region.ready md ops listed := by rw [h]; exact List.mem_cons_self
        have h0 := (mem_ready.1 hj).1
        have h1 : listed.toList[j]? = some false := by
          rw [Array.getElem?_toList]
          rw [Array.getD_eq_getD_getElem?] at h0
          cases e : listed[j]? with
          | none => rw [e] at h0; cases h0
          | some b => rw [e] at h0; simpa using h0
        have := count_set _ _ h1
        omega
    exact ⟨hr, hend _ _ _ hI hr⟩
  | fuel + 1, listed, a, w, hc, hI => by
    refine ⟨fun hr => hend _ _ _ hI hr, fun i hi => ?_⟩
    obtain ⟨h0, h2⟩ := mem_ready.1 hi
    have h1 : listed.toList[i]? = some false := by
      rw [Array.getElem?_toList]
      rw [Array.getD_eq_getD_getElem?] at h0
      cases e : listed[i]? with
      | none => rw [e] at h0; cases h0
      | some b => rw [e] at h0; simpa using h0
    have hcs := count_set _ _ h1
    refine wpOp_mono (fun a' w' hI' => wpAny_inv I hend hstep fuel _ a' w' ?_ hI') (hstep i listed a w hI h0 h2)
    rw [Array.toList_setIfInBounds]
    omega
/-- a block of one's own, of two cells -/
structure Mine (w2 w : World) (s : Value) (g : Nat) (u0 u1 : Value) : Prop where
  eq : s = .pointer (some ⟨g, 0, none⟩)
  new : w2.heap.size ≤ g
  c0 : w.cell? ⟨g, 0, none⟩ = some u0
  c1 : w.cell? ⟨g, 1, none⟩ = some u1
  f0 : w.frozen? ⟨g, 0, none⟩ = false
  f1 : w.frozen? ⟨g, 1, none⟩ = false
theorem Mine.later {w2 w w' : World} {s : Value} {g : Nat} {u0 u1 : Value} (h : Mine w2 w s g u0 u1) (hb : Below w.heap.size w w') : Mine w2 w' s g u0 u1 := by
  have hl := World.block_lt_of_cell? _ _ h.c0
  exact ⟨h.eq, h.new, carry hb h.c0, carry hb h.c1, (hb.frozen (p := ⟨g, 0, none⟩) hl).trans h.f0, (hb.frozen (p := ⟨g, 1, none⟩) hl).trans h.f1⟩
theorem Mine.stored {w2 w : World} {s : Value} {g : Nat} {u0 u1 : Value} (h : Mine w2 w s g u0 u1) (x0 x1 : Value) : Mine w2 ((w.setCell ⟨g, 0, none⟩ x0).setCell ⟨g, 1, none⟩ x1) s g x0 x1 := by
  have c0 := h.c0
  have c1 := h.c1
  have f0 := h.f0
  have f1 := h.f1
  exact ⟨h.eq, h.new, by simp [go_sem, c0], by simp [go_sem, c1], by simp [go_sem, f0], by simp [go_sem, f1]⟩
theorem Mine.apart {w2 w : World} {s : Value} {g k : Nat} {u0 u1 : Value} (h : Mine w2 w s g u0 u1) (hk : k ≠ g) (x0 x1 : Value) : Mine w2 ((w.setCell ⟨k, 0, none⟩ x0).setCell ⟨k, 1, none⟩ x1) s g u0 u1 := by
  have c0 := h.c0
  have c1 := h.c1
  have f0 := h.f0
  have f1 := h.f1
  refine ⟨h.eq, h.new, ?_, ?_, by simp [go_sem, f0], by simp [go_sem, f1]⟩
  · rw [World.cell?_setCell_far _ _ _ _ hk, World.cell?_setCell_far _ _ _ _ hk]; exact c0
  · rw [World.cell?_setCell_far _ _ _ _ hk, World.cell?_setCell_far _ _ _ _ hk]; exact c1
/-- a vector in a block of one's own -/
structure Res4 (w : World) (g : Nat) (a : V) : Prop where
  c0 : w.cell? ⟨g, 0, none⟩ = some (.int .i64 a.cpu)
  c1 : w.cell? ⟨g, 1, none⟩ = some (.int .i64 a.mem)
  c2 : w.cell? ⟨g, 2, none⟩ = some (.int .i64 a.gpu)
  c3 : w.cell? ⟨g, 3, none⟩ = some (.int .i64 a.lic)
  f0 : w.frozen? ⟨g, 0, none⟩ = false
  f1 : w.frozen? ⟨g, 1, none⟩ = false
  f2 : w.frozen? ⟨g, 2, none⟩ = false
  f3 : w.frozen? ⟨g, 3, none⟩ = false
theorem Res4.later {w w' : World} {g : Nat} {a : V} (h : Res4 w g a) (hb : Below w.heap.size w w') : Res4 w' g a := by
  have hl := World.block_lt_of_cell? _ _ h.c0
  exact ⟨carry hb h.c0, carry hb h.c1, carry hb h.c2, carry hb h.c3, (hb.frozen (p := ⟨g, 0, none⟩) hl).trans h.f0, (hb.frozen (p := ⟨g, 1, none⟩) hl).trans h.f1, (hb.frozen (p := ⟨g, 2, none⟩) hl).trans h.f2, (hb.frozen (p := ⟨g, 3, none⟩) hl).trans h.f3⟩
theorem Res4.lt {w : World} {g : Nat} {a : V} (h : Res4 w g a) : g < w.heap.size := World.block_lt_of_cell? _ _ h.c0
theorem Res4.stored {w : World} {g : Nat} {a : V} (h : Res4 w g a) (b : V) :
    Res4 ((((w.setCell ⟨g, 0, none⟩ (.int .i64 b.cpu)).setCell ⟨g, 1, none⟩ (.int .i64 b.mem)).setCell ⟨g, 2, none⟩ (.int .i64 b.gpu)).setCell ⟨g, 3, none⟩ (.int .i64 b.lic)) g b := by
  obtain ⟨c0, c1, c2, c3, f0, f1, f2, f3⟩ := h
  exact ⟨by simp [go_sem, c0], by simp [go_sem, c1], by simp [go_sem, c2], by simp [go_sem, c3], by simp [go_sem, f0], by simp [go_sem, f1], by simp [go_sem, f2], by simp [go_sem, f3]⟩
theorem region_inv {id : Nat} {a : Act} {w : World} (hm : P.follows .mixedOrders = true) (I : Array Bool → Act → World → Prop)
    (hbegin : I (Array.replicate ops.size false) a w.drew)
    (hend : ∀ listed a w, I listed a w → Region.ready .any ops listed = [] → Q .normal a w)
    (hstep : ∀ i listed a w, I listed a w → listed.getD i true = false → (∃ o, ops[i]? = some o ∧ ∀ e ∈ o.after, Region.binds .any e = true → listed.getD e.on false = true) → wpOp P ops Q i (I (listed.setIfInBounds i true)) a w) :
    (Code.region id ops true).wp P Q a w :=
  wp_region_any hm (wpAny_inv I hend hstep _ _ _ _ (by simp [List.countP_replicate]) hbegin)
end
end Go.Proofs.Ytcdajfiohhbdgaa.W
