/-
  Contracts of the document's own reader (layer 5) by its plain state: Number, Within, Left.
-/
import Derived.Test.YtbnlchbklpgejaaDoorRefRd
import Derived.Lib.QuietBelow
import Derived.Deep.QuietTactic
import Derived.BigQuiet
import Derived.IntWalk
namespace Go.Proofs.YtbnlchbklpgejaaDoor.W
set_option linter.unusedVariables false
set_option linter.unusedSimpArgs false
open Go.ChangeShapes Go.WideShapes Go.ChangeAt Go.RowKit

structure RefR (w : World) (g : Nat) (A : Option Addr) (cap : Nat) (b : List UInt8) (s : St) (at' : Nat) : Prop where
  row : Row w g 55 #[.slice A b.length cap, .int .i64 (at' : Int), .int .i64 (s.2 : Int)]
  le : at' ≤ b.length
  few : b.length ≤ 100000
  ok : s.2 = 0 → s.1 = b.drop at'
  bad : s.2 ≠ 0 → s.1 = []
  bytes : RowAt w A (bytesV b)
  far : ∀ bl off, A = some ⟨bl, off, none⟩ → bytesV b ≠ [] → bl ≠ g
/-- a reader, however far it is -/
def RefS (w : World) (g : Nat) (A : Option Addr) (cap : Nat) (b : List UInt8) (s : St) : Prop := ∃ at', RefR w g A cap b s at'
theorem RefR.grown {w w' : World} {g : Nat} {A : Option Addr} {cap : Nat} {b : List UInt8} {s : St} {at' : Nat} {row : Option Nat} (h : RefR w g A cap b s at') (hg : w.grownBy w' row) (hr : some g ≠ row) (hA : ∀ bl off, A = some ⟨bl, off, none⟩ → bytesV b ≠ [] → some bl ≠ row) : RefR w' g A cap b s at' :=
  ⟨h.row.grown hg hr, h.le, h.few, h.ok, h.bad, h.bytes.grown hg hA, h.far⟩
theorem RefS.grown {w w' : World} {g : Nat} {A : Option Addr} {cap : Nat} {b : List UInt8} {s : St} {row : Option Nat} (h : RefS w g A cap b s) (hg : w.grownBy w' row) (hr : some g ≠ row) (hA : ∀ bl off, A = some ⟨bl, off, none⟩ → bytesV b ≠ [] → some bl ≠ row) : RefS w' g A cap b s := by
  obtain ⟨at', h⟩ := h
  exact ⟨at', h.grown hg hr hA⟩
theorem below_none {w w' : World} (h : Below w.heap.size w w') : w.grownBy w' none := ⟨h.os, h.tape, h.output, h.size, fun k hk _ => h.block k hk⟩
theorem RefS.on {w w' : World} {g : Nat} {A : Option Addr} {cap : Nat} {b : List UInt8} {s : St} (h : RefS w g A cap b s) (hb : Below w.heap.size w w') : RefS w' g A cap b s :=
  h.grown (below_none hb) (by simp) (fun _ _ _ _ => by simp)
theorem RefS.lt {w : World} {g : Nat} {A : Option Addr} {cap : Nat} {b : List UInt8} {s : St} (h : RefS w g A cap b s) : g < w.heap.size := by
  obtain ⟨at', h⟩ := h
  exact h.row.lt
theorem RefS.err {w : World} {g : Nat} {A : Option Addr} {cap : Nat} {b : List UInt8} {s : St} (h : RefS w g A cap b s) : w.cell? ⟨g, 2, none⟩ = some (.int .i64 (s.2 : Int)) := by
  obtain ⟨at', h⟩ := h
  exact (h.row.cell 2).trans rfl
theorem grown_refl2 (w : World) (row : Option Nat) : w.grownBy w row := ⟨rfl, rfl, rfl, Nat.le_refl _, fun _ _ _ => rfl⟩
theorem below_grown2 {w wr w' : World} {row : Option Nat} (h : w.grownBy wr row) (hb : Below wr.heap.size wr w') : w.grownBy w' row :=
  ⟨hb.os.trans h.os, hb.tape.trans h.tape, hb.output.trans h.output, Nat.le_trans h.size hb.size, fun i hi hne => (hb.block i (Nat.lt_of_lt_of_le hi h.size)).trans (h.block i hi hne)⟩
/-- an error is laid down -/
theorem RefS.fail {w : World} {g : Nat} {A : Option Addr} {cap : Nat} {b : List UInt8} {s : St} (h : RefS w g A cap b s) (e : Nat) (he : e ≠ 0) : RefS (w.setCell ⟨g, 2, none⟩ (.int .i64 (e : Int))) g A cap b ([], e) := by
  obtain ⟨at', h⟩ := h
  exact ⟨at', (h.row.put 2 _), h.le, h.few, fun x => absurd x he, fun _ => rfl, h.bytes.grown (grown_put (g := g) 2 _) (fun bl off e1 e2 x => h.far bl off e1 e2 (by injection x)), h.far⟩
theorem numS_few2 {l : List UInt8} (h : (firstS l).2.2 = 0) : (firstS l).2.1 ≤ l.length := by
  have hs : firstS l = ((firstS l).1, (firstS l).2.1, 0) := by rw [← h]
  obtain ⟨h3, h4, t, h5⟩ := first_back hs
  rw [h4]
  conv => rhs; rw [h5, List.length_append]
  omega

set_option maxHeartbeats 2000000 in
theorem refNum (g : Nat) (A : Option Addr) (cap : Nat) (b : List UInt8) (s : St) (w : World) (h : RefS w g A cap b s) :
    Calls Tryd.prog 29 #[.pointer (some ⟨g, 0, none⟩)] w fun x w' => x = .returned (.int .i64 ((numS s).1 : Int)) ∧ RefS w' g A cap b (numS s).2 ∧ w.grownBy w' (some g) := by
  obtain ⟨at', h⟩ := h
  obtain ⟨l, e⟩ := s
  have HH := Lib.hid h
  have c0 : w.cell? ⟨g, 0, none⟩ = some (.slice A b.length cap) := (h.row.cell 0).trans rfl
  have c1 : w.cell? ⟨g, 1, none⟩ = some (.int .i64 (at' : Int)) := (h.row.cell 1).trans rfl
  have c2 : w.cell? ⟨g, 2, none⟩ = some (.int .i64 (e : Int)) := (h.row.cell 2).trans rfl
  have hf := h.row.thaw
  have hlt := h.row.lt
  clear h
  by_cases he : e = 0
  · subst he
    have hl : l = b.drop at' := HH.out.ok rfl
    have hle := HH.out.le
    have hfew := HH.out.few
    have HN := Lib.hid (fun w' hA => refNumber1 A cap b at' hfew hle w' hA)
    rw [← hl] at HN
    have hE : (firstS l).2.2 = 0 ∨ (firstS l).2.2 ≠ 0 := by omega
    have hn : numS (l, 0) = if (firstS l).2.2 = 0 then ((firstS l).1, (l.drop (firstS l).2.1, 0)) else (0, ([], (firstS l).2.2)) := by unfold numS; simp
    have hw0 : (firstS l).2.2 ≠ 0 → (firstS l).1 = 0 ∧ (firstS l).2.1 = 0 := fun h => by
      have := first_wrong (l := l) (N := (firstS l).1) (S := (firstS l).2.1) (E := (firstS l).2.2) rfl h
      exact ⟨this.1, this.2.1⟩
    have hS : (firstS l).2.2 = 0 → (firstS l).2.1 ≤ l.length := numS_few2
    have hll : l.length = b.length - at' := by rw [hl, List.length_drop]
    have HLB := Lib.hid hl
    rw [hn]
    clear hn hl
    generalize firstS l = r at HN hE hw0 hS ⊢
    obtain ⟨n, sz, er⟩ := r
    simp only at HN hE hw0 hS ⊢
    have hsz : at' + sz ≤ b.length := by
      rcases hE with h | h
      · have := hS h; omega
      · have := (hw0 h).2; omega
    have HE := Lib.hid hE
    have HW0 := Lib.hid hw0
    clear hE hw0 hS hll
    obtain ⟨res, hres⟩ : ∃ res : Nat × St, res = if er = 0 then (n, (l.drop sz, 0)) else (0, ([], er)) := ⟨_, rfl⟩
    rw [← hres]
    have HRES := Lib.hid hres
    clear hres
    go_enter Tryd.func29, Tryd.ntmps29
    have g0 := fun d os => cell_regrown (w := w) c0 d os
    have g1 := fun d os => cell_regrown (w := w) c1 d os
    go_wp2_with fail
    refine wp_region_quiet_below (by kernel_rfl) (by kernel_rfl) ?_
    repeat (quiet_step (exact Calls.regrown_of (HN.out _ (HH.out.bytes.later (below_regrown w _ _)))))
    refine wpQuiet_nil ?_
    intro _ hw'
    obtain ⟨⟨dq, osq⟩, rfl⟩ := hw'
    have hb5 := below_regrown w dq osq
    generalize Go.Sort.grow (redrawn w dq) osq = w5 at hb5 ⊢
    have H5 : RefR w5 g A cap b (l, 0) at' := HH.out.grown (below_none hb5) (by simp) (fun _ _ _ _ => by simp)
    have HH5 := Lib.hid H5
    have d0 : w5.cell? ⟨g, 0, none⟩ = some (.slice A b.length cap) := (H5.row.cell 0).trans rfl
    have d1 : w5.cell? ⟨g, 1, none⟩ = some (.int .i64 (at' : Int)) := (H5.row.cell 1).trans rfl
    have d2 : w5.cell? ⟨g, 2, none⟩ = some (.int .i64 ((0 : Nat) : Int)) := (H5.row.cell 2).trans rfl
    have f5 := H5.row.thaw
    have hlt5 := H5.row.lt
    have HN5 : Hid (w.grownBy w5 (some g)) := Lib.hid (below_grown2 (grown_refl2 w (some g)) hb5)
    clear H5 c0 c1 c2 hf hlt hb5 g0 g1
    have hwr : IntKind.i64.wrap ((at' : Int) + (sz : Int)) = (at' : Int) + (sz : Int) := IntWalk.i64_in _ (by omega)
    go_wp2
    go_ret
    refine ⟨?_, ?_, grown_trans (grown_trans HN5.out (grown_put 1 _)) (grown_put 2 _)⟩
    · rcases HE.out with h | h
      · rw [HRES.out, if_pos h]; rfl
      · rw [HRES.out, if_neg h, (HW0.out h).1]; rfl
    · have hr := (HH5.out.row.put 1 (.int .i64 ((at' + sz : Nat) : Int))).put 2 (.int .i64 (er : Int))
      have hby : ∀ u1 u2, RowAt ((w5.setCell ⟨g, 1, none⟩ u1).setCell ⟨g, 2, none⟩ u2) A (bytesV b) := fun u1 u2 =>
        (HH5.out.bytes.grown (grown_put (g := g) 1 u1) (fun bl off e1 e2 x => HH5.out.far bl off e1 e2 (by injection x))).grown (grown_put (g := g) 2 u2) (fun bl off e1 e2 x => HH5.out.far bl off e1 e2 (by injection x))
      refine ⟨at' + sz, ?_⟩
      rcases HE.out with h | h
      · rw [HRES.out, if_pos h]
        have h' : er = 0 := h
        subst h'
        refine ⟨hr.as rfl, hsz, hfew, fun _ => ?_, fun x => absurd rfl x, hby _ _, HH5.out.far⟩
        show l.drop sz = b.drop (at' + sz)
        rw [HLB.out, List.drop_drop]
      · rw [HRES.out, if_neg h]
        exact ⟨hr.as rfl, hsz, hfew, fun x => absurd x h, fun _ => rfl, hby _ _, HH5.out.far⟩
  · have hl : l = [] := HH.out.bad he
    rw [numS_bad (s := (l, e)) he]
    have h1 : ¬ ((e : Int) = 0) := by omega
    have h2 : ((e : Int) == 0) = false := by simpa using h1
    have h3 : ((e : Int) != 0) = true := by simpa using h1
    have HL := Lib.hid hl
    clear he h1 hl
    go_enter Tryd.func29, Tryd.ntmps29
    go_wp2
    go_ret
    exact ⟨rfl, ⟨at', by rw [← HL.out]; exact HH.out⟩, grown_refl2 _ _⟩
theorem refWithin (lo hi : Nat) (g : Nat) (A : Option Addr) (cap : Nat) (b : List UInt8) (s : St) (w : World) (h : RefS w g A cap b s) :
    Calls Tryd.prog 28 #[.pointer (some ⟨g, 0, none⟩), .int .i64 (lo : Int), .int .i64 (hi : Int)] w fun x w' => x = .returned (.int .i64 ((withinS lo hi s).1 : Int)) ∧ RefS w' g A cap b (withinS lo hi s).2 ∧ w.grownBy w' (some g) := by
  have HN := Lib.hid (refNum g A cap b s w h)
  have hno := numS_none (s := s)
  generalize hr : numS s = r at HN hno
  obtain ⟨n, l, e⟩ := r
  rw [withinS_of hr]
  clear hr h
  have HNO := Lib.hid hno
  clear hno
  by_cases he : e = 0
  · subst he
    rw [if_pos rfl]
    by_cases hin : lo ≤ n ∧ n ≤ hi
    · rw [if_pos hin]
      have d1 : decide (n < lo) = false := decide_eq_false (by omega)
      have d2 : decide (hi < n) = false := decide_eq_false (by omega)
      clear hin
      go_enter Tryd.func28, Tryd.ntmps28
      go_wp2_with fail
      refine HN.out.mono ?_; rintro x w1 ⟨rfl, h1, g1⟩
      have H1 := Lib.hid h1
      have G1 := Lib.hid g1
      have c2 : w1.cell? ⟨g, 2, none⟩ = some (.int .i64 ((0 : Nat) : Int)) := h1.err
      clear h1 g1
      go_wp2
      go_ret
      exact ⟨rfl, H1.out, G1.out⟩
    · rw [if_neg hin]
      by_cases h1 : lo ≤ n
      · have d1 : decide (n < lo) = false := decide_eq_false (by omega)
        have d2 : decide (hi < n) = true := decide_eq_true (by omega)
        clear hin h1
        go_enter Tryd.func28, Tryd.ntmps28
        go_wp2_with fail
        refine HN.out.mono ?_; rintro x w1 ⟨rfl, h1, g1⟩
        have H2 := Lib.hid (h1.fail 11 (by decide))
        have G1 := Lib.hid g1
        have c2 : w1.cell? ⟨g, 2, none⟩ = some (.int .i64 ((0 : Nat) : Int)) := h1.err
        have hlt := h1.lt
        have hf : w1.frozen? ⟨g, 2, none⟩ = false := by obtain ⟨at', h⟩ := h1; exact h.row.thaw 2
        clear h1 g1
        go_wp2
        go_ret
        exact ⟨rfl, H2.out, grown_trans G1.out (grown_put 2 _)⟩
      · have d1 : decide (n < lo) = true := decide_eq_true (by omega)
        clear hin h1
        go_enter Tryd.func28, Tryd.ntmps28
        go_wp2_with fail
        refine HN.out.mono ?_; rintro x w1 ⟨rfl, h1, g1⟩
        have H2 := Lib.hid (h1.fail 11 (by decide))
        have G1 := Lib.hid g1
        have c2 : w1.cell? ⟨g, 2, none⟩ = some (.int .i64 ((0 : Nat) : Int)) := h1.err
        have hlt := h1.lt
        have hf : w1.frozen? ⟨g, 2, none⟩ = false := by obtain ⟨at', h⟩ := h1; exact h.row.thaw 2
        clear h1 g1
        go_wp2
        go_ret
        exact ⟨rfl, H2.out, grown_trans G1.out (grown_put 2 _)⟩
  · rw [if_neg he]
    have h1 : ¬ ((e : Int) = 0) := by omega
    have h2 : ((e : Int) == 0) = false := by simpa using h1
    have h3 : ((e : Int) != 0) = true := by simpa using h1
    clear he h1
    go_enter Tryd.func28, Tryd.ntmps28
    go_wp2_with fail
    refine HN.out.mono ?_; rintro x w1 ⟨rfl, h1, g1⟩
    have H1 := Lib.hid h1
    have G1 := Lib.hid g1
    have c2 : w1.cell? ⟨g, 2, none⟩ = some (.int .i64 (e : Int)) := h1.err
    clear h1 g1
    go_wp2
    go_ret
    exact ⟨rfl, H1.out, G1.out⟩
theorem refLeft (g : Nat) (A : Option Addr) (cap : Nat) (b : List UInt8) (l : List UInt8) (w : World) (h : RefS w g A cap b (l, 0)) :
    Calls Tryd.prog 30 #[.pointer (some ⟨g, 0, none⟩)] w fun x w' => x = .returned (.int .i64 (l.length : Int)) ∧ ∃ n, w' = w.drewN n := by
  obtain ⟨at', h⟩ := h
  have c0 : w.cell? ⟨g, 0, none⟩ = some (.slice A b.length cap) := (h.row.cell 0).trans rfl
  have c1 : w.cell? ⟨g, 1, none⟩ = some (.int .i64 (at' : Int)) := (h.row.cell 1).trans rfl
  have c2 : w.cell? ⟨g, 2, none⟩ = some (.int .i64 0) := (h.row.cell 2).trans rfl
  have hl : l = b.drop at' := h.ok rfl
  have hle := h.le
  have hfew := h.few
  have hll : (l.length : Int) = (b.length : Int) - (at' : Int) := by rw [hl, List.length_drop]; omega
  have HL := Lib.hid hll
  have hwr : IntKind.i64.wrap ((b.length : Int) - (at' : Int)) = (b.length : Int) - (at' : Int) := IntWalk.i64_in _ (by omega)
  clear h hl hll
  go_enter Tryd.func30, Tryd.ntmps30
  go_wp2_with fail
  go_quiet (fail)
  go_wp2
  go_ret
  exact ⟨by rw [HL.out]; rfl, _, rfl⟩
end Go.Proofs.YtbnlchbklpgejaaDoor.W
