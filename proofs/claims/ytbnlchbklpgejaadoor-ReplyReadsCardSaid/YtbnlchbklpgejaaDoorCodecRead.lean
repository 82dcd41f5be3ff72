/-
  Contracts of codec's reader: New, Number, Err, Left, End.
-/
import Derived.Test.YtbnlchbklpgejaaDoorCodecFirst
namespace Go.Proofs.YtbnlchbklpgejaaDoor.W
set_option linter.unusedVariables false
set_option linter.unusedSimpArgs false
open Go.ChangeShapes Go.WideShapes Go.ChangeAt Go.RowKit

/-- a block of the call's own: all that it holds -/
def Row (w : World) (g : Nat) (t : TypeId) (cs : Array Value) : Prop := w.heap[g]? = some (.cells cs t (0, 0))
theorem Row.lt {w : World} {g : Nat} {t : TypeId} {cs : Array Value} (h : Row w g t cs) : g < w.heap.size := (Array.getElem?_eq_some_iff.1 h).1
theorem Row.cell {w : World} {g : Nat} {t : TypeId} {cs : Array Value} (h : Row w g t cs) (i : Nat) : w.cell? ⟨g, i, none⟩ = cs[i]? := cell_of_row w g i cs t (0, 0) h
theorem Row.thaw {w : World} {g : Nat} {t : TypeId} {cs : Array Value} (h : Row w g t cs) (i : Nat) : w.frozen? ⟨g, i, none⟩ = false := by
  unfold Row at h
  simp [World.frozen?, h]
theorem Row.on {w w' : World} {g : Nat} {t : TypeId} {cs : Array Value} (h : Row w g t cs) (hb : Below w.heap.size w w') : Row w' g t cs := (hb.block g h.lt).trans h
theorem Row.put {w : World} {g : Nat} {t : TypeId} {cs : Array Value} (h : Row w g t cs) (i : Nat) (u : Value) : Row (w.setCell ⟨g, i, none⟩ u) g t (cs.setIfInBounds i u) := by
  unfold Row at h ⊢
  simp [World.setCell, Array.getElem?_modify, h]
theorem Row.new {w : World} {g : Nat} (hg : g = w.heap.size) (t : TypeId) (cs : Array Value) : Row (w.alloc (.cells cs t)) g t cs := by subst hg; exact heap_alloc_new w _
theorem Row.alloc {w : World} {g : Nat} {t : TypeId} {cs : Array Value} (h : Row w g t cs) (o : Obj) : Row (w.alloc o) g t cs := (Below.heap_alloc w o g h.lt).trans h
theorem Row.grown {w w' : World} {g : Nat} {t : TypeId} {cs : Array Value} {row : Option Nat} (h : Row w g t cs) (hg : w.grownBy w' row) (hr : some g ≠ row) : Row w' g t cs := (hg.block g h.lt hr).trans h
/-- rows of different types lie apart -/
theorem own_row_ne {w : World} {base : Nat} {e t : TypeId} {s n : Nat} {v : Value} {xs : List Value} {g : Nat} {cs : Array Value} (h : w.ownsRow base e s v n xs) (hg : Row w g t cs) (hne : e ≠ t) : v.ownBlock ≠ some g := by
  rcases h.2 with ⟨rfl, _⟩ | ⟨g', cap, cur, rfl, _, hh, _⟩
  · simp [Value.ownBlock]
  · intro he
    have : g' = g := by simpa [Value.ownBlock] using he
    subst this
    unfold Row at hg
    rw [hg] at hh
    injection hh with hh
    injection hh with _ ht
    exact hne ht.symm

theorem Row.type {w : World} {g : Nat} {t t' : TypeId} {cs cs' : Array Value} (h : Row w g t cs) (h' : Row w g t' cs') : t = t' := by
  unfold Row at h h'
  rw [h] at h'
  injection h' with h'
  injection h' with _ ht
theorem own_row {w : World} {base : Nat} {e : TypeId} {s n : Nat} {v : Value} {xs : List Value} (h : w.ownsRow base e s v n xs) : ∀ k, v.ownBlock = some k → ∃ cs, Row w k e cs := by
  rcases h.2 with ⟨rfl, _⟩ | ⟨g', cap, cur, rfl, _, hh, _⟩
  · intro k hk; simp [Value.ownBlock] at hk
  · intro k hk
    have : g' = k := by simpa [Value.ownBlock] using hk
    subst this
    exact ⟨cur, hh⟩

/-- a reader: its bytes that are left, what is wrong -/
def Rd (w : World) (g : Nat) (l : List UInt8) (e : Int) : Prop :=
  ∃ a cap, Row w g 60 #[.slice a l.length cap, .int .i64 e] ∧ l.length ≤ cap ∧ RowAt w a (bytesV l) ∧ ∀ b off, a = some ⟨b, off, none⟩ → ∃ cs, Row w b 5 cs
theorem Rd.lt {w : World} {g : Nat} {l : List UInt8} {e : Int} (h : Rd w g l e) : g < w.heap.size := by
  obtain ⟨a, cap, h1, _⟩ := h
  exact h1.lt
/-- where another block alone was turned: one that holds no bytes, and is no reader -/
theorem Rd.grown {w w' : World} {g : Nat} {l : List UInt8} {e : Int} {row : Option Nat} (h : Rd w g l e) (hg : w.grownBy w' row) (hr : ∀ k, row = some k → ∃ t cs, Row w k t cs ∧ t ≠ 60 ∧ t ≠ 5) : Rd w' g l e := by
  obtain ⟨a, cap, h1, h2, h3, h4⟩ := h
  have ne : ∀ k t cs, Row w k t cs → (t = 60 ∨ t = 5) → some k ≠ row := by
    intro k t cs hk ht he
    obtain ⟨t', cs', hk', n1, n2⟩ := hr k he.symm
    have := hk.type hk'
    rcases ht with ht | ht
    · exact n1 (this.symm.trans ht)
    · exact n2 (this.symm.trans ht)
  refine ⟨a, cap, h1.grown hg (ne _ _ _ h1 (.inl rfl)), h2, h3.grown hg fun b off ha _ => ?_, fun b off ha => ?_⟩
  · obtain ⟨cs, hb⟩ := h4 b off ha
    exact ne _ _ _ hb (.inr rfl)
  · obtain ⟨cs, hb⟩ := h4 b off ha
    exact ⟨cs, hb.grown hg (ne _ _ _ hb (.inr rfl))⟩
theorem Rd.on {w w' : World} {g : Nat} {l : List UInt8} {e : Int} (h : Rd w g l e) (hb : Below w.heap.size w w') : Rd w' g l e :=
  h.grown (row := none) ⟨hb.os, hb.tape, hb.output, hb.size, fun k hk _ => hb.block k hk⟩ (fun k hk => by cases hk)
theorem Rd.alloc {w : World} {g : Nat} {l : List UInt8} {e : Int} (h : Rd w g l e) (o : Obj) : Rd (w.alloc o) g l e := h.on ((Below.refl _ w).alloc (Nat.le_refl _) o)

theorem left (g : Nat) (l : List UInt8) (e : Int) (w : World) (h : Rd w g l e) :
    Calls Tryd.prog 36 #[.pointer (some ⟨g, 0, none⟩)] w fun e w' => e = .returned (.int .i64 (l.length : Nat)) ∧ w' = w := by
  obtain ⟨a, cap, hr, _⟩ := h
  have c0 := hr.cell 0
  have c1 := hr.cell 1
  simp only [List.getElem?_toArray, List.getElem?_cons_zero, List.getElem?_cons_succ] at c0 c1
  clear hr
  go_enter Tryd.func36, Tryd.ntmps36
  go_wp2
  go_ret
  exact ⟨rfl, rfl⟩
theorem errOf (g : Nat) (l : List UInt8) (e : Int) (w : World) (h : Rd w g l e) :
    Calls Tryd.prog 34 #[.pointer (some ⟨g, 0, none⟩)] w fun x w' => x = .returned (.int .i64 e) ∧ w' = w := by
  obtain ⟨a, cap, hr, _⟩ := h
  have c0 := hr.cell 0
  have c1 := hr.cell 1
  simp only [List.getElem?_toArray, List.getElem?_cons_zero, List.getElem?_cons_succ] at c0 c1
  clear hr
  go_enter Tryd.func34, Tryd.ntmps34
  go_wp2
  go_ret
  exact ⟨rfl, rfl⟩
theorem end_ok (g : Nat) (w : World) (h : Rd w g [] 0) :
    Calls Tryd.prog 26 #[.pointer (some ⟨g, 0, none⟩)] w fun x w' => x = .returned (.int .i64 0) ∧ w' = w := by
  have H1 := Lib.hid (errOf g [] 0 w h)
  have H2 := Lib.hid (left g [] 0 w h)
  go_enter Tryd.func26, Tryd.ntmps26
  go_wp2_with fail
  refine H1.out.mono ?_; rintro e w1 ⟨rfl, rfl⟩
  go_wp2_with fail
  refine H2.out.mono ?_; rintro e w2 ⟨rfl, rfl⟩
  go_wp2_with fail
  refine H1.out.mono ?_; rintro e w3 ⟨rfl, rfl⟩
  go_wp2
  go_ret
  exact ⟨rfl, rfl⟩

theorem new (a : Option Addr) (cap : Nat) (l : List UInt8) (w : World) (hl : l.length ≤ 140737488355328) (hc : a = none → cap = 0) (h : RowAt w a (bytesV l)) :
    Calls Tryd.prog 23 #[.slice a l.length cap] w fun x w' => ∃ g, x = .returned (.pointer (some ⟨g, 0, none⟩)) ∧ w.heap.size ≤ g ∧ Rd w' g l 0 ∧ Below w.heap.size w w' := by
  have H := Lib.hid (clone a cap l w hl hc h)
  go_enter Tryd.func23, Tryd.ntmps23
  go_wp2_with fail
  refine H.out.mono ?_; rintro e w1 ⟨v1, rfl, hown, hb1⟩
  obtain ⟨a1, cap1, rfl, hcap1, hrow1, hty⟩ := own_form hown
  have hz := hb1.size
  clear hown
  go_wp2
  go_ret
  refine ⟨_, rfl, hz, ?_, hb1.alloc hz _⟩
  refine ⟨a1, cap1, Row.new rfl _ _, hcap1, hrow1.alloc _, fun b off ha => ?_⟩
  subst ha
  rcases hty with ⟨h, _⟩ | ⟨g, h, _, cur, hh⟩
  · cases h
  · injection h with h
    injection h with h1 h2
    subst h1
    exact ⟨cur, Row.alloc hh _⟩

theorem grown_put {w : World} {g : Nat} (i : Nat) (u : Value) : w.grownBy (w.setCell ⟨g, i, none⟩ u) (some g) :=
  ⟨rfl, rfl, rfl, by simp, fun k hk hne => Below.heap_setCell w ⟨g, i, none⟩ u k (fun e => hne (by rw [e]))⟩
theorem grown_trans {w w1 w2 : World} {row : Option Nat} (h : w.grownBy w1 row) (k : w1.grownBy w2 row) : w.grownBy w2 row :=
  ⟨k.os.trans h.os, k.tape.trans h.tape, k.output.trans h.output, Nat.le_trans h.size k.size, fun i hi hne => (k.block i (Nat.lt_of_lt_of_le hi h.size) hne).trans (h.block i hi hne)⟩
theorem failR (g : Nat) (l : List UInt8) (e e2 : Int) (w : World) (h : Rd w g l e) :
    Calls Tryd.prog 35 #[.pointer (some ⟨g, 0, none⟩), .int .i64 e2] w fun x w' => x = .returned (.int .i64 0) ∧ Rd w' g [] e2 ∧ w.grownBy w' (some g) := by
  obtain ⟨a, cap, hr, hcap, hrow, hty⟩ := h
  have HR := Lib.hid hr
  have c0 := hr.cell 0
  have c1 := hr.cell 1
  have hf := hr.thaw
  have hlt := hr.lt
  simp only [List.getElem?_toArray, List.getElem?_cons_zero, List.getElem?_cons_succ] at c0 c1
  clear hr
  go_enter Tryd.func35, Tryd.ntmps35
  go_wp2
  go_ret
  refine ⟨rfl, ⟨none, 0, ?_, Nat.le_refl _, .inl rfl, fun b off h => by cases h⟩, grown_trans (grown_put 0 _) (grown_put 1 _)⟩
  exact (HR.out.put 0 _).put 1 _

set_option maxHeartbeats 2000000 in
theorem number_no (g : Nat) (l : List UInt8) (hl : l.length ≤ 100000) (E : Nat) (hE : E ≠ 0) (hE2 : E ≤ 11) (hs : firstS l = (0, 0, E)) (w : World) (h : Rd w g l 0) :
    Calls Tryd.prog 33 #[.pointer (some ⟨g, 0, none⟩)] w fun x w' => x = .returned (.int .i64 0) ∧ Rd w' g [] (E : Int) ∧ w.grownBy w' (some g) := by
  have HF := Lib.hid (failR g l 0 (E : Int) w h)
  obtain ⟨a, cap, hr, hcap, hrow, hty⟩ := h
  have H1 := Lib.hid (first0 a cap l hl w hrow)
  rw [hs] at H1
  have c0 := hr.cell 0
  have c1 := hr.cell 1
  have hf := hr.thaw
  have hlt := hr.lt
  simp only [List.getElem?_toArray, List.getElem?_cons_zero, List.getElem?_cons_succ] at c0 c1
  clear hr hs
  go_enter Tryd.func33, Tryd.ntmps33
  go_wp2_with fail
  refine H1.out.mono ?_; rintro e w1 ⟨rfl, rfl⟩
  go_wp2_with fail
  refine HF.out.mono ?_; rintro e w2 ⟨rfl, h2, h3⟩
  have H2 := Lib.hid h2
  have H3 := Lib.hid h3
  clear h2 h3
  go_wp2
  go_ret
  exact ⟨rfl, H2.out, H3.out⟩

set_option maxHeartbeats 2000000 in
theorem number_ok (g : Nat) (l : List UInt8) (hl : l.length ≤ 100000) (N S : Nat) (hS0 : 0 < S) (hS : S ≤ l.length) (hs : firstS l = (N, S, 0)) (w : World) (h : Rd w g l 0) :
    Calls Tryd.prog 33 #[.pointer (some ⟨g, 0, none⟩)] w fun x w' => x = .returned (.int .i64 (N : Int)) ∧ Rd w' g (l.drop S) 0 ∧ w.grownBy w' (some g) := by
  obtain ⟨a, cap, hr, hcap, hrow, hty⟩ := h
  have H1 := Lib.hid (first0 a cap l hl w hrow)
  rw [hs] at H1
  have HR := Lib.hid hr
  have HW := Lib.hid hrow
  obtain ⟨b, off, rfl, hbw, hcs⟩ := hrow.row (by rw [bytesV_len]; omega)
  obtain ⟨cb, hb8⟩ := hty b off rfl
  have hbg : b ≠ g := by
    rintro rfl
    exact absurd (hb8.type hr) (by decide)
  have HB8 := Lib.hid hb8
  have c0 := hr.cell 0
  have c1 := hr.cell 1
  have hf := hr.thaw
  have hlt := hr.lt
  simp only [List.getElem?_toArray, List.getElem?_cons_zero, List.getElem?_cons_succ] at c0 c1
  have hi0 : (0 : Int) ≤ (S : Int) := by omega
  have hi1 : (S : Int) ≤ (l.length : Int) := by omega
  have hi2 : (l.length : Int) ≤ (cap : Int) := by omega
  have hlen : (l.drop S).length = l.length - S := List.length_drop
  clear hr hs hcs hrow hty hb8
  by_cases hcS : cap = S
  · subst hcS
    go_enter Tryd.func33, Tryd.ntmps33
    go_wp2_with fail
    refine H1.out.mono ?_; rintro e w1 ⟨rfl, rfl⟩
    go_wp2
    go_ret
    refine ⟨rfl, ⟨some ⟨b, off, none⟩, 0, ?_, by omega, .inl ?_, fun b' off' e => ?_⟩, grown_put 0 _⟩
    · have := HR.out.put 0 (.slice (some ⟨b, off, none⟩) (l.drop cap).length 0)
      rw [hlen, show l.length - cap = 0 by omega] at this ⊢
      simpa using this
    · rw [bytesV_drop, List.drop_of_length_le (by rw [bytesV_len]; omega)]
    · injection e with e
      injection e with e _
      subst e
      exact ⟨cb, HB8.out.grown (grown_put 0 _) (fun x => hbg (by injection x))⟩
  · go_enter Tryd.func33, Tryd.ntmps33
    go_wp2_with fail
    refine H1.out.mono ?_; rintro e w1 ⟨rfl, rfl⟩
    go_wp2
    go_ret
    refine ⟨rfl, ⟨some ⟨b, off + S, none⟩, cap - S, ?_, by omega, ?_, fun b' off' e => ?_⟩, grown_put 0 _⟩
    · have := HR.out.put 0 (.slice (some ⟨b, off + S, none⟩) (l.drop S).length (cap - S))
      rw [hlen] at this ⊢
      simpa using this
    · rw [bytesV_drop]
      refine (HW.out.drop S).grown (grown_put 0 _) ?_
      intro b' off' e1 _ e2
      injection e1 with e1
      injection e1 with e1 _
      injection e2 with e2
      exact hbg (e1.trans e2)
    · injection e with e
      injection e with e _
      subst e
      exact ⟨cb, HB8.out.grown (grown_put 0 _) (fun x => hbg (by injection x))⟩
end Go.Proofs.YtbnlchbklpgejaaDoor.W
