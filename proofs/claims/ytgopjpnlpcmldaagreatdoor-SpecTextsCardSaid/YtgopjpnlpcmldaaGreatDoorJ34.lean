/-
  Several texts in one: TextNumber, TextPlace, TextLines, TextQueues.
-/
import Derived.Test.YtgopjpnlpcmldaaGreatDoorJ33
import Derived.Laws.EntriesVeiled

/-
  Contract of spec.number: the line of a number, its place a function in a box of its own.
-/
namespace Go.Proofs.YtgopjpnlpcmldaaGreatDoor.W
set_option linter.unusedVariables false
set_option linter.unusedSimpArgs false
open Go.ChangeShapes Go.WideShapes Go.ChangeAt Go.RowKit

theorem hcarry {w w' : World} {b : Nat} {o : Obj} (hb : Below w.heap.size w w') (h : w.heap[b]? = some o) : w'.heap[b]? = some o := (hb.block b (Array.getElem?_eq_some_iff.1 h).1).trans h
theorem cell_at {w : World} {b : Nat} {v : Value} {t : TypeId} (h : w.heap[b]? = some (.cells #[v] t (0, 0))) : w.cell? ⟨b, 0, none⟩ = some v := (cell_of_row w b 0 _ _ _ h).trans rfl
set_option maxHeartbeats 1000000 in
set_option maxRecDepth 100000 in
theorem number_ (wd : ByteArray) (f : FuncId) (w : World) :
    Calls Tryz.prog 32 #[.string wd, .func (.func f) #[] #[]] w fun e w' => ∃ b, e = .returned (.agg #[.string wd, .func (.func 81) #[] #[.pointer (some ⟨b, 0, none⟩)], .func (.func 82) #[] #[.pointer (some ⟨b, 0, none⟩)]]) ∧
      w.heap.size ≤ b ∧ b < w'.heap.size ∧ w'.heap[b]? = some (.cells #[.func (.func f) #[] #[]] 79 (0, 0)) ∧ Below w.heap.size w w' := by
  go_enter Tryz.func32, Tryz.ntmps32
  go_wp2
  have hg9 := heap_alloc_new (w.alloc (.cells #[.func (.func f) #[] #[]] 79)) (.cells #[.string wd, .func (.func 81) #[] #[.pointer (some ⟨w.heap.size, 0, none⟩)], .func (.func 82) #[] #[.pointer (some ⟨w.heap.size, 0, none⟩)]] 55)
  simp only [World.size_alloc] at hg9
  refine bodyPost_ret (results_cell_row (by simp [results, Tryz.results32]; rfl) _ _ (w.heap.size + 1) _ _ _ _ rfl hg9 Tryz.underlying55 rfl (by kernel_rfl)) rfl ?_
  exact ⟨w.heap.size, rfl, Nat.le_refl _, by simp; omega, (Below.heap_alloc _ _ _ (by simp)).trans (heap_alloc_new w _), (by repeat' (first | exact Below.refl _ _ | assumption | exact And.left (by assumption) | refine Below.drew ?_ | refine below_drewN ?_ _ | refine Below.setCell ?_ (by first | (simp; done) | (simp; omega) | omega) _ | refine Below.alloc ?_ (by first | (simp; done) | (simp; omega) | omega) _ | refine after (by assumption) (by first | (simp; done) | (simp; omega) | omega) ?_))⟩
end Go.Proofs.YtgopjpnlpcmldaaGreatDoor.W


/-
  Contracts of the places of a set-up's numbers (spec.lines' functions), and of what a number's line says (spec.number's first function).
-/
namespace Go.Proofs.YtgopjpnlpcmldaaGreatDoor.W
set_option linter.unusedVariables false
set_option linter.unusedSimpArgs false
open Go.ChangeShapes Go.WideShapes Go.ChangeAt Go.RowKit

theorem place1 (g : Nat) (w : World) : Calls Tryz.prog 33 #[.pointer (some ⟨g, 0, none⟩)] w fun e w' => e = .returned (.pointer (some ⟨g, 3, none⟩)) ∧ w = w' := by
  go_enter Tryz.func33, Tryz.ntmps33
  go_wp2
  go_ret
  exact ⟨rfl, rfl⟩
theorem place2 (g : Nat) (w : World) : Calls Tryz.prog 38 #[.pointer (some ⟨g, 0, none⟩)] w fun e w' => e = .returned (.pointer (some ⟨g, 8, none⟩)) ∧ w = w' := by
  go_enter Tryz.func38, Tryz.ntmps38
  go_wp2
  go_ret
  exact ⟨rfl, rfl⟩
theorem place3 (g : Nat) (w : World) : Calls Tryz.prog 41 #[.pointer (some ⟨g, 0, none⟩)] w fun e w' => e = .returned (.pointer (some ⟨g, 10, none⟩)) ∧ w = w' := by
  go_enter Tryz.func41, Tryz.ntmps41
  go_wp2
  go_ret
  exact ⟨rfl, rfl⟩
theorem place4 (g : Nat) (w : World) : Calls Tryz.prog 42 #[.pointer (some ⟨g, 0, none⟩)] w fun e w' => e = .returned (.pointer (some ⟨g, 11, none⟩)) ∧ w = w' := by
  go_enter Tryz.func42, Tryz.ntmps42
  go_wp2
  go_ret
  exact ⟨rfl, rfl⟩
theorem place5 (g : Nat) (w : World) : Calls Tryz.prog 43 #[.pointer (some ⟨g, 0, none⟩)] w fun e w' => e = .returned (.pointer (some ⟨g, 12, none⟩)) ∧ w = w' := by
  go_enter Tryz.func43, Tryz.ntmps43
  go_wp2
  go_ret
  exact ⟨rfl, rfl⟩
theorem place6 (g : Nat) (w : World) : Calls Tryz.prog 44 #[.pointer (some ⟨g, 0, none⟩)] w fun e w' => e = .returned (.pointer (some ⟨g, 13, none⟩)) ∧ w = w' := by
  go_enter Tryz.func44, Tryz.ntmps44
  go_wp2
  go_ret
  exact ⟨rfl, rfl⟩
theorem place7 (g : Nat) (w : World) : Calls Tryz.prog 45 #[.pointer (some ⟨g, 0, none⟩)] w fun e w' => e = .returned (.pointer (some ⟨g, 14, none⟩)) ∧ w = w' := by
  go_enter Tryz.func45, Tryz.ntmps45
  go_wp2
  go_ret
  exact ⟨rfl, rfl⟩
theorem place8 (g : Nat) (w : World) : Calls Tryz.prog 46 #[.pointer (some ⟨g, 0, none⟩)] w fun e w' => e = .returned (.pointer (some ⟨g, 15, none⟩)) ∧ w = w' := by
  go_enter Tryz.func46, Tryz.ntmps46
  go_wp2
  go_ret
  exact ⟨rfl, rfl⟩
theorem place9 (g : Nat) (w : World) : Calls Tryz.prog 47 #[.pointer (some ⟨g, 0, none⟩)] w fun e w' => e = .returned (.pointer (some ⟨g, 16, none⟩)) ∧ w = w' := by
  go_enter Tryz.func47, Tryz.ntmps47
  go_wp2
  go_ret
  exact ⟨rfl, rfl⟩
theorem place10 (g : Nat) (w : World) : Calls Tryz.prog 48 #[.pointer (some ⟨g, 0, none⟩)] w fun e w' => e = .returned (.pointer (some ⟨g, 17, none⟩)) ∧ w = w' := by
  go_enter Tryz.func48, Tryz.ntmps48
  go_wp2
  go_ret
  exact ⟨rfl, rfl⟩
theorem joined1 (a : Int) (ha : Num a) (g : Nat) (w : World) (hS : Std w) (h0 : w.cell? ⟨g, 0, none⟩ = some (.int .i64 a)) :
    Calls Tryz.prog 79 #[.slice (some ⟨g, 0, none⟩) 1 1] w fun e w' => e = .returned (.string (bs (joinN [a]))) ∧ Below w.heap.size w w' := by
  refine joined ⟨some ⟨g, 0, none⟩, 1, [a]⟩ (by simp) (by simp [ha]) w hS (slAt_lit (xs := [a]) (fun i hi' => ?_) (by simp))
  match i, hi' with
  | 0, _ => exact h0
  | n + 1, h => simp at h
set_option maxHeartbeats 1000000 in
set_option maxRecDepth 100000 in
theorem sayNumber (f : FuncId) (k : Nat) (n : Int) (g b : Nat) (w : World) (hS : Std w) (hbox : w.cell? ⟨b, 0, none⟩ = some (.func (.func f) #[] #[])) (hin : ∀ args w, (callFunc f args).run Tryz.prog w = .ok (.enter f args) w)
    (hf : ∀ w, Calls Tryz.prog f #[.pointer (some ⟨g, 0, none⟩)] w fun e w' => e = .returned (.pointer (some ⟨g, k, none⟩)) ∧ w = w') (hc : w.cell? ⟨g, k, none⟩ = some (.int .i64 n)) (hn : Num n) :
    Calls Tryz.prog 81 #[.pointer (some ⟨g, 0, none⟩), .pointer (some ⟨b, 0, none⟩)] w (Said w [joinN [n]]) := by
  have HF := Lib.hid hf
  have HJ := Lib.hid (fun b w hS h0 => joined1 n hn b w hS h0)
  have HS := Lib.hid hS
  obtain ⟨x, hx⟩ : ∃ x, x = joinN [n] := ⟨_, rfl⟩
  rw [← hx] at HJ ⊢
  clear hf hS hn hx
  go_enter Tryz.func81, Tryz.ntmps81
  go_wp2_with fail
  refine (HF.out _).mono ?_; rintro e w0 ⟨rfl, rfl⟩
  go_wp2_with fail
  refine (HJ.out _ _ (HS.out.on ((Below.refl _ _).alloc (Nat.le_refl _) _)) (by simp [go_sem])).mono ?_; rintro e w1 ⟨rfl, hb1⟩
  have hz1 := hb1.size; try simp at hz1
  go_wp2
  go_ret
  exact ⟨_, rfl, own_more (said_one w1 x) (by omega), (by repeat' (first | exact Below.refl _ _ | assumption | exact And.left (by assumption) | refine Below.drew ?_ | refine below_drewN ?_ _ | refine Below.setCell ?_ (by first | (simp; done) | (simp; omega) | omega) _ | refine Below.alloc ?_ (by first | (simp; done) | (simp; omega) | omega) _ | refine after (by assumption) (by first | (simp; done) | (simp; omega) | omega) ?_))⟩
end Go.Proofs.YtgopjpnlpcmldaaGreatDoor.W


/-
  Contract of spec.lines: the table of the kinds of lines.
-/
namespace Go.Proofs.YtgopjpnlpcmldaaGreatDoor.W
set_option linter.unusedVariables false
set_option linter.unusedSimpArgs false
open Go.ChangeShapes Go.WideShapes Go.ChangeAt Go.RowKit

/-- what a kind of lines says, what it takes; the place of a number in a box -/
def sayV (B : Nat → Nat) : Nat → Value
  | 0 => .func (.func 28) #[] #[]
  | 1 => .func (.func 30) #[] #[]
  | 3 => .func (.func 34) #[] #[]
  | 4 => .func (.func 36) #[] #[]
  | 6 => .func (.func 39) #[] #[]
  | k => .func (.func 81) #[] #[.pointer (some ⟨B k, 0, none⟩)]
def takeV (B : Nat → Nat) : Nat → Value
  | 0 => .func (.func 29) #[] #[]
  | 1 => .func (.func 31) #[] #[]
  | 3 => .func (.func 35) #[] #[]
  | 4 => .func (.func 37) #[] #[]
  | 6 => .func (.func 40) #[] #[]
  | k => .func (.func 82) #[] #[.pointer (some ⟨B k, 0, none⟩)]
def placeF : Nat → FuncId
  | 2 => 33
  | 5 => 38
  | 7 => 41
  | 8 => 42
  | 9 => 43
  | 10 => 44
  | 11 => 45
  | 12 => 46
  | 13 => 47
  | _ => 48
def numKind (k : Nat) : Prop := k ∈ [2, 5, 7, 8, 9, 10, 11, 12, 13, 14]
def lineV (B : Nat → Nat) (k : Nat) : List Value := [.string ⟨(kindW k).toArray⟩, sayV B k, takeV B k]
def linesV (B : Nat → Nat) : List Value := (List.range 15).flatMap (lineV B)
set_option maxHeartbeats 1000000 in
set_option maxRecDepth 100000 in
theorem lines (w : World) :
    Calls Tryz.prog 15 #[] w fun e w' => ∃ (n : Nat) (B : Nat → Nat), e = .returned (.slice (some ⟨n, 0, none⟩) 15 15) ∧ w.heap.size ≤ n ∧ w'.heap[n]? = some (.cells (linesV B).toArray 55) ∧
      (∀ k, numKind k → B k < n ∧ w.heap.size ≤ B k ∧ w'.heap[B k]? = some (.cells #[.func (.func (placeF k)) #[] #[]] 79 (0, 0))) ∧ Below w.heap.size w w' := by
  have H := Lib.hid number_
  go_enter Tryz.func15, Tryz.ntmps15
  go_wp2_with (refine (H.out _ _ _).mono ?_; rintro e w' ⟨b, rfl, h1, h2, h3, h4⟩)
  rename_i w2 b2 p2 q2 r2 s2 w5 b5 p5 q5 r5 s5 w7 b7 p7 q7 r7 s7 w8 b8 p8 q8 r8 s8 w9 b9 p9 q9 r9 s9 w10 b10 p10 q10 r10 s10 w11 b11 p11 q11 r11 s11 w12 b12 p12 q12 r12 s12 w13 b13 p13 q13 r13 s13
  have t2 : Below w.heap.size w w2 := s2
  have t5 : Below w.heap.size w w5 := t2.trans (s5.mono (t2.size))
  have t7 : Below w.heap.size w w7 := t5.trans (s7.mono (t5.size))
  have t8 : Below w.heap.size w w8 := t7.trans (s8.mono (t7.size))
  have t9 : Below w.heap.size w w9 := t8.trans (s9.mono (t8.size))
  have t10 : Below w.heap.size w w10 := t9.trans (s10.mono (t9.size))
  have t11 : Below w.heap.size w w11 := t10.trans (s11.mono (t10.size))
  have t12 : Below w.heap.size w w12 := t11.trans (s12.mono (t11.size))
  have t13 : Below w.heap.size w w13 := t12.trans (s13.mono (t12.size))
  have t14 : Below w.heap.size w w' := t13.trans (h4.mono (t13.size))
  have c2_2 := r2
  have c2_5 := hcarry s5 c2_2
  have c2_7 := hcarry s7 c2_5
  have c2_8 := hcarry s8 c2_7
  have c2_9 := hcarry s9 c2_8
  have c2_10 := hcarry s10 c2_9
  have c2_11 := hcarry s11 c2_10
  have c2_12 := hcarry s12 c2_11
  have c2_13 := hcarry s13 c2_12
  have c2_14 := hcarry h4 c2_13
  have c5_5 := r5
  have c5_7 := hcarry s7 c5_5
  have c5_8 := hcarry s8 c5_7
  have c5_9 := hcarry s9 c5_8
  have c5_10 := hcarry s10 c5_9
  have c5_11 := hcarry s11 c5_10
  have c5_12 := hcarry s12 c5_11
  have c5_13 := hcarry s13 c5_12
  have c5_14 := hcarry h4 c5_13
  have c7_7 := r7
  have c7_8 := hcarry s8 c7_7
  have c7_9 := hcarry s9 c7_8
  have c7_10 := hcarry s10 c7_9
  have c7_11 := hcarry s11 c7_10
  have c7_12 := hcarry s12 c7_11
  have c7_13 := hcarry s13 c7_12
  have c7_14 := hcarry h4 c7_13
  have c8_8 := r8
  have c8_9 := hcarry s9 c8_8
  have c8_10 := hcarry s10 c8_9
  have c8_11 := hcarry s11 c8_10
  have c8_12 := hcarry s12 c8_11
  have c8_13 := hcarry s13 c8_12
  have c8_14 := hcarry h4 c8_13
  have c9_9 := r9
  have c9_10 := hcarry s10 c9_9
  have c9_11 := hcarry s11 c9_10
  have c9_12 := hcarry s12 c9_11
  have c9_13 := hcarry s13 c9_12
  have c9_14 := hcarry h4 c9_13
  have c10_10 := r10
  have c10_11 := hcarry s11 c10_10
  have c10_12 := hcarry s12 c10_11
  have c10_13 := hcarry s13 c10_12
  have c10_14 := hcarry h4 c10_13
  have c11_11 := r11
  have c11_12 := hcarry s12 c11_11
  have c11_13 := hcarry s13 c11_12
  have c11_14 := hcarry h4 c11_13
  have c12_12 := r12
  have c12_13 := hcarry s13 c12_12
  have c12_14 := hcarry h4 c12_13
  have c13_13 := r13
  have c13_14 := hcarry h4 c13_13
  have c14_14 := h3
  have z2 := s2.size
  have z5 := s5.size
  have z7 := s7.size
  have z8 := s8.size
  have z9 := s9.size
  have z10 := s10.size
  have z11 := s11.size
  have z12 := s12.size
  have z13 := s13.size
  have z14 := h4.size
  go_ret
  refine ⟨w'.heap.size, fun k => match k with | 2 => b2 | 5 => b5 | 7 => b7 | 8 => b8 | 9 => b9 | 10 => b10 | 11 => b11 | 12 => b12 | 13 => b13 | _ => b, rfl, t14.size, heap_alloc_new w' _, ?_, t14.alloc t14.size _⟩
  intro k hk
  simp only [numKind, List.mem_cons, List.not_mem_nil, or_false] at hk
  rcases hk with rfl | rfl | rfl | rfl | rfl | rfl | rfl | rfl | rfl | rfl
  · exact ⟨(by show b2 < w'.heap.size; omega), (by show w.heap.size ≤ b2; omega), hcarry ((Below.refl _ _).alloc (Nat.le_refl _) _) c2_14⟩
  · exact ⟨(by show b5 < w'.heap.size; omega), (by show w.heap.size ≤ b5; omega), hcarry ((Below.refl _ _).alloc (Nat.le_refl _) _) c5_14⟩
  · exact ⟨(by show b7 < w'.heap.size; omega), (by show w.heap.size ≤ b7; omega), hcarry ((Below.refl _ _).alloc (Nat.le_refl _) _) c7_14⟩
  · exact ⟨(by show b8 < w'.heap.size; omega), (by show w.heap.size ≤ b8; omega), hcarry ((Below.refl _ _).alloc (Nat.le_refl _) _) c8_14⟩
  · exact ⟨(by show b9 < w'.heap.size; omega), (by show w.heap.size ≤ b9; omega), hcarry ((Below.refl _ _).alloc (Nat.le_refl _) _) c9_14⟩
  · exact ⟨(by show b10 < w'.heap.size; omega), (by show w.heap.size ≤ b10; omega), hcarry ((Below.refl _ _).alloc (Nat.le_refl _) _) c10_14⟩
  · exact ⟨(by show b11 < w'.heap.size; omega), (by show w.heap.size ≤ b11; omega), hcarry ((Below.refl _ _).alloc (Nat.le_refl _) _) c11_14⟩
  · exact ⟨(by show b12 < w'.heap.size; omega), (by show w.heap.size ≤ b12; omega), hcarry ((Below.refl _ _).alloc (Nat.le_refl _) _) c12_14⟩
  · exact ⟨(by show b13 < w'.heap.size; omega), (by show w.heap.size ≤ b13; omega), hcarry ((Below.refl _ _).alloc (Nat.le_refl _) _) c13_14⟩
  · exact ⟨(by show b < w'.heap.size; omega), (by show w.heap.size ≤ b; omega), hcarry ((Below.refl _ _).alloc (Nat.le_refl _) _) c14_14⟩
end Go.Proofs.YtgopjpnlpcmldaaGreatDoor.W


/-
  Contract of spec.sayQueues; an append of many elements of whatever size.
-/
namespace Go.Proofs.YtgopjpnlpcmldaaGreatDoor.W
set_option linter.unusedVariables false
set_option linter.unusedSimpArgs false
open Go.ChangeShapes Go.WideShapes Go.ChangeAt Go.RowKit

theorem pushAllN {P : Program} {ops : Array Oper} {rest : List Oper} {o : Oper} {a : Act} {Q : Exit → Act → World → Prop} (s x : Operand) (t : TypeId)
    (e : TypeId) (bytes : Nat) (hb0 : 0 < bytes) (z : Value) (i : TypeInfo) (ht : P.underlying t = some (.slice e)) (hi : P.info? e = some i) (hz : i.zero = some z) (hsize : i.size = 1) (hby : i.bytes = bytes) (hzs : z.cells.size = 1)
    (base B n m c : Nat) (xs news : List Value) (v : Value) (d : Addr) (w0 wr : World) (hgd : o.guard = none)
    (ho : o.op = .call { callee := .builtin .append, args := #[s, x], argTypes := #[t, t] })
    (hs : a.eval s = v) (hx : a.eval x = .slice (some d) m c) (hm : m = news.length)
    (hown : wr.ownsRow base e 1 v n xs) (hrow : RowAt wr (some d) news) (hbel : Below B w0 wr) (hB : B ≤ base) (hbase : base ≤ wr.heap.size)
    (h1 : ∀ u ∈ news, u.oneCell' = true) (hn : (n + m) * bytes ≤ 140737488355328)
    (h : ∀ v' w', w'.ownsRow base e 1 v' (n + m) (xs ++ news) → Below B w0 w' → wpList P ops Q rest (a.put o.dst v') w') :
    wpList P ops Q (o :: rest) a wr := by
  have hw := hbel.size
  refine wpList_append_own _ hgd s x t ho base e i z 1 bytes ht hi hz hsize hby hzs (by decide) v n xs hs hown d m c news hx (by omega) ?_ h1 ?_ hn hbase ?_
  · intro j y hj
    rcases hrow with rfl | ⟨b, off, e, hl, hc⟩
    · simp at hj
    · injection e with e
      subst e
      rw [add_plain]
      exact hc j y hj
  · have : n + m ≤ (n + m) * bytes := Nat.le_mul_of_pos_right _ hb0
    unfold maxLen; omega
  · intro v' w' o' g' _
    refine h v' w' o' (hbel.grown g' (by omega) ?_)
    intro k hk
    exact Nat.le_trans hB (hown.lt k hk).1

/-- the same, where there may be none -/
theorem pushAnyN {P : Program} {ops : Array Oper} {rest : List Oper} {o : Oper} {a : Act} {Q : Exit → Act → World → Prop} (s x : Operand) (t : TypeId)
    (e : TypeId) (bytes : Nat) (hb0 : 0 < bytes) (z : Value) (i : TypeInfo) (ht : P.underlying t = some (.slice e)) (hi : P.info? e = some i) (hz : i.zero = some z) (hsize : i.size = 1) (hby : i.bytes = bytes) (hzs : z.cells.size = 1)
    (base B n m c : Nat) (xs news : List Value) (v : Value) (d : Option Addr) (w0 wr : World) (hgd : o.guard = none)
    (ho : o.op = .call { callee := .builtin .append, args := #[s, x], argTypes := #[t, t] })
    (hs : a.eval s = v) (hx : a.eval x = .slice d m c) (hm : m = news.length) (hc : d = none → c = 0)
    (hown : wr.ownsRow base e 1 v n xs) (hrow : RowAt wr d news) (hbel : Below B w0 wr) (hB : B ≤ base) (hbase : base ≤ wr.heap.size)
    (h1 : ∀ u ∈ news, u.oneCell' = true) (hn : (n + m) * bytes ≤ 140737488355328)
    (h : ∀ v' w', w'.ownsRow base e 1 v' (n + m) (xs ++ news) → Below B w0 w' → wpList P ops Q rest (a.put o.dst v') w') :
    wpList P ops Q (o :: rest) a wr := by
  cases d with
  | some d => exact pushAllN s x t e bytes hb0 z i ht hi hz hsize hby hzs base B n m c xs news v d w0 wr hgd ho hs hx hm hown hrow hbel hB hbase h1 hn h
  | none =>
    have hx0 := hrow.none_
    subst hx0
    simp only [List.length_nil] at hm
    subst hm
    rw [hc rfl] at hx
    exact wpList_append_own_none hgd s x t ho base e i 1 ht hi v n xs hs hown hx (h v wr (by simpa using hown) hbel)


theorem own5 (w : World) (o : Obj) (a b c d e : Int) {B : Nat} (hB : B ≤ w.heap.size) : World.ownsRow ((w.alloc o).alloc (.cells #[.int .i64 a, .int .i64 b, .int .i64 c, .int .i64 d, .int .i64 e] 3)) B 3 1 (.slice (some ⟨w.heap.size + 1, 0, none⟩) 5 5) 5 (vals [a, b, c, d, e]) := by
  have h := heap_alloc_new (w.alloc o) (.cells #[.int .i64 a, .int .i64 b, .int .i64 c, .int .i64 d, .int .i64 e] 3)
  simp only [World.size_alloc] at h
  exact ⟨rfl, .inr ⟨w.heap.size + 1, 5, _, rfl, by omega, h, Nat.le_refl _, (by unfold maxLen; omega), rfl, by simp [vals]⟩⟩
theorem vals_one (xs : List Int) : ∀ u ∈ vals xs, u.oneCell' = true := by
  intro u hu
  obtain ⟨c, _, rfl⟩ := List.mem_map.1 hu
  rfl
theorem own_joined {w : World} {B : Nat} {v : Value} {xs : List Int} (h : w.ownsRow B 3 1 v xs.length (vals xs)) (hS : Std w) (hl : xs.length ≤ 100) (hn : ∀ n ∈ xs, Num n) :
    Calls Tryz.prog 79 #[v] w fun e w' => e = .returned (.string (bs (joinN xs))) ∧ Below w.heap.size w w' := by
  obtain ⟨a, cap, rfl, _, hr, _⟩ := own_form h
  exact joined ⟨a, cap, xs⟩ hl hn w hS hr
theorem infoI : (Tryz.prog.info? 3).map (fun i => (i.zero, i.size, i.bytes)) = some (some (.int .i64 0), 1, 8) := by kernel_rfl

set_option maxHeartbeats 2000000 in
set_option maxRecDepth 100000 in
theorem sayQueues (s : S) (g : Nat) (qa : Option Addr) (hqa : s.qa = qa) (w : World) (hS : Std w) (HB : Box w g s) (HR : Rows w s) (hR : RightIs s) (hcap : ∀ q ∈ s.queues, q.users.a = none → q.users.cap = 0) :
    Calls Tryz.prog 34 #[.pointer (some ⟨g, 0, none⟩)] w (Said w (s.queues.map fun q => joinN (qnums (qOf q)))) := by
  obtain ⟨i0, hi, hz0, hz1, hz2⟩ := info_parts infoS
  obtain ⟨j0, hj, hj0, hj1, hj2⟩ := info_parts infoI
  have c1 : w.cell? ⟨g, 2, none⟩ = some (.slice qa s.queues.length s.qc) := by rw [← hqa]; exact HB.c2
  have hg := HB.lt
  have HN := Lib.hid hqa
  have HR := Lib.hid HR
  have HS := Lib.hid hS
  have HC := Lib.hid hcap
  have hn8 := hR.queues.1.2
  have HF := Lib.hid (right_tok hR).fine
  have hlen : ∀ i (hi : i < s.queues.length), s.queues[i].users.l.length ≤ 8 := fun i hi => by
    have h1 := (hR.queues.2 _ (List.getElem_mem hi)).2.1
    have h2 := rise_len h1 (by have := hR.users; omega)
    have h3 := hR.users
    omega
  have HL := Lib.hid hlen
  obtain ⟨L, hL⟩ : ∃ L, L = s.queues.map fun q => joinN (qnums (qOf q)) := ⟨_, rfl⟩
  have hLl : L.length = s.queues.length := by rw [hL, List.length_map]
  have hsn : ∀ k (hk : k < s.queues.length), strs (L.take (k + 1)) = strs (L.take k) ++ [.string (bs (joinN (qnums (qOf s.queues[k]))))] := fun k hk => by
    rw [List.take_add_one, List.getElem?_eq_getElem (by omega), ← strs_snoc]
    simp [hL]
  have HSN := Lib.hid hsn
  rw [← hL]
  clear hqa HB hS hR hlen hsn hL hcap
  go_enter Tryz.func34, Tryz.ntmps34
  go_wp2_with fail
  go_loopw [3, 12] (fun v3 v12 wr => ∃ k : Nat, k ≤ s.queues.length ∧ v12 = .int .i64 (k : Int) ∧ Hid (wr.ownsRow w.heap.size 9 1 v3 k (strs (L.take k))) ∧ Below w.heap.size w wr) (fun _ v12 _ => s.queues.length - (intOf v12).toNat)
  case atStart => exact ⟨0, Nat.zero_le _, rfl, Lib.hid (World.ownsRow_nil _ _ _ _), Below.refl _ _⟩
  case round =>
    obtain ⟨k, hk, rfl, HO, hbw⟩ := hrel
    have hz := hbw.size
    by_cases hlt : k < s.queues.length
    · obtain ⟨b, off, ea, hbl, q0, q1, q2, q3, q4, q5⟩ := (HR.out.later hbw).queue hlt
      rw [HN.out] at ea
      subst ea
      have HP := Lib.hid ((HR.out.users _ (List.getElem_mem hlt)).later hbw)
      have hl := HL.out k hlt
      have hsn := Lib.hid (HSN.out k hlt)
      have HC1 := Lib.hid (HC.out _ (List.getElem_mem hlt))
      have HNm := Lib.hid (HF.out.queues _ (List.mem_map.mpr ⟨_, List.getElem_mem hlt, rfl⟩))
      generalize s.queues[k] = q at *
      go_wp2_with (at_builtin; refine pushAnyN _ _ 43 3 8 (by omega) (.int .i64 0) j0 Tryz.underlying43 hj hj0 hj1 hj2 rfl wr.heap.size wr.heap.size 5 q.users.l.length q.users.cap (vals [q.part, q.mj, q.mr, q.mu, q.qos]) (vals q.users.l) (.slice (some ⟨wr.heap.size + 1, 0, none⟩) 5 5) q.users.a wr _ rfl rfl rfl rfl (vals_len _).symm HC1.out (own5 wr _ _ _ _ _ _ (Nat.le_refl _)) ((HP.out.alloc _).alloc _) (((Below.refl _ wr).alloc (Nat.le_refl _) _).alloc (by simp) _) (Nat.le_refl _) (by simp; omega) (vals_one _) (by omega) ?_)
      intro v1 w1 hown1 hb1
      have hn1 := HNm.out
      have hown2 : w1.ownsRow wr.heap.size 3 1 v1 (qnums (qOf q)).length (vals (qnums (qOf q))) := by
        have e : vals (qnums (qOf q)) = vals [q.part, q.mj, q.mr, q.mu, q.qos] ++ vals q.users.l := by simp [vals, qnums, qOf]
        have e2 : (qnums (qOf q)).length = 5 + q.users.l.length := by simp [qnums, qOf]; omega
        rw [e, e2]; exact hown1
      have HJ := Lib.hid (own_joined hown2 ((HS.out.on hbw).on hb1) (by simp [qnums, qOf]; omega) hn1)
      have hzb := hb1.size
      clear hown1 hown2 hn1
      go_wp2_with fail
      refine HJ.out.mono ?_; rintro e w2 ⟨rfl, hb2⟩
      have HO2 := Lib.hid (own_later (own_later HO.out hb1) hb2)
      have hzc := hb2.size
      have hbw2 : Below w.heap.size w w2 := (hbw.trans (hb1.mono hz)).trans (hb2.mono (by omega))
      go_wp2_with (at_builtin; refine push _ _ 56 9 16 (.string ⟨#[]⟩) i0 Tryz.underlying56 hi hz0 hz1 hz2 rfl w.heap.size w.heap.size k (strs (L.take k)) _ u3 _ w _ rfl rfl rfl rfl HO2.out hbw2 (Nat.le_refl _) (by omega) rfl (by omega) (by omega) ?_)
      intro v3 w3 hown3 hb3
      have HO3 : Hid (w3.ownsRow w.heap.size 9 1 v3 (k + 1) (strs (L.take (k + 1)))) := Lib.hid (by
        rw [hsn.out]; exact hown3)
      clear hown3
      go_wp2
      go_roundw
      case rel => exact ⟨k + 1, by omega, by go_num, HO3, hb3⟩
      case measure => simp [intOf]; omega
    · have hkk : k = s.queues.length := by omega
      rw [hkk, ← hLl, List.take_length] at HO
      go_wp2_with fail
      go_ret
      exact ⟨_, rfl, HO.out, hbw⟩
end Go.Proofs.YtgopjpnlpcmldaaGreatDoor.W
