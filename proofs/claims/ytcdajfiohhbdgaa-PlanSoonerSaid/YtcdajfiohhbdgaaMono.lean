/-
  A region that draws its order, each of whose operations makes memory of its own at most: each operation once, whatever the order; what it is told is what it looks at.
-/
import Derived.Test.YtcdajfiohhbdgaaOrders
import Derived.Orders
import Derived.Still
import Derived.StillTail
namespace Go.Proofs.Ytcdajfiohhbdgaa.W
set_option linter.unusedVariables false
set_option linter.unusedSimpArgs false
open Go.ChangeShapes Go.WideShapes Go.ChangeAt Go.RowKit

/-- what is said of an operation: is it wanted, what its value is, which operations' values it looks at -/
structure Sp where
  want : Bool
  R : Value → World → Prop
  needs : List Nat
  late : List Nat := []
instance : Inhabited Sp := ⟨⟨true, fun _ _ => True, [], []⟩⟩
def Sp.c (v : Value) (needs : List Nat) : Sp := ⟨true, fun x _ => x = v, needs, []⟩
def Sp.no (needs : List Nat) : Sp := ⟨false, fun x _ => x = undef, needs, []⟩
/-- one that looks at a slot before another operation writes it -/
def Sp.cl (v : Value) (needs late : List Nat) : Sp := ⟨true, fun x _ => x = v, needs, late⟩
/-- wanted, or not, as it turns out -/
def Sp.g (f : Bool) (v : Value) (needs : List Nat) : Sp := match f with | true => Sp.c v needs | false => Sp.no needs
def Sp.m (f : Bool) (R : Value → World → Prop) (needs : List Nat) : Sp := match f with | true => ⟨true, R, needs, []⟩ | false => Sp.no needs
def Sp.stable (s : Sp) : Prop := ∀ v w w', s.R v w → Below w.heap.size w w' → s.R v w'
theorem Sp.c_stable (v : Value) (needs : List Nat) : (Sp.c v needs).stable := fun _ _ _ h _ => h
theorem Sp.cl_stable (v : Value) (needs late : List Nat) : (Sp.cl v needs late).stable := fun _ _ _ h _ => h
theorem Sp.no_stable (needs : List Nat) : (Sp.no needs).stable := fun _ _ _ h _ => h

def dstOf (ops : Array Oper) (j : Nat) : Option Tmp := (ops[j]?).bind (·.dst)
/-- each slot that it looks at is that of an operation that it waits for, or of none; what it waits for stands ahead of it -/
def ancB (ops : Array Oper) : Nat → Nat → Nat → Bool
  | 0, _, _ => false
  | f + 1, j, i => match ops[j]? with
    | none => false
    | some o => o.after.any fun e => Region.binds .any e && (e.on == i || ancB ops f e.on i)
def monoAt (ops : Array Oper) (ds : List Tmp) (nd : List Nat × List Nat) (i : Nat) (o : Oper) : Bool :=
  (o.looksAt ops).all (fun t => !ds.contains t || (nd.1.any fun j => ds[j]? == some t) || nd.2.any fun j => ds[j]? == some t) && nd.2.all (fun j => ancB ops ops.size j i) &&
  nd.1.all (fun j => o.after.any fun e => Region.binds .any e && e.on == j) && o.after.all (fun e => !Region.binds .any e || decide (e.on < i))
def monoFrom (ops : Array Oper) (ds : List Tmp) : Nat → List Oper → List (List Nat × List Nat) → Bool
  | i, o :: os, nd :: nds => monoAt ops ds nd i o && monoFrom ops ds (i + 1) os nds
  | _, [], [] => true
  | _, _, _ => false
def nodupB : List Tmp → Bool
  | [] => true
  | d :: ds => !ds.contains d && nodupB ds
def monoB (l : List Oper) (ds : List Tmp) (nds : List (List Nat × List Nat)) : Bool :=
  Region.noSelect l.toArray && nodupB ds && monoFrom l.toArray ds 0 l nds
theorem nodupB_spec : ∀ {ds : List Tmp}, nodupB ds = true → ∀ {i j : Nat} {d : Tmp}, ds[i]? = some d → ds[j]? = some d → i = j
  | [], _, i, _, _, hi, _ => by simp at hi
  | d0 :: ds, h, 0, 0, d, _, _ => rfl
  | d0 :: ds, h, 0, j + 1, d, hi, hj => by
    simp only [nodupB, Bool.and_eq_true, Bool.not_eq_true', List.contains_eq_mem, decide_eq_false_iff_not] at h
    simp at hi hj
    subst hi
    exact absurd (List.mem_of_getElem? hj) h.1
  | d0 :: ds, h, i + 1, 0, d, hi, hj => by
    simp only [nodupB, Bool.and_eq_true, Bool.not_eq_true', List.contains_eq_mem, decide_eq_false_iff_not] at h
    simp at hi hj
    subst hj
    exact absurd (List.mem_of_getElem? hi) h.1
  | d0 :: ds, h, i + 1, j + 1, d, hi, hj => by
    simp only [nodupB, Bool.and_eq_true] at h
    rw [nodupB_spec h.2 (i := i) (j := j) (d := d) (by simpa using hi) (by simpa using hj)]
theorem monoFrom_at {ops : Array Oper} {ds : List Tmp} : ∀ (k : Nat) (os : List Oper) (nds : List (List Nat × List Nat)), monoFrom ops ds k os nds = true → os.length = nds.length ∧ ∀ (i : Nat) (o : Oper) (nd : List Nat × List Nat), os[i]? = some o → nds[i]? = some nd → monoAt ops ds nd (k + i) o = true
  | k, [], [], _ => ⟨rfl, fun i o nd ho => by simp at ho⟩
  | k, o :: os, nd :: nds, h => by
    simp only [monoFrom, Bool.and_eq_true] at h
    have ih := monoFrom_at (k + 1) os nds h.2
    refine ⟨by simp [ih.1], fun i o' nd' ho hn => ?_⟩
    cases i with
    | zero => simp at ho hn; subst ho hn; exact h.1
    | succ i =>
      have := ih.2 i o' nd' (by simpa using ho) (by simpa using hn)
      rwa [show k + 1 + i = k + (i + 1) by omega] at this
  | k, [], _ :: _, h => by simp [monoFrom] at h
  | k, _ :: _, [], h => by simp [monoFrom] at h

section
variable {P : Program} {ops : Array Oper} {Q : Exit → Act → World → Prop}

structure StepOK (P : Program) (ops : Array Oper) (o : Oper) (s : Sp) (a : Act) (w : World) : Prop where
  ok : if s.want then Region.wanted o (yielded ops a.tmps) = true ∧ ∀ (K : Act → World → Prop), (∀ v w', Below w.heap.size w w' → s.R v w' → K (a.put o.dst v) w') → o.wp P a w K (fun _ _ _ => False)
  else Region.wanted o (yielded ops a.tmps) = false ∧ s.R undef w
/-- each operation: what it makes, what it waits for having come up (L); of what has come up its value is known -/
def monoSteps (P : Program) (ops : Array Oper) (a : Act) (w : World) (L : Nat → Prop) : Nat → List Oper → List Tmp → List Sp → Prop
  | i, o :: os, d :: ds, s :: ss => ((∀ j ∈ s.needs, L j) → (∀ j ∈ s.late, ¬ L j) → StepOK P ops o s a w) ∧ ((L i → s.R (a.tmps.getD d undef) w) → monoSteps P ops a w L (i + 1) os ds ss)
  | _, _, _, _ => True
theorem Sp.of_c {v x : Value} {nd : List Nat} {w : World} (h : (Sp.c v nd).R x w) : x = v := h
theorem Sp.of_g {f : Bool} {v x : Value} {nd : List Nat} {w : World} (h : (Sp.g f v nd).R x w) (hf : f = true) : x = v := by subst hf; exact h
theorem Sp.of_off {f : Bool} {v x : Value} {nd : List Nat} {w : World} (h : (Sp.g f v nd).R x w) (hf : f = false) : x = undef := by subst hf; exact h
theorem Sp.of_m {f : Bool} {R : Value → World → Prop} {x : Value} {nd : List Nat} {w : World} (h : (Sp.m f R nd).R x w) (hf : f = true) : R x w := by subst hf; exact h
theorem Sp.of_moff {f : Bool} {R : Value → World → Prop} {x : Value} {nd : List Nat} {w : World} (h : (Sp.m f R nd).R x w) (hf : f = false) : x = undef := by subst hf; exact h
theorem steps_cons {a : Act} {w : World} {L : Nat → Prop} {i : Nat} {o : Oper} {os : List Oper} {d : Tmp} {ds : List Tmp} {s : Sp} {ss : List Sp} (h : (∀ j ∈ s.needs, L j) → (∀ j ∈ s.late, ¬ L j) → StepOK P ops o s a w) (h' : (L i → s.R (a.tmps.getD d undef) w) → monoSteps P ops a w L (i + 1) os ds ss) :
    monoSteps P ops a w L i (o :: os) (d :: ds) (s :: ss) := ⟨h, h'⟩
def monoEnd (Q : Array Value → Prop) (w : World) : List Tmp → List Sp → Array Value → Prop
  | d :: ds, s :: ss, a => ∀ v, s.R v w → monoEnd Q w ds ss (a.setIfInBounds d v)
  | _, _, a => Q a
def stables : List Sp → Prop
  | [] => True
  | s :: r => s.stable ∧ stables r

theorem stepL {o : Oper} {v : Value} {nd late : List Nat} {a : Act} {w : World} (hw : Region.wanted o (yielded ops a.tmps) = true) (h : ∀ (K : Act → World → Prop), (∀ w', Below w.heap.size w w' → K (a.put o.dst v) w') → o.wp P a w K (fun _ _ _ => False)) :
    StepOK P ops o (Sp.cl v nd late) a w := ⟨⟨hw, fun K hK => h K fun w' hb => hK v w' hb rfl⟩⟩
theorem Sp.of_cl {v x : Value} {nd late : List Nat} {w : World} (h : (Sp.cl v nd late).R x w) : x = v := h
theorem stepC {o : Oper} {v : Value} {nd : List Nat} {a : Act} {w : World} (hw : Region.wanted o (yielded ops a.tmps) = true) (h : ∀ (K : Act → World → Prop), (∀ w', Below w.heap.size w w' → K (a.put o.dst v) w') → o.wp P a w K (fun _ _ _ => False)) :
    StepOK P ops o (Sp.c v nd) a w := ⟨⟨hw, fun K hK => h K fun w' hb => hK v w' hb rfl⟩⟩
theorem stepN {o : Oper} {nd : List Nat} {a : Act} {w : World} (hw : Region.wanted o (yielded ops a.tmps) = false) : StepOK P ops o (Sp.no nd) a w := ⟨⟨hw, rfl⟩⟩
theorem stepR {o : Oper} {R : Value → World → Prop} {nd : List Nat} {a : Act} {w : World} (hw : Region.wanted o (yielded ops a.tmps) = true) (h : ∀ (K : Act → World → Prop), (∀ v w', Below w.heap.size w w' → R v w' → K (a.put o.dst v) w') → o.wp P a w K (fun _ _ _ => False)) :
    StepOK P ops o ⟨true, R, nd, []⟩ a w := ⟨⟨hw, h⟩⟩
theorem getD_bool {a : Array Value} {t : Tmp} {b : Bool} (h : a.getD t undef = .bool b) : a[t]? = some (.bool b) := by
  rw [Array.getD_eq_getD_getElem?] at h
  cases e : a[t]? with
  | none => rw [e] at h; cases h
  | some v => rw [e] at h; simp at h; rw [h]
theorem wanted_guard {o : Oper} {a : Act} {g : Nat} {want b : Bool} {t : Tmp} (hg : o.guard = some (g, want)) (hd : dstOf ops g = some t) (h : a.tmps.getD t undef = .bool b) (hb : (b == want) = true) : Region.wanted o (yielded ops a.tmps) = true := by
  unfold dstOf at hd
  simp only [Region.wanted, hg, yielded, hd, Option.bind_some, getD_bool h]
  cases b <;> cases want <;> simp_all
theorem unwanted_guard {o : Oper} {a : Act} {g : Nat} {want b : Bool} {t : Tmp} (hg : o.guard = some (g, want)) (hd : dstOf ops g = some t) (h : a.tmps.getD t undef = .bool b) (hb : (b == want) = false) : Region.wanted o (yielded ops a.tmps) = false := by
  unfold dstOf at hd
  simp only [Region.wanted, hg, yielded, hd, Option.bind_some, getD_bool h]
  cases b <;> cases want <;> simp_all
/-- one whose guard was not wanted itself -/
theorem unwanted_off {o : Oper} {a : Act} {g : Nat} {want : Bool} {t : Tmp} (hg : o.guard = some (g, want)) (hd : dstOf ops g = some t) (h : a.tmps.getD t undef = undef) : Region.wanted o (yielded ops a.tmps) = false := by
  unfold dstOf at hd
  have h2 : ∀ b, a.tmps[t]? ≠ some (.bool b) := by
    intro b e
    rw [Array.getD_eq_getD_getElem?, e] at h
    cases h
  simp only [Region.wanted, hg, yielded, hd, Option.bind_some]
  cases e : a.tmps[t]? with
  | none => cases want <;> rfl
  | some v =>
    cases v with
    | bool b => exact absurd e (h2 b)
    | _ => cases want <;> rfl
theorem wanted_free {o : Oper} {a : Act} (hg : o.guard = none) : Region.wanted o (yielded ops a.tmps) = true := by simp only [Region.wanted, hg]
theorem Sp.g_stable (f : Bool) (v : Value) (needs : List Nat) : (Sp.g f v needs).stable := by
  cases f
  · exact Sp.no_stable _
  · exact Sp.c_stable _ _
theorem Sp.m_stable (f : Bool) (R : Value → World → Prop) (needs : List Nat) (h : ∀ v w w', R v w → Below w.heap.size w w' → R v w') : (Sp.m f R needs).stable := by
  cases f
  · exact Sp.no_stable _
  · exact h
theorem end_cons {Q : Array Value → Prop} {w : World} {d : Tmp} {ds : List Tmp} {s : Sp} {ss : List Sp} {a : Array Value} (h : ∀ v, s.R v w → monoEnd Q w ds ss (a.setIfInBounds d v)) : monoEnd Q w (d :: ds) (s :: ss) a := h
theorem end_nil {Q : Array Value → Prop} {w : World} {a : Array Value} (h : Q a) : monoEnd Q w [] [] a := h
theorem stables_cons {s : Sp} {ss : List Sp} (h : s.stable) (h' : stables ss) : stables (s :: ss) := ⟨h, h'⟩
theorem steps_at {a : Act} {w : World} {L : Nat → Prop} : ∀ (k : Nat) (os : List Oper) (ds : List Tmp) (ss : List Sp), monoSteps P ops a w L k os ds ss → (∀ (i : Nat) (d : Tmp) (s : Sp), ds[i]? = some d → ss[i]? = some s → L (k + i) → s.R (a.tmps.getD d undef) w) →
    ∀ (i : Nat) (o : Oper) (d : Tmp) (s : Sp), os[i]? = some o → ds[i]? = some d → ss[i]? = some s → (∀ j ∈ s.needs, L j) → (∀ j ∈ s.late, ¬ L j) → StepOK P ops o s a w
  | k, o :: os, d :: ds, s :: ss, h, hr, 0, o', d', s', ho, hd, hs => by simp at ho hs; subst ho hs; exact h.1
  | k, o :: os, d :: ds, s :: ss, h, hr, i + 1, o', d', s', ho, hd, hs => steps_at (k + 1) os ds ss (h.2 (hr 0 d s rfl rfl)) (fun j d s hd hs hL => hr (j + 1) d s (by simpa using hd) (by simpa using hs) (by rwa [show k + 1 + j = k + (j + 1) by omega] at hL)) i o' d' s' (by simpa using ho) (by simpa using hd) (by simpa using hs)
  | _, [], _, _, _, _, i, _, _, _, ho, _, _ => by simp at ho
  | _, _ :: _, [], _, _, _, i, _, _, _, _, hd, _ => by simp at hd
  | _, _ :: _, _ :: _, [], _, _, i, _, _, _, _, _, hs => by simp at hs
theorem stables_at : ∀ (ss : List Sp), stables ss → ∀ (i : Nat) (s : Sp), ss[i]? = some s → s.stable
  | s :: ss, h, 0, s', hs => by simp at hs; subst hs; exact h.1
  | s :: ss, h, i + 1, s', hs => stables_at ss h.2 i s' (by simpa using hs)
  | [], _, i, _, hs => by simp at hs

/-- the values as they stand in a frame -/
def valOf (a : Act) (d : Option Tmp) : Value := match d with | some t => a.tmps.getD t undef | none => undef
theorem put_defers' (a : Act) (d : Option Tmp) (v : Value) : (a.put d v).defers = a.defers := by cases d <;> rfl
theorem put_size (a : Act) (d : Option Tmp) (v : Value) : (a.put d v).tmps.size = a.tmps.size := by cases d <;> simp [Act.put]
theorem put_other {a : Act} {d : Option Tmp} {v : Value} {t : Tmp} (h : d ≠ some t) : (a.put d v).tmps[t]? = a.tmps[t]? := by
  cases d with
  | none => rfl
  | some e => simp only [Act.put]; rw [Array.getElem?_setIfInBounds_ne]; intro x; exact h (by rw [x])
theorem put_self {a : Act} {t : Tmp} {v : Value} (h : t < a.tmps.size) : (a.put (some t) v).tmps[t]? = some v := by
  simp [Act.put, h]
theorem val_at {a : Act} {t : Tmp} (h : t < a.tmps.size) : some (valOf a (some t)) = a.tmps[t]? := by
  simp [valOf, Array.getD, h]
theorem out_of {a : Act} {t : Tmp} (h : ¬ t < a.tmps.size) : a.tmps[t]? = none := Array.getElem?_eq_none (Nat.le_of_not_lt h)
/-- a frame put together of another one's values is that one where they are alike else -/
theorem put_same {a b : Act} {t : Tmp} (hs : b.tmps.size = a.tmps.size) (d : Option Tmp) (h : b.tmps[t]? = a.tmps[t]? ∨ d = some t) : (b.put d (valOf a d)).tmps[t]? = a.tmps[t]? := by
  by_cases e : d = some t
  · subst e
    by_cases ht : t < a.tmps.size
    · rw [put_self (by rw [hs]; exact ht), val_at ht]
    · rw [out_of (by rw [put_size, hs]; exact ht), out_of ht]
  · rw [put_other e]
    rcases h with h | h
    · exact h
    · exact absurd h e
theorem end_at {Q : Exit → Act → World → Prop} {w : World} {a : Act} : ∀ (ds : List Tmp) (ss : List Sp) (b : Act), ds.length = ss.length → (∀ (i : Nat) (d : Tmp) (s : Sp), ds[i]? = some d → ss[i]? = some s → s.R (valOf a (some d)) w) →
    monoEnd (fun t => Q .normal ⟨t, a.defers⟩ w) w ds ss b.tmps →
    b.tmps.size = a.tmps.size → b.defers = a.defers → (∀ t, t ∉ ds → b.tmps[t]? = a.tmps[t]?) → Q .normal a w
  | [], [], b, _, _, h, hs, hd, ht => by
    have e : b = a := by
      obtain ⟨bt, bd⟩ := b
      obtain ⟨at', ad⟩ := a
      simp only at hs hd ht
      subst hd
      congr 1
      exact Array.ext_getElem? fun t => ht t (by simp)
    subst e
    exact h
  | d :: ds, s :: ss, b, hl, hR, h, hs, hd, ht => by
    refine end_at ds ss (b.put (some d) (valOf a (some d))) (by simpa using hl) (fun i d' s' ho hs' => hR (i + 1) d' s' (by simpa using ho) (by simpa using hs')) (h _ (hR 0 d s rfl rfl)) (by rw [put_size]; exact hs) (by rw [put_defers']; exact hd) fun t hno => ?_
    by_cases e : d = t
    · exact put_same hs _ (.inr (by rw [e]))
    · refine put_same hs _ (.inl (ht t fun hm => ?_))
      rcases List.mem_cons.1 hm with h | h
      · exact e h.symm
      · exact hno h
  | [], _ :: _, _, hl, _, _, _, _, _ => by simp at hl
  | _ :: _, [], _, hl, _, _, _, _, _ => by simp at hl
theorem eval_alike {a c : Act} {x : Operand} (h : ∀ t, x = .tmp t → c.tmps[t]? = a.tmps[t]?) : c.eval x = a.eval x := by
  cases x with
  | tmp t => simp only [Act.eval, Array.getD_eq_getD_getElem?]; rw [h t rfl]
  | _ => rfl
theorem execOp_alike {a c : Act} {o : Oper} (hs : ∀ cs b, o.op ≠ .select cs b) (h : ∀ t ∈ o.looksAt ops, c.tmps[t]? = a.tmps[t]?) : execOp c.eval o = execOp a.eval o :=
  execOp_congr o hs fun x hx => eval_alike fun t ht => h t (by subst ht; exact List.mem_append_left _ (List.mem_filterMap.2 ⟨.tmp t, by simpa using hx, rfl⟩))
theorem wanted_alike {a c : Act} {o : Oper} (h : ∀ t ∈ o.looksAt ops, c.tmps[t]? = a.tmps[t]?) : Region.wanted o (yielded ops c.tmps) = Region.wanted o (yielded ops a.tmps) := by
  unfold Region.wanted
  cases hg : o.guard with
  | none => rfl
  | some gw =>
    obtain ⟨g, want⟩ := gw
    have hy : yielded ops c.tmps g = yielded ops a.tmps g := by
      unfold yielded
      cases ht : (ops[g]?).bind (·.dst) with
      | none => rfl
      | some t => simp only [Option.bind_some]; rw [h t (by simp [Oper.looksAt, hg, ht])]
    simp only [hy]
theorem put_inj {a : Act} {d : Option Tmp} {t : Tmp} {u v : Value} (hd : d = some t) (ht : t < a.tmps.size) (h : a.put d u = a.put d v) : u = v := by
  subst hd
  have h1 := put_self (v := u) ht
  rw [h, put_self ht] at h1
  exact (Option.some.inj h1).symm
/-- an operation that makes a value does so in whatever frame has what it looks at -/
theorem wp_alike {a c : Act} {o : Oper} {w : World} {K : Act → World → Prop} {R : Value → World → Prop} {t : Tmp} (ht : o.dst = some t) (hc : t < c.tmps.size) (he : execOp c.eval o = execOp a.eval o)
    (h : ∀ (K : Act → World → Prop), (∀ v w', Below w.heap.size w w' → R v w' → K (c.put o.dst v) w') → o.wp P c w K (fun _ _ _ => False))
    (hK : ∀ v w', Below w.heap.size w w' → R v w' → K (a.put o.dst v) w') : o.wp P a w K Q := by
  have h1 := h (fun a' w' => ∃ v, a' = c.put o.dst v ∧ Below w.heap.size w w' ∧ R v w') (fun v w' hb hr => ⟨v, rfl, hb, hr⟩)
  have key : ∀ v w', (∃ v', c.put o.dst v = c.put o.dst v' ∧ Below w.heap.size w w' ∧ R v' w') → K (a.put o.dst v) w' := fun v w' ⟨v', e, hb, hr⟩ => by
    have := put_inj ht hc e
    subst this
    exact hK v w' hb hr
  clear h hK
  unfold Oper.wp at *
  rw [he] at h1
  generalize (execOp a.eval o).run P w = r at *
  cases r with
  | ok n w' =>
    cases n <;> simp only [Oper.upon] at h1 ⊢
    case value v => exact key v w' h1
    case skip => exact key undef w' h1
    case defer d =>
      obtain ⟨v, e, _⟩ := h1
      have := congrArg Act.defers e
      rw [put_defers', put_defers'] at this
      exact absurd (congrArg List.length this) (by simp)
    case enter f args => exact h1.mono fun e w'' he => by cases e <;> first | exact key _ _ he | exact absurd he id | exact (by obtain ⟨_, _, h⟩ := he; exact absurd h id)
    case row row args => exact h1.mono fun v w'' he => key v w'' he
  | halt x w' => cases x <;> simp only [Oper.upon] at h1

/-- what is told of a region while it is gone through -/
structure Going (ops : Array Oper) (sp : List Sp) (w0 : World) (a0 : Act) (listed : Array Bool) (a : Act) (w : World) : Prop where
  bel : Below w0.heap.size w0 w
  ls : listed.size = ops.size
  size : a.tmps.size = a0.tmps.size
  defers : a.defers = a0.defers
  free : ∀ t, (∀ j, dstOf ops j = some t → listed.getD j false = false) → a.tmps[t]? = a0.tmps[t]?
  closed : ∀ (j : Nat) (o : Oper), ops[j]? = some o → listed.getD j false = true → ∀ e ∈ o.after, Region.binds .any e = true → listed.getD e.on false = true
  vals : ∀ (j : Nat) (s : Sp), sp[j]? = some s → listed.getD j false = true → s.R (valOf a (dstOf ops j)) w
theorem below_drew (w : World) : Below w.heap.size w w.drew := below_drewN (Below.refl _ _) 1

theorem Going.anc {sp : List Sp} {w0 : World} {a0 : Act} {listed : Array Bool} {a : Act} {w : World} (g : Going ops sp w0 a0 listed a w) {i : Nat} : ∀ (f j : Nat), ancB ops f j i = true → listed.getD j false = true → listed.getD i false = true
  | 0, _, h, _ => by cases h
  | f + 1, j, h, hl => by
    unfold ancB at h
    cases ho : ops[j]? with
    | none => rw [ho] at h; cases h
    | some o =>
      rw [ho] at h
      obtain ⟨e, he, hb⟩ := Array.any_eq_true'.1 h
      simp only [Bool.and_eq_true, Bool.or_eq_true, beq_iff_eq] at hb
      have h1 := g.closed j o ho hl e he hb.1
      rcases hb.2 with h2 | h2
      · rw [← h2]; exact h1
      · exact Going.anc g f e.on h2 h1
theorem monoAt_looks {ds : List Tmp} {nd : List Nat × List Nat} {i : Nat} {o : Oper} (h : monoAt ops ds nd i o = true) {t : Tmp} (ht : t ∈ o.looksAt ops) (hj : t ∈ ds) : (∃ j ∈ nd.1, ds[j]? = some t) ∨ ∃ j ∈ nd.2, ds[j]? = some t := by
  unfold monoAt at h
  simp only [Bool.and_eq_true, List.all_eq_true] at h
  have := h.1.1.1 t ht
  simpa [hj] using this
theorem monoAt_late {ds : List Tmp} {nd : List Nat × List Nat} {i : Nat} {o : Oper} (h : monoAt ops ds nd i o = true) {j : Nat} (hj : j ∈ nd.2) : ancB ops ops.size j i = true := by
  unfold monoAt at h
  simp only [Bool.and_eq_true, List.all_eq_true] at h
  exact h.1.1.2 j hj
theorem monoAt_waits {ds : List Tmp} {nd : List Nat × List Nat} {i : Nat} {o : Oper} (h : monoAt ops ds nd i o = true) {j : Nat} (hj : j ∈ nd.1) : ∃ e ∈ o.after, Region.binds .any e = true ∧ e.on = j := by
  unfold monoAt at h
  simp only [Bool.and_eq_true, List.all_eq_true] at h
  obtain ⟨e, he, hb⟩ := Array.any_eq_true'.1 (h.1.2 j hj)
  simp only [Bool.and_eq_true, beq_iff_eq] at hb
  exact ⟨e, he, hb.1, hb.2⟩
theorem monoAt_back {ds : List Tmp} {nd : List Nat × List Nat} {i : Nat} {o : Oper} (h : monoAt ops ds nd i o = true) {e : Edge} (he : e ∈ o.after) (hb : Region.binds .any e = true) : e.on < i := by
  unfold monoAt at h
  simp only [Bool.and_eq_true] at h
  have := Array.all_eq_true'.1 h.2 e he
  simpa [hb] using this

/-- the slots that a region writes are those of the frame -/
def dstsB (ds : List Tmp) (n : Nat) : Bool := ds.all fun d => decide (d < n)

theorem region_mono {id : Nat} {l : List Oper} {a : Act} {w : World} (sp : List Sp) (ds : List Tmp) (hds : l.map (·.dst) = ds.map some) (hm : P.follows .mixedOrders = true) (hB : monoB l ds (sp.map fun s => (s.needs, s.late)) = true) (hD : dstsB ds a.tmps.size = true) (hst : stables sp)
    (hsteps : ∀ (am : Act) (wm : World) (L : Nat → Prop), Below w.heap.size w wm → (∀ t, ds.contains t = false → am.tmps.getD t undef = a.tmps.getD t undef) →
      (∀ j d, ds[j]? = some d → ¬ L j → am.tmps.getD d undef = a.tmps.getD d undef) → monoSteps P l.toArray am wm L 0 l ds sp)
    (hend : ∀ w', Below w.heap.size w w' → monoEnd (fun t => Q .normal ⟨t, a.defers⟩ w') w' ds sp a.tmps) : (Code.region id l.toArray true).wp P Q a w := by
  simp only [monoB, Bool.and_eq_true] at hB
  obtain ⟨⟨hB0, hB1⟩, hB2⟩ := hB
  obtain ⟨hB3, hB4⟩ := monoFrom_at 0 l _ hB2
  have hlen : sp.length = l.length := by rw [hB3]; simp
  have hsel : ∀ (j : Nat) (o : Oper) cs b, l.toArray[j]? = some o → o.op ≠ .select cs b := Region.noSelect_spec hB0
  have hat : ∀ (i : Nat) (o : Oper) (s : Sp), l.toArray[i]? = some o → sp[i]? = some s → monoAt l.toArray ds (s.needs, s.late) i o = true := fun i o s ho hs => by
    have := hB4 i o (s.needs, s.late) (by simpa using ho) (by simp [hs])
    rwa [Nat.zero_add] at this
  have hdl : ds.length = l.length := by have := congrArg List.length hds; simpa using this.symm
  have hdat : ∀ (i : Nat) (d : Tmp), ds[i]? = some d → dstOf l.toArray i = some d := fun i d hd => by
    have h1 : (l.map (·.dst))[i]? = some (some d) := by rw [hds, List.getElem?_map, hd]; rfl
    rw [List.getElem?_map] at h1
    obtain ⟨o, ho, h2⟩ := Option.map_eq_some_iff.1 h1
    simp [dstOf, ho, h2]
  have hdof : ∀ (j : Nat) (t : Tmp), dstOf l.toArray j = some t → ds[j]? = some t := fun j t hj => by
    have hjl : j < ds.length := by
      rw [hdl]
      rcases Nat.lt_or_ge j l.length with h' | h'
      · exact h'
      · simp [dstOf, List.getElem?_eq_none h'] at hj
    have := hdat j _ (List.getElem?_eq_getElem hjl)
    rw [hj] at this
    rw [List.getElem?_eq_getElem hjl, Option.some.inj this]
  have hown1 : ∀ (i j : Nat) (d : Tmp), dstOf l.toArray i = some d → j ≠ i → dstOf l.toArray j ≠ some d := fun i j d hi hne hj => hne (nodupB_spec hB1 (hdof j d hj) (hdof i d hi))
  have hdst : ∀ (i : Nat) (o : Oper), l.toArray[i]? = some o → ∃ d, o.dst = some d ∧ d < a.tmps.size := fun i o ho => by
    have hil : i < ds.length := by rw [hdl]; simpa using (Array.getElem?_eq_some_iff.1 ho).1
    have h1 := hdat i _ (List.getElem?_eq_getElem hil)
    have h2 : o.dst = some ds[i] := by simpa [dstOf, ho] using h1
    unfold dstsB at hD
    exact ⟨_, h2, of_decide_eq_true (List.all_eq_true.1 hD _ (List.getElem_mem hil))⟩
  have hnone : ∀ j, (Array.replicate l.toArray.size false).getD j false = false := fun j => by
    rcases Nat.lt_or_ge j l.toArray.size with h | h
    · simp at h; simp [h]
    · simp at h; simp [h]
  refine region_inv hm (Going l.toArray sp w a) ⟨below_drew w, by simp, rfl, rfl, fun _ _ => rfl, fun j o _ h => (by rw [hnone] at h; cases h), fun j s _ h => (by rw [hnone] at h; cases h)⟩ ?_ ?_
  · rintro listed b w' g hr
    have hall : ∀ (n i : Nat), i < n → i < l.length → listed.getD i true = true := by
      intro n
      induction n with
      | zero => intro i h; omega
      | succ n ih =>
        intro i hin hil
        rcases Nat.lt_or_ge i n with h | h
        · exact ih i h hil
        · obtain rfl : i = n := by omega
          cases hl : listed.getD i true with
          | true => rfl
          | false =>
            have ho : l.toArray[i]? = some (l[i]'hil) := by simp [hil]
            have hs : sp[i]? = some (sp[i]'(by omega)) := List.getElem?_eq_getElem (by omega)
            have : i ∈ Region.ready .any l.toArray listed := mem_ready.2 ⟨hl, _, ho, fun e he hb => by
              have hb1 := monoAt_back (hat i _ _ ho hs) he hb
              have h1 := ih e.on hb1 (by omega)
              rcases Nat.lt_or_ge e.on listed.size with h2 | h2
              · simp [h2] at h1 ⊢; exact h1
              · have h3 : listed.getD i true = true := by simp [Array.getElem?_eq_none (show listed.size ≤ i by omega)]
                rw [h3] at hl; cases hl⟩
            rw [hr] at this; cases this
    refine end_at (a := b) ds sp a (by omega) (fun i d s ho hs => ?_) (by rw [g.defers]; exact hend w' g.bel) g.size.symm g.defers.symm (fun t hno => (g.free t fun j hj => ?_).symm)
    · have hil : i < l.length := by rw [← hdl]; exact (List.getElem?_eq_some_iff.1 ho).1
      have h1 := hall (i + 1) i (by omega) hil
      have h2 : listed.getD i false = true := by
        have : i < listed.size := by rw [g.ls]; simpa using hil
        simp [this] at h1 ⊢; exact h1
      have h3 := g.vals i s hs h2
      rw [hdat i d ho] at h3
      exact h3
    · exact absurd (List.mem_of_getElem? (hdof j t hj)) hno
  · rintro i listed b w' g hi ⟨o, ho, hafter⟩
    have hil : i < l.length := by simpa using (Array.getElem?_eq_some_iff.1 ho).1
    obtain ⟨s, hs⟩ : ∃ s, sp[i]? = some s := ⟨sp[i]'(by omega), List.getElem?_eq_getElem (by omega)⟩
    have hm1 := hat i o s ho hs
    obtain ⟨d, hd, hdn⟩ := hdst i o ho
    have hlisted : ∀ j ∈ s.needs, listed.getD j false = true := fun j hj => by
      obtain ⟨e, he, hb, e1⟩ := monoAt_waits hm1 hj
      rw [← e1]
      exact hafter e he hb
    have hnot : ∀ t, ds.contains t = false → ∀ j, dstOf l.toArray j ≠ some t := fun t hno j hj => by
      have := List.mem_of_getElem? (hdof j t hj)
      simp [this] at hno
    have hdi0 : ds[i]? = some d := hdof i d (by simp only [dstOf, ho]; exact hd)
    have hc := steps_at 0 l ds sp (hsteps b w' (fun j => listed.getD j false = true) g.bel (fun t hno => by
      simp only [Array.getD_eq_getD_getElem?]
      rw [g.free t fun j hj => absurd hj (hnot t hno j)]) (fun j d' hd' hL => by
      simp only [Array.getD_eq_getD_getElem?]
      rw [g.free d' fun k hk => by
        have := nodupB_spec hB1 (hdof k d' hk) hd'
        subst this
        simpa using hL])) (fun j d' s' hd' hs' hL => by
        rw [Nat.zero_add] at hL
        have h1 := g.vals j s' hs' hL
        rw [hdat j d' hd'] at h1
        exact h1) i o d s (by simpa using ho) hdi0 hs hlisted (fun j hj hL => by
        have h1 := g.anc _ j (monoAt_late hm1 hj) hL
        rw [getD_both hi] at h1
        cases h1)
    have hown : ∀ v w2, Below w'.heap.size w' w2 → s.R v w2 → Going l.toArray sp w a (listed.setIfInBounds i true) (b.put o.dst v) w2 := fun v w2 hb hr => by
      have hdi : dstOf l.toArray i = o.dst := by simp only [dstOf, ho]; rfl
      have hil' : i < listed.size := by rw [g.ls]; simpa using hil
      refine ⟨g.bel.trans (hb.mono g.bel.size), by simp [g.ls], by rw [put_size]; exact g.size, by rw [put_defers']; exact g.defers, fun t hno => ?_, fun j oj hoj hl e he hb => ?_, fun j s' hs' hl => ?_⟩
      · rw [put_other fun e => by have := hno i (hdi.trans e); simp [hil'] at this]
        refine g.free t fun j hj => ?_
        have h1 := hno j hj
        by_cases hij : i = j
        · subst hij; simp [hil'] at h1
        · rw [getD_set_ne false hij] at h1; exact h1
      · by_cases hij : i = j
        · subst hij
          rw [ho] at hoj
          obtain rfl := Option.some.inj hoj
          exact getD_set_true (hafter e he hb)
        · rw [getD_set_ne false hij] at hl
          exact getD_set_true (g.closed j oj hoj hl e he hb)
      · by_cases hij : i = j
        · subst hij
          rw [hs] at hs'
          obtain rfl := Option.some.inj hs'
          rw [hdi, hd]
          have : valOf (b.put (some d) v) (some d) = v := by
            have := val_at (a := b.put (some d) v) (t := d) (by rw [put_size, g.size]; exact hdn)
            rw [put_self (by rw [g.size]; exact hdn)] at this
            exact Option.some.inj this
          rw [this]
          exact hr
        · rw [getD_set_ne false hij] at hl
          have h1 := g.vals j s' hs' hl
          have h2 : valOf (b.put o.dst v) (dstOf l.toArray j) = valOf b (dstOf l.toArray j) := by
            cases hj : dstOf l.toArray j with
            | none => rfl
            | some t =>
              have hne : o.dst ≠ some t := fun e => hown1 i j t (hdi.trans e) (Ne.symm hij) hj
              simp only [valOf, Array.getD_eq_getD_getElem?]
              rw [put_other hne]
          rw [h2]
          exact stables_at sp hst j s' hs' _ _ _ h1 hb
    unfold wpOp
    rw [ho]
    dsimp only
    replace hc := hc.ok
    by_cases hw : s.want = true
    · rw [if_pos hw] at hc
      rw [if_pos hc.1]
      refine .inl (wp_alike hd (by rw [g.size]; exact hdn) rfl hc.2 hown)
    · rw [if_neg hw] at hc
      rw [hc.1]
      simp only [Bool.false_eq_true, if_false]
      exact hown undef w' (Below.refl _ _) hc.2
end
end Go.Proofs.Ytcdajfiohhbdgaa.W
