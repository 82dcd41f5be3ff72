/-
  A region that draws its order, one of whose operations appends to a row that the region made itself, in place perhaps: what was known of the rows that it alone looks at is then forgotten; the rest as in XMono.
-/
import Derived.Test.YtkkjbmedpdjgdaaMono
namespace Go.Proofs.Ytkkjbmedpdjgdaa.W
set_option linter.unusedVariables false
set_option linter.unusedSimpArgs false
open Go.ChangeShapes Go.WideShapes Go.ChangeAt Go.RowKit

theorem getD_set_true_self {l : Array Bool} {i : Nat} (h : i < l.size) : (l.setIfInBounds i true).getD i false = true := by simp [h]
section
variable {P : Program} {ops : Array Oper} {Q : Exit → Act → World → Prop}
/-- as StepOK, and it keeps what lies below C -/
structure StepG (P : Program) (ops : Array Oper) (o : Oper) (s : Sp) (a : Act) (w : World) (C : Nat) : Prop where
  ok : if s.want then Region.wanted o (yielded ops a.tmps) = true ∧ ∀ (K : Act → World → Prop), (∀ v w', Below C w w' → s.R v w' → K (a.put o.dst v) w') → o.wp P a w K (fun _ _ _ => False)
  else Region.wanted o (yielded ops a.tmps) = false ∧ s.R undef w
theorem StepOK.g {o : Oper} {s : Sp} {a : Act} {w : World} (h : StepOK P ops o s a w) : StepG P ops o s a w w.heap.size := ⟨h.ok⟩
theorem stepG {o : Oper} {R : Value → World → Prop} {nd : List Nat} {a : Act} {w : World} {C : Nat} (hw : Region.wanted o (yielded ops a.tmps) = true) (h : ∀ (K : Act → World → Prop), (∀ v w', Below C w w' → R v w' → K (a.put o.dst v) w') → o.wp P a w K (fun _ _ _ => False)) :
    StepG P ops o ⟨true, R, nd, []⟩ a w C := ⟨⟨hw, h⟩⟩
def lvl (x i : Nat) (B n : Nat) : Nat := if i = x then B else n
def monoStepsX (P : Program) (ops : Array Oper) (x B : Nat) (a : Act) (w : World) (L : Nat → Prop) : Nat → List Oper → List Tmp → List Sp → Prop
  | i, o :: os, d :: ds, s :: ss => ((∀ j ∈ s.needs, L j) → StepG P ops o s a w (lvl x i B w.heap.size)) ∧ ((L i → s.R (a.tmps.getD d undef) w) → monoStepsX P ops x B a w L (i + 1) os ds ss)
  | _, _, _, _ => True
theorem stepsX_cons {x B : Nat} {a : Act} {w : World} {L : Nat → Prop} {i : Nat} {o : Oper} {os : List Oper} {d : Tmp} {ds : List Tmp} {s : Sp} {ss : List Sp} (hi : i ≠ x) (h : (∀ j ∈ s.needs, L j) → StepOK P ops o s a w) (h' : (L i → s.R (a.tmps.getD d undef) w) → monoStepsX P ops x B a w L (i + 1) os ds ss) :
    monoStepsX P ops x B a w L i (o :: os) (d :: ds) (s :: ss) := ⟨fun hn => by unfold lvl; rw [if_neg hi]; exact (h hn).g, h'⟩
theorem stepsX_own {x B : Nat} {a : Act} {w : World} {L : Nat → Prop} {o : Oper} {os : List Oper} {d : Tmp} {ds : List Tmp} {s : Sp} {ss : List Sp} (h : (∀ j ∈ s.needs, L j) → StepG P ops o s a w B) (h' : (L x → s.R (a.tmps.getD d undef) w) → monoStepsX P ops x B a w L (x + 1) os ds ss) :
    monoStepsX P ops x B a w L x (o :: os) (d :: ds) (s :: ss) := ⟨fun hn => by unfold lvl; rw [if_pos rfl]; exact h hn, h'⟩
theorem stepsX_at {x B : Nat} {a : Act} {w : World} {L : Nat → Prop} : ∀ (k : Nat) (os : List Oper) (ds : List Tmp) (ss : List Sp), monoStepsX P ops x B a w L k os ds ss → (∀ (i : Nat) (d : Tmp) (s : Sp), ds[i]? = some d → ss[i]? = some s → L (k + i) → s.R (a.tmps.getD d undef) w) →
    ∀ (i : Nat) (o : Oper) (d : Tmp) (s : Sp), os[i]? = some o → ds[i]? = some d → ss[i]? = some s → (∀ j ∈ s.needs, L j) → StepG P ops o s a w (lvl x (k + i) B w.heap.size)
  | k, o :: os, d :: ds, s :: ss, h, hr, 0, o', d', s', ho, hd, hs => by simp at ho hs; subst ho hs; exact h.1
  | k, o :: os, d :: ds, s :: ss, h, hr, i + 1, o', d', s', ho, hd, hs => fun hn => by
    have := stepsX_at (k + 1) os ds ss (h.2 (hr 0 d s rfl rfl)) (fun j d s hd hs hL => hr (j + 1) d s (by simpa using hd) (by simpa using hs) (by rwa [show k + 1 + j = k + (j + 1) by omega] at hL)) i o' d' s' (by simpa using ho) (by simpa using hd) (by simpa using hs) hn
    rwa [show k + 1 + i = k + (i + 1) by omega] at this
  | _, [], _, _, _, _, i, _, _, _, ho, _, _ => by simp at ho
  | _, _ :: _, [], _, _, _, i, _, _, _, _, hd, _ => by simp at hd
  | _, _ :: _, _ :: _, [], _, _, i, _, _, _, _, _, hs => by simp at hs
/-- an operation that makes a value does so in whatever frame has what it looks at -/
theorem wp_alikeG {C : Nat} {a c : Act} {o : Oper} {w : World} {K : Act → World → Prop} {R : Value → World → Prop} {t : Tmp} (ht : o.dst = some t) (hc : t < c.tmps.size) (he : execOp c.eval o = execOp a.eval o)
    (h : ∀ (K : Act → World → Prop), (∀ v w', Below C w w' → R v w' → K (c.put o.dst v) w') → o.wp P c w K (fun _ _ _ => False))
    (hK : ∀ v w', Below C w w' → R v w' → K (a.put o.dst v) w') : o.wp P a w K Q := by
  have h1 := h (fun a' w' => ∃ v, a' = c.put o.dst v ∧ Below C w w' ∧ R v w') (fun v w' hb hr => ⟨v, rfl, hb, hr⟩)
  have key : ∀ v w', (∃ v', c.put o.dst v = c.put o.dst v' ∧ Below C w w' ∧ R v' w') → K (a.put o.dst v) w' := fun v w' ⟨v', e, hb, hr⟩ => by
    have := put_inj ht hc e
    subst this
    exact hK v w' hb hr
  clear h hK
  unfold Oper.wp at *
  rw [he] at h1
  generalize (execOp a.eval o).run P w = r at *
  cases r with
  | ok n w' =>
    cases n <;> simp only [Oper.upon] at h1 ⊢
    case value v => exact key v w' h1
    case skip => exact key undef w' h1
    case defer d =>
      obtain ⟨v, e, _⟩ := h1
      have := congrArg Act.defers e
      rw [put_defers', put_defers'] at this
      exact absurd (congrArg List.length this) (by simp)
    case enter f args => exact h1.mono fun e w'' he => by cases e <;> first | exact key _ _ he | exact absurd he id | exact (by obtain ⟨_, _, h⟩ := he; exact absurd h id)
    case row row args => exact h1.mono fun v w'' he => key v w'' he
  | halt x w' => cases x <;> simp only [Oper.upon] at h1

/-- what is told of a region while it is gone through -/
structure GoingX (ops : Array Oper) (sp : List Sp) (x : Nat) (dead : List Nat) (w0 : World) (a0 : Act) (listed : Array Bool) (a : Act) (w : World) : Prop where
  bel : Below w0.heap.size w0 w
  ls : listed.size = ops.size
  size : a.tmps.size = a0.tmps.size
  defers : a.defers = a0.defers
  free : ∀ t, (∀ j, dstOf ops j = some t → listed.getD j false = false) → a.tmps[t]? = a0.tmps[t]?
  closed : ∀ (j : Nat) (o : Oper), ops[j]? = some o → listed.getD j false = true → ∀ e ∈ o.after, Region.binds .any e = true → listed.getD e.on false = true
  vals : ∀ (j : Nat) (s : Sp), sp[j]? = some s → listed.getD j false = true → ¬ (dead.contains j = true ∧ listed.getD x false = true) → s.R (valOf a (dstOf ops j)) w
theorem GoingX.anc {sp : List Sp} {x : Nat} {dead : List Nat} {w0 : World} {a0 : Act} {listed : Array Bool} {a : Act} {w : World} (g : GoingX ops sp x dead w0 a0 listed a w) {i : Nat} : ∀ (f j : Nat), ancB ops f j i = true → listed.getD j false = true → listed.getD i false = true
  | 0, _, h, _ => by cases h
  | f + 1, j, h, hl => by
    unfold ancB at h
    cases ho : ops[j]? with
    | none => rw [ho] at h; cases h
    | some o =>
      rw [ho] at h
      obtain ⟨e, he, hb⟩ := Array.any_eq_true'.1 h
      simp only [Bool.and_eq_true, Bool.or_eq_true, beq_iff_eq] at hb
      have h1 := g.closed j o ho hl e he hb.1
      rcases hb.2 with h2 | h2
      · rw [← h2]; exact h1
      · exact GoingX.anc g f e.on h2 h1
/-- those that look at what is forgotten: the one itself, and those that it waits for; all behind it wait for it -/
def deadB (ops : Array Oper) (x : Nat) (dead : List Nat) (nds : List (List Nat × List Nat)) : Bool :=
  (List.range nds.length).all fun i => ((nds.getD i ([], [])).1.all fun j => !dead.contains j || i == x || ancB ops ops.size x i) && (decide (i ≤ x) || ancB ops ops.size i x)
/-- what says nothing of the world -/
def flat (s : Sp) : Prop := ∀ v w w', s.R v w → s.R v w'
theorem c_flat (v : Value) (nd : List Nat) : flat (Sp.c v nd) := fun _ _ _ h => h
/-- all ahead of the one, but for those -/
def flats (x : Nat) (dead : List Nat) : Nat → List Sp → Prop
  | i, s :: ss => (i < x → dead.contains i = false → flat s) ∧ flats x dead (i + 1) ss
  | _, [] => True
theorem flats_at {x : Nat} {dead : List Nat} : ∀ (k : Nat) (ss : List Sp), flats x dead k ss → ∀ (i : Nat) (s : Sp), ss[i]? = some s → k + i < x → dead.contains (k + i) = false → flat s
  | k, s :: ss, h, 0, s', hs, hx, hd => by simp at hs; subst hs; exact h.1 hx hd
  | k, s :: ss, h, i + 1, s', hs, hx, hd => flats_at (k + 1) ss h.2 i s' (by simpa using hs) (by omega) (by rwa [show k + 1 + i = k + (i + 1) by omega])
  | _, [], _, i, _, hs, _, _ => by simp at hs
theorem flats_go {x : Nat} {dead : List Nat} {i : Nat} {s : Sp} {ss : List Sp} (h : flat s) (h' : flats x dead (i + 1) ss) : flats x dead i (s :: ss) := ⟨fun _ _ => h, h'⟩
theorem flats_dead {x : Nat} {dead : List Nat} {i : Nat} {s : Sp} {ss : List Sp} (h : dead.contains i = true) (h' : flats x dead (i + 1) ss) : flats x dead i (s :: ss) := ⟨fun _ hd => (by rw [h] at hd; cases hd), h'⟩
theorem flats_end {x : Nat} {dead : List Nat} : ∀ {i : Nat} (ss : List Sp), x ≤ i → flats x dead i ss
  | _, [], _ => trivial
  | i, _ :: ss, h => ⟨fun hx => absurd hx (by omega), flats_end ss (by omega)⟩
/-- what is left of it at the end -/
def endSp (dead : List Nat) : Nat → List Sp → List Sp
  | i, s :: ss => (match dead.contains i with | true => ⟨true, fun _ _ => True, [], []⟩ | false => s) :: endSp dead (i + 1) ss
  | _, [] => []
theorem endSp_len (dead : List Nat) : ∀ (i : Nat) (ss : List Sp), (endSp dead i ss).length = ss.length
  | _, [] => rfl
  | i, s :: ss => by simp [endSp, endSp_len dead (i + 1) ss]
theorem endSp_at (dead : List Nat) : ∀ (k : Nat) (ss : List Sp) (i : Nat) (s : Sp), (endSp dead k ss)[i]? = some s → ∃ s', ss[i]? = some s' ∧ ((dead.contains (k + i) = true ∧ s = ⟨true, fun _ _ => True, [], []⟩) ∨ (dead.contains (k + i) = false ∧ s = s'))
  | k, s0 :: ss, 0, s, h => by
    simp only [endSp, List.getElem?_cons_zero, Option.some.injEq] at h
    refine ⟨s0, rfl, ?_⟩
    rw [Nat.add_zero]
    cases hd : dead.contains k with
    | true => rw [hd] at h; exact .inl ⟨rfl, h.symm⟩
    | false => rw [hd] at h; exact .inr ⟨rfl, h.symm⟩
  | k, s0 :: ss, i + 1, s, h => by
    obtain ⟨s', h1, h2⟩ := endSp_at dead (k + 1) ss i s (by simpa [endSp] using h)
    exact ⟨s', by simpa using h1, by rwa [show k + (i + 1) = k + 1 + i by omega]⟩
  | _, [], i, s, h => by simp [endSp] at h
set_option maxHeartbeats 1000000 in
theorem region_mono_own {id : Nat} {l : List Oper} {a : Act} {w : World} (x : Nat) (dead : List Nat) (sp : List Sp) (ds : List Tmp) (hds : l.map (·.dst) = ds.map some) (hm : P.follows .mixedOrders = true) (hB : monoB l ds (sp.map fun s => (s.needs, s.late)) = true) (hD : dstsB ds a.tmps.size = true) (hX : deadB l.toArray x dead (sp.map fun s => (s.needs, s.late)) = true) (hF : flats x dead 0 sp) (hst : stables sp)
    (hsteps : ∀ (am : Act) (wm : World) (L : Nat → Prop), Below w.heap.size w wm → (∀ t, ds.contains t = false → am.tmps.getD t undef = a.tmps.getD t undef) → True → monoStepsX P l.toArray x w.heap.size am wm L 0 l ds sp)
    (hend : ∀ w', Below w.heap.size w w' → monoEnd (fun t => Q .normal ⟨t, a.defers⟩ w') w' ds (endSp dead 0 sp) a.tmps) : (Code.region id l.toArray true).wp P Q a w := by
  simp only [monoB, Bool.and_eq_true] at hB
  obtain ⟨⟨hB0, hB1⟩, hB2⟩ := hB
  obtain ⟨hB3, hB4⟩ := monoFrom_at 0 l _ hB2
  have hlen : sp.length = l.length := by rw [hB3]; simp
  have hsel : ∀ (j : Nat) (o : Oper) cs b, l.toArray[j]? = some o → o.op ≠ .select cs b := Region.noSelect_spec hB0
  have hat : ∀ (i : Nat) (o : Oper) (s : Sp), l.toArray[i]? = some o → sp[i]? = some s → monoAt l.toArray ds (s.needs, s.late) i o = true := fun i o s ho hs => by
    have := hB4 i o (s.needs, s.late) (by simpa using ho) (by simp [hs])
    rwa [Nat.zero_add] at this
  have hdl : ds.length = l.length := by have := congrArg List.length hds; simpa using this.symm
  have hdat : ∀ (i : Nat) (d : Tmp), ds[i]? = some d → dstOf l.toArray i = some d := fun i d hd => by
    have h1 : (l.map (·.dst))[i]? = some (some d) := by rw [hds, List.getElem?_map, hd]; rfl
    rw [List.getElem?_map] at h1
    obtain ⟨o, ho, h2⟩ := Option.map_eq_some_iff.1 h1
    simp [dstOf, ho, h2]
  have hdof : ∀ (j : Nat) (t : Tmp), dstOf l.toArray j = some t → ds[j]? = some t := fun j t hj => by
    have hjl : j < ds.length := by
      rw [hdl]
      rcases Nat.lt_or_ge j l.length with h' | h'
      · exact h'
      · simp [dstOf, List.getElem?_eq_none h'] at hj
    have := hdat j _ (List.getElem?_eq_getElem hjl)
    rw [hj] at this
    rw [List.getElem?_eq_getElem hjl, Option.some.inj this]
  have hown1 : ∀ (i j : Nat) (d : Tmp), dstOf l.toArray i = some d → j ≠ i → dstOf l.toArray j ≠ some d := fun i j d hi hne hj => hne (nodupB_spec hB1 (hdof j d hj) (hdof i d hi))
  have hdst : ∀ (i : Nat) (o : Oper), l.toArray[i]? = some o → ∃ d, o.dst = some d ∧ d < a.tmps.size := fun i o ho => by
    have hil : i < ds.length := by rw [hdl]; simpa using (Array.getElem?_eq_some_iff.1 ho).1
    have h1 := hdat i _ (List.getElem?_eq_getElem hil)
    have h2 : o.dst = some ds[i] := by simpa [dstOf, ho] using h1
    unfold dstsB at hD
    exact ⟨_, h2, of_decide_eq_true (List.all_eq_true.1 hD _ (List.getElem_mem hil))⟩
  have hnone : ∀ j, (Array.replicate l.toArray.size false).getD j false = false := fun j => by
    rcases Nat.lt_or_ge j l.toArray.size with h | h
    · simp at h; simp [h]
    · simp at h; simp [h]
  have hXat : ∀ i, i < l.length → (∀ j ∈ (sp.getD i default).needs, dead.contains j = true → i = x ∨ ancB l.toArray l.toArray.size x i = true) ∧ (i ≤ x ∨ ancB l.toArray l.toArray.size i x = true) := fun i hil => by
    have h1 := List.all_eq_true.1 hX i (List.mem_range.2 (by simp; omega))
    have hsi : sp[i]? = some (sp[i]'(by omega)) := List.getElem?_eq_getElem (by omega)
    simp only [Bool.and_eq_true, Bool.or_eq_true, decide_eq_true_eq, List.all_eq_true] at h1
    refine ⟨fun j hj hd => ?_, h1.2⟩
    have h2 := h1.1 j (by simpa [List.getD_eq_getElem?_getD, hsi] using hj)
    rcases h2 with (h2 | h2) | h2
    · rw [hd] at h2; cases h2
    · exact .inl (by simpa using h2)
    · exact .inr h2
  refine region_inv hm (GoingX l.toArray sp x dead w a) ⟨below_drew w, by simp, rfl, rfl, fun _ _ => rfl, fun j o _ h => (by rw [hnone] at h; cases h), fun j s _ h _ => (by rw [hnone] at h; cases h)⟩ ?_ ?_
  · rintro listed b w' g hr
    have hall : ∀ (n i : Nat), i < n → i < l.length → listed.getD i true = true := by
      intro n
      induction n with
      | zero => intro i h; omega
      | succ n ih =>
        intro i hin hil
        rcases Nat.lt_or_ge i n with h | h
        · exact ih i h hil
        · obtain rfl : i = n := by omega
          cases hl : listed.getD i true with
          | true => rfl
          | false =>
            have ho : l.toArray[i]? = some (l[i]'hil) := by simp [hil]
            have hs : sp[i]? = some (sp[i]'(by omega)) := List.getElem?_eq_getElem (by omega)
            have : i ∈ Region.ready .any l.toArray listed := mem_ready.2 ⟨hl, _, ho, fun e he hb => by
              have hb1 := monoAt_back (hat i _ _ ho hs) he hb
              have h1 := ih e.on hb1 (by omega)
              rcases Nat.lt_or_ge e.on listed.size with h2 | h2
              · simp [h2] at h1 ⊢; exact h1
              · have h3 : listed.getD i true = true := by simp [Array.getElem?_eq_none (show listed.size ≤ i by omega)]
                rw [h3] at hl; cases hl⟩
            rw [hr] at this; cases this
    refine end_at (a := b) ds (endSp dead 0 sp) a (by rw [endSp_len]; omega) (fun i d s ho hs => ?_) (by rw [g.defers]; exact hend w' g.bel) g.size.symm g.defers.symm (fun t hno => (g.free t fun j hj => ?_).symm)
    · have hil : i < l.length := by rw [← hdl]; exact (List.getElem?_eq_some_iff.1 ho).1
      have h1 := hall (i + 1) i (by omega) hil
      have h2 : listed.getD i false = true := by
        have : i < listed.size := by rw [g.ls]; simpa using hil
        simp [this] at h1 ⊢; exact h1
      obtain ⟨s', hs', h4⟩ := endSp_at dead 0 sp i s hs
      rw [Nat.zero_add] at h4
      rcases h4 with ⟨_, rfl⟩ | ⟨hd, rfl⟩
      · exact trivial
      · have h3 := g.vals i s hs' h2 (fun h => by rw [hd] at h; cases h.1)
        rw [hdat i d ho] at h3
        exact h3
    · exact absurd (List.mem_of_getElem? (hdof j t hj)) hno
  · rintro i listed b w' g hi ⟨o, ho, hafter⟩
    have hil : i < l.length := by simpa using (Array.getElem?_eq_some_iff.1 ho).1
    obtain ⟨s, hs⟩ : ∃ s, sp[i]? = some s := ⟨sp[i]'(by omega), List.getElem?_eq_getElem (by omega)⟩
    have hm1 := hat i o s ho hs
    obtain ⟨d, hd, hdn⟩ := hdst i o ho
    have hlisted : ∀ j ∈ s.needs, listed.getD j false = true := fun j hj => by
      obtain ⟨e, he, hb, e1⟩ := monoAt_waits hm1 hj
      rw [← e1]
      exact hafter e he hb
    have hnot : ∀ t, ds.contains t = false → ∀ j, dstOf l.toArray j ≠ some t := fun t hno j hj => by
      have := List.mem_of_getElem? (hdof j t hj)
      simp [this] at hno
    have hdi0 : ds[i]? = some d := hdof i d (by simp only [dstOf, ho]; exact hd)
    have hun : listed.getD i false = false := getD_both hi
    have hdead : ∀ j ∈ s.needs, ¬ (dead.contains j = true ∧ listed.getD x false = true) := fun j hj ⟨h1, h2⟩ => by
      have hsi : sp.getD i default = s := by rw [List.getD_eq_getElem?_getD, hs]; rfl
      rcases (hXat i hil).1 j (by rw [hsi]; exact hj) h1 with h3 | h3
      · rw [← h3, hun] at h2; cases h2
      · have h4 := g.anc _ x h3 h2
        rw [hun] at h4; cases h4
    have hc := stepsX_at 0 l ds sp (hsteps b w' (fun j => listed.getD j false = true ∧ ¬ (dead.contains j = true ∧ listed.getD x false = true)) g.bel (fun t hno => by
      simp only [Array.getD_eq_getD_getElem?]
      rw [g.free t fun j hj => absurd hj (hnot t hno j)]) trivial) (fun j d' s' hd' hs' hL => by
        rw [Nat.zero_add] at hL
        have h1 := g.vals j s' hs' hL.1 hL.2
        rw [hdat j d' hd'] at h1
        exact h1) i o d s (by simpa using ho) hdi0 hs (fun j hj => ⟨hlisted j hj, hdead j hj⟩)
    rw [Nat.zero_add] at hc
    have hown : ∀ v w2, Below (lvl x i w.heap.size w'.heap.size) w' w2 → s.R v w2 → GoingX l.toArray sp x dead w a (listed.setIfInBounds i true) (b.put o.dst v) w2 := fun v w2 hb hr => by
      have hdi : dstOf l.toArray i = o.dst := by simp only [dstOf, ho]; rfl
      have hil' : i < listed.size := by rw [g.ls]; simpa using hil
      refine ⟨g.bel.trans (hb.mono (by unfold lvl; split; exact Nat.le_refl _; exact g.bel.size)), by simp [g.ls], by rw [put_size]; exact g.size, by rw [put_defers']; exact g.defers, fun t hno => ?_, fun j oj hoj hl e he hb => ?_, fun j s' hs' hl hnd => ?_⟩
      · rw [put_other fun e => by have := hno i (hdi.trans e); simp [hil'] at this]
        refine g.free t fun j hj => ?_
        have h1 := hno j hj
        by_cases hij : i = j
        · subst hij; simp [hil'] at h1
        · rw [getD_set_ne false hij] at h1; exact h1
      · by_cases hij : i = j
        · subst hij
          rw [ho] at hoj
          obtain rfl := Option.some.inj hoj
          exact getD_set_true (hafter e he hb)
        · rw [getD_set_ne false hij] at hl
          exact getD_set_true (g.closed j oj hoj hl e he hb)
      · by_cases hij : i = j
        · subst hij
          rw [hs] at hs'
          obtain rfl := Option.some.inj hs'
          rw [hdi, hd]
          have : valOf (b.put (some d) v) (some d) = v := by
            have := val_at (a := b.put (some d) v) (t := d) (by rw [put_size, g.size]; exact hdn)
            rw [put_self (by rw [g.size]; exact hdn)] at this
            exact Option.some.inj this
          rw [this]
          exact hr
        · rw [getD_set_ne false hij] at hl
          have h2 : valOf (b.put o.dst v) (dstOf l.toArray j) = valOf b (dstOf l.toArray j) := by
            cases hj : dstOf l.toArray j with
            | none => rfl
            | some t =>
              have hne : o.dst ≠ some t := fun e => hown1 i j t (hdi.trans e) (Ne.symm hij) hj
              simp only [valOf, Array.getD_eq_getD_getElem?]
              rw [put_other hne]
          rw [h2]
          by_cases hix : i = x
          · subst hix
            rw [getD_set_true_self hil'] at hnd
            have hdj : dead.contains j = false := by
              cases h : dead.contains j with
              | false => rfl
              | true => exact absurd ⟨h, rfl⟩ hnd
            have hjl : j < l.length := by rw [← hlen]; exact (List.getElem?_eq_some_iff.1 hs').1
            have hji : j ≤ i := by
              rcases (hXat j hjl).2 with h | h
              · exact h
              · have h4 := g.anc _ j h hl
                rw [hun] at h4; cases h4
            have h1 := g.vals j s' hs' hl (fun h => by rw [hdj] at h; cases h.1)
            exact flats_at 0 sp hF j s' hs' (by omega) (by rw [Nat.zero_add]; exact hdj) _ _ _ h1
          · have hlv : lvl x i w.heap.size w'.heap.size = w'.heap.size := if_neg hix
            rw [hlv] at hb
            rw [getD_set_ne false hix] at hnd
            exact stables_at sp hst j s' hs' _ _ _ (g.vals j s' hs' hl hnd) hb
    unfold wpOp
    rw [ho]
    dsimp only
    replace hc := hc.ok
    by_cases hw : s.want = true
    · rw [if_pos hw] at hc
      rw [if_pos hc.1]
      refine .inl (wp_alikeG hd (by rw [g.size]; exact hdn) rfl hc.2 hown)
    · rw [if_neg hw] at hc
      rw [hc.1]
      simp only [Bool.false_eq_true, if_false]
      exact hown undef w' (Below.refl _ _) hc.2
end
end Go.Proofs.Ytkkjbmedpdjgdaa.W
