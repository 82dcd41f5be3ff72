/-
  Several texts in one: MonoT, MonoTJ.
-/
import Derived.Test.YtcdajfiohhbdgaaMono

/-
  A region that draws its order and ends in a tail of forced order (a store, say): the head as in XMono, each operation once; the tail by the walk.
-/
namespace Go.Proofs.Ytcdajfiohhbdgaa.W
set_option linter.unusedVariables false
set_option linter.unusedSimpArgs false
open Go.ChangeShapes Go.WideShapes Go.ChangeAt Go.RowKit

def monoB2 (ops : Array Oper) (l : List Oper) (ds : List Tmp) (nds : List (List Nat × List Nat)) : Bool :=
  Region.noSelect ops && nodupB ds && monoFrom ops ds 0 l nds
/-- what has come up when the head is through -/
def headDone (n m : Nat) : Array Bool := ((List.range m).map fun i => decide (i < n)).toArray
def tailB (ops : Array Oper) (n : Nat) : Bool :=
  decide (n < ops.size) && Region.sinkB .any ops n && Region.chainB .any ops n && Region.seqB .any ops (ops.size - n) n (headDone n ops.size)
theorem count_take {l : List Bool} {n i : Nat} (hi : i < n) (h : l[i]? = some false) : ((l.set i true).take n).countP (fun b => !b) + 1 = (l.take n).countP (fun b => !b) := by
  rw [List.take_set]
  exact count_set _ _ (by rw [List.getElem?_take, if_pos hi]; exact h)
section
variable {P : Program} {ops : Array Oper} {Q : Exit → Act → World → Prop}
theorem region_mono_tail {id : Nat} {l : List Oper} {a : Act} {w : World} (n : Nat) (sp : List Sp) (ds : List Tmp) (hds : (l.take n).map (·.dst) = ds.map some) (hm : P.follows .mixedOrders = true) (hB : monoB2 l.toArray (l.take n) ds (sp.map fun s => (s.needs, s.late)) = true) (hT : tailB l.toArray n = true) (hD : dstsB ds a.tmps.size = true) (hst : stables sp)
    (hsteps : ∀ (am : Act) (wm : World) (L : Nat → Prop), Below w.heap.size w wm → (∀ t, ds.contains t = false → am.tmps.getD t undef = a.tmps.getD t undef) →
      (∀ j d, ds[j]? = some d → ¬ L j → am.tmps.getD d undef = a.tmps.getD d undef) → monoSteps P l.toArray am wm L 0 (l.take n) ds sp)
    (hend : ∀ w', Below w.heap.size w w' → monoEnd (fun t => wpList P l.toArray Q (l.drop n) ⟨t, a.defers⟩ w') w' ds sp a.tmps) : (Code.region id l.toArray true).wp P Q a w := by
  simp only [monoB2, Bool.and_eq_true] at hB
  obtain ⟨⟨hB0, hB1⟩, hB2⟩ := hB
  simp only [tailB, Bool.and_eq_true, decide_eq_true_eq] at hT
  obtain ⟨⟨⟨hn, hS⟩, hC⟩, hQ⟩ := hT
  have hnl : n < l.length := by simpa using hn
  have htl : (l.take n).length = n := by rw [List.length_take]; omega
  obtain ⟨hB3, hB4⟩ := monoFrom_at 0 (l.take n) _ hB2
  have hlen : sp.length = n := by rw [htl] at hB3; rw [hB3]; simp
  have hlat : ∀ (i : Nat) (o : Oper), i < n → l.toArray[i]? = some o → (l.take n)[i]? = some o := fun i o hi ho => by
    rw [List.getElem?_take, if_pos hi]; simpa using ho
  have hat : ∀ (i : Nat) (o : Oper) (s : Sp), l.toArray[i]? = some o → sp[i]? = some s → monoAt l.toArray ds (s.needs, s.late) i o = true := fun i o s ho hs => by
    have hin : i < n := by rw [← hlen]; exact (List.getElem?_eq_some_iff.1 hs).1
    have := hB4 i o (s.needs, s.late) (hlat i o hin ho) (by simp [hs])
    rwa [Nat.zero_add] at this
  have hdl : ds.length = n := by have := congrArg List.length hds; simpa [htl, Nat.min_eq_left (Nat.le_of_lt hnl)] using this.symm
  have hdat : ∀ (i : Nat) (d : Tmp), ds[i]? = some d → dstOf l.toArray i = some d := fun i d hd => by
    have hin : i < n := by rw [← hdl]; exact (List.getElem?_eq_some_iff.1 hd).1
    have h1 : ((l.take n).map (·.dst))[i]? = some (some d) := by rw [hds, List.getElem?_map, hd]; rfl
    rw [List.getElem?_map] at h1
    obtain ⟨o, ho, h2⟩ := Option.map_eq_some_iff.1 h1
    rw [List.getElem?_take, if_pos hin] at ho
    simp [dstOf, ho, h2]
  have hdof : ∀ (j : Nat) (t : Tmp), j < n → dstOf l.toArray j = some t → ds[j]? = some t := fun j t hjn hj => by
    have := hdat j _ (List.getElem?_eq_getElem (by omega))
    rw [hj] at this
    rw [List.getElem?_eq_getElem (by omega), Option.some.inj this]
  have hdst : ∀ (i : Nat) (o : Oper), i < n → l.toArray[i]? = some o → ∃ d, o.dst = some d ∧ d < a.tmps.size := fun i o hin ho => by
    have hil : i < ds.length := by rw [hdl]; exact hin
    have h1 := hdat i _ (List.getElem?_eq_getElem hil)
    have h2 : o.dst = some ds[i] := by simpa [dstOf, ho] using h1
    unfold dstsB at hD
    exact ⟨_, h2, of_decide_eq_true (List.all_eq_true.1 hD _ (List.getElem_mem hil))⟩
  have hnone : ∀ j, (Array.replicate l.toArray.size false).getD j false = false := fun j => by
    rcases Nat.lt_or_ge j l.toArray.size with h | h
    · simp at h; simp [h]
    · simp at h; simp [h]
  have hnone2 : ∀ j, j < l.toArray.size → (Array.replicate l.toArray.size false).getD j true = false := fun j h => by
    simp at h; simp [h]
  -- one operation of the head
  have step : ∀ i listed b w', Going l.toArray sp w a listed b w' → (∀ t, n ≤ t → t < l.toArray.size → listed.getD t true = false) → i < n → listed.getD i true = false → (∃ o, l.toArray[i]? = some o ∧ ∀ e ∈ o.after, Region.binds .any e = true → listed.getD e.on false = true) →
      wpOp P l.toArray Q i (Going l.toArray sp w a (listed.setIfInBounds i true)) b w' := by
    rintro i listed b w' g htail hin hi ⟨o, ho, hafter⟩
    have hil : i < l.length := by omega
    obtain ⟨s, hs⟩ : ∃ s, sp[i]? = some s := ⟨sp[i]'(by omega), List.getElem?_eq_getElem (by omega)⟩
    have hm1 := hat i o s ho hs
    obtain ⟨d, hd, hdn⟩ := hdst i o hin ho
    have hlisted : ∀ j ∈ s.needs, listed.getD j false = true := fun j hj => by
      obtain ⟨e, he, hb, e1⟩ := monoAt_waits hm1 hj
      rw [← e1]
      exact hafter e he hb
    have htl2 : ∀ j, n ≤ j → listed.getD j false = false := fun j hj => by
      rcases Nat.lt_or_ge j l.toArray.size with h | h
      · exact getD_both (htail j hj h)
      · have : listed.size ≤ j := by rw [g.ls]; exact h
        simp [Array.getElem?_eq_none this]
    have hnot : ∀ t, ds.contains t = false → ∀ j, dstOf l.toArray j = some t → listed.getD j false = false := fun t hno j hj => by
      rcases Nat.lt_or_ge j n with h | h
      · have := List.mem_of_getElem? (hdof j t h hj)
        simp [this] at hno
      · exact htl2 j h
    have hdi0 : ds[i]? = some d := hdof i d hin (by simp only [dstOf, ho]; exact hd)
    have hc := steps_at 0 (l.take n) ds sp (hsteps b w' (fun j => listed.getD j false = true) g.bel (fun t hno => by
      simp only [Array.getD_eq_getD_getElem?]
      rw [g.free t (hnot t hno)]) (fun j d' hd' hL => by
      simp only [Array.getD_eq_getD_getElem?]
      rw [g.free d' fun k hk => by
        rcases Nat.lt_or_ge k n with h | h
        · have := nodupB_spec hB1 (hdof k d' h hk) hd'
          subst this
          simpa using hL
        · exact htl2 k h])) (fun j d' s' hd' hs' hL => by
        rw [Nat.zero_add] at hL
        have h1 := g.vals j s' hs' hL
        rw [hdat j d' hd'] at h1
        exact h1) i o d s (hlat i o hin ho) hdi0 hs hlisted (fun j hj hL => by
        have h1 := g.anc _ j (monoAt_late hm1 hj) hL
        rw [getD_both hi] at h1
        cases h1)
    have hown : ∀ v w2, Below w'.heap.size w' w2 → s.R v w2 → Going l.toArray sp w a (listed.setIfInBounds i true) (b.put o.dst v) w2 := fun v w2 hb hr => by
      have hdi : dstOf l.toArray i = o.dst := by simp only [dstOf, ho]; rfl
      have hil' : i < listed.size := by rw [g.ls]; simpa using hil
      refine ⟨g.bel.trans (hb.mono g.bel.size), by simp [g.ls], by rw [put_size]; exact g.size, by rw [put_defers']; exact g.defers, fun t hno => ?_, fun j oj hoj hl e he hb => ?_, fun j s' hs' hl => ?_⟩
      · rw [put_other fun e => by have := hno i (hdi.trans e); simp [hil'] at this]
        refine g.free t fun j hj => ?_
        have h1 := hno j hj
        by_cases hij : i = j
        · subst hij; simp [hil'] at h1
        · rw [getD_set_ne false hij] at h1; exact h1
      · by_cases hij : i = j
        · subst hij
          rw [ho] at hoj
          obtain rfl := Option.some.inj hoj
          exact getD_set_true (hafter e he hb)
        · rw [getD_set_ne false hij] at hl
          exact getD_set_true (g.closed j oj hoj hl e he hb)
      · by_cases hij : i = j
        · subst hij
          rw [hs] at hs'
          obtain rfl := Option.some.inj hs'
          rw [hdi, hd]
          have : valOf (b.put (some d) v) (some d) = v := by
            have := val_at (a := b.put (some d) v) (t := d) (by rw [put_size, g.size]; exact hdn)
            rw [put_self (by rw [g.size]; exact hdn)] at this
            exact Option.some.inj this
          rw [this]
          exact hr
        · rw [getD_set_ne false hij] at hl
          have h1 := g.vals j s' hs' hl
          have hjn : j < n := by rw [← hlen]; exact (List.getElem?_eq_some_iff.1 hs').1
          have h2 : valOf (b.put o.dst v) (dstOf l.toArray j) = valOf b (dstOf l.toArray j) := by
            cases hj : dstOf l.toArray j with
            | none => rfl
            | some t =>
              have hne : o.dst ≠ some t := fun e => (Ne.symm hij) (nodupB_spec hB1 (hdof j t hjn hj) (hdof i t hin (hdi.trans e)))
              simp only [valOf, Array.getD_eq_getD_getElem?]
              rw [put_other hne]
          rw [h2]
          exact stables_at sp hst j s' hs' _ _ _ h1 hb
    unfold wpOp
    rw [ho]
    dsimp only
    replace hc := hc.ok
    by_cases hw : s.want = true
    · rw [if_pos hw] at hc
      rw [if_pos hc.1]
      refine .inl (wp_alike hd (by rw [g.size]; exact hdn) rfl hc.2 hown)
    · rw [if_neg hw] at hc
      rw [hc.1]
      simp only [Bool.false_eq_true, if_false]
      exact hown undef w' (Below.refl _ _) hc.2
  have go : ∀ (k : Nat) listed b w', Going l.toArray sp w a listed b w' → (∀ t, n ≤ t → t < l.toArray.size → listed.getD t true = false) → (listed.toList.take n).countP (fun b => !b) = k → wpAny P .any l.toArray Q (k + (l.toArray.size - n)) listed b w' := by
    intro k
    induction k with
    | zero =>
      intro listed b w' g htail hk
      have hall : ∀ i, i < n → listed.getD i false = true := fun i hi => by
        have h1 := List.countP_eq_zero.1 hk
        have hil : i < listed.toList.length := by have := g.ls; simp at this ⊢; omega
        have h2 := h1 (listed.toList[i]'hil) (List.mem_take_iff_getElem.2 ⟨i, by simp at hil ⊢; omega, rfl⟩)
        have hil' : i < listed.size := by simpa using hil
        simpa [hil'] using h2
      have hl : listed = headDone n l.toArray.size := by
        refine Array.ext_getElem? fun i => ?_
        rcases Nat.lt_or_ge i l.toArray.size with h | h
        · have hil' : i < listed.size := by rw [g.ls]; exact h
          have e1 : (headDone n l.toArray.size)[i]? = some (decide (i < n)) := by
            unfold headDone
            simp only [List.getElem?_toArray, List.getElem?_map]
            rw [List.getElem?_range h]
            rfl
          rw [e1]
          rcases Nat.lt_or_ge i n with h1 | h1
          · have := hall i h1
            simp [hil'] at this
            simp [hil', this, h1]
          · have := htail i h1 h
            simp [hil'] at this
            simp [hil', this, Nat.not_lt.2 h1]
        · rw [Array.getElem?_eq_none (by rw [g.ls]; exact h), Array.getElem?_eq_none (by unfold headDone; simpa using h)]
      have hfin : wpList P l.toArray Q (l.drop n) b w' := by
        have := end_at (Q := fun _ a' w'' => wpList P l.toArray Q (l.drop n) a' w'') (a := b) ds sp a (by omega) (fun i d s ho hs => ?_) (by rw [g.defers]; exact hend w' g.bel) g.size.symm g.defers.symm (fun t hno => (g.free t fun j hj => ?_).symm)
        · exact this
        · have hin : i < n := by rw [← hdl]; exact (List.getElem?_eq_some_iff.1 ho).1
          have h3 := g.vals i s hs (hall i hin)
          rw [hdat i d ho] at h3
          exact h3
        · rcases Nat.lt_or_ge j n with h | h
          · exact absurd (List.mem_of_getElem? (hdof j t h hj)) hno
          · rcases Nat.lt_or_ge j l.toArray.size with h' | h'
            · exact getD_both (htail j h h')
            · have : listed.size ≤ j := by rw [g.ls]; exact h'
              simp [Array.getElem?_eq_none this]
      have hsq := wpAny_of_seq (md := .any) (Q' := Q) (l.drop n) n listed b w' (fun j => by simp [List.getElem?_drop]) (by rw [hl]; simpa using hQ) hfin
      rw [Nat.zero_add]
      simpa using hsq
    | succ k ih =>
      intro listed b w' g htail hk
      have inv : HeadInv .any l.toArray n listed := ⟨g.ls, g.closed, htail⟩
      obtain ⟨i0, hi0n, hi0⟩ : ∃ i, i < n ∧ listed.getD i true = false := by
        apply Classical.byContradiction
        intro h
        have : (listed.toList.take n).countP (fun b => !b) = 0 := List.countP_eq_zero.2 fun x hx => by
          obtain ⟨j, hj, rfl⟩ := List.mem_take_iff_getElem.1 hx
          have hjl : j < listed.size := by simp at hj; omega
          have h1 : ¬ listed.getD j true = false := fun e => h ⟨j, by omega, e⟩
          simp [hjl] at h1
          simp [h1]
        omega
      have hready : ∀ (m i : Nat), i < m → i < n → listed.getD i true = false → Region.ready .any l.toArray listed ≠ [] := by
        intro m
        induction m with
        | zero => intro i h; omega
        | succ m ihm =>
          intro i him hin hi hr
          have hil : i < l.length := by omega
          have ho : l.toArray[i]? = some (l[i]'hil) := by simp [hil]
          have hs : sp[i]? = some (sp[i]'(by omega)) := List.getElem?_eq_getElem (by omega)
          have : i ∈ Region.ready .any l.toArray listed := mem_ready.2 ⟨hi, _, ho, fun e he hb => by
            have hb1 := monoAt_back (hat i _ _ ho hs) he hb
            cases h2 : listed.getD e.on true with
            | false => exact absurd hr (ihm e.on (by omega) (by omega) h2)
            | true =>
              have h3 : e.on < listed.size := by rw [g.ls]; simp; omega
              simp [h3] at h2 ⊢
              exact h2⟩
          rw [hr] at this; cases this
      have hne := hready (i0 + 1) i0 (by omega) hi0n hi0
      rw [show k + 1 + (l.toArray.size - n) = (k + (l.toArray.size - n)) + 1 by omega]
      refine ⟨fun h => absurd h hne, fun i hi => ?_⟩
      have hin : i < n := by
        rcases Nat.lt_or_ge i n with h | h
        · exact h
        · exact absurd hi (tail_waits hS hC hn inv _ i0 rfl hi0n hi0 i h)
      obtain ⟨h0, h2⟩ := mem_ready.1 hi
      have hil' : i < listed.size := by rw [g.ls]; simp; omega
      refine wpOp_mono (fun a' w'' g' => ih _ a' w'' g' (fun t ht ht' => ?_) ?_) (step i listed b w' g htail hin h0 h2)
      · rw [getD_set_ne true (by omega)]; exact htail t ht ht'
      · have h1 : listed.toList[i]? = some false := by
          simp [hil'] at h0
          simp [hil', h0]
        have := count_take hin h1
        rw [Array.toList_setIfInBounds]
        omega
  refine wp_region_any hm ?_
  have h0 : ((Array.replicate l.toArray.size false).toList.take n).countP (fun b => !b) = n := by
    simp [List.countP_replicate]
    omega
  have := go n (Array.replicate l.toArray.size false) a w.drew ⟨below_drew w, by simp, rfl, rfl, fun _ _ => rfl, fun j o _ h => (by rw [hnone] at h; cases h), fun j s _ h => (by rw [hnone] at h; cases h)⟩ (fun t _ ht => hnone2 t ht) h0
  rw [show n + (l.toArray.size - n) = l.toArray.size by omega] at this
  exact this
end
end Go.Proofs.Ytcdajfiohhbdgaa.W


/-
  A region that draws, its head by what is said of each operation, a tail of forced order; one operation of the head (a part of a value that has come up) may come up behind the tail's first.
-/
namespace Go.Proofs.Ytcdajfiohhbdgaa.W
set_option maxRecDepth 100000
set_option linter.unusedVariables false
set_option linter.unusedSimpArgs false
open Go.ChangeShapes Go.WideShapes Go.ChangeAt Go.RowKit

def headBut (n j m : Nat) : Array Bool := ((List.range m).map fun i => decide (i < n ∧ i ≠ j)).toArray
def sinkBj (ops : Array Oper) (n jj : Nat) : Bool :=
  (List.range n).all fun i => i == jj || (List.range (n + 1)).any fun j => decide (i < j) && decide (j ≠ jj) && Region.waitsFor .any ops j i
def tailBj (ops : Array Oper) (n jj : Nat) : Bool :=
  decide (n < ops.size) && sinkBj ops n jj && Region.chainB .any ops n && Region.seqB .any ops (ops.size - n) n (headDone n ops.size)
theorem tail_waitsj {ops : Array Oper} {n jj : Nat} {listed : Array Bool} (hs : sinkBj ops n jj = true) (hc : Region.chainB .any ops n = true) (hn : n < ops.size) (inv : HeadInv .any ops n listed) :
    ∀ (d i : Nat), n - i = d → i < n → i ≠ jj → listed.getD i true = false → ∀ t, n ≤ t → t ∉ Region.ready .any ops listed := by
  intro d
  induction d using Nat.strongRecOn with
  | _ d ih =>
    intro i hd hi hi0 hun t ht hr
    obtain ⟨_, ot, hot, hall⟩ := mem_ready.1 hr
    have htlt : t < ops.size := (Array.getElem?_eq_some_iff.1 hot).1
    by_cases htn : t = n
    · subst htn
      have h1 := List.all_eq_true.1 hs i (List.mem_range.2 hi)
      rw [show (i == jj) = false by simpa using hi0, Bool.false_or] at h1
      obtain ⟨j, hj, hj2⟩ := List.any_eq_true.1 h1
      simp only [Bool.and_eq_true, decide_eq_true_eq] at hj2
      obtain ⟨⟨hj3, hj4⟩, hj5⟩ := hj2
      obtain ⟨oj, hoj, e, he, hb, hon⟩ := Region.waitsFor_spec hj5
      have hjle : j ≤ t := by have := List.mem_range.1 hj; omega
      by_cases hjt : j = t
      · subst hjt
        have : oj = ot := Option.some.inj (hoj.symm.trans hot)
        subst this
        have h2 := hall e he hb
        rw [hon, getD_both hun] at h2
        cases h2
      · cases hl : listed.getD j false with
        | true =>
          have h2 := inv.closed j oj hoj hl e he hb
          rw [hon, getD_both hun] at h2
          cases h2
        | false =>
          have hjs : j < listed.size := by rw [inv.size]; omega
          exact ih (t - j) (by omega) j rfl (by omega) hj4 (getD_in hjs hl) t (Nat.le_refl _) hr
    · have h1 := List.all_eq_true.1 hc t (List.mem_range.2 htlt)
      simp only [Bool.or_eq_true, decide_eq_true_eq] at h1
      rcases h1 with h1 | h1
      · omega
      · obtain ⟨o', ho', e, he, hb, hon⟩ := Region.waitsFor_spec h1
        have : o' = ot := Option.some.inj (ho'.symm.trans hot)
        subst this
        have h2 := hall e he hb
        rw [hon, getD_both (inv.tail (t - 1) (by omega) (by omega))] at h2
        cases h2
section
variable {P : Program} {ops : Array Oper} {Q : Exit → Act → World → Prop}
set_option maxHeartbeats 1000000 in
theorem region_mono_tailj {id : Nat} {l : List Oper} {a : Act} {w : World} (n : Nat) (sp : List Sp) (ds : List Tmp) (hds : (l.take n).map (·.dst) = ds.map some) (hm : P.follows .mixedOrders = true) (hB : monoB2 l.toArray (l.take n) ds (sp.map fun s => (s.needs, s.late)) = true) (jj : Nat) (hT : tailBj l.toArray n jj = true) (hD : dstsB ds a.tmps.size = true) (hst : stables sp)
    (oj : Oper) (vj : Value) (nj : List Nat) (hjn : jj < n) (hjo : l[jj]? = some oj) (hjs : sp[jj]? = some (Sp.c vj nj)) (hjf : Region.free .any l.toArray (headBut n jj l.toArray.size) jj = true) (hjr : (Region.ready .any l.toArray (headBut n jj l.toArray.size)).contains jj = true)
    (hjy : ∀ (b : Act) (w' : World), (∀ (i : Nat) (s : Sp), i ≠ jj → sp[i]? = some s → s.R (valOf b (dstOf l.toArray i)) w') → Yields P l.toArray oj vj b) (hjq : ∀ c a w, Q (.panic c) (a.put oj.dst vj) w → Q (.panic c) a w)
    (hsteps : ∀ (am : Act) (wm : World) (L : Nat → Prop), Below w.heap.size w wm → (∀ t, ds.contains t = false → am.tmps.getD t undef = a.tmps.getD t undef) →
      (∀ j d, ds[j]? = some d → ¬ L j → am.tmps.getD d undef = a.tmps.getD d undef) → monoSteps P l.toArray am wm L 0 (l.take n) ds sp)
    (hend : ∀ w', Below w.heap.size w w' → monoEnd (fun t => wpList P l.toArray Q (l.drop n) ⟨t, a.defers⟩ w') w' ds sp a.tmps) : (Code.region id l.toArray true).wp P Q a w := by
  simp only [monoB2, Bool.and_eq_true] at hB
  obtain ⟨⟨hB0, hB1⟩, hB2⟩ := hB
  simp only [tailBj, Bool.and_eq_true, decide_eq_true_eq] at hT
  obtain ⟨⟨⟨hn, hS⟩, hC⟩, hQ⟩ := hT
  have hnl : n < l.length := by simpa using hn
  have htl : (l.take n).length = n := by rw [List.length_take]; omega
  obtain ⟨hB3, hB4⟩ := monoFrom_at 0 (l.take n) _ hB2
  have hlen : sp.length = n := by rw [htl] at hB3; rw [hB3]; simp
  have hlat : ∀ (i : Nat) (o : Oper), i < n → l.toArray[i]? = some o → (l.take n)[i]? = some o := fun i o hi ho => by
    rw [List.getElem?_take, if_pos hi]; simpa using ho
  have hat : ∀ (i : Nat) (o : Oper) (s : Sp), l.toArray[i]? = some o → sp[i]? = some s → monoAt l.toArray ds (s.needs, s.late) i o = true := fun i o s ho hs => by
    have hin : i < n := by rw [← hlen]; exact (List.getElem?_eq_some_iff.1 hs).1
    have := hB4 i o (s.needs, s.late) (hlat i o hin ho) (by simp [hs])
    rwa [Nat.zero_add] at this
  have hdl : ds.length = n := by have := congrArg List.length hds; simpa [htl, Nat.min_eq_left (Nat.le_of_lt hnl)] using this.symm
  have hdat : ∀ (i : Nat) (d : Tmp), ds[i]? = some d → dstOf l.toArray i = some d := fun i d hd => by
    have hin : i < n := by rw [← hdl]; exact (List.getElem?_eq_some_iff.1 hd).1
    have h1 : ((l.take n).map (·.dst))[i]? = some (some d) := by rw [hds, List.getElem?_map, hd]; rfl
    rw [List.getElem?_map] at h1
    obtain ⟨o, ho, h2⟩ := Option.map_eq_some_iff.1 h1
    rw [List.getElem?_take, if_pos hin] at ho
    simp [dstOf, ho, h2]
  have hdof : ∀ (j : Nat) (t : Tmp), j < n → dstOf l.toArray j = some t → ds[j]? = some t := fun j t hjn hj => by
    have := hdat j _ (List.getElem?_eq_getElem (by omega))
    rw [hj] at this
    rw [List.getElem?_eq_getElem (by omega), Option.some.inj this]
  have hdst : ∀ (i : Nat) (o : Oper), i < n → l.toArray[i]? = some o → ∃ d, o.dst = some d ∧ d < a.tmps.size := fun i o hin ho => by
    have hil : i < ds.length := by rw [hdl]; exact hin
    have h1 := hdat i _ (List.getElem?_eq_getElem hil)
    have h2 : o.dst = some ds[i] := by simpa [dstOf, ho] using h1
    unfold dstsB at hD
    exact ⟨_, h2, of_decide_eq_true (List.all_eq_true.1 hD _ (List.getElem_mem hil))⟩
  have hnone : ∀ j, (Array.replicate l.toArray.size false).getD j false = false := fun j => by
    rcases Nat.lt_or_ge j l.toArray.size with h | h
    · simp at h; simp [h]
    · simp at h; simp [h]
  have hnone2 : ∀ j, j < l.toArray.size → (Array.replicate l.toArray.size false).getD j true = false := fun j h => by
    simp at h; simp [h]
  have grow : ∀ i listed b w', Going l.toArray sp w a listed b w' → (∀ t, n ≤ t → t < l.toArray.size → listed.getD t true = false) → i < n → listed.getD i true = false → ∀ (o : Oper), l.toArray[i]? = some o → (∀ e ∈ o.after, Region.binds .any e = true → listed.getD e.on false = true) → ∀ s, sp[i]? = some s →
      ∀ v w2, Below w'.heap.size w' w2 → s.R v w2 → Going l.toArray sp w a (listed.setIfInBounds i true) (b.put o.dst v) w2 := by
    intro i listed b w' g htail hin hi o ho hafter s hs
    have hil : i < l.length := by omega
    obtain ⟨d, hd, hdn⟩ := hdst i o hin ho
    intro v w2 hb hr
    have hdi : dstOf l.toArray i = o.dst := by simp only [dstOf, ho]; rfl
    have hil' : i < listed.size := by rw [g.ls]; simpa using hil
    refine ⟨g.bel.trans (hb.mono g.bel.size), by simp [g.ls], by rw [put_size]; exact g.size, by rw [put_defers']; exact g.defers, fun t hno => ?_, fun j oj hoj hl e he hb => ?_, fun j s' hs' hl => ?_⟩
    · rw [put_other fun e => by have := hno i (hdi.trans e); simp [hil'] at this]
      refine g.free t fun j hj => ?_
      have h1 := hno j hj
      by_cases hij : i = j
      · subst hij; simp [hil'] at h1
      · rw [getD_set_ne false hij] at h1; exact h1
    · by_cases hij : i = j
      · subst hij
        rw [ho] at hoj
        obtain rfl := Option.some.inj hoj
        exact getD_set_true (hafter e he hb)
      · rw [getD_set_ne false hij] at hl
        exact getD_set_true (g.closed j oj hoj hl e he hb)
    · by_cases hij : i = j
      · subst hij
        rw [hs] at hs'
        obtain rfl := Option.some.inj hs'
        rw [hdi, hd]
        have : valOf (b.put (some d) v) (some d) = v := by
          have := val_at (a := b.put (some d) v) (t := d) (by rw [put_size, g.size]; exact hdn)
          rw [put_self (by rw [g.size]; exact hdn)] at this
          exact Option.some.inj this
        rw [this]
        exact hr
      · rw [getD_set_ne false hij] at hl
        have h1 := g.vals j s' hs' hl
        have hjn : j < n := by rw [← hlen]; exact (List.getElem?_eq_some_iff.1 hs').1
        have h2 : valOf (b.put o.dst v) (dstOf l.toArray j) = valOf b (dstOf l.toArray j) := by
          cases hj : dstOf l.toArray j with
          | none => rfl
          | some t =>
            have hne : o.dst ≠ some t := fun e => (Ne.symm hij) (nodupB_spec hB1 (hdof j t hjn hj) (hdof i t hin (hdi.trans e)))
            simp only [valOf, Array.getD_eq_getD_getElem?]
            rw [put_other hne]
        rw [h2]
        exact stables_at sp hst j s' hs' _ _ _ h1 hb
  -- one operation of the head
  have step : ∀ i listed b w', Going l.toArray sp w a listed b w' → (∀ t, n ≤ t → t < l.toArray.size → listed.getD t true = false) → i < n → listed.getD i true = false → (∃ o, l.toArray[i]? = some o ∧ ∀ e ∈ o.after, Region.binds .any e = true → listed.getD e.on false = true) →
      wpOp P l.toArray Q i (Going l.toArray sp w a (listed.setIfInBounds i true)) b w' := by
    rintro i listed b w' g htail hin hi ⟨o, ho, hafter⟩
    have hil : i < l.length := by omega
    obtain ⟨s, hs⟩ : ∃ s, sp[i]? = some s := ⟨sp[i]'(by omega), List.getElem?_eq_getElem (by omega)⟩
    have hm1 := hat i o s ho hs
    obtain ⟨d, hd, hdn⟩ := hdst i o hin ho
    have hlisted : ∀ j ∈ s.needs, listed.getD j false = true := fun j hj => by
      obtain ⟨e, he, hb, e1⟩ := monoAt_waits hm1 hj
      rw [← e1]
      exact hafter e he hb
    have htl2 : ∀ j, n ≤ j → listed.getD j false = false := fun j hj => by
      rcases Nat.lt_or_ge j l.toArray.size with h | h
      · exact getD_both (htail j hj h)
      · have : listed.size ≤ j := by rw [g.ls]; exact h
        simp [Array.getElem?_eq_none this]
    have hnot : ∀ t, ds.contains t = false → ∀ j, dstOf l.toArray j = some t → listed.getD j false = false := fun t hno j hj => by
      rcases Nat.lt_or_ge j n with h | h
      · have := List.mem_of_getElem? (hdof j t h hj)
        simp [this] at hno
      · exact htl2 j h
    have hdi0 : ds[i]? = some d := hdof i d hin (by simp only [dstOf, ho]; exact hd)
    have hc := steps_at 0 (l.take n) ds sp (hsteps b w' (fun j => listed.getD j false = true) g.bel (fun t hno => by
      simp only [Array.getD_eq_getD_getElem?]
      rw [g.free t (hnot t hno)]) (fun j d' hd' hL => by
      simp only [Array.getD_eq_getD_getElem?]
      rw [g.free d' fun k hk => by
        rcases Nat.lt_or_ge k n with h | h
        · have := nodupB_spec hB1 (hdof k d' h hk) hd'
          subst this
          simpa using hL
        · exact htl2 k h])) (fun j d' s' hd' hs' hL => by
        rw [Nat.zero_add] at hL
        have h1 := g.vals j s' hs' hL
        rw [hdat j d' hd'] at h1
        exact h1) i o d s (hlat i o hin ho) hdi0 hs hlisted (fun j hj hL => by
        have h1 := g.anc _ j (monoAt_late hm1 hj) hL
        rw [getD_both hi] at h1
        cases h1)
    have hown : ∀ v w2, Below w'.heap.size w' w2 → s.R v w2 → Going l.toArray sp w a (listed.setIfInBounds i true) (b.put o.dst v) w2 := grow i listed b w' g htail hin hi o ho hafter s hs
    unfold wpOp
    rw [ho]
    dsimp only
    replace hc := hc.ok
    by_cases hw : s.want = true
    · rw [if_pos hw] at hc
      rw [if_pos hc.1]
      refine .inl (wp_alike hd (by rw [g.size]; exact hdn) rfl hc.2 hown)
    · rw [if_neg hw] at hc
      rw [hc.1]
      simp only [Bool.false_eq_true, if_false]
      exact hown undef w' (Below.refl _ _) hc.2
  have go : ∀ (k : Nat) listed b w', Going l.toArray sp w a listed b w' → (∀ t, n ≤ t → t < l.toArray.size → listed.getD t true = false) → (listed.toList.take n).countP (fun b => !b) = k → wpAny P .any l.toArray Q (k + (l.toArray.size - n)) listed b w' := by
    intro k
    induction k with
    | zero =>
      intro listed b w' g htail hk
      have hall : ∀ i, i < n → listed.getD i false = true := fun i hi => by
        have h1 := List.countP_eq_zero.1 hk
        have hil : i < listed.toList.length := by have := g.ls; simp at this ⊢; omega
        have h2 := h1 (listed.toList[i]'hil) (List.mem_take_iff_getElem.2 ⟨i, by simp at hil ⊢; omega, rfl⟩)
        have hil' : i < listed.size := by simpa using hil
        simpa [hil'] using h2
      have hl : listed = headDone n l.toArray.size := by
        refine Array.ext_getElem? fun i => ?_
        rcases Nat.lt_or_ge i l.toArray.size with h | h
        · have hil' : i < listed.size := by rw [g.ls]; exact h
          have e1 : (headDone n l.toArray.size)[i]? = some (decide (i < n)) := by
            unfold headDone
            simp only [List.getElem?_toArray, List.getElem?_map]
            rw [List.getElem?_range h]
            rfl
          rw [e1]
          rcases Nat.lt_or_ge i n with h1 | h1
          · have := hall i h1
            simp [hil'] at this
            simp [hil', this, h1]
          · have := htail i h1 h
            simp [hil'] at this
            simp [hil', this, Nat.not_lt.2 h1]
        · rw [Array.getElem?_eq_none (by rw [g.ls]; exact h), Array.getElem?_eq_none (by unfold headDone; simpa using h)]
      have hfin : wpList P l.toArray Q (l.drop n) b w' := by
        have := end_at (Q := fun _ a' w'' => wpList P l.toArray Q (l.drop n) a' w'') (a := b) ds sp a (by omega) (fun i d s ho hs => ?_) (by rw [g.defers]; exact hend w' g.bel) g.size.symm g.defers.symm (fun t hno => (g.free t fun j hj => ?_).symm)
        · exact this
        · have hin : i < n := by rw [← hdl]; exact (List.getElem?_eq_some_iff.1 ho).1
          have h3 := g.vals i s hs (hall i hin)
          rw [hdat i d ho] at h3
          exact h3
        · rcases Nat.lt_or_ge j n with h | h
          · exact absurd (List.mem_of_getElem? (hdof j t h hj)) hno
          · rcases Nat.lt_or_ge j l.toArray.size with h' | h'
            · exact getD_both (htail j h h')
            · have : listed.size ≤ j := by rw [g.ls]; exact h'
              simp [Array.getElem?_eq_none this]
      have hsq := wpAny_of_seq (md := .any) (Q' := Q) (l.drop n) n listed b w' (fun j => by simp [List.getElem?_drop]) (by rw [hl]; simpa using hQ) hfin
      rw [Nat.zero_add]
      simpa using hsq
    | succ k ih =>
      intro listed b w' g htail hk
      have inv : HeadInv .any l.toArray n listed := ⟨g.ls, g.closed, htail⟩
      by_cases hsole : ∀ i, i < n → i ≠ jj → listed.getD i true = true
      · have hjfalse : listed.getD jj true = false := by
          cases hx : listed.getD jj true with
          | false => rfl
          | true =>
            exfalso
            have : (listed.toList.take n).countP (fun b => !b) = 0 := List.countP_eq_zero.2 fun x hx' => by
              obtain ⟨q, hq, rfl⟩ := List.mem_take_iff_getElem.1 hx'
              have hql : q < listed.size := by simp at hq; omega
              have h1 : listed.getD q true = true := by
                by_cases e : q = jj
                · rw [e]; exact hx
                · exact hsole q (by omega) e
              simp [hql] at h1
              simp [h1]
            omega
        have hlb : listed = headBut n jj l.toArray.size := by
          refine Array.ext_getElem? fun i => ?_
          rcases Nat.lt_or_ge i l.toArray.size with h | h
          · have hil' : i < listed.size := by rw [g.ls]; exact h
            have e1 : (headBut n jj l.toArray.size)[i]? = some (decide (i < n ∧ i ≠ jj)) := by
              unfold headBut
              simp only [List.getElem?_toArray, List.getElem?_map]
              rw [List.getElem?_range h]
              rfl
            rw [e1]
            by_cases e : i = jj
            · subst e
              simp [hil'] at hjfalse
              simp [hil', hjfalse]
            · rcases Nat.lt_or_ge i n with h1 | h1
              · have := hsole i h1 e
                simp [hil'] at this
                simp [hil', this, h1, e]
              · have := htail i h1 h
                simp [hil'] at this
                simp [hil', this, Nat.not_lt.2 h1]
          · rw [Array.getElem?_eq_none (by rw [g.ls]; exact h), Array.getElem?_eq_none (by unfold headBut; simpa using h)]
        have hjo' : l.toArray[jj]? = some oj := by simpa using hjo
        have hjr' : (Region.ready .any l.toArray listed).contains jj = true := by rw [hlb]; exact hjr
        obtain ⟨_, h2⟩ := mem_ready.1 (show jj ∈ Region.ready .any l.toArray listed by simpa using hjr')
        obtain ⟨o', ho', hafter⟩ := h2
        have : o' = oj := Option.some.inj (ho'.symm.trans hjo')
        subst this
        have hg2 := grow jj listed b w' g htail hjn hjfalse o' hjo' hafter _ hjs vj w' (Below.refl _ _) rfl
        have hjl : jj < listed.size := by rw [g.ls]; simp; omega
        have hcnt : ((listed.setIfInBounds jj true).toList.take n).countP (fun b => !b) = k := by
          have h1 : listed.toList[jj]? = some false := by
            simp [hjl] at hjfalse
            simp [hjl, hjfalse]
          have := count_take hjn h1
          rw [Array.toList_setIfInBounds]
          omega
        have hnext := ih _ _ w' hg2 (fun t ht ht' => by rw [getD_set_ne true (by omega)]; exact htail t ht ht') hcnt
        rw [show k + 1 + (l.toArray.size - n) = (k + (l.toArray.size - n)) + 1 by omega]
        refine wpAny_take (md := .any) (Q := Q) hjo' hB0 (by rw [hlb]; exact hjf) hjr' hjq (hjy b w' fun i s hij hs => g.vals i s hs ?_) hnext
        have hin : i < n := by rw [← hlen]; exact (List.getElem?_eq_some_iff.1 hs).1
        have h3 := hsole i hin hij
        have hil' : i < listed.size := by rw [g.ls]; simp; omega
        simp [hil'] at h3
        simp [hil', h3]
      · skip
        have hex : ∃ i, i < n ∧ i ≠ jj ∧ listed.getD i true = false := by
          apply Classical.byContradiction
          intro h
          refine hsole fun i hi hij => ?_
          cases hx : listed.getD i true with
          | true => rfl
          | false => exact absurd ⟨i, hi, hij, hx⟩ h
        obtain ⟨i0, hi0n, hi0j, hi0⟩ := hex
        have hready : ∀ (m i : Nat), i < m → i < n → listed.getD i true = false → Region.ready .any l.toArray listed ≠ [] := by
          intro m
          induction m with
          | zero => intro i h; omega
          | succ m ihm =>
            intro i him hin hi hr
            have hil : i < l.length := by omega
            have ho : l.toArray[i]? = some (l[i]'hil) := by simp [hil]
            have hs : sp[i]? = some (sp[i]'(by omega)) := List.getElem?_eq_getElem (by omega)
            have : i ∈ Region.ready .any l.toArray listed := mem_ready.2 ⟨hi, _, ho, fun e he hb => by
              have hb1 := monoAt_back (hat i _ _ ho hs) he hb
              cases h2 : listed.getD e.on true with
              | false => exact absurd hr (ihm e.on (by omega) (by omega) h2)
              | true =>
                have h3 : e.on < listed.size := by rw [g.ls]; simp; omega
                simp [h3] at h2 ⊢
                exact h2⟩
            rw [hr] at this; cases this
        have hne := hready (i0 + 1) i0 (by omega) hi0n hi0
        rw [show k + 1 + (l.toArray.size - n) = (k + (l.toArray.size - n)) + 1 by omega]
        refine ⟨fun h => absurd h hne, fun i hi => ?_⟩
        have hin : i < n := by
          rcases Nat.lt_or_ge i n with h | h
          · exact h
          · exact absurd hi (tail_waitsj hS hC hn inv _ i0 rfl hi0n hi0j hi0 i h)
        obtain ⟨h0, h2⟩ := mem_ready.1 hi
        have hil' : i < listed.size := by rw [g.ls]; simp; omega
        refine wpOp_mono (fun a' w'' g' => ih _ a' w'' g' (fun t ht ht' => ?_) ?_) (step i listed b w' g htail hin h0 h2)
        · rw [getD_set_ne true (by omega)]; exact htail t ht ht'
        · have h1 : listed.toList[i]? = some false := by
            simp [hil'] at h0
            simp [hil', h0]
          have := count_take hin h1
          rw [Array.toList_setIfInBounds]
          omega
  refine wp_region_any hm ?_
  have h0 : ((Array.replicate l.toArray.size false).toList.take n).countP (fun b => !b) = n := by
    simp [List.countP_replicate]
    omega
  have := go n (Array.replicate l.toArray.size false) a w.drew ⟨below_drew w, by simp, rfl, rfl, fun _ _ => rfl, fun j o _ h => (by rw [hnone] at h; cases h), fun j s _ h => (by rw [hnone] at h; cases h)⟩ (fun t _ ht => hnone2 t ht) h0
  rw [show n + (l.toArray.size - n) = l.toArray.size by omega] at this
  exact this
end
end Go.Proofs.Ytcdajfiohhbdgaa.W
