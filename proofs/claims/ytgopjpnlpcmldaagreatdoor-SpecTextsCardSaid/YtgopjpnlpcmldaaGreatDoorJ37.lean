/-
  Several texts in one: MonoT0, TextTake4.
-/
import Derived.Test.YtgopjpnlpcmldaaGreatDoorJ36

/-
  A region that draws its order and ends in a tail of forced order, but for its operation 0, a move that may come up late: that one is taken first.
-/
namespace Go.Proofs.YtgopjpnlpcmldaaGreatDoor.W
set_option linter.unusedVariables false
set_option linter.unusedSimpArgs false
open Go.ChangeShapes Go.WideShapes Go.ChangeAt Go.RowKit

def sinkB0 (ops : Array Oper) (n : Nat) : Bool :=
  (List.range n).all fun i => i == 0 || (List.range (n + 1)).any fun j => decide (i < j) && Region.waitsFor .any ops j i
def tailB0 (ops : Array Oper) (n : Nat) : Bool :=
  decide (n < ops.size) && sinkB0 ops n && Region.chainB .any ops n && Region.seqB .any ops (ops.size - n) n (headDone n ops.size)
theorem tail_waits0 {ops : Array Oper} {n : Nat} {listed : Array Bool} (hs : sinkB0 ops n = true) (hc : Region.chainB .any ops n = true) (hn : n < ops.size) (inv : HeadInv .any ops n listed) :
    ∀ (d i : Nat), n - i = d → i < n → i ≠ 0 → listed.getD i true = false → ∀ t, n ≤ t → t ∉ Region.ready .any ops listed := by
  intro d
  induction d using Nat.strongRecOn with
  | _ d ih =>
    intro i hd hi hi0 hun t ht hr
    obtain ⟨_, ot, hot, hall⟩ := mem_ready.1 hr
    have htlt : t < ops.size := (Array.getElem?_eq_some_iff.1 hot).1
    by_cases htn : t = n
    · subst htn
      have h1 := List.all_eq_true.1 hs i (List.mem_range.2 hi)
      rw [show (i == 0) = false by simpa using hi0, Bool.false_or] at h1
      obtain ⟨j, hj, hj2⟩ := List.any_eq_true.1 h1
      simp only [Bool.and_eq_true, decide_eq_true_eq] at hj2
      obtain ⟨oj, hoj, e, he, hb, hon⟩ := Region.waitsFor_spec hj2.2
      have hjle : j ≤ t := by have := List.mem_range.1 hj; omega
      by_cases hjt : j = t
      · subst hjt
        have : oj = ot := Option.some.inj (hoj.symm.trans hot)
        subst this
        have h2 := hall e he hb
        rw [hon, getD_both hun] at h2
        cases h2
      · cases hl : listed.getD j false with
        | true =>
          have h2 := inv.closed j oj hoj hl e he hb
          rw [hon, getD_both hun] at h2
          cases h2
        | false =>
          have hjs : j < listed.size := by rw [inv.size]; omega
          exact ih (t - j) (by omega) j rfl (by omega) (by omega) (getD_in hjs hl) t (Nat.le_refl _) hr
    · have h1 := List.all_eq_true.1 hc t (List.mem_range.2 htlt)
      simp only [Bool.or_eq_true, decide_eq_true_eq] at h1
      rcases h1 with h1 | h1
      · omega
      · obtain ⟨o', ho', e, he, hb, hon⟩ := Region.waitsFor_spec h1
        have : o' = ot := Option.some.inj (ho'.symm.trans hot)
        subst this
        have h2 := hall e he hb
        rw [hon, getD_both (inv.tail (t - 1) (by omega) (by omega))] at h2
        cases h2
section
variable {P : Program} {ops : Array Oper} {Q : Exit → Act → World → Prop}
set_option maxHeartbeats 1000000 in
theorem region_mono_tail0 {id : Nat} {l : List Oper} {a : Act} {w : World} (n : Nat) (sp : List Sp) (ds : List Tmp) (hds : (l.take n).map (·.dst) = ds.map some) (hm : P.follows .mixedOrders = true) (hB : monoB2 l.toArray (l.take n) ds (sp.map fun s => (s.needs, s.late)) = true) (hT : tailB0 l.toArray n = true) (hD : dstsB ds a.tmps.size = true) (hst : stables sp)
    (o0 : Oper) (v0 : Value) (d0 : Tmp) (h0o : l[0]? = some o0) (h0d : o0.dst = some d0) (h0s : sp[0]? = some (Sp.c v0 [])) (h0f : Region.free .any l.toArray (Array.replicate l.toArray.size false) 0 = true) (h0r : (Region.ready .any l.toArray (Array.replicate l.toArray.size false)).contains 0 = true)
    (h0y : Yields P l.toArray o0 v0 a) (h0q : ∀ c a w, Q (.panic c) (a.put o0.dst v0) w → Q (.panic c) a w)
    (hsteps : ∀ (am : Act) (wm : World) (L : Nat → Prop), Below w.heap.size w wm → (∀ t, ds.contains t = false → am.tmps.getD t undef = a.tmps.getD t undef) →
      (∀ j d, ds[j]? = some d → ¬ L j → am.tmps.getD d undef = a.tmps.getD d undef) → monoSteps P l.toArray am wm L 0 (l.take n) ds sp)
    (hend : ∀ w', Below w.heap.size w w' → monoEnd (fun t => wpList P l.toArray Q (l.drop n) ⟨t, a.defers⟩ w') w' ds sp a.tmps) : (Code.region id l.toArray true).wp P Q a w := by
  simp only [monoB2, Bool.and_eq_true] at hB
  obtain ⟨⟨hB0, hB1⟩, hB2⟩ := hB
  simp only [tailB0, Bool.and_eq_true, decide_eq_true_eq] at hT
  obtain ⟨⟨⟨hn, hS⟩, hC⟩, hQ⟩ := hT
  have hnl : n < l.length := by simpa using hn
  have htl : (l.take n).length = n := by rw [List.length_take]; omega
  obtain ⟨hB3, hB4⟩ := monoFrom_at 0 (l.take n) _ hB2
  have hlen : sp.length = n := by rw [htl] at hB3; rw [hB3]; simp
  have hlat : ∀ (i : Nat) (o : Oper), i < n → l.toArray[i]? = some o → (l.take n)[i]? = some o := fun i o hi ho => by
    rw [List.getElem?_take, if_pos hi]; simpa using ho
  have hat : ∀ (i : Nat) (o : Oper) (s : Sp), l.toArray[i]? = some o → sp[i]? = some s → monoAt l.toArray ds (s.needs, s.late) i o = true := fun i o s ho hs => by
    have hin : i < n := by rw [← hlen]; exact (List.getElem?_eq_some_iff.1 hs).1
    have := hB4 i o (s.needs, s.late) (hlat i o hin ho) (by simp [hs])
    rwa [Nat.zero_add] at this
  have hdl : ds.length = n := by have := congrArg List.length hds; simpa [htl, Nat.min_eq_left (Nat.le_of_lt hnl)] using this.symm
  have hdat : ∀ (i : Nat) (d : Tmp), ds[i]? = some d → dstOf l.toArray i = some d := fun i d hd => by
    have hin : i < n := by rw [← hdl]; exact (List.getElem?_eq_some_iff.1 hd).1
    have h1 : ((l.take n).map (·.dst))[i]? = some (some d) := by rw [hds, List.getElem?_map, hd]; rfl
    rw [List.getElem?_map] at h1
    obtain ⟨o, ho, h2⟩ := Option.map_eq_some_iff.1 h1
    rw [List.getElem?_take, if_pos hin] at ho
    simp [dstOf, ho, h2]
  have hdof : ∀ (j : Nat) (t : Tmp), j < n → dstOf l.toArray j = some t → ds[j]? = some t := fun j t hjn hj => by
    have := hdat j _ (List.getElem?_eq_getElem (by omega))
    rw [hj] at this
    rw [List.getElem?_eq_getElem (by omega), Option.some.inj this]
  have hdst : ∀ (i : Nat) (o : Oper), i < n → l.toArray[i]? = some o → ∃ d, o.dst = some d ∧ d < a.tmps.size := fun i o hin ho => by
    have hil : i < ds.length := by rw [hdl]; exact hin
    have h1 := hdat i _ (List.getElem?_eq_getElem hil)
    have h2 : o.dst = some ds[i] := by simpa [dstOf, ho] using h1
    unfold dstsB at hD
    exact ⟨_, h2, of_decide_eq_true (List.all_eq_true.1 hD _ (List.getElem_mem hil))⟩
  have hnone : ∀ j, (Array.replicate l.toArray.size false).getD j false = false := fun j => by
    rcases Nat.lt_or_ge j l.toArray.size with h | h
    · simp at h; simp [h]
    · simp at h; simp [h]
  have hnone2 : ∀ j, j < l.toArray.size → (Array.replicate l.toArray.size false).getD j true = false := fun j h => by
    simp at h; simp [h]
  -- one operation of the head
  have step : ∀ i listed b w', Going l.toArray sp w a listed b w' → (∀ t, n ≤ t → t < l.toArray.size → listed.getD t true = false) → i < n → listed.getD i true = false → (∃ o, l.toArray[i]? = some o ∧ ∀ e ∈ o.after, Region.binds .any e = true → listed.getD e.on false = true) →
      wpOp P l.toArray Q i (Going l.toArray sp w a (listed.setIfInBounds i true)) b w' := by
    rintro i listed b w' g htail hin hi ⟨o, ho, hafter⟩
    have hil : i < l.length := by omega
    obtain ⟨s, hs⟩ : ∃ s, sp[i]? = some s := ⟨sp[i]'(by omega), List.getElem?_eq_getElem (by omega)⟩
    have hm1 := hat i o s ho hs
    obtain ⟨d, hd, hdn⟩ := hdst i o hin ho
    have hlisted : ∀ j ∈ s.needs, listed.getD j false = true := fun j hj => by
      obtain ⟨e, he, hb, e1⟩ := monoAt_waits hm1 hj
      rw [← e1]
      exact hafter e he hb
    have htl2 : ∀ j, n ≤ j → listed.getD j false = false := fun j hj => by
      rcases Nat.lt_or_ge j l.toArray.size with h | h
      · exact getD_both (htail j hj h)
      · have : listed.size ≤ j := by rw [g.ls]; exact h
        simp [Array.getElem?_eq_none this]
    have hnot : ∀ t, ds.contains t = false → ∀ j, dstOf l.toArray j = some t → listed.getD j false = false := fun t hno j hj => by
      rcases Nat.lt_or_ge j n with h | h
      · have := List.mem_of_getElem? (hdof j t h hj)
        simp [this] at hno
      · exact htl2 j h
    have hdi0 : ds[i]? = some d := hdof i d hin (by simp only [dstOf, ho]; exact hd)
    have hc := steps_at 0 (l.take n) ds sp (hsteps b w' (fun j => listed.getD j false = true) g.bel (fun t hno => by
      simp only [Array.getD_eq_getD_getElem?]
      rw [g.free t (hnot t hno)]) (fun j d' hd' hL => by
      simp only [Array.getD_eq_getD_getElem?]
      rw [g.free d' fun k hk => by
        rcases Nat.lt_or_ge k n with h | h
        · have := nodupB_spec hB1 (hdof k d' h hk) hd'
          subst this
          simpa using hL
        · exact htl2 k h])) (fun j d' s' hd' hs' hL => by
        rw [Nat.zero_add] at hL
        have h1 := g.vals j s' hs' hL
        rw [hdat j d' hd'] at h1
        exact h1) i o d s (hlat i o hin ho) hdi0 hs hlisted (fun j hj hL => by
        have h1 := g.anc _ j (monoAt_late hm1 hj) hL
        rw [getD_both hi] at h1
        cases h1)
    have hown : ∀ v w2, Below w'.heap.size w' w2 → s.R v w2 → Going l.toArray sp w a (listed.setIfInBounds i true) (b.put o.dst v) w2 := fun v w2 hb hr => by
      have hdi : dstOf l.toArray i = o.dst := by simp only [dstOf, ho]; rfl
      have hil' : i < listed.size := by rw [g.ls]; simpa using hil
      refine ⟨g.bel.trans (hb.mono g.bel.size), by simp [g.ls], by rw [put_size]; exact g.size, by rw [put_defers']; exact g.defers, fun t hno => ?_, fun j oj hoj hl e he hb => ?_, fun j s' hs' hl => ?_⟩
      · rw [put_other fun e => by have := hno i (hdi.trans e); simp [hil'] at this]
        refine g.free t fun j hj => ?_
        have h1 := hno j hj
        by_cases hij : i = j
        · subst hij; simp [hil'] at h1
        · rw [getD_set_ne false hij] at h1; exact h1
      · by_cases hij : i = j
        · subst hij
          rw [ho] at hoj
          obtain rfl := Option.some.inj hoj
          exact getD_set_true (hafter e he hb)
        · rw [getD_set_ne false hij] at hl
          exact getD_set_true (g.closed j oj hoj hl e he hb)
      · by_cases hij : i = j
        · subst hij
          rw [hs] at hs'
          obtain rfl := Option.some.inj hs'
          rw [hdi, hd]
          have : valOf (b.put (some d) v) (some d) = v := by
            have := val_at (a := b.put (some d) v) (t := d) (by rw [put_size, g.size]; exact hdn)
            rw [put_self (by rw [g.size]; exact hdn)] at this
            exact Option.some.inj this
          rw [this]
          exact hr
        · rw [getD_set_ne false hij] at hl
          have h1 := g.vals j s' hs' hl
          have hjn : j < n := by rw [← hlen]; exact (List.getElem?_eq_some_iff.1 hs').1
          have h2 : valOf (b.put o.dst v) (dstOf l.toArray j) = valOf b (dstOf l.toArray j) := by
            cases hj : dstOf l.toArray j with
            | none => rfl
            | some t =>
              have hne : o.dst ≠ some t := fun e => (Ne.symm hij) (nodupB_spec hB1 (hdof j t hjn hj) (hdof i t hin (hdi.trans e)))
              simp only [valOf, Array.getD_eq_getD_getElem?]
              rw [put_other hne]
          rw [h2]
          exact stables_at sp hst j s' hs' _ _ _ h1 hb
    unfold wpOp
    rw [ho]
    dsimp only
    replace hc := hc.ok
    by_cases hw : s.want = true
    · rw [if_pos hw] at hc
      rw [if_pos hc.1]
      refine .inl (wp_alike hd (by rw [g.size]; exact hdn) rfl hc.2 hown)
    · rw [if_neg hw] at hc
      rw [hc.1]
      simp only [Bool.false_eq_true, if_false]
      exact hown undef w' (Below.refl _ _) hc.2
  have go : ∀ (k : Nat) listed b w', Going l.toArray sp w a listed b w' → (∀ t, n ≤ t → t < l.toArray.size → listed.getD t true = false) → listed.getD 0 false = true → (listed.toList.take n).countP (fun b => !b) = k → wpAny P .any l.toArray Q (k + (l.toArray.size - n)) listed b w' := by
    intro k
    induction k with
    | zero =>
      intro listed b w' g htail hz hk
      have hall : ∀ i, i < n → listed.getD i false = true := fun i hi => by
        have h1 := List.countP_eq_zero.1 hk
        have hil : i < listed.toList.length := by have := g.ls; simp at this ⊢; omega
        have h2 := h1 (listed.toList[i]'hil) (List.mem_take_iff_getElem.2 ⟨i, by simp at hil ⊢; omega, rfl⟩)
        have hil' : i < listed.size := by simpa using hil
        simpa [hil'] using h2
      have hl : listed = headDone n l.toArray.size := by
        refine Array.ext_getElem? fun i => ?_
        rcases Nat.lt_or_ge i l.toArray.size with h | h
        · have hil' : i < listed.size := by rw [g.ls]; exact h
          have e1 : (headDone n l.toArray.size)[i]? = some (decide (i < n)) := by
            unfold headDone
            simp only [List.getElem?_toArray, List.getElem?_map]
            rw [List.getElem?_range h]
            rfl
          rw [e1]
          rcases Nat.lt_or_ge i n with h1 | h1
          · have := hall i h1
            simp [hil'] at this
            simp [hil', this, h1]
          · have := htail i h1 h
            simp [hil'] at this
            simp [hil', this, Nat.not_lt.2 h1]
        · rw [Array.getElem?_eq_none (by rw [g.ls]; exact h), Array.getElem?_eq_none (by unfold headDone; simpa using h)]
      have hfin : wpList P l.toArray Q (l.drop n) b w' := by
        have := end_at (Q := fun _ a' w'' => wpList P l.toArray Q (l.drop n) a' w'') (a := b) ds sp a (by omega) (fun i d s ho hs => ?_) (by rw [g.defers]; exact hend w' g.bel) g.size.symm g.defers.symm (fun t hno => (g.free t fun j hj => ?_).symm)
        · exact this
        · have hin : i < n := by rw [← hdl]; exact (List.getElem?_eq_some_iff.1 ho).1
          have h3 := g.vals i s hs (hall i hin)
          rw [hdat i d ho] at h3
          exact h3
        · rcases Nat.lt_or_ge j n with h | h
          · exact absurd (List.mem_of_getElem? (hdof j t h hj)) hno
          · rcases Nat.lt_or_ge j l.toArray.size with h' | h'
            · exact getD_both (htail j h h')
            · have : listed.size ≤ j := by rw [g.ls]; exact h'
              simp [Array.getElem?_eq_none this]
      have hsq := wpAny_of_seq (md := .any) (Q' := Q) (l.drop n) n listed b w' (fun j => by simp [List.getElem?_drop]) (by rw [hl]; simpa using hQ) hfin
      rw [Nat.zero_add]
      simpa using hsq
    | succ k ih =>
      intro listed b w' g htail hz hk
      have inv : HeadInv .any l.toArray n listed := ⟨g.ls, g.closed, htail⟩
      obtain ⟨i0, hi0n, hi0⟩ : ∃ i, i < n ∧ listed.getD i true = false := by
        apply Classical.byContradiction
        intro h
        have : (listed.toList.take n).countP (fun b => !b) = 0 := List.countP_eq_zero.2 fun x hx => by
          obtain ⟨j, hj, rfl⟩ := List.mem_take_iff_getElem.1 hx
          have hjl : j < listed.size := by simp at hj; omega
          have h1 : ¬ listed.getD j true = false := fun e => h ⟨j, by omega, e⟩
          simp [hjl] at h1
          simp [h1]
        omega
      have hi00 : i0 ≠ 0 := fun e => by rw [e] at hi0; rw [getD_both hi0] at hz; cases hz
      have hready : ∀ (m i : Nat), i < m → i < n → listed.getD i true = false → Region.ready .any l.toArray listed ≠ [] := by
        intro m
        induction m with
        | zero => intro i h; omega
        | succ m ihm =>
          intro i him hin hi hr
          have hil : i < l.length := by omega
          have ho : l.toArray[i]? = some (l[i]'hil) := by simp [hil]
          have hs : sp[i]? = some (sp[i]'(by omega)) := List.getElem?_eq_getElem (by omega)
          have : i ∈ Region.ready .any l.toArray listed := mem_ready.2 ⟨hi, _, ho, fun e he hb => by
            have hb1 := monoAt_back (hat i _ _ ho hs) he hb
            cases h2 : listed.getD e.on true with
            | false => exact absurd hr (ihm e.on (by omega) (by omega) h2)
            | true =>
              have h3 : e.on < listed.size := by rw [g.ls]; simp; omega
              simp [h3] at h2 ⊢
              exact h2⟩
          rw [hr] at this; cases this
      have hne := hready (i0 + 1) i0 (by omega) hi0n hi0
      rw [show k + 1 + (l.toArray.size - n) = (k + (l.toArray.size - n)) + 1 by omega]
      refine ⟨fun h => absurd h hne, fun i hi => ?_⟩
      have hin : i < n := by
        rcases Nat.lt_or_ge i n with h | h
        · exact h
        · exact absurd hi (tail_waits0 hS hC hn inv _ i0 rfl hi0n hi00 hi0 i h)
      obtain ⟨h0, h2⟩ := mem_ready.1 hi
      have hil' : i < listed.size := by rw [g.ls]; simp; omega
      refine wpOp_mono (fun a' w'' g' => ih _ a' w'' g' (fun t ht ht' => ?_) (getD_set_true hz) ?_) (step i listed b w' g htail hin h0 h2)
      · rw [getD_set_ne true (by omega)]; exact htail t ht ht'
      · have h1 : listed.toList[i]? = some false := by
          simp [hil'] at h0
          simp [hil', h0]
        have := count_take hin h1
        rw [Array.toList_setIfInBounds]
        omega
  refine wp_region_any hm ?_
  have hn0 : 0 < n := by
    have := (List.getElem?_eq_some_iff.1 h0s).1
    omega
  have hd0 : ds[0]? = some d0 := hdof 0 d0 hn0 (by simp [dstOf, h0o, h0d])
  have hd0s : d0 < a.tmps.size := by
    obtain ⟨d, hd, hdn⟩ := hdst 0 o0 hn0 (by simpa using h0o)
    rw [h0d] at hd
    cases hd
    exact hdn
  have hls : 0 < l.toArray.size := by simp; omega
  have hset : ∀ j, j ≠ 0 → ∀ d, ((Array.replicate l.toArray.size false).setIfInBounds 0 true).getD j d = (Array.replicate l.toArray.size false).getD j d := fun j hj d => getD_set_ne d (Ne.symm hj)
  have hz0 : ((Array.replicate l.toArray.size false).setIfInBounds 0 true).getD 0 false = true := by
    have h1 : 0 < (Array.replicate l.toArray.size false).size := by rw [Array.size_replicate]; exact hls
    rw [Array.getD_eq_getD_getElem?, Array.getElem?_setIfInBounds, if_pos rfl, if_pos h1]; rfl
  have g0 : Going l.toArray sp w a ((Array.replicate l.toArray.size false).setIfInBounds 0 true) (a.put o0.dst v0) w.drew := by
    refine ⟨below_drew w, by simp, by rw [put_size], by rw [put_defers'], fun t hno => ?_, fun j o ho hl e he hb => ?_, fun j s hs hl => ?_⟩
    · refine put_other fun e => ?_
      have := hno 0 (by simp only [dstOf]; simp [h0o]; exact e)
      rw [hz0] at this
      cases this
    · by_cases hj : j = 0
      · subst hj
        have h1 := (mem_ready.1 (show 0 ∈ Region.ready .any l.toArray (Array.replicate l.toArray.size false) by simpa using h0r)).2
        obtain ⟨o', ho', hall⟩ := h1
        rw [ho] at ho'
        cases ho'
        have := hall e he hb
        rw [hnone] at this; cases this
      · rw [hset j hj] at hl
        rw [hnone] at hl; cases hl
    · by_cases hj : j = 0
      · subst hj
        rw [h0s] at hs
        cases hs
        show valOf _ _ = v0
        have e1 : dstOf l.toArray 0 = some d0 := by simp [dstOf, h0o, h0d]
        rw [e1, h0d]
        have := val_at (a := a.put (some d0) v0) (t := d0) (by rw [put_size]; exact hd0s)
        rw [put_self hd0s] at this
        exact Option.some.inj this
      · rw [hset j hj] at hl
        rw [hnone] at hl; cases hl
  have hcount : (((Array.replicate l.toArray.size false).setIfInBounds 0 true).toList.take n).countP (fun b => !b) = n - 1 := by
    have h1 := count_take (l := (Array.replicate l.toArray.size false).toList) hn0 (by
      rw [Array.getElem?_toList, Array.getElem?_replicate, if_pos hls])
    rw [Array.toList_setIfInBounds]
    have h2 : ((Array.replicate l.toArray.size false).toList.take n).countP (fun b => !b) = n := by
      simp [List.countP_replicate]
      omega
    omega
  have := go (n - 1) _ (a.put o0.dst v0) w.drew g0 (fun t ht ht' => by rw [hset t (by omega)]; exact hnone2 t ht') hz0 hcount
  have h2 := wpAny_take (md := .any) (Q := Q) (listed := Array.replicate l.toArray.size false) (w := w.drew) (show l.toArray[0]? = some o0 by simpa using h0o) hB0 h0f h0r h0q h0y this
  rw [show n - 1 + (l.toArray.size - n) + 1 = l.toArray.size by simp; omega] at h2
  exact h2
end
end Go.Proofs.YtgopjpnlpcmldaaGreatDoor.W


/-
  What a queue's line puts into a set-up.
-/
namespace Go.Proofs.YtgopjpnlpcmldaaGreatDoor.W
set_option linter.unusedVariables false
set_option linter.unusedSimpArgs false
open Go.ChangeShapes Go.WideShapes Go.ChangeAt Go.RowKit

/-- an append of many from one's own to nothing: a step of a region that draws -/
theorem step_append_many {P : Program} {ops : Array Oper} {o : Oper} {a : Act} {K : Act → World → Prop} {Q : Exit → Act → World → Prop} {E : Prop} (s x : Operand) (t : TypeId)
    (e : TypeId) (bytes : Nat) (hb0 : 0 < bytes) (z : Value) (i : TypeInfo) (ht : P.underlying t = some (.slice e)) (hi : P.info? e = some i) (hz : i.zero = some z) (hsize : i.size = 1) (hby : i.bytes = bytes) (hzs : z.cells.size = 1)
    (m c : Nat) (news : List Value) (d : Addr) (wr : World) (hgd : o.guard = none)
    (ho : o.op = .call { callee := .builtin .append, args := #[s, x], argTypes := #[t, t] })
    (hs : a.eval s = .slice none 0 0) (hx : a.eval x = .slice (some d) m c) (hm : news.length = m) (hnews : ∀ j u, news[j]? = some u → wr.cell? (d.add j) = some u)
    (h1 : ∀ u ∈ news, u.oneCell' = true) (hn : m * bytes ≤ 140737488355328)
    (h : ∀ v' w', w'.ownsRow wr.heap.size e 1 v' m news → Below wr.heap.size wr w' → K (a.put o.dst v') w') :
    if Region.wanted o (yielded ops a.tmps) = true then Oper.wp P o a wr K Q else E := by
  have hw : Region.wanted o (yielded ops a.tmps) = true := by simp [Region.wanted, hgd]
  rw [if_pos hw]
  refine wp_append_own _ s x t ho wr.heap.size e i z 1 bytes ht hi hz hsize hby hzs (by decide) (.slice none 0 0) 0 [] hs (World.ownsRow_nil _ _ _ _) d m c news hx (by omega) hnews h1 ?_ (by rw [Nat.zero_add]; exact hn) (Nat.le_refl _) ?_
  · have : m ≤ m * bytes := Nat.le_mul_of_pos_right _ hb0
    unfold maxLen; omega
  · intro v' w' o' g' _
    rw [Nat.zero_add, List.nil_append] at o'
    exact h v' w' o' ((Below.refl _ wr).grown g' (Nat.le_refl _) (fun k e' => by simp [Value.ownBlock] at e'))
theorem infoQ : (Tryz.prog.info? 45).map (fun i => (i.zero, i.size, i.bytes)) = some (some (.agg #[.int .i64 0, .slice none 0 0, .int .i64 0, .int .i64 0, .int .i64 0, .int .i64 0]), 6, 64) := by kernel_rfl
theorem five_cut (bl off m c : Nat) (hc : m + 5 ≤ c) : ∃ d c', (∀ W : World, (Instr.slice 43 (.slice (some ⟨bl, off, none⟩) (m + 5) c) (some (.int .i64 5)) none none).run Tryz.prog W = .ok (.slice (some d) m c') W) ∧ (0 < m → d = ⟨bl, off + 5, none⟩) := by
  have hr : ∀ W : World, (Instr.slice 43 (.slice (some ⟨bl, off, none⟩) (m + 5) c) (some (.int .i64 5)) none none).run Tryz.prog W = ((sizeOf (Tryz.prog.elem 43)).run Tryz.prog W).andThen fun s w => .ok (sliced (some ⟨bl, off, none⟩) (5 : Int).toNat (m + 5) c s) w := fun W => run_slice_l W 43 (some ⟨bl, off, none⟩) (m + 5) c (by kernel_rfl) .i64 5 (by omega) (by omega)
  by_cases h : c = 5
  · exact ⟨⟨bl, off, none⟩, 0, fun W => by rw [hr W]; simp [go_sem, sliced, h], fun _ => by omega⟩
  · exact ⟨⟨bl, off + 5, none⟩, c - 5, fun W => by rw [hr W]; simp [go_sem, sliced, h, Addr.add], fun _ => rfl⟩

theorem Lists.queue_in {D : Nat} {w w' : World} {s : S} (h : Lists D w s) {q : QR} (hq : w.ownsRow D 3 1 (.slice q.users.a q.users.l.length q.users.cap) q.users.l.length (vals q.users.l)) (hg : w.grownBy w' (Value.slice s.qa s.queues.length s.qc).ownBlock) {g c : Nat}
    (ho : w'.ownsRow D 45 6 (.slice (some ⟨g, 0, none⟩) (s.queues.length + 1) c) (s.queues.length + 1) (queuesV s.queues ++ queueV q)) : Lists D w' { s with qa := some ⟨g, 0, none⟩, qc := c, queues := s.queues ++ [q] } where
  nodes := own_beside h.nodes h.queues (by decide) hg
  parts := own_beside h.parts h.queues (by decide) hg
  part := fun q hq => own_beside (h.part q hq) h.queues (by decide) hg
  queues := by
    show w'.ownsRow D 45 6 (.slice (some ⟨g, 0, none⟩) (s.queues ++ [q]).length c) (s.queues ++ [q]).length (queuesV (s.queues ++ [q]))
    rw [List.length_append, show queuesV (s.queues ++ [q]) = queuesV s.queues ++ queueV q by simp [queuesV]]
    exact ho
  users := fun r hr => by
    rcases List.mem_append.1 hr with hr | hr
    · exact own_beside (h.users r hr) h.queues (by decide) hg
    · rw [List.mem_singleton.1 hr]
      exact own_beside hq h.queues (by decide) hg
theorem list5 {ns : List Int} : (∃ a b c d e r, ns = a :: b :: c :: d :: e :: r) ∨ ns.length < 5 := by
  rcases ns with _ | ⟨a, _ | ⟨b, _ | ⟨c, _ | ⟨d, _ | ⟨e, r⟩⟩⟩⟩⟩
  · exact .inr (by simp)
  · exact .inr (by simp)
  · exact .inr (by simp)
  · exact .inr (by simp)
  · exact .inr (by simp)
  · exact .inl ⟨a, b, c, d, e, r, rfl⟩
theorem own_sep {w : World} {D D' : Nat} {e e' : TypeId} {k k' n n' b o c : Nat} {v' : Value} {xs xs' : List Value} (h : w.ownsRow D e k (.slice (some ⟨b, o, none⟩) n c) n xs) (h' : w.ownsRow D' e' k' v' n' xs') (he : e ≠ e') : some b ≠ v'.ownBlock := by
  rcases h'.2 with ⟨rfl, _⟩ | ⟨g, cap, cur, rfl, _, hh, _⟩
  · simp [Value.ownBlock]
  · exact own_not h hh he
theorem put_far {w : World} {g k b o : Nat} {v u : Value} (h : b ≠ g) (hc : w.cell? ⟨b, o, none⟩ = some u) : (w.setCell ⟨g, k, none⟩ v).cell? ⟨b, o, none⟩ = some u := (World.cell?_of_block (a := ⟨b, o, none⟩) (Below.heap_setCell w ⟨g, k, none⟩ v b h)).trans hc
theorem far_row {w w' : World} {D D' : Nat} {e e' : TypeId} {k k' n n' b o c : Nat} {v' : Value} {xs xs' : List Value} (h : w.ownsRow D e k (.slice (some ⟨b, o, none⟩) n c) n xs) (h' : w.ownsRow D' e' k' v' n' xs') (he : e ≠ e') (ob : Obj) (hg : (w.alloc ob).grownBy w' v'.ownBlock) : w'.heap[b]? = w.heap[b]? := by
  have hb : b < w.heap.size := (h.lt b rfl).2
  refine (hg.block b (by rw [World.size_alloc]; omega) (own_sep (h.alloc ob) (h'.alloc ob) he)).trans (Below.heap_alloc _ _ b hb)
def tqSp (g bl off m c c2 n : Nat) (dd : Addr) (qa : Option Addr) (qc : Nat) (n0 n1 n2 n3 n4 : Int) (r : List Int) (B : Nat) : List Sp :=
  [Sp.c (.pointer (some ⟨g, 0, none⟩)) [],
   Sp.c (.pointer (some ⟨g, 0, none⟩)) [],
   Sp.c (.pointer (some ⟨g, 0, none⟩)) [1],
   Sp.c (.pointer (some ⟨g, 2, none⟩)) [2],
   Sp.c (.slice qa n qc) [3],
   Sp.c (.slice (some ⟨bl, off, none⟩) (m + 5) c) [],
   Sp.c (.pointer (some ⟨bl, off, none⟩)) [5],
   Sp.c (.int .i64 n0) [6],
   Sp.c (.slice (some ⟨bl, off, none⟩) (m + 5) c) [],
   Sp.c (.pointer (some ⟨bl, off + 1, none⟩)) [8],
   Sp.c (.int .i64 n1) [9],
   Sp.c (.slice (some ⟨bl, off, none⟩) (m + 5) c) [],
   Sp.c (.pointer (some ⟨bl, off + 2, none⟩)) [11],
   Sp.c (.int .i64 n2) [12],
   Sp.c (.slice (some ⟨bl, off, none⟩) (m + 5) c) [],
   Sp.c (.pointer (some ⟨bl, off + 3, none⟩)) [14],
   Sp.c (.int .i64 n3) [15],
   Sp.c (.slice (some ⟨bl, off, none⟩) (m + 5) c) [],
   Sp.c (.pointer (some ⟨bl, off + 4, none⟩)) [17],
   Sp.c (.int .i64 n4) [18],
   Sp.c (.slice (some ⟨bl, off, none⟩) (m + 5) c) [],
   Sp.c (.slice (some dd) m c2) [20],
   Sp.m true (fun v w => ∃ y1 y2, v = .slice y1 m y2 ∧ w.ownsRow B 3 1 (.slice y1 m y2) m (vals r)) [21],
   Sp.m true (fun v w => ∃ y1 y2, v = .agg #[.int .i64 n0, .slice y1 m y2, .int .i64 n1, .int .i64 n2, .int .i64 n3, .int .i64 n4] ∧ w.ownsRow B 3 1 (.slice y1 m y2) m (vals r)) [7, 10, 13, 16, 19, 22],
   Sp.m true (fun v w => ∃ y1 y2 y4, v = .slice (some ⟨y4, 0, none⟩) 1 1 ∧ w.ownsRow B 3 1 (.slice y1 m y2) m (vals r) ∧ Row w y4 45 #[.int .i64 n0, .slice y1 m y2, .int .i64 n1, .int .i64 n2, .int .i64 n3, .int .i64 n4]) [23]]
set_option maxHeartbeats 8000000 in
set_option maxRecDepth 100000 in
theorem takeQueue_ (E D g : Nat) (s : S) (hN : s.queues.length ≤ 5000) (l : List UInt8) (hl : l.length ≤ 100000) (w : World) (hS : Std w) (hE : StdE w) (hM : Built E D g s w) :
    Calls Tryz.prog 35 #[.pointer (some ⟨g, 0, none⟩), .string (bs l)] w (Took E D g w (takeS (tOf s) l 3)) := by
  have HP := Lib.hid (parted_ l hl w hS hE)
  have HM := Lib.hid hM
  obtain ⟨n, hn⟩ : ∃ n, n = s.queues.length := ⟨_, rfl⟩
  clear hS hE hM
  go_enter Tryz.func35, Tryz.ntmps35
  go_wp2_with fail
  refine HP.out.mono ?_
  rintro e w1 ⟨⟨ns, v, hp, rfl, how⟩ | ⟨hp, rfl⟩, hb1⟩
  · rcases list5 (ns := ns) with ⟨n0, n1, n2, n3, n4, r, rfl⟩ | hne
    · have hrl : r.length ≤ 100001 := by
        have h1 := allO_len hp
        have h2 := (splitAll_len 32 l).1
        simp at h1
        omega
      obtain ⟨a, c, rfl, hcap, hr, hr2⟩ := own_form how
      obtain ⟨m, hm⟩ : ∃ m, m = r.length := ⟨_, rfl⟩
      have hT : ∀ q : QR, qOf q = ⟨n0, n1, n2, n3, n4, r⟩ → takeS (tOf s) l 3 = some (tOf { s with queues := s.queues ++ [q] }) := fun q hq => by simp only [takeS, hp]; simp [tOf, hq]
      obtain ⟨bl, off, rfl, hbl, hc⟩ := hr.row (by simp [vals])
      have hbg : bl ≠ g := fun h => own_not how (HM.out.on hb1).row (by decide) (by rw [← h]; rfl)
      have HLR := Lib.hid how
      have k0 := hc 0 (.int .i64 n0) (by simp [vals])
      have k1 := hc 1 (.int .i64 n1) (by simp [vals])
      have k2 := hc 2 (.int .i64 n2) (by simp [vals])
      have k3 := hc 3 (.int .i64 n3) (by simp [vals])
      have k4 := hc 4 (.int .i64 n4) (by simp [vals])
      have hkr : ∀ j u, (vals r)[j]? = some u → w1.cell? ⟨bl, off + 5 + j, none⟩ = some u := fun j u hj => by
        have := hc (j + 5) u (by simpa [vals] using hj)
        rwa [show off + (j + 5) = off + 5 + j by omega] at this
      rw [Nat.add_zero] at k0
      simp only [List.length_cons] at hcap
      obtain ⟨dd, c2, hcut, hdd⟩ := five_cut bl off m c (by omega)
      have hnews : ∀ j u, (vals r)[j]? = some u → w1.cell? (dd.add j) = some u := fun j u hj => by
        have : j < (vals r).length := (List.getElem?_eq_some_iff.1 hj).1
        rw [vals_len] at this
        rw [hdd (by omega), add_plain]
        exact hkr j u hj
      have HM1 := Lib.hid (HM.out.on hb1)
      have HNW := Lib.hid hnews
      have HT := Lib.hid hT
      have HC := Lib.hid hcut
      have HMR := Lib.hid hm
      have HN := Lib.hid hn
      have hz1 := hb1.size
      have hN' : n ≤ 5000 := hn ▸ hN
      have hm' : m ≤ 100001 := by omega
      have q2 : w1.cell? ⟨g, 2, none⟩ = some (.slice s.qa n s.qc) := hn ▸ HM1.out.row.cell 2
      have hlt := HM.out.lt
      have hge := HM.out.ge
      have htop := HM.out.top
      have hle := HM.out.le
      have lg : g < w1.heap.size := HM1.out.row.lt
      have em : (r.length + 1 + 1 + 1 + 1 + 1 : Nat) = m + 5 := by omega
      rw [show (n0 :: n1 :: n2 :: n3 :: n4 :: r).length = m + 5 from em]
      have h5 : ¬ ((m : Int) + 5 < 5) := by omega
      clear hc hkr hcap hr hr2 how hp hnews hT hm hdd hN hn hrl em hcut
      have hcut := HC.out
      obtain ⟨i0, hi, hz0, hzz, hzb⟩ := info_parts infoQ
      obtain ⟨i1, hi1, hz10, hz1z, hz1b⟩ := info_parts infoI
      have i0' : (0 : Int) < (m : Int) + 5 := by omega
      have i1' : (1 : Int) < (m : Int) + 5 := by omega
      have i2' : (2 : Int) < (m : Int) + 5 := by omega
      have i3' : (3 : Int) < (m : Int) + 5 := by omega
      have i4' : (4 : Int) < (m : Int) + 5 := by omega
      have HRL := Lib.hid (show (vals r).length = m by rw [vals_len, ← HMR.out])
      -- REGION
      obtain ⟨qa, qc, hqq⟩ : ∃ qa qc, qa = s.qa ∧ qc = s.qc := ⟨_, _, rfl, rfl⟩
      rw [← hqq.1, ← hqq.2] at q2
      have HQQ := Lib.hid hqq
      clear hqq
      go_wp2_with fail
      refine region_mono_tail0 25 (tqSp g bl off m c c2 n dd qa qc n0 n1 n2 n3 n4 r w1.heap.size) [19, 20, 21, 22, 23, 24, 25, 26, 27, 28, 29, 30, 31, 32, 33, 34, 35, 36, 37, 38, 39, 40, 41, 42, 43] (by kernel_rfl) (by kernel_rfl) (by kernel_rfl) (by kernel_rfl) (by kernel_rfl) (stables_cons (Sp.c_stable _ _) (stables_cons (Sp.c_stable _ _) (stables_cons (Sp.c_stable _ _) (stables_cons (Sp.c_stable _ _) (stables_cons (Sp.c_stable _ _) (stables_cons (Sp.c_stable _ _) (stables_cons (Sp.c_stable _ _) (stables_cons (Sp.c_stable _ _) (stables_cons (Sp.c_stable _ _) (stables_cons (Sp.c_stable _ _) (stables_cons (Sp.c_stable _ _) (stables_cons (Sp.c_stable _ _) (stables_cons (Sp.c_stable _ _) (stables_cons (Sp.c_stable _ _) (stables_cons (Sp.c_stable _ _) (stables_cons (Sp.c_stable _ _) (stables_cons (Sp.c_stable _ _) (stables_cons (Sp.c_stable _ _) (stables_cons (Sp.c_stable _ _) (stables_cons (Sp.c_stable _ _) (stables_cons (Sp.c_stable _ _) (stables_cons (Sp.c_stable _ _) (stables_cons (Sp.m_stable _ _ _ (fun _ _ _ ⟨y1, y2, e, y3⟩ hb => ⟨y1, y2, e, own_later y3 hb⟩)) (stables_cons (Sp.m_stable _ _ _ (fun _ _ _ ⟨y1, y2, e, y3⟩ hb => ⟨y1, y2, e, own_later y3 hb⟩)) (stables_cons (Sp.m_stable _ _ _ (fun _ _ _ ⟨y1, y2, y4, e, y3, y5⟩ hb => ⟨y1, y2, y4, e, own_later y3 hb, y5.on hb⟩)) (trivial)))))))))))))))))))))))))) _ (.pointer (some ⟨g, 0, none⟩)) 19 rfl rfl rfl (by kernel_rfl) (by kernel_rfl) ?_ ?_ ?_ ?_
      · refine .inl ⟨wanted_free rfl, fun w => ?_⟩
        go_simp
      · intro c a w h; exact h
      · intro am wm L hbm hbase hbase2
        have s0 : am.tmps.getD 0 undef = .pointer (some ⟨g, 0, none⟩) := (hbase 0 rfl).trans (by simp only [Array.getD_eq_getD_getElem?, List.getElem?_toArray, List.getElem?_cons_succ, List.getElem?_cons_zero, Option.getD_some])
        have s5 : am.tmps.getD 5 undef = .slice (some ⟨bl, off, none⟩) (m + 5) c := (hbase 5 rfl).trans (by simp only [Array.getD_eq_getD_getElem?, List.getElem?_toArray, List.getElem?_cons_succ, List.getElem?_cons_zero, Option.getD_some])
        clear hbase hbase2
        have x0 := carry hbm k0
        have x1 := carry hbm k1
        have x2 := carry hbm k2
        have x3 := carry hbm k3
        have x4 := carry hbm k4
        have x5 := carry hbm q2
        have x6 : ∀ j u, (vals r)[j]? = some u → wm.cell? (dd.add j) = some u := fun j u h => carry hbm (HNW.out j u h)
        have x7 := hbm.size
        refine steps_cons (fun hn hl => ?_) fun H0 => ?_
        · skip
          clear hn hl 
          refine stepC (wanted_free rfl) fun K hK => ?_
          go_simp
          exact hK _ (Below.refl _ _)
        refine steps_cons (fun hn hl => ?_) fun H1 => ?_
        · skip
          clear hn hl H0
          refine stepC (wanted_free rfl) fun K hK => ?_
          go_simp
          exact hK _ (Below.refl _ _)
        refine steps_cons (fun hn hl => ?_) fun H2 => ?_
        · skip
          have h20 := Sp.of_c (H1 (hn 1 (show 1 ∈ [1] from .head _)))
          clear hn hl H0 H1
          refine stepC (wanted_free rfl) fun K hK => ?_
          go_simp
          exact hK _ (Below.refl _ _)
        refine steps_cons (fun hn hl => ?_) fun H3 => ?_
        · skip
          have h21 := Sp.of_c (H2 (hn 2 (show 2 ∈ [2] from .head _)))
          clear hn hl H0 H1 H2
          refine stepC (wanted_free rfl) fun K hK => ?_
          go_simp
          exact hK _ (Below.refl _ _)
        refine steps_cons (fun hn hl => ?_) fun H4 => ?_
        · skip
          have h22 := Sp.of_c (H3 (hn 3 (show 3 ∈ [3] from .head _)))
          clear hn hl H0 H1 H2 H3
          refine stepC (wanted_free rfl) fun K hK => ?_
          go_simp
          exact hK _ (Below.refl _ _)
        refine steps_cons (fun hn hl => ?_) fun H5 => ?_
        · skip
          clear hn hl H0 H1 H2 H3 H4
          refine stepC (wanted_free rfl) fun K hK => ?_
          go_simp
          exact hK _ (Below.refl _ _)
        refine steps_cons (fun hn hl => ?_) fun H6 => ?_
        · skip
          have h24 := Sp.of_c (H5 (hn 5 (show 5 ∈ [5] from .head _)))
          clear hn hl H0 H1 H2 H3 H4 H5
          refine stepC (wanted_free rfl) fun K hK => ?_
          go_simp
          exact hK _ (Below.refl _ _)
        refine steps_cons (fun hn hl => ?_) fun H7 => ?_
        · skip
          have h25 := Sp.of_c (H6 (hn 6 (show 6 ∈ [6] from .head _)))
          clear hn hl H0 H1 H2 H3 H4 H5 H6
          refine stepC (wanted_free rfl) fun K hK => ?_
          go_simp
          exact hK _ (Below.refl _ _)
        refine steps_cons (fun hn hl => ?_) fun H8 => ?_
        · skip
          clear hn hl H0 H1 H2 H3 H4 H5 H6 H7
          refine stepC (wanted_free rfl) fun K hK => ?_
          go_simp
          exact hK _ (Below.refl _ _)
        refine steps_cons (fun hn hl => ?_) fun H9 => ?_
        · skip
          have h27 := Sp.of_c (H8 (hn 8 (show 8 ∈ [8] from .head _)))
          clear hn hl H0 H1 H2 H3 H4 H5 H6 H7 H8
          refine stepC (wanted_free rfl) fun K hK => ?_
          go_simp
          exact hK _ (Below.refl _ _)
        refine steps_cons (fun hn hl => ?_) fun H10 => ?_
        · skip
          have h28 := Sp.of_c (H9 (hn 9 (show 9 ∈ [9] from .head _)))
          clear hn hl H0 H1 H2 H3 H4 H5 H6 H7 H8 H9
          refine stepC (wanted_free rfl) fun K hK => ?_
          go_simp
          exact hK _ (Below.refl _ _)
        refine steps_cons (fun hn hl => ?_) fun H11 => ?_
        · skip
          clear hn hl H0 H1 H2 H3 H4 H5 H6 H7 H8 H9 H10
          refine stepC (wanted_free rfl) fun K hK => ?_
          go_simp
          exact hK _ (Below.refl _ _)
        refine steps_cons (fun hn hl => ?_) fun H12 => ?_
        · skip
          have h30 := Sp.of_c (H11 (hn 11 (show 11 ∈ [11] from .head _)))
          clear hn hl H0 H1 H2 H3 H4 H5 H6 H7 H8 H9 H10 H11
          refine stepC (wanted_free rfl) fun K hK => ?_
          go_simp
          exact hK _ (Below.refl _ _)
        refine steps_cons (fun hn hl => ?_) fun H13 => ?_
        · skip
          have h31 := Sp.of_c (H12 (hn 12 (show 12 ∈ [12] from .head _)))
          clear hn hl H0 H1 H2 H3 H4 H5 H6 H7 H8 H9 H10 H11 H12
          refine stepC (wanted_free rfl) fun K hK => ?_
          go_simp
          exact hK _ (Below.refl _ _)
        refine steps_cons (fun hn hl => ?_) fun H14 => ?_
        · skip
          clear hn hl H0 H1 H2 H3 H4 H5 H6 H7 H8 H9 H10 H11 H12 H13
          refine stepC (wanted_free rfl) fun K hK => ?_
          go_simp
          exact hK _ (Below.refl _ _)
        refine steps_cons (fun hn hl => ?_) fun H15 => ?_
        · skip
          have h33 := Sp.of_c (H14 (hn 14 (show 14 ∈ [14] from .head _)))
          clear hn hl H0 H1 H2 H3 H4 H5 H6 H7 H8 H9 H10 H11 H12 H13 H14
          refine stepC (wanted_free rfl) fun K hK => ?_
          go_simp
          exact hK _ (Below.refl _ _)
        refine steps_cons (fun hn hl => ?_) fun H16 => ?_
        · skip
          have h34 := Sp.of_c (H15 (hn 15 (show 15 ∈ [15] from .head _)))
          clear hn hl H0 H1 H2 H3 H4 H5 H6 H7 H8 H9 H10 H11 H12 H13 H14 H15
          refine stepC (wanted_free rfl) fun K hK => ?_
          go_simp
          exact hK _ (Below.refl _ _)
        refine steps_cons (fun hn hl => ?_) fun H17 => ?_
        · skip
          clear hn hl H0 H1 H2 H3 H4 H5 H6 H7 H8 H9 H10 H11 H12 H13 H14 H15 H16
          refine stepC (wanted_free rfl) fun K hK => ?_
          go_simp
          exact hK _ (Below.refl _ _)
        refine steps_cons (fun hn hl => ?_) fun H18 => ?_
        · skip
          have h36 := Sp.of_c (H17 (hn 17 (show 17 ∈ [17] from .head _)))
          clear hn hl H0 H1 H2 H3 H4 H5 H6 H7 H8 H9 H10 H11 H12 H13 H14 H15 H16 H17
          refine stepC (wanted_free rfl) fun K hK => ?_
          go_simp
          exact hK _ (Below.refl _ _)
        refine steps_cons (fun hn hl => ?_) fun H19 => ?_
        · skip
          have h37 := Sp.of_c (H18 (hn 18 (show 18 ∈ [18] from .head _)))
          clear hn hl H0 H1 H2 H3 H4 H5 H6 H7 H8 H9 H10 H11 H12 H13 H14 H15 H16 H17 H18
          refine stepC (wanted_free rfl) fun K hK => ?_
          go_simp
          exact hK _ (Below.refl _ _)
        refine steps_cons (fun hn hl => ?_) fun H20 => ?_
        · skip
          clear hn hl H0 H1 H2 H3 H4 H5 H6 H7 H8 H9 H10 H11 H12 H13 H14 H15 H16 H17 H18 H19
          refine stepC (wanted_free rfl) fun K hK => ?_
          go_simp
          exact hK _ (Below.refl _ _)
        refine steps_cons (fun hn hl => ?_) fun H21 => ?_
        · skip
          have h39 := Sp.of_c (H20 (hn 20 (show 20 ∈ [20] from .head _)))
          clear hn hl H0 H1 H2 H3 H4 H5 H6 H7 H8 H9 H10 H11 H12 H13 H14 H15 H16 H17 H18 H19 H20
          refine stepC (wanted_free rfl) fun K hK => ?_
          go_simp
          exact hK _ (Below.refl _ _)
        refine steps_cons (fun hn hl => ?_) fun H22 => ?_
        · skip
          have h40 := Sp.of_c (H21 (hn 21 (show 21 ∈ [21] from .head _)))
          clear hn hl H0 H1 H2 H3 H4 H5 H6 H7 H8 H9 H10 H11 H12 H13 H14 H15 H16 H17 H18 H19 H20 H21
          refine stepR (wanted_free rfl) fun K hK => ?_
          refine wp_append_own _ (.const (.slice none 0 0)) (.tmp 40) 43 rfl wm.heap.size 3 i1 (.int .i64 0) 1 8 Tryz.underlying43 hi1 hz10 hz1z hz1b rfl (by decide) (.slice none 0 0) 0 [] rfl (World.ownsRow_nil _ _ _ _) dd m c2 (vals r) h40 (by rw [HRL.out, Nat.mul_one]) x6 (vals_one r) (by unfold maxLen; omega) (by omega) (Nat.le_refl _) ?_; intro v' w' ho hg _; rw [Nat.zero_add, List.nil_append] at ho; obtain ⟨y1, y2, rfl, _, _, _⟩ := own_form ho; exact hK _ _ ((Below.refl _ wm).grown hg (Nat.le_refl _) (fun k e' => by simp [Value.ownBlock] at e')) ⟨y1, y2, rfl, own_more ho x7⟩
        refine steps_cons (fun hn hl => ?_) fun H23 => ?_
        · skip
          have h26 := Sp.of_c (H7 (hn 7 (show 7 ∈ [7, 10, 13, 16, 19, 22] from .head _)))
          have h29 := Sp.of_c (H10 (hn 10 (show 10 ∈ [7, 10, 13, 16, 19, 22] from .tail _ (.head _))))
          have h32 := Sp.of_c (H13 (hn 13 (show 13 ∈ [7, 10, 13, 16, 19, 22] from .tail _ (.tail _ (.head _)))))
          have h35 := Sp.of_c (H16 (hn 16 (show 16 ∈ [7, 10, 13, 16, 19, 22] from .tail _ (.tail _ (.tail _ (.head _))))))
          have h38 := Sp.of_c (H19 (hn 19 (show 19 ∈ [7, 10, 13, 16, 19, 22] from .tail _ (.tail _ (.tail _ (.tail _ (.head _)))))))
          obtain ⟨y1, y2, h41, y3⟩ := Sp.of_m (H22 (hn 22 (show 22 ∈ [7, 10, 13, 16, 19, 22] from .tail _ (.tail _ (.tail _ (.tail _ (.tail _ (.head _)))))))) rfl
          clear hn hl H0 H1 H2 H3 H4 H5 H6 H7 H8 H9 H10 H11 H12 H13 H14 H15 H16 H17 H18 H19 H20 H21 H22
          refine stepR (wanted_free rfl) fun K hK => ?_
          simp only [Array.getD_eq_getD_getElem?] at h26 h29 h32 h35 h38 h41
          go_simp
          exact hK _ _ (Below.refl _ _) ⟨y1, y2, rfl, y3⟩
        refine steps_cons (fun hn hl => ?_) fun H24 => ?_
        · skip
          obtain ⟨y1, y2, h42, y3⟩ := Sp.of_m (H23 (hn 23 (show 23 ∈ [23] from .head _))) rfl
          clear hn hl H0 H1 H2 H3 H4 H5 H6 H7 H8 H9 H10 H11 H12 H13 H14 H15 H16 H17 H18 H19 H20 H21 H22 H23
          refine stepR (wanted_free rfl) fun K hK => ?_
          simp only [Array.getD_eq_getD_getElem?] at h42
          go_simp
          exact hK _ _ ((Below.refl _ _).alloc (Nat.le_refl _) _) ⟨y1, y2, _, rfl, own_later y3 ((Below.refl _ _).alloc (Nat.le_refl _) _), Row.new rfl _ _⟩
        exact trivial
      · intro w5 hb5
        have hz5 := hb5.size
        refine end_cons ?_; rintro _ rfl
        refine end_cons ?_; rintro _ rfl
        refine end_cons ?_; rintro _ rfl
        refine end_cons ?_; rintro _ rfl
        refine end_cons ?_; rintro _ rfl
        refine end_cons ?_; rintro _ rfl
        refine end_cons ?_; rintro _ rfl
        refine end_cons ?_; rintro _ rfl
        refine end_cons ?_; rintro _ rfl
        refine end_cons ?_; rintro _ rfl
        refine end_cons ?_; rintro _ rfl
        refine end_cons ?_; rintro _ rfl
        refine end_cons ?_; rintro _ rfl
        refine end_cons ?_; rintro _ rfl
        refine end_cons ?_; rintro _ rfl
        refine end_cons ?_; rintro _ rfl
        refine end_cons ?_; rintro _ rfl
        refine end_cons ?_; rintro _ rfl
        refine end_cons ?_; rintro _ rfl
        refine end_cons ?_; rintro _ rfl
        refine end_cons ?_; rintro _ rfl
        refine end_cons ?_; rintro _ rfl
        refine end_cons ?_; rintro _ ⟨y41_1, y41_2, rfl, y41_3⟩
        refine end_cons ?_; rintro _ ⟨y42_1, y42_2, rfl, y42_3⟩
        refine end_cons ?_; rintro _ ⟨y43_1, y43_2, y43_4, rfl, y43_3, y43_5⟩
        refine end_nil ?_
        simp only [List.setIfInBounds_toArray, List.set_cons_succ, List.set_cons_zero, Bool.not_false, Bool.not_true, Bool.true_or, Bool.or_true, Bool.false_or, Bool.or_false]
        simp only [List.drop_succ_cons, List.drop_zero]
        have HM5 := Lib.hid (HM1.out.on hb5)
        obtain ⟨eqa, eqc⟩ := HQQ.out
        have hown : w5.ownsRow E 45 6 (.slice qa n qc) n (queuesV s.queues) := by rw [eqa, eqc, HN.out]; exact HM5.out.lists.queues
        have hus : w5.ownsRow E 3 1 (.slice y43_1 m y43_2) m (vals r) := own_more y43_3 (by omega)
        have hcl : ∀ j u, [Value.int .i64 n0, .slice y43_1 m y43_2, .int .i64 n1, .int .i64 n2, .int .i64 n3, .int .i64 n4][j]? = some u → w5.cell? ((⟨y43_4, 0, none⟩ : Addr).add j) = some u := fun j u hj => by
          rw [add_plain, Nat.zero_add, cell_of_row _ _ _ _ _ _ y43_5]
          simpa using hj
        have hle5 : E ≤ w5.heap.size := by omega
        have HUS := Lib.hid hus
        have HWN := Lib.hid hown
        have HCL := Lib.hid hcl
        have HB5 := Lib.hid hb5
        have HQE := Lib.hid (And.intro eqa eqc)
        clear hus hcl eqa eqc y43_3 y43_5 y41_3 y42_3 hown
        go_wp2_with (refine wpList_append_own _ rfl _ _ 24 rfl E 45 i0 _ 6 64 Tryz.underlying24 hi hz0 hzz hzb rfl (by decide) _ _ _ rfl HWN.out ⟨y43_4, 0, none⟩ 1 1 [Value.int .i64 n0, .slice y43_1 m y43_2, .int .i64 n1, .int .i64 n2, .int .i64 n3, .int .i64 n4] rfl rfl HCL.out (by simp [Value.oneCell']) (by unfold maxLen; omega) (by omega) hle5 ?_; intro v' w3 hown' hgrow _; obtain ⟨g', cap', rfl⟩ := ownsRow_succ hown'; have HOW := Lib.hid hown'; have HGW := Lib.hid hgrow; clear hgrow hown'; have HG3 := Lib.hid (row_beside HM5.out.row HWN.out (by decide) HGW.out); have q3 : w3.cell? ⟨g, 2, none⟩ = some (.slice s.qa s.queues.length s.qc) := HG3.out.cell 2; have f3 := HG3.out.thaw 2)
        go_ret
        have hba : Below D w w5 := (hb1.mono (Nat.le_of_lt hlt)).trans (HB5.out.mono (by omega))
        have hb3 : Below D w w3 := below_own hba HWN.out hle (by omega) HGW.out
        have hf3 : Far E g w w3 := ((Far.of_below hb1).trans (Far.of_below HB5.out)).trans (Far.grown HWN.out (.inr (.inr rfl)) HGW.out)
        refine ⟨hb3.setCell (p := ⟨g, 2, none⟩) hge _, hf3.trans (Far.put _ _ _), ?_⟩
        obtain ⟨q, hq⟩ : ∃ q : QR, q = { part := n0, users := { a := y43_1, cap := y43_2, l := r }, mj := n1, mr := n2, mu := n3, qos := n4 } := ⟨_, rfl⟩
        have en : (s.queues ++ [q]).length = n + 1 := by rw [List.length_append, ← HN.out]; rfl
        have hrow : ∀ s2 : S, s2 = { s with qa := some ⟨g', 0, none⟩, qc := cap', queues := s.queues ++ [q] } → Row (w3.setCell ⟨g, 2, none⟩ (.slice (some ⟨g', 0, none⟩) (n + 1) cap')) g 28 #[.slice s2.na s2.nodes.length s2.nc, .slice s2.pa s2.parts.length s2.pc, .slice s2.qa s2.queues.length s2.qc, .int .i64 s2.users, .int .i64 s2.age, .int .i64 s2.size, .int .i64 s2.qos, .int .i64 s2.share, .int .i64 s2.decay, .int .i64 s2.mode, .int .i64 s2.jobs, .int .i64 s2.ids, .int .i64 s2.versions, .int .i64 s2.linger, .int .i64 s2.keep, .int .i64 s2.inn, .int .i64 s2.out, .int .i64 s2.cache] := by
          rintro s2 rfl
          show Row _ g _ #[.slice s.na s.nodes.length s.nc, .slice s.pa s.parts.length s.pc, .slice (some ⟨g', 0, none⟩) (s.queues ++ [q]).length cap', _, _, _, _, _, _, _, _, _, _, _, _, _, _, _]
          rw [en]
          exact HG3.out.put 2 _
        have hL : Lists E w3 { s with qa := some ⟨g', 0, none⟩, qc := cap', queues := s.queues ++ [q] } := by
          have hn := HN.out
          have hm := HMR.out
          obtain ⟨e1, e2⟩ := HQE.out
          subst hn hm e1 e2 hq
          exact Lists.queue_in HM5.out.lists HUS.out HGW.out HOW.out
        have hL2 := hL.put HG3.out 2 (.slice (some ⟨g', 0, none⟩) (n + 1) cap')
        exact .inl ⟨{ s with qa := some ⟨g', 0, none⟩, qc := cap', queues := s.queues ++ [q] }, HT.out q (by subst hq; rfl), rfl, hrow _ rfl, hge, hL2, hle, by rw [size_put]; exact Nat.le_trans hle5 HGW.out.size⟩
    · have hT := Lib.hid (Took.no (E := E) (g := g) (r := takeS (tOf s) l 3) HM.out hb1 (by
        simp only [takeS, hp]
        split
        · next a b c d e r h => injection h with h; subst h; simp at hne; omega
        · rfl))
      obtain ⟨a, c, rfl, _, hr, hr2⟩ := own_form how
      have h1 : (ns.length : Int) < 5 := by omega
      clear hr hr2 how hp hne
      go_wp2
      go_ret
      exact hT.out
  · have hT := Lib.hid (Took.no (E := E) (g := g) (r := takeS (tOf s) l 3) HM.out hb1 (by simp [takeS, hp]))
    clear hp
    go_wp2
    go_ret
    exact hT.out
end Go.Proofs.YtgopjpnlpcmldaaGreatDoor.W
