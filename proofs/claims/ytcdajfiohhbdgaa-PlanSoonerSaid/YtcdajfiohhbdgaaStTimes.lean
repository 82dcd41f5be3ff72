/-
  All times at which something may change, in order, each once; the least within a time, by either way; what is told once need was taken.
-/
import Derived.Test.YtcdajfiohhbdgaaStTurn
namespace Go.Proofs.Ytcdajfiohhbdgaa.W
set_option linter.unusedVariables false

def insT (a : Int) : List Int → List Int
  | [] => [a]
  | x :: r => if x < a then x :: insT a r else if x = a then x :: r else a :: x :: r
def timesF (o : List Int) (all : List Int) : List Int := all.foldl (fun o a => insT a o) o
def timesL (all : List Int) : List Int := timesF [] all
def ats (l : List St) : List Int := l.map St.at_
/-- where a time stands among those that rise -/
def below_ (a : Int) : List Int → Nat
  | [] => 0
  | x :: r => if x < a then below_ a r + 1 else 0
theorem below_le (a : Int) : ∀ (o : List Int), below_ a o ≤ o.length
  | [] => Nat.le_refl _
  | x :: r => by unfold below_; split <;> simp [below_le a r]
theorem ins_at (a : Int) : ∀ (o : List Int), insT a o = if below_ a o < o.length ∧ o.getD (below_ a o) 0 = a then o else o.take (below_ a o) ++ a :: o.drop (below_ a o)
  | [] => by simp [insT, below_]
  | x :: r => by
    unfold insT below_
    by_cases h : x < a
    · rw [if_pos h, if_pos h, ins_at a r]
      simp only [List.length_cons, Nat.add_lt_add_iff_right, List.getD_cons_succ, List.take_succ_cons, List.drop_succ_cons]
      split <;> simp
    · rw [if_neg h, if_neg h]
      by_cases e : x = a
      · rw [if_pos e]; simp [e]
      · rw [if_neg e]; simp [e]
def Up (b : Int) : List Int → Prop
  | [] => True
  | x :: r => b < x ∧ Up x r
theorem up_mem {b : Int} : ∀ {o : List Int}, Up b o → ∀ x ∈ o, b < x
  | y :: r, h, x, hx => by
    rcases List.mem_cons.1 hx with rfl | hx
    · exact h.1
    · have := up_mem h.2 x hx
      have := h.1
      omega
theorem ins_up {b a : Int} (hb : b < a) : ∀ {o : List Int}, Up b o → Up b (insT a o)
  | [], _ => ⟨hb, trivial⟩
  | x :: r, h => by
    unfold insT
    by_cases c : x < a
    · rw [if_pos c]; exact ⟨h.1, ins_up c h.2⟩
    · rw [if_neg c]
      by_cases e : x = a
      · rw [if_pos e]; exact h
      · rw [if_neg e]; exact ⟨hb, by omega, h.2⟩
theorem ins_mem (a : Int) : ∀ (o : List Int) (x : Int), x ∈ insT a o ↔ x ∈ o ∨ x = a
  | [], x => by simp [insT]
  | y :: r, x => by
    unfold insT
    by_cases c : y < a
    · rw [if_pos c, List.mem_cons, ins_mem a r x, List.mem_cons, or_assoc]
    · rw [if_neg c]
      by_cases e : y = a
      · rw [if_pos e]
        constructor
        · exact .inl
        · rintro (h | rfl)
          · exact h
          · rw [e]; simp
      · rw [if_neg e]
        simp only [List.mem_cons]
        constructor
        · rintro (h | h | h)
          · exact .inr h
          · exact .inl (.inl h)
          · exact .inl (.inr h)
        · rintro ((h | h) | h)
          · exact .inr (.inl h)
          · exact .inr (.inr h)
          · exact .inl h
theorem ins_len (a : Int) : ∀ (o : List Int), (insT a o).length ≤ o.length + 1
  | [] => by simp [insT]
  | x :: r => by
    unfold insT
    split
    · have := ins_len a r; simp; omega
    · split <;> simp
theorem times_up {b : Int} : ∀ (all : List Int) (o : List Int), Up b o → (∀ a ∈ all, b < a) → Up b (timesF o all) ∧ ∀ x, x ∈ timesF o all ↔ x ∈ o ∨ x ∈ all
  | [], o, h, _ => ⟨h, fun x => by simp [timesF]⟩
  | a :: r, o, h, ha => by
    obtain ⟨i1, i2⟩ := times_up r (insT a o) (ins_up (ha a (by simp)) h) (fun x hx => ha x (List.mem_cons_of_mem _ hx))
    have e : timesF o (a :: r) = timesF (insT a o) r := rfl
    rw [e]
    refine ⟨i1, fun x => ?_⟩
    rw [i2 x, ins_mem, List.mem_cons, or_assoc]
theorem times_len : ∀ (all o : List Int), (timesF o all).length ≤ o.length + all.length
  | [], o => by simp [timesF]
  | a :: r, o => by
    have h1 := times_len r (insT a o)
    have h2 := ins_len a o
    have e : timesF o (a :: r) = timesF (insT a o) r := rfl
    rw [e]; simp; omega
theorem times_snoc (all : List Int) (a : Int) : timesL (all ++ [a]) = insT a (timesL all) := by unfold timesL timesF; simp

/-- what is free at each of these times, as steps -/
def told (l : List St) (ts : List Int) : List St := ts.map fun u => ⟨u, atL l u⟩
theorem told_rise {l : List St} (h : OkS l) : ∀ {b : Int} {ts : List Int}, Up b ts → (∀ x ∈ ts, x ≤ 281474976710656) → Rise b (told l ts)
  | b, [], _, _ => trivial
  | b, x :: r, hu, hm => ⟨hu.1, hm x (by simp), at_ok h x, told_rise h hu.2 (fun y hy => hm y (List.mem_cons_of_mem _ hy))⟩
/-- cut at both ends: what is free at all times at which something may change -/
theorem cut2_told {l : List St} {f t : Int} (h : OkS l) (h0 : begin_ l ≤ f) (h1 : f < t) (h2 : t ≤ 281474976710656) : cut2 l f t = told l (timesL ([f, t] ++ ats l)) := by
  obtain ⟨c0, c1, c2, c3⟩ := cut2_ok h h0 h1 h2
  have hb := begin_nn h
  have hall : ∀ x ∈ [f, t] ++ ats l, -1 < x ∧ x ≤ 281474976710656 := by
    intro x hx
    simp only [List.cons_append, List.nil_append, List.mem_cons, ats, List.mem_map] at hx
    rcases hx with rfl | rfl | ⟨s, hs, rfl⟩
    · omega
    · omega
    · have := rise_mem h.2 s hs; omega
  obtain ⟨t1, t2⟩ := times_up (b := -1) ([f, t] ++ ats l) [] trivial (fun x hx => (hall x hx).1)
  have hmem : ∀ x, x ∈ timesL ([f, t] ++ ats l) ↔ x ∈ [f, t] ++ ats l := fun x => (t2 x).trans (by simp)
  refine rise_eq c0.2 (told_rise h t1 (fun x hx => (hall x ((hmem x).1 hx)).2)) (fun e => ?_)
  rw [c2 e]
  unfold told
  rw [List.mem_map]
  constructor
  · rintro (he | rfl | rfl)
    · exact ⟨e.at_, (hmem _).2 (by simp only [ats, List.mem_append, List.mem_map]; exact .inr ⟨e, he, rfl⟩), St.ext' rfl (atS_at h.2 he)⟩
    · exact ⟨f, (hmem _).2 (by simp), rfl⟩
    · exact ⟨t, (hmem _).2 (by simp), rfl⟩
  · rintro ⟨u, hu, rfl⟩
    have := (hmem u).1 hu
    simp only [List.cons_append, List.nil_append, List.mem_cons, ats, List.mem_map] at this
    rcases this with rfl | rfl | ⟨s, hs, rfl⟩
    · exact .inr (.inl rfl)
    · exact .inr (.inr rfl)
    · exact .inl (by rw [show atL l s.at_ = s.free from atS_at h.2 hs]; exact hs)
/-- those of steps alone -/
theorem up_eq : ∀ {b : Int} {l m : List Int}, Up b l → Up b m → (∀ e, e ∈ l ↔ e ∈ m) → l = m
  | b, [], [], _, _, _ => rfl
  | b, [], u :: v, _, _, h => absurd ((h u).2 (by simp)) (by simp)
  | b, s :: r, [], _, _, h => absurd ((h s).1 (by simp)) (by simp)
  | b, s :: r, u :: v, hl, hm, h => by
    have hsu : s = u := by
      rcases List.mem_cons.1 ((h s).1 (by simp)) with e | hs
      · exact e
      · rcases List.mem_cons.1 ((h u).2 (by simp)) with e | hu
        · exact e.symm
        · have h1 := up_mem hl.2 u hu
          have h2 := up_mem hm.2 s hs
          omega
    subst hsu
    have ih := up_eq hl.2 hm.2 (fun e => by
      constructor
      · intro he
        rcases List.mem_cons.1 ((h e).1 (List.mem_cons_of_mem _ he)) with rfl | h'
        · exact absurd (up_mem hl.2 e he) (by omega)
        · exact h'
      · intro he
        rcases List.mem_cons.1 ((h e).2 (List.mem_cons_of_mem _ he)) with rfl | h'
        · exact absurd (up_mem hm.2 e he) (by omega)
        · exact h')
    rw [ih]
theorem ats_up : ∀ {b : Int} {l : List St}, Rise b l → Up b (ats l)
  | b, [], _ => trivial
  | b, s :: r, h => ⟨h.1, ats_up h.2.2.2⟩
theorem times_ats {l : List St} (h : OkS l) : timesL (ats l) = ats l := by
  obtain ⟨t1, t2⟩ := times_up (b := -1) (ats l) [] trivial (fun x hx => by
    simp only [ats, List.mem_map] at hx
    obtain ⟨s, hs, rfl⟩ := hx
    exact (rise_mem h.2 s hs).1)
  exact up_eq t1 (ats_up h.2) (fun e => (t2 e).trans (by simp))

/-- the least within a time, step by step -/
def leastF (m : V) (t : Int) : List St → V
  | [] => m
  | s :: r => leastF (if s.at_ < t then m.least s.free else m) t r
def leastP (l : List St) (f t : Int) : V := leastF (lastOf l f).free t (l.drop (run f l.tail + 1))
def leastS (l : List St) (f t : Int) : V := if OkS l ∧ begin_ l ≤ f ∧ f < t then leastP l f t else V.zero
/-- time by time -/
def leastG (l : List St) (f t : Int) (m : V) : List Int → V
  | [] => m
  | u :: r => leastG l f t (if f ≤ u ∧ u < t then m.least (atL l u) else m) r
theorem low_self (a : Int) : low a a = a := by unfold low; split <;> rfl
theorem least_self (a : V) : a.least a = a := by unfold V.least; exact V.ext' (low_self _) (low_self _) (low_self _) (low_self _)
theorem leastG_far {l : List St} {f t : Int} : ∀ {b : Int} (m : V) (r : List St), (∀ s ∈ r, s ∈ l) → OkS l → Rise b r → f ≤ b → leastG l f t m (ats r) = leastF m t r
  | b, m, [], _, _, _, _ => rfl
  | b, m, s :: r, hs, h, hr, hb => by
    have e : atL l s.at_ = s.free := atS_at h.2 (hs s (by simp))
    show leastG l f t (if f ≤ s.at_ ∧ s.at_ < t then m.least (atL l s.at_) else m) (ats r) = leastF (if s.at_ < t then m.least s.free else m) t r
    rw [e]
    have h1 := hr.1
    have ec : (if f ≤ s.at_ ∧ s.at_ < t then m.least s.free else m) = if s.at_ < t then m.least s.free else m := by
      by_cases c : s.at_ < t
      · rw [if_pos ⟨by omega, c⟩, if_pos c]
      · rw [if_neg (fun x => c x.2), if_neg c]
    rw [ec]
    exact leastG_far _ r (fun x hx => hs x (List.mem_cons_of_mem _ hx)) h hr.2.2.2 (by omega)
theorem leastG_eq {l : List St} {f t : Int} (h : OkS l) (ht : f < t) : ∀ {a : Int} (s : St) (r : List St), (∀ x ∈ s :: r, x ∈ l) → Rise a (s :: r) → s.at_ ≤ f → atL l f = atS s.free f r →
    leastG l f t (atL l f) (ats (s :: r)) = leastF (atL l f) t ((s :: r).drop (run f r + 1))
  | a, s, [], hs, hr, hf, he => by
    have e : atL l s.at_ = s.free := atS_at h.2 (hs s (by simp))
    show (if f ≤ s.at_ ∧ s.at_ < t then (atL l f).least (atL l s.at_) else atL l f) = atL l f
    rw [e, he]
    split
    · exact least_self _
    · rfl
  | a, s, u :: r, hs, hr, hf, he => by
    have e : atL l s.at_ = s.free := atS_at h.2 (hs s (by simp))
    show leastG l f t (if f ≤ s.at_ ∧ s.at_ < t then (atL l f).least (atL l s.at_) else atL l f) (ats (u :: r)) = _
    by_cases hu : u.at_ ≤ f
    · have h2 := hr.2.2.2.1
      rw [if_neg (by omega)]
      have e2 : run f (u :: r) = run f r + 1 := by rw [run, if_pos hu]
      rw [e2, List.drop_succ_cons]
      exact leastG_eq h ht u r (fun x hx => hs x (List.mem_cons_of_mem _ hx)) hr.2.2.2 hu (by rw [he, atS, if_pos hu])
    · have e2 : run f (u :: r) = 0 := by rw [run, if_neg hu]
      have e3 : atL l f = s.free := by rw [he, atS, if_neg hu]
      rw [e2]
      show _ = leastF (atL l f) t (u :: r)
      have ec : (if f ≤ s.at_ ∧ s.at_ < t then (atL l f).least (atL l s.at_) else atL l f) = atL l f := by
        rw [e, e3, least_self]; split <;> rfl
      rw [ec]
      exact leastG_far (b := f) _ (u :: r) (fun x hx => hs x (List.mem_cons_of_mem _ hx)) h ⟨by omega, hr.2.2.2.2⟩ (Int.le_refl _)
theorem least_ref {l : List St} {f t : Int} (h : OkS l) (h0 : begin_ l ≤ f) (ht : f < t) : leastG l f t (atL l f) (timesL (ats l)) = leastS l f t := by
  rw [times_ats h]
  unfold leastS leastP
  rw [if_pos ⟨h, h0, ht⟩, lastOf_free h h0]
  have h' := h
  obtain ⟨g0, g1⟩ := h'
  cases l with
  | nil => exact absurd rfl g0
  | cons s r =>
    have h0' : s.at_ ≤ f := h0
    exact leastG_eq h ht s r (fun x hx => hx) g1 h0' (by unfold atL; rw [atS, if_pos h0'])

/-- of each number the least -/
def Lowest (p : V → Int) (g : Int → V) (f t m : Int) : Prop := (∀ u, f ≤ u → u < t → m ≤ p (g u)) ∧ ∃ u, f ≤ u ∧ u < t ∧ m = p (g u)
theorem lowest_uniq {p : V → Int} {g : Int → V} {f t m m' : Int} (h : Lowest p g f t m) (h' : Lowest p g f t m') : m = m' := by
  obtain ⟨a, u, u0, u1, e⟩ := h
  obtain ⟨a', v, v0, v1, e'⟩ := h'
  have := a v v0 v1
  have := a' u u0 u1
  omega
theorem leastF_low {p : V → Int} (hp : ∀ a b, p (a.least b) = low (p a) (p b)) (t : Int) : ∀ (m : V) (r : List St), (p (leastF m t r) ≤ p m ∧ ∀ s ∈ r, s.at_ < t → p (leastF m t r) ≤ p s.free) ∧ (p (leastF m t r) = p m ∨ ∃ s ∈ r, s.at_ < t ∧ p (leastF m t r) = p s.free)
  | m, [] => ⟨⟨Int.le_refl _, fun s hs => (by cases hs)⟩, .inl rfl⟩
  | m, s :: r => by
    have ih := leastF_low hp t (if s.at_ < t then m.least s.free else m) r
    have e : leastF m t (s :: r) = leastF (if s.at_ < t then m.least s.free else m) t r := rfl
    rw [e]
    by_cases c : s.at_ < t
    · rw [if_pos c] at ih ⊢
      rw [hp] at ih
      obtain ⟨⟨i1, i2⟩, i3⟩ := ih
      have l1 : low (p m) (p s.free) ≤ p m := by unfold low; split <;> omega
      have l2 : low (p m) (p s.free) ≤ p s.free := by unfold low; split <;> omega
      refine ⟨⟨by omega, fun x hx hxt => ?_⟩, ?_⟩
      · rcases List.mem_cons.1 hx with rfl | hx
        · omega
        · exact i2 x hx hxt
      · rcases i3 with i3 | ⟨x, hx, h1, h2⟩
        · by_cases d : p m < p s.free
          · left; rw [i3]; unfold low; rw [if_pos d]
          · right; exact ⟨s, by simp, c, by rw [i3]; unfold low; rw [if_neg d]⟩
        · exact .inr ⟨x, List.mem_cons_of_mem _ hx, h1, h2⟩
    · rw [if_neg c] at ih ⊢
      obtain ⟨⟨i1, i2⟩, i3⟩ := ih
      refine ⟨⟨i1, fun x hx hxt => ?_⟩, ?_⟩
      · rcases List.mem_cons.1 hx with rfl | hx
        · exact absurd hxt c
        · exact i2 x hx hxt
      · rcases i3 with i3 | ⟨x, hx, h1, h2⟩
        · exact .inl i3
        · exact .inr ⟨x, List.mem_cons_of_mem _ hx, h1, h2⟩
/-- those that have not begun at f: they begin later -/
theorem drop_later {f : Int} : ∀ {a : Int} (s : St) (r : List St), Rise a (s :: r) → s.at_ ≤ f → (∀ x ∈ (s :: r).drop (run f r + 1), f < x.at_) ∧ ∀ x ∈ s :: r, f < x.at_ → x ∈ (s :: r).drop (run f r + 1)
  | a, s, [], h, hf => ⟨fun x hx => by simp [run] at hx, fun x hx hxf => by simp at hx; subst hx; omega⟩
  | a, s, u :: r, h, hf => by
    by_cases hu : u.at_ ≤ f
    · have e2 : run f (u :: r) = run f r + 1 := by rw [run, if_pos hu]
      rw [e2, List.drop_succ_cons]
      obtain ⟨i1, i2⟩ := drop_later u r h.2.2.2 hu
      refine ⟨i1, fun x hx hxf => ?_⟩
      rcases List.mem_cons.1 hx with rfl | hx
      · omega
      · exact i2 x hx hxf
    · have e2 : run f (u :: r) = 0 := by rw [run, if_neg hu]
      rw [e2]
      show (∀ x ∈ u :: r, f < x.at_) ∧ ∀ x ∈ s :: u :: r, f < x.at_ → x ∈ u :: r
      refine ⟨fun x hx => ?_, fun x hx hxf => ?_⟩
      · rcases List.mem_cons.1 hx with rfl | hx
        · omega
        · have := (rise_mem h.2.2.2.2.2.2 x hx).1; omega
      · rcases List.mem_cons.1 hx with rfl | hx
        · omega
        · exact hx
theorem least_lowest {p : V → Int} (hp : ∀ a b, p (a.least b) = low (p a) (p b)) {l : List St} {f t : Int} (h : OkS l) (h0 : begin_ l ≤ f) (ht : f < t) : Lowest p (atL l) f t (p (leastS l f t)) := by
  unfold leastS leastP
  rw [if_pos ⟨h, h0, ht⟩, lastOf_free h h0]
  obtain ⟨⟨k1, k2⟩, k3⟩ := leastF_low hp t (atL l f) (l.drop (run f l.tail + 1))
  have h' := h
  obtain ⟨g0, g1⟩ := h'
  have hd : (∀ x ∈ l.drop (run f l.tail + 1), f < x.at_) ∧ ∀ x ∈ l, f < x.at_ → x ∈ l.drop (run f l.tail + 1) := by
    cases l with
    | nil => exact absurd rfl g0
    | cons s r => exact drop_later s r g1 h0
  obtain ⟨d1, d2⟩ := hd
  refine ⟨fun u u0 u1 => ?_, ?_⟩
  · obtain ⟨e, he, e1, e2, e3⟩ := last_of h (t := u) (by omega)
    rw [e3]
    by_cases c : f < e.at_
    · exact k2 e (d2 e he c) (by omega)
    · have : atL l f = e.free := atS_of h.2 e he (by omega) (fun x hx hxf => e2 x hx (by omega))
      rw [← this]; exact k1
  · rcases k3 with k3 | ⟨s, hs, s1, s2⟩
    · exact ⟨f, Int.le_refl _, ht, k3⟩
    · exact ⟨s.at_, by have := d1 s hs; omega, s1, by rw [s2, show atL l s.at_ = s.free from atS_at h.2 (List.mem_of_mem_drop hs)]⟩
/-- need less is free: need less is the least -/
theorem least_back {l : List St} {f t : Int} {need : V} (h : ArgsOk l f t need) (g : Fine false l f t need) : (leastS (turnR false l f t need) f t).plus need = leastS l f t := by
  obtain ⟨a, b, c⟩ := turnR_ok h g
  have hb : begin_ (turnR false l f t need) ≤ f := by have := h.2.2.1; omega
  have key : ∀ (p : V → Int), (∀ a b, p (a.least b) = low (p a) (p b)) → (∀ x y : V, p (x.less y) = p x - p y) → p (leastS (turnR false l f t need) f t) + p need = p (leastS l f t) := by
    intro p hp hq
    obtain ⟨m1, u, u0, u1, m2⟩ := least_lowest hp a hb h.2.2.2.1
    have hf : ∀ v, f ≤ v → v < t → p (atL (turnR false l f t need) v) = p (atL l v) - p need := fun v v0 v1 => by
      rw [c v (by have := h.2.2.1; omega), if_pos ⟨v0, v1⟩]
      exact hq _ _
    refine lowest_uniq (p := p) (g := atL l) (f := f) (t := t) ⟨fun v v0 v1 => ?_, u, u0, u1, ?_⟩ (least_lowest hp h.1 h.2.2.1 h.2.2.2.1)
    · have := m1 v v0 v1
      rw [hf v v0 v1] at this
      omega
    · rw [m2, hf u u0 u1]; omega
  exact V.ext' (key V.cpu (fun _ _ => rfl) (fun _ _ => rfl)) (key V.mem (fun _ _ => rfl) (fun _ _ => rfl)) (key V.gpu (fun _ _ => rfl) (fun _ _ => rfl)) (key V.lic (fun _ _ => rfl) (fun _ _ => rfl))
end Go.Proofs.Ytcdajfiohhbdgaa.W
