/-
  Step functions: cut at a time, turned within a time, all times, the least within a time; what was taken is given back; in either order.
-/
import Derived.Test.YtcdajfiohhbdgaaStSpec
namespace Go.Proofs.Ytcdajfiohhbdgaa.W

/-- where the last one that has begun stands -/
theorem run_lt (t : Int) : ∀ (r : List St), run t r ≤ r.length
  | [] => Nat.le_refl _
  | s :: r => by unfold run; split <;> simp [run_lt t r]
theorem run_at (t : Int) : ∀ (s : St) (r : List St), ((s :: r).getD (run t r) default).free = atS s.free t r
  | s, [] => rfl
  | s, u :: r => by
    unfold run atS
    split
    · exact run_at t u r
    · rfl
/-- the element at its place -/
def lastOf (l : List St) (t : Int) : St := l.getD (run t l.tail) default
theorem lastOf_free {l : List St} (h : OkS l) {t : Int} (ht : begin_ l ≤ t) : (lastOf l t).free = atL l t := by
  obtain ⟨h0, h1⟩ := h
  cases l with
  | nil => exact absurd rfl h0
  | cons s r =>
    have ht' : s.at_ ≤ t := ht
    unfold lastOf atL atS
    rw [if_pos ht']
    exact run_at t s r
/-- a step that begins at t -/
def cutL (l : List St) (t : Int) : List St :=
  if (lastOf l t).at_ = t then l else l.take (run t l.tail + 1) ++ ⟨t, (lastOf l t).free⟩ :: l.drop (run t l.tail + 1)
theorem cut_next {s u : St} {r : List St} {t : Int} (h : u.at_ ≤ t) : cutL (s :: u :: r) t = s :: cutL (u :: r) t := by
  have e : run t (u :: r) = run t r + 1 := by rw [run, if_pos h]
  have el : lastOf (s :: u :: r) t = lastOf (u :: r) t := by unfold lastOf; simp [e]
  unfold cutL
  rw [el]
  simp only [List.tail_cons, e, List.take_succ_cons, List.drop_succ_cons]
  split <;> simp
theorem cut_here {s : St} {r : List St} {t : Int} (h : run t r = 0) : cutL (s :: r) t = if s.at_ = t then s :: r else s :: ⟨t, s.free⟩ :: r := by
  unfold cutL lastOf
  simp [h]
theorem cut_rise {t : Int} (hm : t ≤ 281474976710656) : ∀ {a : Int} {s : St} {r : List St}, Rise a (s :: r) → s.at_ ≤ t → Rise a (cutL (s :: r) t) ∧ begin_ (cutL (s :: r) t) = s.at_ ∧ ∀ e, e ∈ cutL (s :: r) t ↔ e ∈ s :: r ∨ e = ⟨t, atS s.free t r⟩
  | a, s, [], h, ht => by
    rw [cut_here rfl]
    by_cases e : s.at_ = t
    · rw [if_pos e]
      refine ⟨h, rfl, fun x => ⟨.inl, fun hx => ?_⟩⟩
      rcases hx with hx | rfl
      · exact hx
      · rw [← e]; simp [atS]
    · rw [if_neg e]
      exact ⟨⟨h.1, h.2.1, h.2.2.1, by show s.at_ < t; omega, hm, h.2.2.1, trivial⟩, rfl, fun x => by simp [atS]⟩
  | a, s, u :: r, h, ht => by
    by_cases hu : u.at_ ≤ t
    · rw [cut_next hu]
      obtain ⟨i1, i2, i3⟩ := cut_rise hm h.2.2.2 hu
      refine ⟨⟨h.1, h.2.1, h.2.2.1, i1⟩, rfl, fun x => ?_⟩
      rw [List.mem_cons, i3 x, atS, if_pos hu]
      simp only [List.mem_cons, or_assoc]
    · have e0 : run t (u :: r) = 0 := by rw [run, if_neg hu]
      rw [cut_here e0]
      have ea : atS s.free t (u :: r) = s.free := by rw [atS, if_neg hu]
      rw [ea]
      by_cases e : s.at_ = t
      · rw [if_pos e]
        refine ⟨h, rfl, fun x => ⟨.inl, fun hx => ?_⟩⟩
        rcases hx with hx | rfl
        · exact hx
        · rw [← e]; simp
      · rw [if_neg e]
        refine ⟨⟨h.1, h.2.1, h.2.2.1, by show s.at_ < t; omega, hm, h.2.2.1, by show t < u.at_; omega, h.2.2.2.2⟩, rfl, fun x => ?_⟩
        simp only [List.mem_cons]
        constructor
        · rintro (h | h | h | h)
          · exact .inl (.inl h)
          · exact .inr h
          · exact .inl (.inr (.inl h))
          · exact .inl (.inr (.inr h))
        · rintro ((h | h | h) | h)
          · exact .inl h
          · exact .inr (.inr (.inl h))
          · exact .inr (.inr (.inr h))
          · exact .inr (.inl h)
theorem cut_ok {l : List St} {t : Int} (h : OkS l) (ht : begin_ l ≤ t) (hm : t ≤ 281474976710656) : OkS (cutL l t) ∧ begin_ (cutL l t) = begin_ l ∧ (∀ e, e ∈ cutL l t ↔ e ∈ l ∨ e = ⟨t, atL l t⟩) := by
  obtain ⟨h0, h1⟩ := h
  cases l with
  | nil => exact absurd rfl h0
  | cons s r =>
    have ht' : s.at_ ≤ t := ht
    obtain ⟨i1, i2, i3⟩ := cut_rise hm h1 ht'
    have ea : atL (s :: r) t = atS s.free t r := by unfold atL; rw [atS, if_pos ht']
    refine ⟨⟨?_, i1⟩, i2, fun e => by rw [i3 e, ea]⟩
    intro e
    have := (i3 s).2 (.inl (by simp))
    rw [e] at this
    cases this
theorem cut_at {l : List St} {t : Int} (h : OkS l) (ht : begin_ l ≤ t) (hm : t ≤ 281474976710656) (u : Int) (hu : begin_ l ≤ u) : atL (cutL l t) u = atL l u := by
  obtain ⟨k0, k1, k2⟩ := cut_ok h ht hm
  obtain ⟨e, he, h1, h2, h3⟩ := last_of h hu
  rw [h3]
  by_cases c : t ≤ u ∧ e.at_ < t
  · have : atL l t = e.free := atS_of h.2 e he (by omega) (fun x hx hxt => h2 x hx (by omega))
    rw [← this]
    refine atS_of k0.2 ⟨t, atL l t⟩ ((k2 _).2 (.inr rfl)) c.1 (fun x hx hxu => ?_)
    show x.at_ ≤ t
    rcases (k2 x).1 hx with hx | rfl
    · have := h2 x hx hxu; omega
    · exact Int.le_refl _
  · refine atS_of k0.2 e ((k2 e).2 (.inl he)) h1 (fun x hx hxu => ?_)
    rcases (k2 x).1 hx with hx | rfl
    · exact h2 x hx hxu
    · have hxu' : t ≤ u := hxu
      show t ≤ e.at_
      omega
/-- cut at both ends -/
def cut2 (l : List St) (from_ to_ : Int) : List St := cutL (cutL l from_) to_
def ArgsOk (l : List St) (from_ to_ : Int) (need : V) : Prop := OkS l ∧ need.Ok ∧ begin_ l ≤ from_ ∧ from_ < to_ ∧ to_ ≤ 281474976710656
instance (l : List St) (from_ to_ : Int) (need : V) : Decidable (ArgsOk l from_ to_ need) := by unfold ArgsOk; infer_instance
theorem cut2_ok {l : List St} {f t : Int} (h : OkS l) (h0 : begin_ l ≤ f) (h1 : f < t) (h2 : t ≤ 281474976710656) :
    OkS (cut2 l f t) ∧ begin_ (cut2 l f t) = begin_ l ∧ (∀ e, e ∈ cut2 l f t ↔ e ∈ l ∨ e = ⟨f, atL l f⟩ ∨ e = ⟨t, atL l t⟩) ∧ (∀ u, begin_ l ≤ u → atL (cut2 l f t) u = atL l u) := by
  have hf : f ≤ 281474976710656 := by omega
  obtain ⟨a0, a1, a2⟩ := cut_ok h h0 hf
  have b1 : begin_ (cutL l f) ≤ t := by omega
  obtain ⟨c0, c1, c2⟩ := cut_ok a0 b1 h2
  refine ⟨c0, c1.trans a1, fun e => ?_, fun u hu => ?_⟩
  · unfold cut2
    rw [c2 e, a2 e, cut_at h h0 hf t (by omega), or_assoc]
  · unfold cut2
    rw [cut_at a0 b1 h2 u (by omega), cut_at h h0 hf u hu]

/-- more, or less -/
def turnV (more : Bool) (a b : V) : V := if more then a.plus b else a.less b
def chg (more : Bool) (f t : Int) (need : V) (s : St) : St := if s.at_ < f ∨ t ≤ s.at_ then s else ⟨s.at_, turnV more s.free need⟩
theorem chg_at (more : Bool) (f t : Int) (need : V) (s : St) : (chg more f t need s).at_ = s.at_ := by unfold chg; split <;> rfl
def Fine (more : Bool) (l : List St) (f t : Int) (need : V) : Prop := ∀ s ∈ cut2 l f t, (chg more f t need s).free.Ok
instance (more : Bool) (l : List St) (f t : Int) (need : V) : Decidable (Fine more l f t need) := by unfold Fine; infer_instance
/-- what comes of it: the steps, and what is wrong -/
def turnR (more : Bool) (l : List St) (f t : Int) (need : V) : List St := if ArgsOk l f t need ∧ Fine more l f t need then plainL ((cut2 l f t).map (chg more f t need)) else []
def turnE (more : Bool) (l : List St) (f t : Int) (need : V) : Int := if ArgsOk l f t need then (if Fine more l f t need then 0 else 20) else 2
theorem turn_arg {more : Bool} {l : List St} {f t : Int} {need : V} (h : ¬ ArgsOk l f t need) : turnR more l f t need = [] ∧ turnE more l f t need = 2 := by
  unfold turnR turnE; rw [if_neg (fun x => h x.1), if_neg h]; exact ⟨rfl, rfl⟩
theorem turn_over {more : Bool} {l : List St} {f t : Int} {need : V} (h : ArgsOk l f t need) (g : ¬ Fine more l f t need) : turnR more l f t need = [] ∧ turnE more l f t need = 20 := by
  unfold turnR turnE; rw [if_neg (fun x => g x.2), if_pos h, if_neg g]; exact ⟨rfl, rfl⟩
theorem turn_in {more : Bool} {l : List St} {f t : Int} {need : V} (h : ArgsOk l f t need) (g : Fine more l f t need) : turnR more l f t need = plainL ((cut2 l f t).map (chg more f t need)) ∧ turnE more l f t need = 0 := by
  unfold turnR turnE; rw [if_pos ⟨h, g⟩, if_pos h, if_pos g]; exact ⟨rfl, rfl⟩
theorem map_rise {g : St → St} (hg : ∀ s, (g s).at_ = s.at_) : ∀ {a : Int} {l : List St}, Rise a l → (∀ s ∈ l, (g s).free.Ok) → Rise a (l.map g)
  | a, [], _, _ => trivial
  | a, s :: r, h, ho => ⟨by rw [hg]; exact h.1, by rw [hg]; exact h.2.1, ho s (by simp), by rw [hg]; exact map_rise hg h.2.2.2 (fun x hx => ho x (List.mem_cons_of_mem _ hx))⟩
/-- what stands once it is turned -/
theorem turned_ok {more : Bool} {l : List St} {f t : Int} {need : V} (h : ArgsOk l f t need) (g : Fine more l f t need) :
    OkS ((cut2 l f t).map (chg more f t need)) ∧ begin_ ((cut2 l f t).map (chg more f t need)) = begin_ l ∧
    (∀ u, begin_ l ≤ u → atL ((cut2 l f t).map (chg more f t need)) u = if f ≤ u ∧ u < t then turnV more (atL l u) need else atL l u) := by
  obtain ⟨hl, hn, h0, h1, h2⟩ := h
  obtain ⟨c0, c1, c2, c3⟩ := cut2_ok hl h0 h1 h2
  have hr := map_rise (chg_at more f t need) c0.2 g
  have hb : begin_ ((cut2 l f t).map (chg more f t need)) = begin_ l := by
    rw [← c1]
    have := c0.1
    generalize cut2 l f t = L at this
    cases L with
    | nil => exact absurd rfl this
    | cons s r => exact chg_at more f t need s
  refine ⟨⟨by simpa using c0.1, hr⟩, hb, fun u hu => ?_⟩
  obtain ⟨e, he, e1, e2, e3⟩ := last_of c0 (t := u) (by rw [c1]; exact hu)
  rw [c3 u hu] at e3
  have hA : atL ((cut2 l f t).map (chg more f t need)) u = (chg more f t need e).free := atS_of hr _ (List.mem_map.2 ⟨e, he, rfl⟩) (by rw [chg_at]; exact e1) (fun x hx hxu => by
    obtain ⟨y, hy, rfl⟩ := List.mem_map.1 hx
    rw [chg_at] at hxu ⊢
    rw [chg_at]
    exact e2 y hy hxu)
  rw [hA]
  have hF := (c2 ⟨f, atL l f⟩).2 (.inr (.inl rfl))
  have hT := (c2 ⟨t, atL l t⟩).2 (.inr (.inr rfl))
  unfold chg
  by_cases c : f ≤ u ∧ u < t
  · have := e2 _ hF c.1
    have k : f ≤ e.at_ := this
    rw [if_neg (by omega), if_pos c]
    show turnV more e.free need = _
    rw [e3]
  · rw [if_neg c]
    by_cases k : t ≤ u
    · have := e2 _ hT k
      have k : t ≤ e.at_ := this
      rw [if_pos (by omega), e3]
    · rw [if_pos (by omega), e3]
/-- it can be turned if it can at every time -/
theorem fine_iff {more : Bool} {l : List St} {f t : Int} {need : V} (h : ArgsOk l f t need) : Fine more l f t need ↔ ∀ u, f ≤ u → u < t → (turnV more (atL l u) need).Ok := by
  obtain ⟨hl, hn, h0, h1, h2⟩ := h
  obtain ⟨c0, c1, c2, c3⟩ := cut2_ok hl h0 h1 h2
  constructor
  · intro g u u0 u1
    obtain ⟨e, he, e1, e2, e3⟩ := last_of c0 (t := u) (by omega)
    rw [c3 u (by omega)] at e3
    have hF := e2 _ ((c2 ⟨f, atL l f⟩).2 (.inr (.inl rfl))) u0
    have k : f ≤ e.at_ := hF
    have := g e he
    unfold chg at this
    rw [if_neg (by omega)] at this
    rw [e3]; exact this
  · intro g s hs
    unfold chg
    split
    · exact (rise_mem c0.2 s hs).2.2
    · have e3 : atL (cut2 l f t) s.at_ = s.free := atS_at c0.2 hs
      rw [c3 s.at_ (by omega)] at e3
      show (turnV more s.free need).Ok
      rw [← e3]
      exact g s.at_ (by omega) (by omega)
theorem turnR_ok {more : Bool} {l : List St} {f t : Int} {need : V} (h : ArgsOk l f t need) (g : Fine more l f t need) :
    OkS (turnR more l f t need) ∧ begin_ (turnR more l f t need) = begin_ l ∧ (∀ u, begin_ l ≤ u → atL (turnR more l f t need) u = if f ≤ u ∧ u < t then turnV more (atL l u) need else atL l u) := by
  rw [(turn_in h g).1]
  obtain ⟨a, b, c⟩ := turned_ok h g
  obtain ⟨d, e, k⟩ := plain_ok a
  exact ⟨d, e.trans b, fun u hu => (k u).trans (c u hu)⟩

theorem less_plus (a b : V) : turnV true (turnV false a b) b = a := by unfold turnV V.plus V.less; exact V.ext' (by simp) (by simp) (by simp) (by simp)
/-- what was taken is given back -/
theorem back_fine {l : List St} {f t : Int} {need : V} (h : ArgsOk l f t need) (g : Fine false l f t need) :
    ArgsOk (turnR false l f t need) f t need ∧ Fine true (turnR false l f t need) f t need ∧ turnR true (turnR false l f t need) f t need = plainL l := by
  obtain ⟨a, b, c⟩ := turnR_ok h g
  have hA : ArgsOk (turnR false l f t need) f t need := ⟨a, h.2.1, by rw [b]; exact h.2.2.1, h.2.2.2⟩
  have hF : Fine true (turnR false l f t need) f t need := (fine_iff hA).2 (fun u u0 u1 => by
    rw [c u (by have := h.2.2.1; omega), if_pos ⟨u0, u1⟩, less_plus]
    exact at_ok h.1 u)
  refine ⟨hA, hF, ?_⟩
  obtain ⟨a2, b2, c2⟩ := turned_ok hA hF
  rw [(turn_in hA hF).1]
  refine plain_same a2 h.1 (b2.trans b) (fun u hu => ?_)
  have hu' : begin_ l ≤ u := by omega
  rw [c2 u (by omega), c u hu']
  by_cases k : f ≤ u ∧ u < t
  · rw [if_pos k, if_pos k, less_plus]
  · rw [if_neg k, if_neg k]

theorem less_comm (a b c : V) : turnV false (turnV false a b) c = turnV false (turnV false a c) b := by unfold turnV V.less; exact V.ext' (by simp; omega) (by simp; omega) (by simp; omega) (by simp; omega)
theorem less_first {a b c : V} (ha : a.Ok) (hb : b.Ok) (hc : c.Ok) (h : (turnV false (turnV false a b) c).Ok) : (turnV false a c).Ok := by
  unfold turnV V.less V.Ok at *
  simp at *
  omega
/-- two things taken, one behind the other: what comes of it, if it can be -/
def Both (l : List St) (a : Int × Int) (x : V) (b : Int × Int) (y : V) : Prop :=
  (ArgsOk l a.1 a.2 x ∧ Fine false l a.1 a.2 x) ∧ ArgsOk (turnR false l a.1 a.2 x) b.1 b.2 y ∧ Fine false (turnR false l a.1 a.2 x) b.1 b.2 y
def bothR (l : List St) (a : Int × Int) (x : V) (b : Int × Int) (y : V) : List St := turnR false (turnR false l a.1 a.2 x) b.1 b.2 y
theorem both_turn {l : List St} {a : Int × Int} {x : V} {b : Int × Int} {y : V} (h : Both l a x b y) : Both l b y a x := by
  obtain ⟨⟨hA, gA⟩, hB, gB⟩ := h
  obtain ⟨o1, b1, t1⟩ := turnR_ok hA gA
  have hB0 : ArgsOk l b.1 b.2 y := ⟨hA.1, hB.2.1, by have := hB.2.2.1; omega, hB.2.2.2⟩
  have k0 := hA.2.2.1
  have k1 := hB0.2.2.1
  have pB := (fine_iff hB).1 gB
  have pA := (fine_iff hA).1 gA
  have gB0 : Fine false l b.1 b.2 y := (fine_iff hB0).2 (fun u u0 u1 => by
    have := pB u u0 u1
    rw [t1 u (by omega)] at this
    by_cases c : a.1 ≤ u ∧ u < a.2
    · rw [if_pos c] at this
      exact less_first (at_ok hA.1 u) hA.2.1 hB.2.1 this
    · rw [if_neg c] at this; exact this)
  obtain ⟨o2, b2, t2⟩ := turnR_ok hB0 gB0
  have hA2 : ArgsOk (turnR false l b.1 b.2 y) a.1 a.2 x := ⟨o2, hA.2.1, by omega, hA.2.2.2⟩
  refine ⟨⟨hB0, gB0⟩, hA2, (fine_iff hA2).2 (fun u u0 u1 => ?_)⟩
  rw [t2 u (by omega)]
  by_cases c : b.1 ≤ u ∧ u < b.2
  · have := pB u c.1 c.2
    rw [t1 u (by omega), if_pos ⟨u0, u1⟩] at this
    rw [if_pos c, less_comm]; exact this
  · rw [if_neg c]; exact pA u u0 u1
theorem both_iff {l : List St} {a : Int × Int} {x : V} {b : Int × Int} {y : V} : Both l a x b y ↔ Both l b y a x := ⟨both_turn, both_turn⟩
theorem both_same {l : List St} {a : Int × Int} {x : V} {b : Int × Int} {y : V} (h : Both l a x b y) : bothR l a x b y = bothR l b y a x := by
  obtain ⟨⟨hB0, gB0⟩, hA2, gA2⟩ := both_turn h
  obtain ⟨⟨hA, gA⟩, hB, gB⟩ := h
  obtain ⟨o1, b1, t1⟩ := turnR_ok hA gA
  obtain ⟨o2, b2, t2⟩ := turnR_ok hB0 gB0
  obtain ⟨o3, b3, t3⟩ := turned_ok hB gB
  obtain ⟨o4, b4, t4⟩ := turned_ok hA2 gA2
  unfold bothR
  rw [(turn_in hB gB).1, (turn_in hA2 gA2).1]
  refine plain_same o3 o4 (by omega) (fun u hu => ?_)
  rw [t3 u (by omega), t4 u (by omega), t1 u (by omega), t2 u (by omega)]
  by_cases c : a.1 ≤ u ∧ u < a.2 <;> by_cases d : b.1 ≤ u ∧ u < b.2
  · rw [if_pos d, if_pos c, if_pos c, if_pos d, less_comm]
  · rw [if_neg d, if_pos c, if_pos c, if_neg d]
  · rw [if_pos d, if_neg c, if_neg c, if_pos d]
  · rw [if_neg d, if_neg c, if_neg c, if_neg d]
end Go.Proofs.Ytcdajfiohhbdgaa.W
