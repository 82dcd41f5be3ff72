/-
  Step functions, as plain lists: right ones, what is free at a time, plain ones, cut, turned; what is told by their members alone.
-/
import Derived.Test.YtcdajfiohhbdgaaVecSpec
namespace Go.Proofs.Ytcdajfiohhbdgaa.W

instance : DecidableEq V := fun a b => decidable_of_iff (a.cpu = b.cpu ∧ a.mem = b.mem ∧ a.gpu = b.gpu ∧ a.lic = b.lic) ⟨fun h => V.ext' h.1 h.2.1 h.2.2.1 h.2.2.2, fun h => by subst h; exact ⟨rfl, rfl, rfl, rfl⟩⟩
structure St where
  at_ : Int
  free : V
theorem St.ext' {a b : St} (h : a.at_ = b.at_) (h' : a.free = b.free) : a = b := by cases a; cases b; simp_all
instance : Inhabited V := ⟨V.zero⟩
instance : Inhabited St := ⟨⟨0, V.zero⟩⟩

/-- later than a, in order, and each right -/
def Rise (a : Int) : List St → Prop
  | [] => True
  | s :: r => a < s.at_ ∧ s.at_ ≤ 281474976710656 ∧ s.free.Ok ∧ Rise s.at_ r
instance : (a : Int) → (l : List St) → Decidable (Rise a l)
  | _, [] => isTrue trivial
  | a, s :: r => by
    have := instDecidableRise s.at_ r
    unfold Rise; infer_instance
def OkS (l : List St) : Prop := l ≠ [] ∧ Rise (-1) l
instance (l : List St) : Decidable (OkS l) := by unfold OkS; infer_instance
def rightS (l : List St) : Bool := decide (OkS l)
/-- what is free at t, of those from here on; d ahead of them -/
def atS (d : V) (t : Int) : List St → V
  | [] => d
  | s :: r => if s.at_ ≤ t then atS s.free t r else d
def atL (l : List St) (t : Int) : V := atS V.zero t l
/-- how many of these have begun at t -/
def run (t : Int) : List St → Nat
  | [] => 0
  | s :: r => if s.at_ ≤ t then run t r + 1 else 0
def plainF (d : V) : List St → List St
  | [] => []
  | s :: r => if s.free = d then plainF s.free r else s :: plainF s.free r
def plainL : List St → List St
  | [] => []
  | s :: r => s :: plainF s.free r
def plainR (l : List St) : List St := if OkS l then plainL l else []
def begin_ (l : List St) : Int := (l.getD 0 default).at_

theorem rise_mono {a b : Int} {l : List St} (h : Rise b l) (hab : a ≤ b) : Rise a l := by
  cases l with
  | nil => trivial
  | cons s r => exact ⟨by have := h.1; omega, h.2⟩
theorem rise_mem {a : Int} : ∀ {l : List St}, Rise a l → ∀ s ∈ l, a < s.at_ ∧ s.at_ ≤ 281474976710656 ∧ s.free.Ok
  | s :: r, h, x, hx => by
    rcases List.mem_cons.1 hx with rfl | hx
    · exact ⟨h.1, h.2.1, h.2.2.1⟩
    · have := rise_mem h.2.2.2 x hx
      have := h.1
      exact ⟨by omega, (rise_mem h.2.2.2 x hx).2⟩
theorem atS_low {a : Int} {d : V} {t : Int} {l : List St} (h : Rise a l) (ht : t ≤ a) : atS d t l = d := by
  cases l with
  | nil => rfl
  | cons s r => unfold atS; rw [if_neg (by have := h.1; omega)]
/-- the last one that has begun says what is free -/
theorem atS_of {d : V} {t : Int} : ∀ {a : Int} {l : List St}, Rise a l → ∀ e ∈ l, e.at_ ≤ t → (∀ x ∈ l, x.at_ ≤ t → x.at_ ≤ e.at_) → atS d t l = e.free
  | a, s :: r, h, e, he, ht, hm => by
    unfold atS
    rcases List.mem_cons.1 he with rfl | he
    · rw [if_pos ht]
      cases r with
      | nil => rfl
      | cons u v =>
        unfold atS
        rw [if_neg (fun hu => by have h1 := hm u (by simp) hu; have h2 := h.2.2.2.1; omega)]
    · have h1 := (rise_mem h.2.2.2 e he).1
      rw [if_pos (by omega)]
      exact atS_of h.2.2.2 e he ht (fun x hx => hm x (List.mem_cons_of_mem _ hx))
theorem atS_at {d : V} {a : Int} {l : List St} (h : Rise a l) {e : St} (he : e ∈ l) : atS d e.at_ l = e.free := atS_of h e he (Int.le_refl _) (fun _ _ hx => hx)
/-- one that has begun last -/
theorem last_ex {a : Int} {t : Int} : ∀ {l : List St}, Rise a l → (∃ e ∈ l, e.at_ ≤ t) → ∃ e ∈ l, e.at_ ≤ t ∧ ∀ x ∈ l, x.at_ ≤ t → x.at_ ≤ e.at_
  | s :: r, h, hex => by
    by_cases hr : ∃ e ∈ r, e.at_ ≤ t
    · obtain ⟨e, he, h1, h2⟩ := last_ex h.2.2.2 hr
      refine ⟨e, List.mem_cons_of_mem _ he, h1, fun x hx hxt => ?_⟩
      rcases List.mem_cons.1 hx with rfl | hx
      · have := (rise_mem h.2.2.2 e he).1; omega
      · exact h2 x hx hxt
    · obtain ⟨e, he, h1⟩ := hex
      rcases List.mem_cons.1 he with rfl | he
      · refine ⟨e, by simp, h1, fun x hx hxt => ?_⟩
        rcases List.mem_cons.1 hx with rfl | hx
        · exact Int.le_refl _
        · exact absurd ⟨x, hx, hxt⟩ hr
      · exact absurd ⟨e, he, h1⟩ hr
theorem begin_mem {l : List St} (h : l ≠ []) : l.getD 0 default ∈ l := by
  cases l with
  | nil => exact absurd rfl h
  | cons s r => simp
theorem begin_le {a : Int} {l : List St} (h : Rise a l) : ∀ x ∈ l, begin_ l ≤ x.at_ := by
  cases l with
  | nil => intro x hx; cases hx
  | cons s r =>
    intro x hx
    show s.at_ ≤ x.at_
    rcases List.mem_cons.1 hx with rfl | hx
    · exact Int.le_refl _
    · have := (rise_mem h.2.2.2 x hx).1; omega
theorem last_of {l : List St} (h : OkS l) {t : Int} (ht : begin_ l ≤ t) : ∃ e ∈ l, e.at_ ≤ t ∧ (∀ x ∈ l, x.at_ ≤ t → x.at_ ≤ e.at_) ∧ atL l t = e.free := by
  obtain ⟨e, he, h1, h2⟩ := last_ex (t := t) h.2 ⟨_, begin_mem h.1, ht⟩
  exact ⟨e, he, h1, h2, atS_of h.2 e he h1 h2⟩
theorem begin_nn {l : List St} (h : OkS l) : 0 ≤ begin_ l ∧ begin_ l ≤ 281474976710656 := by
  have := rise_mem h.2 _ (begin_mem h.1)
  unfold begin_; omega
theorem at_ok {l : List St} (h : OkS l) (t : Int) : (atL l t).Ok := by
  by_cases ht : begin_ l ≤ t
  · obtain ⟨e, he, _, _, h3⟩ := last_of h ht
    rw [h3]; exact (rise_mem h.2 e he).2.2
  · have hz : atL l t = V.zero := by
      obtain ⟨h0, h1⟩ := h
      cases l with
      | nil => exact absurd rfl h0
      | cons s r =>
        have ht' : ¬ s.at_ ≤ t := ht
        unfold atL atS; rw [if_neg ht']
    rw [hz]
    unfold V.Ok V.zero; simp

/-- two that rise are the same, if their members are -/
theorem rise_nodup {a : Int} {s : St} {r : List St} (h : Rise a (s :: r)) : s ∉ r := fun hs => by have := (rise_mem h.2.2.2 s hs).1; omega
theorem rise_eq : ∀ {a : Int} {l m : List St}, Rise a l → Rise a m → (∀ e, e ∈ l ↔ e ∈ m) → l = m
  | a, [], [], _, _, _ => rfl
  | a, [], u :: v, _, _, h => absurd ((h u).2 (by simp)) (by simp)
  | a, s :: r, [], _, _, h => absurd ((h s).1 (by simp)) (by simp)
  | a, s :: r, u :: v, hl, hm, h => by
    have hsu : s = u := by
      rcases List.mem_cons.1 ((h s).1 (by simp)) with e | hs
      · exact e
      · rcases List.mem_cons.1 ((h u).2 (by simp)) with e | hu
        · exact e.symm
        · have h1 := (rise_mem hl.2.2.2 u hu).1
          have h2 := (rise_mem hm.2.2.2 s hs).1
          omega
    subst hsu
    have ih := rise_eq hl.2.2.2 hm.2.2.2 (fun e => by
      constructor
      · intro he
        rcases List.mem_cons.1 ((h e).1 (List.mem_cons_of_mem _ he)) with rfl | h'
        · exact absurd he (rise_nodup hl)
        · exact h'
      · intro he
        rcases List.mem_cons.1 ((h e).2 (List.mem_cons_of_mem _ he)) with rfl | h'
        · exact absurd he (rise_nodup hm)
        · exact h')
    rw [ih]

/-- plain: no neighbours alike -/
def PlainF (d : V) : List St → Prop
  | [] => True
  | s :: r => s.free ≠ d ∧ PlainF s.free r
theorem plainF_plain : ∀ (d : V) (l : List St), PlainF d (plainF d l)
  | d, [] => trivial
  | d, s :: r => by
    unfold plainF
    by_cases h : s.free = d
    · rw [if_pos h, h]; exact plainF_plain d r
    · rw [if_neg h]; exact ⟨h, plainF_plain _ r⟩
theorem plainF_rise : ∀ {a : Int} {d : V} {l : List St}, Rise a l → Rise a (plainF d l)
  | a, d, [], _ => trivial
  | a, d, s :: r, h => by
    unfold plainF
    by_cases e : s.free = d
    · rw [if_pos e]; exact rise_mono (plainF_rise h.2.2.2) (by have := h.1; omega)
    · rw [if_neg e]; exact ⟨h.1, h.2.1, h.2.2.1, plainF_rise h.2.2.2⟩
theorem plainF_at : ∀ {a : Int} {d : V} {l : List St} (t : Int), Rise a l → atS d t (plainF d l) = atS d t l
  | a, d, [], t, _ => rfl
  | a, d, s :: r, t, h => by
    unfold plainF
    by_cases e : s.free = d
    · rw [if_pos e, atS]
      by_cases ht : s.at_ ≤ t
      · rw [if_pos ht, ← e, plainF_at t h.2.2.2]
      · rw [if_neg ht, e]
        exact atS_low (plainF_rise h.2.2.2) (by omega)
    · rw [if_neg e, atS, atS]
      by_cases ht : s.at_ ≤ t
      · rw [if_pos ht, if_pos ht, plainF_at t h.2.2.2]
      · rw [if_neg ht, if_neg ht]
theorem plain_uniq : ∀ {x : Int} {d : V} {a b : List St}, Rise x a → Rise x b → PlainF d a → PlainF d b → (∀ t, x < t → atS d t a = atS d t b) → a = b
  | x, d, [], [], _, _, _, _, _ => rfl
  | x, d, [], s :: r, _, hb, _, pb, h => by
    have := h s.at_ hb.1
    rw [show atS d s.at_ [] = d from rfl, atS, if_pos (Int.le_refl _), atS_low hb.2.2.2 (Int.le_refl _)] at this
    exact absurd this.symm pb.1
  | x, d, s :: r, [], ha, _, pa, _, h => by
    have := h s.at_ ha.1
    rw [show atS d s.at_ [] = d from rfl, atS, if_pos (Int.le_refl _), atS_low ha.2.2.2 (Int.le_refl _)] at this
    exact absurd this pa.1
  | x, d, s :: r, u :: v, ha, hb, pa, pb, h => by
    have hs := h s.at_ ha.1
    have hu := h u.at_ hb.1
    rw [atS, if_pos (Int.le_refl _), atS_low ha.2.2.2 (Int.le_refl _), atS] at hs
    rw [atS, atS, if_pos (Int.le_refl _), atS_low hb.2.2.2 (Int.le_refl _)] at hu
    have he : s.at_ = u.at_ := by
      rcases Int.lt_trichotomy s.at_ u.at_ with l | e | g
      · rw [if_neg (by omega)] at hs; exact absurd hs pa.1
      · exact e
      · rw [if_neg (by omega)] at hu; exact absurd hu.symm pb.1
    have hf : s.free = u.free := by
      rw [if_pos (by omega), atS_low hb.2.2.2 (by omega)] at hs
      exact hs
    obtain rfl := St.ext' he hf
    have ih := plain_uniq (d := s.free) ha.2.2.2 hb.2.2.2 pa.2 pb.2 (fun t ht => by
      have := h t (by have := ha.1; omega)
      rw [atS, atS, if_pos (by omega), if_pos (by omega)] at this
      exact this)
    rw [ih]
theorem plain_ok {l : List St} (h : OkS l) : OkS (plainL l) ∧ begin_ (plainL l) = begin_ l ∧ (∀ t, atL (plainL l) t = atL l t) := by
  obtain ⟨h0, h1⟩ := h
  cases l with
  | nil => exact absurd rfl h0
  | cons s r =>
    refine ⟨⟨by simp [plainL], h1.1, h1.2.1, h1.2.2.1, plainF_rise h1.2.2.2⟩, rfl, fun t => ?_⟩
    unfold atL plainL
    rw [atS, atS, plainF_at t h1.2.2.2]
/-- two that are right and tell the same are the same, made plain -/
theorem plain_same {a b : List St} (ha : OkS a) (hb : OkS b) (h0 : begin_ a = begin_ b) (h : ∀ t, begin_ a ≤ t → atL a t = atL b t) : plainL a = plainL b := by
  obtain ⟨na, ha⟩ := ha
  obtain ⟨nb, hb⟩ := hb
  cases a with
  | nil => exact absurd rfl na
  | cons s r =>
    cases b with
    | nil => exact absurd rfl nb
    | cons u v =>
      have he : s.at_ = u.at_ := h0
      have k := h s.at_ (Int.le_refl _)
      have hf : s.free = u.free := by
        unfold atL at k
        rw [atS, atS, if_pos (Int.le_refl _), if_pos (by omega), atS_low ha.2.2.2 (Int.le_refl _), atS_low hb.2.2.2 (by omega)] at k
        exact k
      obtain rfl := St.ext' he hf
      have := plain_uniq (plainF_rise (d := s.free) ha.2.2.2) (plainF_rise (d := s.free) hb.2.2.2) (plainF_plain _ _) (plainF_plain _ _) (fun t ht => by
        rw [plainF_at t ha.2.2.2, plainF_at t hb.2.2.2]
        have k := h t (by show s.at_ ≤ t; omega)
        unfold atL at k
        rw [atS, atS, if_pos (by omega), if_pos (by omega)] at k
        exact k)
      show s :: plainF s.free r = s :: plainF s.free v
      rw [this]
theorem plainR_ok {l : List St} (h : OkS l) : plainR l = plainL l := if_pos h
theorem plainR_no {l : List St} (h : ¬ OkS l) : plainR l = [] := if_neg h
theorem plainL_len : ∀ (l : List St), (plainL l).length ≤ l.length := by
  have key : ∀ (d : V) (l : List St), (plainF d l).length ≤ l.length := by
    intro d l
    induction l generalizing d with
    | nil => simp [plainF]
    | cons s r ih =>
      unfold plainF
      split
      · have := ih s.free; simp; omega
      · have := ih s.free; simp; omega
  intro l
  cases l with
  | nil => simp [plainL]
  | cons s r => have := key s.free r; simp [plainL]; omega
end Go.Proofs.Ytcdajfiohhbdgaa.W
