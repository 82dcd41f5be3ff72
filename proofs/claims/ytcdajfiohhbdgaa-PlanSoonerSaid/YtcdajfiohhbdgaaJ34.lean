/-
  Several texts in one: PnSpec, PnBooks.
-/
import Derived.Test.YtcdajfiohhbdgaaJ33
import Derived.Test.YtcdajfiohhbdgaaStTurn
import Derived.Test.YtcdajfiohhbdgaaStTimes

/-
  Profiles as lists of steps: what is free then; less of it, for shares; bookings; runs; with which times something rises.
-/
namespace Go.Proofs.Ytcdajfiohhbdgaa.W
set_option maxRecDepth 100000
set_option linter.unusedVariables false

abbrev FL := List (List St)
def frL (F : FL) : Fr := fun k t => atL (F.getD k []) t
/-- right, from now on -/
def OkFL (F : FL) (now : Int) : Prop := ∀ l ∈ F, OkS l ∧ begin_ l = now
theorem okFL_at {F : FL} {now : Int} (h : OkFL F now) {k : Nat} (hk : k < F.length) : OkS (F.getD k []) ∧ begin_ (F.getD k []) = now := by
  rw [List.getD_eq_getElem?_getD, List.getElem?_eq_getElem hk, Option.getD_some]
  exact h _ (List.getElem_mem hk)
theorem okFr_of {F : FL} {now : Int} (h : OkFL F now) : OkFr (frL F) F.length now := fun k hk t _ => at_ok (okFL_at h hk).1 t
theorem getD_set {α : Type} (l : List α) (k j : Nat) (x d : α) (hk : k < l.length) : (l.set k x).getD j d = if j = k then x else l.getD j d := by
  rw [List.getD_eq_getElem?_getD, List.getElem?_set, List.getD_eq_getElem?_getD]
  by_cases e : k = j
  · subst e; simp [hk]
  · rw [if_neg e, if_neg (fun x => e x.symm)]
theorem frL_set {F : FL} {k : Nat} (hk : k < F.length) (x : List St) (j : Nat) (u : Int) : frL (F.set k x) j u = if j = k then atL x u else frL F j u := by
  unfold frL
  rw [getD_set F k j x [] hk]
  split <;> rfl
theorem okFL_set {F : FL} {now : Int} (h : OkFL F now) (k : Nat) {x : List St} (hx : OkS x ∧ begin_ x = now) : OkFL (F.set k x) now := by
  intro l hl
  rcases List.mem_or_eq_of_mem_set hl with h' | rfl
  · exact h l h'
  · exact hx
theorem less_ok_iff {a d : V} (ha : a.Ok) (hd : d.Ok) : (a.less d).Ok ↔ V.Le d a := by
  obtain ⟨⟨a0, a1⟩, ⟨a2, a3⟩, ⟨a4, a5⟩, a6, a7⟩ := ha
  obtain ⟨⟨b0, b1⟩, ⟨b2, b3⟩, ⟨b4, b5⟩, b6, b7⟩ := hd
  unfold V.Ok V.Le V.less
  simp only
  constructor <;> intro h <;> omega

/-- something is taken of a node -/
def takeL (F : FL) (k : Nat) (f t : Int) (d : V) : Option FL := if turnE false (F.getD k []) f t d = 0 then some (F.set k (turnR false (F.getD k []) f t d)) else none
theorem takeL_len {F F' : FL} {k : Nat} {f t : Int} {d : V} (h : takeL F k f t d = some F') : F'.length = F.length := by
  unfold takeL at h
  split at h
  · injection h with h; subst h; simp
  · cases h
theorem takeL_ok {F : FL} {now : Int} (h : OkFL F now) {k : Nat} (hk : k < F.length) {d : V} (hd : d.Ok) {f t : Int} (h0 : now ≤ f) (h1 : f < t) (h2 : t ≤ 281474976710656) :
    (∀ F', takeL F k f t d = some F' → OkFL F' now ∧ (∀ j u, now ≤ u → frL F' j u = if j = k ∧ f ≤ u ∧ u < t then (frL F j u).less d else frL F j u) ∧ ∀ u, f ≤ u → u < t → V.Le d (frL F k u)) ∧
    (takeL F k f t d = none → ∃ u, f ≤ u ∧ u < t ∧ ¬ V.Le d (frL F k u)) := by
  obtain ⟨a0, a1⟩ := okFL_at h hk
  have harg : ArgsOk (F.getD k []) f t d := ⟨a0, hd, by omega, h1, h2⟩
  have hfine : Fine false (F.getD k []) f t d ↔ ∀ u, f ≤ u → u < t → V.Le d (frL F k u) := by
    rw [fine_iff harg]
    constructor
    · intro g u u0 u1; exact (less_ok_iff (at_ok a0 u) hd).1 (g u u0 u1)
    · intro g u u0 u1; exact (less_ok_iff (at_ok a0 u) hd).2 (g u u0 u1)
  by_cases hf : Fine false (F.getD k []) f t d
  · have e : takeL F k f t d = some (F.set k (turnR false (F.getD k []) f t d)) := if_pos (turn_in harg hf).2
    obtain ⟨b0, b1, b2⟩ := turnR_ok harg hf
    refine ⟨fun F' hF => ?_, fun hn => (by rw [e] at hn; cases hn)⟩
    rw [e] at hF
    injection hF with hF
    subst hF
    refine ⟨okFL_set h k ⟨b0, b1.trans a1⟩, fun j u hu => ?_, hfine.1 hf⟩
    rw [frL_set hk]
    by_cases ej : j = k
    · subst ej
      rw [if_pos rfl, b2 u (by omega)]
      by_cases hin : f ≤ u ∧ u < t
      · rw [if_pos hin, if_pos ⟨rfl, hin⟩]; rfl
      · rw [if_neg hin, if_neg (fun x => hin x.2)]; rfl
    · rw [if_neg ej, if_neg (fun x => ej x.1)]
  · have e : takeL F k f t d = none := if_neg (by rw [(turn_over harg hf).2]; decide)
    refine ⟨fun F' hF => (by rw [e] at hF; cases hF), fun _ => ?_⟩
    apply Classical.byContradiction
    intro hn
    apply hf
    rw [hfine]
    intro u u0 u1
    apply Classical.byContradiction
    intro hc
    exact hn ⟨u, u0, u1, hc⟩
/-- each so long at most -/
def LenLe (F : FL) (B : Nat) : Prop := ∀ l ∈ F, l.length ≤ B
theorem lenLe_at {F : FL} {B : Nat} (h : LenLe F B) (k : Nat) : (F.getD k []).length ≤ B := by
  by_cases hk : k < F.length
  · rw [List.getD_eq_getElem?_getD, List.getElem?_eq_getElem hk, Option.getD_some]; exact h _ (List.getElem_mem hk)
  · rw [List.getD_eq_getElem?_getD, List.getElem?_eq_none (by omega)]; simp
theorem plainF_lenP : ∀ (l : List St) (d : V), (plainF d l).length ≤ l.length
  | [], d => Nat.le_refl _
  | s :: r, d => by
    rw [plainF]
    split
    · have := plainF_lenP r s.free; rw [List.length_cons]; omega
    · have := plainF_lenP r s.free; simp only [List.length_cons]; omega
theorem plainL_lenP (l : List St) : (plainL l).length ≤ l.length := by
  cases l with
  | nil => exact Nat.le_refl _
  | cons s r => have := plainF_lenP r s.free; simp only [plainL, List.length_cons]; omega
theorem turnR_lenP {m : Bool} {l : List St} {f t : Int} {need : V} : (turnR m l f t need).length ≤ l.length + 2 := by
  have cut_len : ∀ (l : List St) (t : Int), (cutL l t).length ≤ l.length + 1 := by
    intro l t
    unfold cutL
    split
    · omega
    · simp only [List.length_append, List.length_take, List.length_cons, List.length_drop]; omega
  unfold turnR
  split
  · have h0 := plainL_lenP ((cut2 l f t).map (chg m f t need))
    have h1 := cut_len l f
    have h2 := cut_len (cutL l f) t
    rw [List.length_map] at h0
    unfold cut2 at h0 ⊢; omega
  · simp
theorem takeL_lens {F F' : FL} {B : Nat} (h : LenLe F B) {k : Nat} {f t : Int} {d : V} (hF : takeL F k f t d = some F') : LenLe F' (B + 2) := by
  unfold takeL at hF
  split at hF
  · injection hF with hF; subst hF
    intro l hl
    rcases List.mem_or_eq_of_mem_set hl with h' | rfl
    · have := h l h'; omega
    · have := turnR_lenP (m := false) (l := F.getD k []) (f := f) (t := t) (need := d)
      have := lenLe_at h k
      omega
  · cases hF

/-- need is taken so many times as shares say -/
def lessF (need : V) (f t : Int) : FL → List Sh → Option FL
  | F, [] => some F
  | F, s :: r => if timesE need s.many = 0 then (match takeL F s.node.toNat f t (timesR need s.many) with | some F' => lessF need f t F' r | none => none) else none
theorem lessF_lens {need : V} {f t : Int} : ∀ {l : List Sh} {F F' : FL} {B : Nat}, LenLe F B → lessF need f t F l = some F' → LenLe F' (B + 2 * l.length) ∧ F'.length = F.length
  | [], F, F', B, h, e => by injection e with e; subst e; exact ⟨h, rfl⟩
  | s :: r, F, F', B, h, e => by
    rw [lessF] at e
    split at e
    · cases hk : takeL F s.node.toNat f t (timesR need s.many) with
      | none => rw [hk] at e; cases e
      | some F1 =>
        rw [hk] at e
        obtain ⟨h1, h2⟩ := lessF_lens (takeL_lens h hk) e
        refine ⟨fun l hl => ?_, h2.trans (takeL_len hk)⟩
        have := h1 l hl
        rw [List.length_cons]; omega
    · cases e
theorem lessF_len {need : V} {f t : Int} : ∀ {l : List Sh} {F F' : FL}, lessF need f t F l = some F' → F'.length = F.length
  | [], F, F', e => by injection e with e; subst e; rfl
  | s :: r, F, F', e => by
    rw [lessF] at e
    split at e
    · cases hk : takeL F s.node.toNat f t (timesR need s.many) with
      | none => rw [hk] at e; cases e
      | some F1 => rw [hk] at e; exact (lessF_len e).trans (takeL_len hk)
    · cases e
theorem timesE_iff {need : V} (h : need.Ok) {n : Int} (hn : 0 ≤ n) : (timesE need n = 0 ↔ (need.by n).Ok) ∧ ((need.by n).Ok → timesR need n = need.by n) := by
  rw [(times_in ⟨h, hn⟩).1, (times_in ⟨h, hn⟩).2]
  constructor
  · constructor
    · intro e
      apply Classical.byContradiction
      intro x
      rw [(out_over x).2] at e
      cases e
    · intro x; exact (out_ok x).2
  · intro x; exact (out_ok x).1
theorem need4_cons {need : V} {s : Sh} {r : List Sh} {n a : Int} (h : RiseH n a (s :: r)) (ha : -1 ≤ a) (k : Nat) : need4 need (s :: r) k = if k = s.node.toNat then need.by s.many else need4 need r k := by
  have h0 := h.1
  unfold need4
  by_cases e : s.node = (k : Int)
  · rw [onH, if_pos e, onH_low (a := s.node) (by omega) h.2.2.2.2, Int.add_zero, if_pos (by omega)]
  · rw [onH, if_neg e, Int.zero_add, if_neg (by omega)]
theorem vless_zero (a : V) : a.less V.zero = a := V.ext' (by simp [V.less, V.zero]) (by simp [V.less, V.zero]) (by simp [V.less, V.zero]) (by simp [V.less, V.zero])
theorem need4_nil (need : V) (k : Nat) : need4 need [] k = V.zero := by unfold need4 onH; rw [by_zero]
theorem need4_low {need : V} {l : List Sh} {n a : Int} (h : RiseH n a l) {k : Nat} (hk : (k : Int) ≤ a) : need4 need l k = V.zero := by unfold need4; rw [onH_low hk h, by_zero]
theorem lessF_ok {need : V} (hneed : need.Ok) {now f t : Int} (h0 : now ≤ f) (h1 : f < t) (h2 : t ≤ 281474976710656) : ∀ {l : List Sh} {a : Int} {F : FL}, -1 ≤ a → OkFL F now → RiseH F.length a l →
    (∀ F', lessF need f t F l = some F' → OkFL F' now ∧ (∀ k u, now ≤ u → frL F' k u = if f ≤ u ∧ u < t then (frL F k u).less (need4 need l k) else frL F k u) ∧ ∀ k, k < F.length → ∀ u, f ≤ u → u < t → V.Le (need4 need l k) (frL F k u)) ∧
    (lessF need f t F l = none → ∃ k, k < F.length ∧ ∃ u, f ≤ u ∧ u < t ∧ ¬ V.Le (need4 need l k) (frL F k u))
  | [], a, F, ha, hF, hr => by
    refine ⟨fun F' e => ?_, fun e => (by cases e)⟩
    injection e with e
    subst e
    refine ⟨hF, fun k u hu => ?_, fun k hk u hu _ => ?_⟩
    · rw [need4_nil, vless_zero]; split <;> rfl
    · rw [need4_nil]
      have := okFr_of hF k hk u (by omega)
      obtain ⟨⟨a0, _⟩, ⟨a2, _⟩, ⟨a4, _⟩, a6, _⟩ := this
      exact ⟨a0, a2, a4, a6⟩
  | s :: r, a, F, ha, hF, hr => by
    have hr' := hr
    obtain ⟨r0, r1, r2, r3, r4⟩ := hr'
    have hkF : s.node.toNat < F.length := by omega
    have hks : (s.node.toNat : Int) = s.node := by omega
    obtain ⟨t0, t1⟩ := timesE_iff hneed (n := s.many) (by omega)
    rw [lessF]
    by_cases hT : timesE need s.many = 0
    · have hok := t0.1 hT
      rw [if_pos hT, t1 hok]
      obtain ⟨c0, c1⟩ := takeL_ok hF hkF hok h0 h1 h2
      cases hk : takeL F s.node.toNat f t (need.by s.many) with
      | none =>
        refine ⟨fun F' e => (by cases e), fun _ => ?_⟩
        obtain ⟨u, u0, u1, u2⟩ := c1 hk
        refine ⟨s.node.toNat, hkF, u, u0, u1, ?_⟩
        rw [need4_cons hr ha, if_pos rfl]; exact u2
      | some F1 =>
        obtain ⟨d0, d1, d2⟩ := c0 F1 hk
        have hlen := takeL_len hk
        obtain ⟨e0, e1⟩ := lessF_ok hneed h0 h1 h2 (l := r) (a := s.node) (F := F1) (by omega) d0 (by rw [hlen]; exact r4)
        have hz : need4 need r s.node.toNat = V.zero := need4_low r4 (by omega)
        refine ⟨fun F' e => ?_, fun e => ?_⟩
        · obtain ⟨g0, g1, g2⟩ := e0 F' e
          refine ⟨g0, fun k u hu => ?_, fun k hk2 u u0 u1 => ?_⟩
          · rw [g1 k u hu, d1 k u hu, need4_cons hr ha]
            by_cases ek : k = s.node.toNat
            · subst ek
              rw [if_pos rfl, hz, vless_zero]
              by_cases hin : f ≤ u ∧ u < t
              · simp [hin]
              · simp [hin]
            · simp [ek]
          · rw [need4_cons hr ha]
            by_cases ek : k = s.node.toNat
            · subst ek
              rw [if_pos rfl]; exact d2 u u0 u1
            · rw [if_neg ek]
              have := g2 k (by rw [hlen]; exact hk2) u u0 u1
              rw [d1 k u (by omega), if_neg (fun x => ek x.1)] at this
              exact this
        · obtain ⟨k, k0, u, u0, u1, u2⟩ := e1 e
          rw [hlen] at k0
          refine ⟨k, k0, u, u0, u1, ?_⟩
          rw [need4_cons hr ha]
          by_cases ek : k = s.node.toNat
          · subst ek
            rw [hz, d1 _ u (by omega), if_pos ⟨rfl, u0, u1⟩] at u2
            exfalso
            apply u2
            have h3 := (less_ok_iff (okFr_of hF _ hkF u (by omega)) hok).2 (d2 u u0 u1)
            obtain ⟨⟨a0, _⟩, ⟨a2, _⟩, ⟨a4, _⟩, a6, _⟩ := h3
            exact ⟨a0, a2, a4, a6⟩
          · rw [if_neg ek]
            rw [d1 k u (by omega), if_neg (fun x => ek x.1)] at u2
            exact u2
    · rw [if_neg hT]
      refine ⟨fun F' e => (by cases e), fun _ => ⟨s.node.toNat, hkF, f, Int.le_refl _, h1, fun hle => ?_⟩⟩
      rw [need4_cons hr ha, if_pos rfl] at hle
      exact hT (t0.2 (by_ok (okFr_of hF _ hkF f h0) hneed (by omega) hle))

/-- runs, one behind the other -/
def runF (now : Int) : FL → List Rn → Option FL
  | F, [] => some F
  | F, r :: l => match lessF r.need now r.til F r.sh with | some F' => runF now F' l | none => none
theorem usedR_cons (k : Nat) (u : Int) (r : Rn) (l : List Rn) : usedR k u (r :: l) = (if u < r.til then need4 r.need r.sh k else V.zero).plus (usedR k u l) := rfl
theorem vless_plus (a b c : V) : a.less (b.plus c) = (a.less b).less c := V.ext' (by simp [V.less, V.plus]; omega) (by simp [V.less, V.plus]; omega) (by simp [V.less, V.plus]; omega) (by simp [V.less, V.plus]; omega)
theorem vle_split {a b c : V} (hb : V.Le V.zero b) (hc : V.Le V.zero c) : V.Le (b.plus c) a ↔ V.Le b a ∧ V.Le c (a.less b) := by
  obtain ⟨b0, b1, b2, b3⟩ := hb
  obtain ⟨c0, c1, c2, c3⟩ := hc
  simp only [V.zero] at b0 b1 b2 b3 c0 c1 c2 c3
  unfold V.Le V.plus V.less
  simp only
  constructor
  · intro h; omega
  · intro h; omega
theorem runF_ok {now : Int} : ∀ {l : List Rn} {F : FL}, OkFL F now → (∀ r ∈ l, RnOk F.length now r) →
    (∀ F', runF now F l = some F' → OkFL F' now ∧ F'.length = F.length ∧ (∀ k, k < F.length → ∀ u, now ≤ u → frL F' k u = (frL F k u).less (usedR k u l)) ∧ ∀ k, k < F.length → ∀ u, now ≤ u → V.Le (usedR k u l) (frL F k u)) ∧
    (runF now F l = none → ∃ k, k < F.length ∧ ∃ u, now ≤ u ∧ ¬ V.Le (usedR k u l) (frL F k u))
  | [], F, hF, hr => by
    refine ⟨fun F' e => ?_, fun e => (by cases e)⟩
    injection e with e
    subst e
    refine ⟨hF, rfl, fun k hk u hu => (vless_zero _).symm, fun k hk u hu => ?_⟩
    obtain ⟨⟨a0, _⟩, ⟨a2, _⟩, ⟨a4, _⟩, a6, _⟩ := okFr_of hF k hk u hu
    exact ⟨a0, a2, a4, a6⟩
  | r :: l, F, hF, hr => by
    have hr0 := hr r (by simp)
    obtain ⟨q0, q1, q2, q3⟩ := hr0
    obtain ⟨c0, c1⟩ := lessF_ok q1 (now := now) (f := now) (t := r.til) (Int.le_refl _) q2 q3 (l := r.sh) (a := -1) (F := F) (Int.le_refl _) hF q0
    have hp := fun k u => part_nn (hr r (by simp)) k u
    have hu0 := usedR_nn (n := F.length) (now := now) (l := l) (fun x hx => hr x (List.mem_cons_of_mem _ hx))
    rw [runF]
    cases hL : lessF r.need now r.til F r.sh with
    | none =>
      refine ⟨fun F' e => (by cases e), fun _ => ?_⟩
      obtain ⟨k, hk, u, u0, u1, u2⟩ := c1 hL
      refine ⟨k, hk, u, u0, fun x => u2 ?_⟩
      rw [usedR_cons, if_pos u1] at x
      have h3 := hp k u
      rw [if_pos u1] at h3
      exact ((vle_split h3 (hu0 k u)).1 x).1
    | some F1 =>
      obtain ⟨d0, d1, d2⟩ := c0 F1 hL
      have hlen : F1.length = F.length := lessF_len hL
      obtain ⟨e0, e1⟩ := runF_ok (l := l) (F := F1) d0 (by rw [hlen]; exact fun x hx => hr x (List.mem_cons_of_mem _ hx))
      have hd : ∀ k u, now ≤ u → frL F1 k u = (frL F k u).less (if u < r.til then need4 r.need r.sh k else V.zero) := by
        intro k u hu
        rw [d1 k u hu]
        by_cases hx : u < r.til
        · rw [if_pos ⟨hu, hx⟩, if_pos hx]
        · rw [if_neg (fun y => hx y.2), if_neg hx, vless_zero]
      have hle : ∀ k, k < F.length → ∀ u, now ≤ u → V.Le (if u < r.til then need4 r.need r.sh k else V.zero) (frL F k u) := by
        intro k hk u hu
        by_cases hx : u < r.til
        · rw [if_pos hx]; exact d2 k hk u hu hx
        · rw [if_neg hx]
          obtain ⟨⟨a0, _⟩, ⟨a2, _⟩, ⟨a4, _⟩, a6, _⟩ := okFr_of hF k hk u hu
          exact ⟨a0, a2, a4, a6⟩
      refine ⟨fun F' e => ?_, fun e => ?_⟩
      · obtain ⟨g0, g1, g2, g3⟩ := e0 F' e
        refine ⟨g0, g1.trans hlen, fun k hk u hu => ?_, fun k hk u hu => ?_⟩
        · rw [g2 k (by omega) u hu, hd k u hu, usedR_cons, vless_plus]
        · have h3 := g3 k (by omega) u hu
          rw [hd k u hu] at h3
          rw [usedR_cons]
          exact (vle_split (hp k u) (hu0 k u)).2 ⟨hle k hk u hu, h3⟩
      · obtain ⟨k, hk, u, u0, u2⟩ := e1 e
        refine ⟨k, by omega, u, u0, fun x => u2 ?_⟩
        rw [usedR_cons] at x
        rw [hd k u u0]
        exact ((vle_split (hp k u) (hu0 k u)).1 x).2
end Go.Proofs.Ytcdajfiohhbdgaa.W


/-
  Bookings of a profile; the least of a list of steps, tick by tick; with which times something rises, and the first at which something can be placed.
-/
namespace Go.Proofs.Ytcdajfiohhbdgaa.W
set_option maxRecDepth 100000
set_option linter.unusedVariables false

/-- bookings, one behind the other -/
def bookF (caps : List V) (now : Int) : FL → List Bk → Option FL
  | F, [] => some F
  | F, b :: r => match takeL F b.node.toNat (if b.frm < now then now else b.frm) b.til (caps.getD b.node.toNat V.zero) with | some F' => bookF caps now F' r | none => none
theorem bookF_lens {caps : List V} {now : Int} : ∀ {l : List Bk} {F F' : FL} {B : Nat}, LenLe F B → bookF caps now F l = some F' → LenLe F' (B + 2 * l.length) ∧ F'.length = F.length
  | [], F, F', B, h, e => by injection e with e; subst e; exact ⟨h, rfl⟩
  | s :: r, F, F', B, h, e => by
    rw [bookF] at e
    split at e
    · rename_i F1 hk
      obtain ⟨h1, h2⟩ := bookF_lens (takeL_lens h hk) e
      refine ⟨fun l hl => ?_, h2.trans (takeL_len hk)⟩
      have := h1 l hl
      rw [List.length_cons]; omega
    · cases e
theorem caps_ok {caps : List V} (hc : ∀ c ∈ caps, c.Ok) (k : Nat) : (caps.getD k V.zero).Ok := by
  rw [List.getD_eq_getElem?_getD]
  by_cases hk : k < caps.length
  · rw [List.getElem?_eq_getElem hk, Option.getD_some]; exact hc _ (List.getElem_mem hk)
  · rw [List.getElem?_eq_none (by omega), Option.getD_none]; unfold V.Ok V.zero; simp
theorem vless_self (a : V) : a.less a = V.zero := V.ext' (by simp [V.less, V.zero]) (by simp [V.less, V.zero]) (by simp [V.less, V.zero]) (by simp [V.less, V.zero])
theorem meets_snoc {P : List Bk} {b : Bk} {node f t : Int} : Meets (P ++ [b]) node f t ↔ Meets P node f t ∨ Meet b node f t := by
  unfold Meets
  simp only [List.mem_append, List.mem_singleton]
  constructor
  · rintro ⟨c, h | rfl, h2⟩
    · exact .inl ⟨c, h, h2⟩
    · exact .inr h2
  · rintro (⟨c, h, h2⟩ | h)
    · exact ⟨c, .inl h, h2⟩
    · exact ⟨b, .inr rfl, h⟩
/-- none meets one ahead of it: so all are taken, and then a node is free just where it isn't booked -/
theorem bookF_ok {caps : List V} (hc : ∀ c ∈ caps, c.Ok) {now n : Int} (hn : n = caps.length) : ∀ {l P : List Bk} {F : FL}, OkFL F now → F.length = caps.length → (∀ b ∈ l, now < b.til) → RightK n P l →
    (∀ k, k < caps.length → ∀ u, now ≤ u → frL F k u = roomAt caps P k u) →
    ∃ F', bookF caps now F l = some F' ∧ OkFL F' now ∧ F'.length = caps.length ∧ ∀ k, k < caps.length → ∀ u, now ≤ u → frL F' k u = roomAt caps (P ++ l) k u
  | [], P, F, hF, hlen, hl, hr, hfr => ⟨F, rfl, hF, hlen, by rw [List.append_nil]; exact hfr⟩
  | b :: r, P, F, hF, hlen, hl, hr, hfr => by
    obtain ⟨⟨hb, hmeet⟩, hr'⟩ := hr
    obtain ⟨b0, ⟨b1, b2⟩, b3, b4, b5⟩ := hb
    have hkF : b.node.toNat < F.length := by omega
    have hks : (b.node.toNat : Int) = b.node := by omega
    have hbt := hl b (by simp)
    have hfl : now ≤ (if b.frm < now then now else b.frm) ∧ (if b.frm < now then now else b.frm) < b.til ∧ b.frm ≤ (if b.frm < now then now else b.frm) := by split <;> omega
    have hfu : ∀ u, now ≤ u → ((if b.frm < now then now else b.frm) ≤ u ↔ b.frm ≤ u) := by intro u hu; split <;> omega
    generalize (if b.frm < now then now else b.frm) = f at hfl hfu
    have hcap := caps_ok hc b.node.toNat
    obtain ⟨c0, c1⟩ := takeL_ok hF hkF hcap (f := f) (t := b.til) hfl.1 hfl.2.1 (by omega)
    have hnot : ∀ u, f ≤ u → u < b.til → ¬ Meets P b.node.toNat u (u + 1) := by
      rintro u u0 u1 ⟨c, hcP, m0, m1, m2, m3, m4⟩
      refine (hmeet c hcP).2 ⟨by omega, m1, b4, by omega, by omega⟩
    have hfin : bookF caps now F (b :: r) = match takeL F b.node.toNat (if b.frm < now then now else b.frm) b.til (caps.getD b.node.toNat V.zero) with | some F' => bookF caps now F' r | none => none := rfl
    cases hk : takeL F b.node.toNat f b.til (caps.getD b.node.toNat V.zero) with
    | none =>
      obtain ⟨u, u0, u1, u2⟩ := c1 hk
      rw [hfr _ (by omega) u (by omega), roomAt, if_neg (hnot u u0 u1)] at u2
      exact absurd (vle_refl _) u2
    | some F1 =>
      obtain ⟨d0, d1, d2⟩ := c0 F1 hk
      have hlen1 := takeL_len hk
      obtain ⟨F2, e0, e1, e2, e3⟩ := bookF_ok hc hn (l := r) (P := P ++ [b]) (F := F1) d0 (by omega) (fun x hx => hl x (List.mem_cons_of_mem _ hx)) hr' (fun k hk' u hu => by
        rw [d1 k u hu, hfr k hk' u hu]
        by_cases hin : k = b.node.toNat ∧ f ≤ u ∧ u < b.til
        · rw [if_pos hin]
          obtain ⟨rfl, h1, h2⟩ := hin
          unfold roomAt
          rw [if_neg (hnot u h1 h2), if_pos (meets_snoc.2 (.inr ⟨hks.symm, b4, by omega, by omega, by omega⟩)), vless_self]
        · rw [if_neg hin]
          unfold roomAt
          have : Meets (P ++ [b]) k u (u + 1) ↔ Meets P k u (u + 1) := by
            rw [meets_snoc]
            constructor
            · rintro (h | ⟨m0, m1, m2, m3, m4⟩)
              · exact h
              · exact absurd ⟨by omega, (hfu u hu).2 (by omega), m4⟩ hin
            · exact .inl
          simp only [this])
      refine ⟨F2, ?_, e1, e2, fun k hk' u hu => ?_⟩
      · have hmax : (if b.frm < now then now else b.frm) = f := by
          rcases Int.lt_or_le b.frm now with h | h
          · rw [if_pos h]
            have h1 := (hfu now (Int.le_refl _)).2 (by omega)
            omega
          · rw [if_neg (by omega)]
            have h1 := (hfu b.frm h).2 (Int.le_refl _)
            omega
        rw [bookF, hmax, hk]
        exact e0
      · rw [e3 k hk' u hu, List.append_assoc]; rfl
/-- those that are over are gone -/
def expireL (now : Int) (l : List Bk) : List Bk := l.filter fun b => decide (now < b.til)
theorem rightK_sub {n : Int} {l m : List Bk} (h : l.Sublist m) : ∀ {P Q : List Bk}, (∀ b ∈ P, b ∈ Q) → RightK n Q m → RightK n P l := by
  induction h with
  | slnil => intro P Q _ _; trivial
  | cons b _ ih => intro P Q hP hR; exact ih (fun x hx => List.mem_append_left _ (hP x hx)) hR.2
  | cons_cons b _ ih =>
    intro P Q hP hR
    refine ⟨⟨hR.1.1, fun c hc => hR.1.2 c (hP c hc)⟩, ih (fun x hx => ?_) hR.2⟩
    rcases List.mem_append.1 hx with h | h
    · exact List.mem_append_left _ (hP x h)
    · exact List.mem_append_right _ h
theorem rightBk_sub {n : Int} {l m : List Bk} (h : l.Sublist m) (hm : RightBk n m) : RightBk n l := ⟨rightK_sub h (fun _ h => h) hm.1, Nat.le_trans h.length_le hm.2⟩
theorem expire_sub (now : Int) (l : List Bk) : (expireL now l).Sublist l := List.filter_sublist
theorem expire_room (caps : List V) {now : Int} (l : List Bk) (k : Nat) {u : Int} (hu : now ≤ u) : roomAt caps (expireL now l) k u = roomAt caps l k u := by
  have : Meets (expireL now l) k u (u + 1) ↔ Meets l k u (u + 1) := by
    unfold Meets expireL
    constructor
    · rintro ⟨b, hb, h⟩; exact ⟨b, (List.mem_filter.1 hb).1, h⟩
    · rintro ⟨b, hb, h⟩
      refine ⟨b, List.mem_filter.2 ⟨hb, decide_eq_true ?_⟩, h⟩
      have := h.2.2.2.2; omega
  unfold roomAt
  simp only [this]
/-- what nodes have, from now on -/
def newF (now : Int) (caps : List V) : FL := caps.map fun c => [⟨now, c⟩]
theorem newF_ok {now : Int} (h0 : 0 ≤ now) (h1 : now ≤ 281474976710656) {caps : List V} (hc : ∀ c ∈ caps, c.Ok) : OkFL (newF now caps) now ∧ (newF now caps).length = caps.length ∧ ∀ k, k < caps.length → ∀ u, now ≤ u → frL (newF now caps) k u = roomAt caps [] k u := by
  refine ⟨fun l hl => ?_, by simp [newF], fun k hk u hu => ?_⟩
  · obtain ⟨c, hc', rfl⟩ := List.mem_map.1 hl
    refine ⟨⟨by simp, ⟨by show (-1 : Int) < now; omega, h1, hc c hc', trivial⟩⟩, rfl⟩
  · unfold frL newF roomAt
    have hn : ¬ Meets [] k u (u + 1) := fun ⟨b, hb, _⟩ => (by cases hb)
    rw [if_neg hn]
    simp only [List.getD_eq_getElem?_getD, List.getElem?_map, List.getElem?_eq_getElem hk, Option.map_some, Option.getD_some]
    show atS V.zero u [⟨now, caps[k]⟩] = _
    rw [atS, if_pos hu]
    rfl
/-- the profile whole -/
def planF (now : Int) (caps : List V) (runs : List Rn) (books : List Bk) : Option FL :=
  match bookF caps now (newF now caps) (expireL now books) with | some F => runF now F runs | none => none
theorem planF_ok {now : Int} (h0 : 0 ≤ now) (h1 : now ≤ 281474976710656) {caps : List V} (hc : ∀ c ∈ caps, c.Ok) {runs : List Rn} {books : List Bk} (hb : RightBk caps.length books) (hr : ∀ r ∈ runs, RnOk caps.length now r) :
    (∃ F0, bookF caps now (newF now caps) (expireL now books) = some F0 ∧ OkFL F0 now ∧ F0.length = caps.length) ∧
    (∀ F, planF now caps runs books = some F → OkFL F now ∧ F.length = caps.length ∧ (∀ k, k < caps.length → ∀ u, now ≤ u → frL F k u = frOf caps runs books k u) ∧ ValidFr caps.length now caps runs books) ∧
    (planF now caps runs books = none → ¬ ValidFr caps.length now caps runs books) := by
  obtain ⟨a0, a1, a2⟩ := newF_ok h0 h1 hc
  obtain ⟨F0, b0, b1, b2, b3⟩ := bookF_ok hc (n := caps.length) rfl (now := now) (l := expireL now books) (P := []) a0 a1 (fun b hb => of_decide_eq_true (List.mem_filter.1 hb).2) (rightK_sub (expire_sub now books) (fun _ h => h) hb.1) a2
  have b4 : ∀ k, k < caps.length → ∀ u, now ≤ u → frL F0 k u = roomAt caps books k u := fun k hk u hu => by rw [b3 k hk u hu, List.nil_append, expire_room caps books k hu]
  obtain ⟨c0, c1⟩ := runF_ok (now := now) (l := runs) b1 (by rw [b2]; exact hr)
  have e : planF now caps runs books = runF now F0 runs := by unfold planF; rw [b0]
  rw [e]
  rw [b2] at c0 c1
  refine ⟨⟨F0, b0, b1, b2⟩, fun F hF => ?_, fun hF hv => ?_⟩
  · obtain ⟨d0, d1, d2, d3⟩ := c0 F hF
    refine ⟨d0, d1, fun k hk u hu => ?_, fun k hk u hu => ?_⟩
    · rw [d2 k hk u hu, b4 k hk u hu]; rfl
    · have := d3 k hk u hu
      rw [b4 k hk u hu] at this
      exact this
  · obtain ⟨k, hk, u, hu, hx⟩ := c1 hF
    rw [b4 k hk u hu] at hx
    exact hx (hv k hk u hu)

/-! ### The least of steps, tick by tick -/
theorem leastF_le {t : Int} {c : V} : ∀ {r : List St} {m : V}, V.Le c (leastF m t r) ↔ V.Le c m ∧ ∀ s ∈ r, s.at_ < t → V.Le c s.free
  | [], m => ⟨fun h => ⟨h, fun s hs => (by cases hs)⟩, fun h => h.1⟩
  | s :: r, m => by
    show V.Le c (leastF (if s.at_ < t then m.least s.free else m) t r) ↔ _
    rw [leastF_le]
    by_cases h : s.at_ < t
    · rw [if_pos h, least_le]
      constructor
      · rintro ⟨⟨h1, h2⟩, h3⟩
        refine ⟨h1, fun x hx hxt => ?_⟩
        rcases List.mem_cons.1 hx with rfl | hx
        · exact h2
        · exact h3 x hx hxt
      · rintro ⟨h1, h2⟩
        exact ⟨⟨h1, h2 s (by simp) h⟩, fun x hx hxt => h2 x (List.mem_cons_of_mem _ hx) hxt⟩
    · rw [if_neg h]
      constructor
      · rintro ⟨h1, h2⟩
        refine ⟨h1, fun x hx hxt => ?_⟩
        rcases List.mem_cons.1 hx with rfl | hx
        · exact absurd hxt h
        · exact h2 x hx hxt
      · rintro ⟨h1, h2⟩
        exact ⟨h1, fun x hx hxt => h2 x (List.mem_cons_of_mem _ hx) hxt⟩
theorem atS_some {u : Int} : ∀ {l : List St} {d : V} {a : Int}, Rise a l → atS d u l = d ∨ ∃ s ∈ l, s.at_ ≤ u ∧ atS d u l = s.free
  | [], d, a, _ => .inl rfl
  | s :: r, d, a, h => by
    rw [atS]
    split
    · rename_i hs
      rcases atS_some (u := u) (d := s.free) h.2.2.2 with e | ⟨x, hx, h1, h2⟩
      · exact .inr ⟨s, by simp, hs, e⟩
      · exact .inr ⟨x, List.mem_cons_of_mem _ hx, h1, h2⟩
    · exact .inl rfl
theorem leastR_le {f t : Int} (hft : f < t) {c : V} : ∀ {r : List St} {d : V} {a : Int}, Rise a r → (V.Le c (leastF (atS d f r) t (r.drop (run f r))) ↔ ∀ u, f ≤ u → u < t → V.Le c (atS d u r))
  | [], d, a, _ => ⟨fun h u _ _ => h, fun h => h f (Int.le_refl _) hft⟩
  | x :: r, d, a, h => by
    by_cases hx : x.at_ ≤ f
    · rw [run, if_pos hx, List.drop_succ_cons, atS, if_pos hx, leastR_le hft h.2.2.2]
      constructor
      · intro g u u0 u1; rw [atS, if_pos (by omega)]; exact g u u0 u1
      · intro g u u0 u1
        have := g u u0 u1
        rw [atS, if_pos (by omega)] at this
        exact this
    · rw [run, if_neg hx, List.drop_zero, atS, if_neg hx, leastF_le]
      have hge : ∀ s ∈ x :: r, f < s.at_ := fun s hs => by
        rcases List.mem_cons.1 hs with rfl | hs
        · omega
        · have := (rise_mem h.2.2.2 s hs).1; omega
      constructor
      · rintro ⟨h1, h2⟩ u u0 u1
        rcases atS_some (u := u) (d := d) h with e | ⟨s, hs, s0, s1⟩
        · rw [e]; exact h1
        · rw [s1]; exact h2 s hs (by omega)
      · intro g
        refine ⟨?_, fun s hs hst => ?_⟩
        · have := g f (Int.le_refl _) hft
          rw [atS, if_neg hx] at this
          exact this
        · have := g s.at_ (by have := hge s hs; omega) hst
          rw [atS_at h hs] at this
          exact this
theorem leastS_le {l : List St} (h : OkS l) {f t : Int} (h0 : begin_ l ≤ f) (h1 : f < t) {c : V} : V.Le c (leastS l f t) ↔ ∀ u, f ≤ u → u < t → V.Le c (atL l u) := by
  have e : leastS l f t = leastP l f t := if_pos ⟨h, h0, h1⟩
  rw [e]
  unfold leastP
  rw [lastOf_free h h0]
  obtain ⟨hn, hr⟩ := h
  cases l with
  | nil => exact absurd rfl hn
  | cons s r =>
    have hs : s.at_ ≤ f := h0
    have e2 : ∀ u, f ≤ u → atL (s :: r) u = atS s.free u r := fun u hu => by unfold atL; rw [atS, if_pos (by omega)]
    rw [List.tail_cons, List.drop_succ_cons, e2 f (Int.le_refl _), leastR_le h1 hr.2.2.2]
    constructor
    · intro g u u0 u1; rw [e2 u u0]; exact g u u0 u1
    · intro g u u0 u1
      have := g u u0 u1
      rw [e2 u u0] at this
      exact this
theorem leastS_low {F : FL} {now : Int} (h : OkFL F now) {k : Nat} (hk : k < F.length) {t wall : Int} (h0 : now ≤ t) (h1 : 1 ≤ wall) : leastS (F.getD k []) t (t + wall) = lowF (frL F k) t (wall - 1).toNat := by
  obtain ⟨a0, a1⟩ := okFL_at h hk
  refine lowF_uniq fun c => ?_
  rw [leastS_le a0 (by omega) (by omega)]
  constructor
  · intro g i hi; exact g _ (by omega) (by omega)
  · intro g u u0 u1
    have := g (u - t).toNat (by omega)
    rwa [show t + ((u - t).toNat : Int) = u by omega] at this

/-! ### Times at which something rises -/
def riseF (d : V) : List St → List Int
  | [] => []
  | s :: r => (if V.Le s.free d then [] else [s.at_]) ++ riseF s.free r
def riseL : List St → List Int
  | [] => []
  | s :: r => riseF s.free r
def risesF (F : FL) (part : List Int) : List Int := part.flatMap fun x => riseL (F.getD x.toNat [])
theorem riseF_le {t : Int} : ∀ {r : List St} {d : V} {a u : Int}, Rise a r → u ≤ t → (∀ x ∈ riseF d r, ¬ (u < x ∧ x ≤ t)) → V.Le (atS d t r) (atS d u r)
  | [], d, a, u, _, _, _ => vle_refl _
  | s :: r, d, a, u, h, hut, hx => by
    by_cases h1 : s.at_ ≤ u
    · rw [atS, if_pos (by omega), atS, if_pos h1]
      exact riseF_le h.2.2.2 hut (fun x hx' => hx x (by rw [riseF]; exact List.mem_append_right _ hx'))
    · by_cases h2 : s.at_ ≤ t
      · rw [atS, if_pos h2, atS, if_neg h1]
        have h3 : V.Le s.free d := by
          apply Classical.byContradiction
          intro hc
          exact hx s.at_ (by rw [riseF, if_neg hc]; simp) ⟨by omega, h2⟩
        have h4 := riseF_le (t := t) (u := s.at_) (d := s.free) h.2.2.2 h2 (fun x hx' hb => hx x (by rw [riseF]; exact List.mem_append_right _ hx') ⟨by omega, hb.2⟩)
        rw [atS_low h.2.2.2 (Int.le_refl _)] at h4
        exact vle_tr h4 h3
      · rw [atS, if_neg h2, atS, if_neg h1]
        exact vle_refl _
theorem riseL_le {l : List St} (h : OkS l) {t u : Int} (hu : begin_ l ≤ u) (hut : u ≤ t) (hx : ∀ x ∈ riseL l, ¬ (u < x ∧ x ≤ t)) : V.Le (atL l t) (atL l u) := by
  obtain ⟨h0, hr⟩ := h
  cases l with
  | nil => exact absurd rfl h0
  | cons s r =>
    have hs : s.at_ ≤ u := hu
    unfold atL
    rw [atS, if_pos (by omega), atS, if_pos hs]
    exact riseF_le hr.2.2.2 hut hx
theorem riseN_mem {n : Int} : ∀ {a : Int} {l : List Int}, RiseN n a l → ∀ x ∈ l, a < x ∧ x < n
  | a, y :: r, h, x, hx => by
    rcases List.mem_cons.1 hx with rfl | hx
    · exact ⟨h.1, h.2.1⟩
    · have := riseN_mem h.2.2 x hx
      have := h.1
      omega
theorem riseF_gt : ∀ {r : List St} {d : V} {a : Int}, Rise a r → ∀ x ∈ riseF d r, a < x ∧ x ≤ 281474976710656
  | s :: r, d, a, h, x, hx => by
    rw [riseF] at hx
    rcases List.mem_append.1 hx with hx | hx
    · split at hx
      · cases hx
      · simp at hx; subst hx; exact ⟨h.1, h.2.1⟩
    · have := riseF_gt h.2.2.2 x hx
      have := h.1
      omega
theorem riseF_len : ∀ (r : List St) (d : V), (riseF d r).length ≤ r.length
  | [], d => Nat.le_refl _
  | s :: r, d => by
    have := riseF_len r s.free
    rw [riseF, List.length_append, List.length_cons]
    split <;> simp <;> omega
theorem riseL_len (l : List St) : (riseL l).length ≤ l.length := by
  cases l with
  | nil => exact Nat.le_refl _
  | cons s r => have := riseF_len r s.free; simp only [riseL, List.length_cons]; omega
theorem risesF_len {F : FL} {B : Nat} (h : LenLe F B) : ∀ (part : List Int), (risesF F part).length ≤ part.length * B
  | [] => by simp [risesF]
  | x :: r => by
    have h1 := risesF_len h r
    have h2 := riseL_len (F.getD x.toNat [])
    have h3 := lenLe_at h x.toNat
    have e : risesF F (x :: r) = riseL (F.getD x.toNat []) ++ risesF F r := rfl
    rw [e, List.length_append, List.length_cons, Nat.add_mul]; omega
theorem risesF_gt {F : FL} {now : Int} (h : OkFL F now) {n : Int} (hn : n = F.length) {part : List Int} (hp : RiseN n (-1) part) : ∀ x ∈ risesF F part, now < x ∧ x ≤ 281474976710656 := by
  intro x hx
  obtain ⟨y, hy, hx⟩ := List.mem_flatMap.1 hx
  have hyn := riseN_mem hp y hy
  obtain ⟨⟨a0, a1⟩, a2⟩ := okFL_at h (k := y.toNat) (by omega)
  generalize F.getD y.toNat [] = l at a0 a1 a2 hx
  cases l with
  | nil => exact absurd rfl a0
  | cons s r =>
    have : s.at_ = now := a2
    have := riseF_gt a1.2.2.2 x hx
    omega

/-! ### Only the part's nodes count -/
theorem room_on {ls fs : List V} {need : V} : ∀ {part : List Int}, (∀ x ∈ part, fitN ls need x ≤ fitN fs need x) → roomS ls need part ≤ roomS fs need part
  | [], _ => Int.le_refl _
  | x :: r, h => by
    have h1 := h x (by simp)
    have h2 := room_on (part := r) (fun y hy => h y (List.mem_cons_of_mem _ hy))
    unfold roomS; omega
theorem place_on {ls fs : List V} {part : List Int} {many : Int} {need : V} (h : ∀ x ∈ part, fitN ls need x ≤ fitN fs need x) (hp : placeB ls part many need = true) : placeB fs part many need = true := by
  have h0 : ¬ many < 1 := (of_decide_eq_true hp).1
  rw [place_room h0] at hp ⊢
  have h1 := of_decide_eq_true hp
  have h2 := room_on h
  exact decide_eq_true (by omega)
theorem place_ext {ls fs : List V} {part : List Int} {many : Int} {need : V} (h : ∀ x ∈ part, fitN ls need x = fitN fs need x) : placeB ls part many need = placeB fs part many need ∧ placeS ls part many need = placeS fs part many need := by
  have k := put_alike (fs := fs) (ls := ls) (need := need) (l := part) (left := many) (fun x hx => .inl (h x hx))
  unfold placeB placeS
  rw [k.1, k.2]
  exact ⟨rfl, rfl⟩
/-- the least of the part's nodes alone; nothing of the others -/
def leastsP (F : FL) (part : List Int) (at_ to : Int) : List V := (List.range F.length).map fun (k : Nat) => if (k : Int) ∈ part then leastS (F.getD k []) at_ to else V.zero
theorem leastsP_len (F : FL) (part : List Int) (a t : Int) : (leastsP F part a t).length = F.length := by simp [leastsP]
theorem leastsP_place {F : FL} {now : Int} (h : OkFL F now) {part : List Int} (hp : RiseN F.length (-1) part) {t wall : Int} (h0 : now ≤ t) (h1 : 1 ≤ wall) (many : Int) (need : V) :
    placeB (leastsP F part t (t + wall)) part many need = placeB (lowsL (frL F) F.length t wall) part many need ∧ placeS (leastsP F part t (t + wall)) part many need = placeS (lowsL (frL F) F.length t wall) part many need := by
  refine place_ext fun x hx => ?_
  have hxn := riseN_mem hp x hx
  obtain ⟨k, rfl⟩ : ∃ k : Nat, x = (k : Int) := ⟨x.toNat, by omega⟩
  have hk : k < F.length := by omega
  rw [fitN_in (by rw [leastsP_len]; exact hk), fitN_in (by rw [lowsL_len]; exact hk), lowsL_at]
  congr 1
  simp only [leastsP, List.getElem_map, List.getElem_range]
  rw [if_pos hx, leastS_low h hk h0 h1]
/-- as much on the part's nodes, from that time on -/
theorem may_back2 {fr : Fr} {n : Nat} {now : Int} (ho : OkFr fr n now) {x : Wt} (hr : RiseN n (-1) x.part) {s t : Int} (hs : now ≤ s) (hst : s ≤ t) (hc : ∀ k : Nat, (k : Int) ∈ x.part → ∀ u, s ≤ u → u ≤ t → V.Le (fr k t) (fr k u)) (hm : May fr n now x t) : May fr n now x s := by
  refine ⟨hm.1, hs, by have := hm.2.2.1; omega, place_on (fun y hy => ?_) hm.2.2.2⟩
  have hyn := riseN_mem hr y hy
  obtain ⟨k, rfl⟩ : ∃ k : Nat, y = (k : Int) := ⟨y.toNat, by omega⟩
  have hk : k < n := by omega
  rw [fitN_in (by rw [lowsL_len]; exact hk), fitN_in (by rw [lowsL_len]; exact hk), lowsL_at, lowsL_at]
  refine count_mono (lowF_ok fun i _ => ho k hk _ (by omega)) (lowF_ok fun i _ => ho k hk _ (by omega)) (lowF_le.2 fun i hi => ?_)
  by_cases hu : s + i ≤ t
  · refine vle_tr ?_ (hc k hy _ (by omega) hu)
    have := lowF_le.1 (vle_refl (lowF (fr k) t (x.wall - 1).toNat)) 0 (Nat.zero_le _)
    simpa using this
  · have h1 : s + (i : Int) = t + ((s + i - t).toNat : Int) := by omega
    rw [h1]
    exact lowF_le.1 (vle_refl _) _ (by omega)
/-- of the times, the last that isn't behind t -/
theorem last_le : ∀ (l : List Int) (a t : Int), a ≤ t → ∃ s, (s = a ∨ s ∈ l) ∧ a ≤ s ∧ s ≤ t ∧ ∀ x ∈ l, ¬ (s < x ∧ x ≤ t)
  | [], a, t, h => ⟨a, .inl rfl, Int.le_refl _, h, fun x hx => (by cases hx)⟩
  | y :: l, a, t, h => by
    obtain ⟨s, h1, h2, h3, h4⟩ := last_le l a t h
    by_cases hy : s < y ∧ y ≤ t
    · refine ⟨y, .inr (by simp), by omega, hy.2, fun x hx => ?_⟩
      rcases List.mem_cons.1 hx with rfl | hx
      · omega
      · have := h4 x hx; omega
    · refine ⟨s, ?_, h2, h3, fun x hx => ?_⟩
      · rcases h1 with h1 | h1
        · exact .inl h1
        · exact .inr (List.mem_cons_of_mem _ h1)
      · rcases List.mem_cons.1 hx with rfl | hx
        · exact hy
        · exact h4 x hx
theorem rises_back {F : FL} {now : Int} (h : OkFL F now) {x : Wt} (hr : RiseN F.length (-1) x.part) {t : Int} (hm : May (frL F) F.length now x t) : ∃ s, (s = now ∨ s ∈ risesF F x.part) ∧ s ≤ t ∧ May (frL F) F.length now x s := by
  obtain ⟨s, h1, h2, h3, h4⟩ := last_le (risesF F x.part) now t hm.2.1
  refine ⟨s, h1, h3, may_back2 (okFr_of h) hr h2 h3 (fun k hk u u0 u1 => ?_) hm⟩
  have hkn := riseN_mem hr k hk
  obtain ⟨a0, a1⟩ := okFL_at h (k := k) (by omega)
  refine riseL_le a0 (by omega) u1 (fun y hy hb => h4 y ?_ ⟨by omega, hb.2⟩)
  exact List.mem_flatMap.2 ⟨k, hk, by simpa using hy⟩
/-- of the times in their order the first at which it can be placed is the earliest -/
theorem first_rise {F : FL} {now : Int} (h : OkFL F now) {x : Wt} (hr : RiseN F.length (-1) x.part) {T : List Int} (hT : ∀ y, y ∈ T ↔ y ∈ risesF F x.part) :
    (∀ t, May (frL F) F.length now x t → (∀ s, (s = now ∨ s ∈ T) → s < t → ¬ May (frL F) F.length now x s) → First (frL F) F.length now x (some t)) ∧
    ((∀ s, (s = now ∨ s ∈ T) → ¬ May (frL F) F.length now x s) → First (frL F) F.length now x none) := by
  constructor
  · intro t ht hs
    refine ⟨ht, fun s hst hm => ?_⟩
    obtain ⟨r, h1, h2, h3⟩ := rises_back h hr hm
    exact hs r (by rw [hT]; exact h1) (by omega) h3
  · intro hs s hm
    obtain ⟨r, h1, h2, h3⟩ := rises_back h hr hm
    exact hs r (by rw [hT]; exact h1) h3
end Go.Proofs.Ytcdajfiohhbdgaa.W
