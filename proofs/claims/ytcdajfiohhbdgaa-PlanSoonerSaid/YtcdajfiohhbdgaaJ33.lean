/-
  Several texts in one: PlanSpec, PlanWorld.
-/
import Derived.Test.YtcdajfiohhbdgaaPlSpec
import Derived.Test.YtcdajfiohhbdgaaBkSpec

/-
  Profiles, as plain functions of a node and a time: what is the least within a wall, when something can be placed, what is taken; what was planned stays where it is; where less is taken, no time is lost.
-/
namespace Go.Proofs.Ytcdajfiohhbdgaa.W
set_option maxRecDepth 100000

theorem vle_refl (a : V) : V.Le a a := ⟨Int.le_refl _, Int.le_refl _, Int.le_refl _, Int.le_refl _⟩
theorem low_le2 {k a b : Int} : k ≤ low a b ↔ k ≤ a ∧ k ≤ b := by unfold low; split <;> omega
theorem least_le {c a b : V} : V.Le c (a.least b) ↔ V.Le c a ∧ V.Le c b := by
  unfold V.Le V.least
  simp only [low_le2]
  constructor
  · rintro ⟨⟨h1, h2⟩, ⟨h3, h4⟩, ⟨h5, h6⟩, h7, h8⟩; exact ⟨⟨h1, h3, h5, h7⟩, h2, h4, h6, h8⟩
  · rintro ⟨⟨h1, h3, h5, h7⟩, h2, h4, h6, h8⟩; exact ⟨⟨h1, h2⟩, ⟨h3, h4⟩, ⟨h5, h6⟩, h7, h8⟩
theorem low_in {p : Int → Prop} {a b : Int} (ha : p a) (hb : p b) : p (low a b) := by unfold low; split <;> assumption
theorem least_ok {a b : V} (ha : a.Ok) (hb : b.Ok) : (a.least b).Ok :=
  ⟨low_in (p := fun x => 0 ≤ x ∧ x ≤ 1048576) ha.1 hb.1, low_in (p := fun x => 0 ≤ x ∧ x ≤ 1048576) ha.2.1 hb.2.1, low_in (p := fun x => 0 ≤ x ∧ x ≤ 1048576) ha.2.2.1 hb.2.2.1, low_in (p := fun x => 0 ≤ x ∧ x ≤ 1048576) ha.2.2.2 hb.2.2.2⟩
/-- the least within so many times -/
def lowF (f : Int → V) (a : Int) : Nat → V
  | 0 => f a
  | m + 1 => (lowF f a m).least (f (a + (m + 1 : Nat)))
theorem lowF_le {f : Int → V} {a : Int} {c : V} : ∀ {m : Nat}, V.Le c (lowF f a m) ↔ ∀ i : Nat, i ≤ m → V.Le c (f (a + i))
  | 0 => ⟨fun h i hi => by obtain rfl : i = 0 := by omega
                           simpa [lowF] using h, fun h => by simpa [lowF] using h 0 (Nat.le_refl _)⟩
  | m + 1 => by
    unfold lowF
    rw [least_le, lowF_le]
    constructor
    · rintro ⟨h, g⟩ i hi
      by_cases e : i ≤ m
      · exact h i e
      · obtain rfl : i = m + 1 := by omega
        exact g
    · exact fun h => ⟨fun i hi => h i (by omega), h _ (Nat.le_refl _)⟩
theorem lowF_ok {f : Int → V} {a : Int} : ∀ {m : Nat}, (∀ i : Nat, i ≤ m → (f (a + i)).Ok) → (lowF f a m).Ok
  | 0, h => by simpa [lowF] using h 0 (Nat.le_refl _)
  | m + 1, h => least_ok (lowF_ok fun i hi => h i (by omega)) (h _ (Nat.le_refl _))
/-- a vector is that least, just if what is below it is below all -/
theorem vle_anti {a b : V} (h : V.Le a b) (g : V.Le b a) : a = b := V.ext' (Int.le_antisymm h.1 g.1) (Int.le_antisymm h.2.1 g.2.1) (Int.le_antisymm h.2.2.1 g.2.2.1) (Int.le_antisymm h.2.2.2 g.2.2.2)
theorem lowF_uniq {f : Int → V} {a : Int} {m : Nat} {g : V} (h : ∀ c, V.Le c g ↔ ∀ i : Nat, i ≤ m → V.Le c (f (a + i))) : g = lowF f a m :=
  vle_anti (lowF_le.2 ((h g).1 (vle_refl g))) ((h _).2 (lowF_le.1 (vle_refl _)))

abbrev Fr := Nat → Int → V
/-- what is the least of each node, within a wall -/
def lowsL (fr : Fr) (n : Nat) (t wall : Int) : List V := (List.range n).map fun k => lowF (fr k) t (wall - 1).toNat
theorem lowsL_len (fr : Fr) (n : Nat) (t wall : Int) : (lowsL fr n t wall).length = n := by simp [lowsL]
theorem lowsL_at {fr : Fr} {n : Nat} {t wall : Int} {k : Nat} (hk : k < (lowsL fr n t wall).length) : (lowsL fr n t wall)[k] = lowF (fr k) t (wall - 1).toNat := by simp [lowsL]
/-- right from now on -/
def OkFr (fr : Fr) (n : Nat) (now : Int) : Prop := ∀ k, k < n → ∀ t, now ≤ t → (fr k t).Ok

theorem count_mono {f f' need : V} (hf : f.Ok) (hf' : f'.Ok) (h : V.Le f f') : countV f need ≤ countV f' need := by
  by_cases hc : need.Ok ∧ ¬ need.is0
  · rw [count_in ⟨hf, hc.1, hc.2⟩, count_in ⟨hf', hc.1, hc.2⟩]
    have b := times4_bd hf hc.1
    exact (count_le hf' hc.1 b.2).1 (vle_tr ((count_le hf hc.1 b.2).2 (Int.le_refl _)) h)
  · rw [count_no (fun x => hc x.2), count_no (fun x => hc x.2)]
    exact Int.le_refl _
/-- less, and right -/
def Under (ls fs : List V) : Prop := ls.length = fs.length ∧ ∀ k (h : k < ls.length) (h' : k < fs.length), ls[k].Ok ∧ fs[k].Ok ∧ V.Le ls[k] fs[k]
theorem fit_mono {ls fs : List V} (h : Under ls fs) (need : V) (x : Int) : fitN ls need x ≤ fitN fs need x := by
  by_cases hx : 0 ≤ x ∧ x < ls.length
  · obtain ⟨k, rfl⟩ : ∃ k : Nat, x = (k : Int) := ⟨x.toNat, by omega⟩
    have hk : k < ls.length := by omega
    have hk' : k < fs.length := by rw [← h.1]; exact hk
    rw [fitN_in hk, fitN_in hk']
    obtain ⟨h1, h2, h3⟩ := h.2 k hk hk'
    exact count_mono h1 h2 h3
  · have : fitN ls need x = 0 := if_neg hx
    rw [this]
    exact (fitN_bd fs need x).1
theorem room_mono {ls fs : List V} (h : Under ls fs) (need : V) : ∀ part : List Int, roomS ls need part ≤ roomS fs need part
  | [] => Int.le_refl _
  | x :: r => by
    have h1 := fit_mono h need x
    have h2 := room_mono h need r
    unfold roomS
    omega
theorem place_mono {ls fs : List V} (h : Under ls fs) {part : List Int} {many : Int} {need : V} (hp : placeB ls part many need = true) : placeB fs part many need = true := by
  have h0 : ¬ many < 1 := (of_decide_eq_true hp).1
  rw [place_room h0] at hp ⊢
  have h1 := of_decide_eq_true hp
  have h2 := room_mono h need part
  exact decide_eq_true (by omega)
/-- placed alike, where there is less, but no less than what was placed takes -/
theorem under_alike {ls fs : List V} (h : Under ls fs) {part : List Int} {many : Int} {need : V} {n : Int} (hr : RiseN n (-1) part) (hp : placeB fs part many need = true)
    (hon : ∀ k (hk : k < ls.length), V.Le (need.by (onH k (placeS fs part many need))) ls[k]) : placeB ls part many need = true ∧ placeS ls part many need = placeS fs part many need := by
  have hp' : ¬ many < 1 ∧ ¬ 0 < plLeft fs need many part := of_decide_eq_true hp
  have e : placeS fs part many need = plPut fs need many part := if_pos hp'
  rw [e] at hon
  have key : ∀ x, fitN ls need x = fitN fs need x ∨ (fitN ls need x ≤ fitN fs need x ∧ onH x (plPut fs need many part) ≤ fitN ls need x) := by
    intro x
    by_cases hx : 0 ≤ x ∧ x < ls.length
    · obtain ⟨k, rfl⟩ : ∃ k : Nat, x = (k : Int) := ⟨x.toNat, by omega⟩
      have hk : k < ls.length := by omega
      have hk' : k < fs.length := by rw [← h.1]; exact hk
      by_cases hc : need.Ok ∧ ¬ need.is0
      · right
        refine ⟨fit_mono h need _, ?_⟩
        rw [fitN_in hk]
        obtain ⟨h1, h2, h3⟩ := h.2 k hk hk'
        rw [count_in ⟨h1, hc.1, hc.2⟩]
        exact (count_le h1 hc.1 (onH_bd (put_rise (left := many) hr)).2).1 (hon k hk)
      · left
        rw [fitN_in hk, fitN_in hk', count_no (fun x => hc x.2), count_no (fun x => hc x.2)]
    · left
      unfold fitN
      rw [if_neg hx, if_neg (by rw [← h.1]; exact hx)]
  have k := put_alike (fs := fs) (ls := ls) (need := need) (l := part) (left := many) (fun x _ => key x)
  constructor
  · unfold placeB; rw [k.2]; exact decide_eq_true hp'
  · rw [e]; unfold placeS; rw [k.2, if_pos hp', k.1]

/-- what is to be placed: the nodes, how many, of what, for how long; whether it can be asked for at all -/
structure Wt where
  ok : Prop
  part : List Int
  many : Int
  need : V
  wall : Int
/-- it can be placed at that time -/
def May (fr : Fr) (n : Nat) (now : Int) (x : Wt) (t : Int) : Prop := x.ok ∧ now ≤ t ∧ t ≤ 1099511627776 ∧ placeB (lowsL fr n t x.wall) x.part x.many x.need = true
def LeFr (fr fr' : Fr) (n : Nat) (now : Int) : Prop := ∀ k, k < n → ∀ t, now ≤ t → V.Le (fr k t) (fr' k t)
theorem lows_under {fr fr' : Fr} {n : Nat} {now t wall : Int} (h : LeFr fr fr' n now) (ho : OkFr fr n now) (ho' : OkFr fr' n now) (ht : now ≤ t) : Under (lowsL fr n t wall) (lowsL fr' n t wall) := by
  refine ⟨by rw [lowsL_len, lowsL_len], fun k hk hk' => ?_⟩
  have hkn : k < n := by rw [lowsL_len] at hk; exact hk
  rw [lowsL_at, lowsL_at]
  refine ⟨lowF_ok fun i _ => ho k hkn _ (by omega), lowF_ok fun i _ => ho' k hkn _ (by omega), lowF_le.2 fun i hi => vle_tr (lowF_le.1 (vle_refl _) i hi) (h k hkn _ (by omega))⟩
theorem may_mono {fr fr' : Fr} {n : Nat} {now : Int} (h : LeFr fr fr' n now) (ho : OkFr fr n now) (ho' : OkFr fr' n now) {x : Wt} {t : Int} (hm : May fr n now x t) : May fr' n now x t :=
  ⟨hm.1, hm.2.1, hm.2.2.1, place_mono (lows_under h ho ho' hm.2.1) hm.2.2.2⟩
/-- where nothing changes in between, it can be placed ahead, too -/
theorem may_back {fr : Fr} {n : Nat} {now : Int} (ho : OkFr fr n now) {x : Wt} {s t : Int} (hs : now ≤ s) (hst : s ≤ t) (hc : ∀ k, k < n → ∀ u, s ≤ u → u ≤ t → fr k u = fr k t) (hm : May fr n now x t) : May fr n now x s := by
  refine ⟨hm.1, hs, by have := hm.2.2.1; omega, place_mono ?_ hm.2.2.2⟩
  refine ⟨by rw [lowsL_len, lowsL_len], fun k hk hk' => ?_⟩
  have hkn : k < n := by rw [lowsL_len] at hk; exact hk
  rw [lowsL_at, lowsL_at]
  refine ⟨lowF_ok fun i _ => ho k hkn _ (by omega), lowF_ok fun i _ => ho k hkn _ (by omega), lowF_le.2 fun i hi => ?_⟩
  by_cases hu : s + i ≤ t
  · rw [hc k hkn _ (by omega) hu]
    have := lowF_le.1 (vle_refl (lowF (fr k) t (x.wall - 1).toNat)) 0 (Nat.zero_le _)
    simpa using this
  · have h1 : s + (i : Int) = t + ((s + i - t).toNat : Int) := by omega
    rw [h1]
    exact lowF_le.1 (vle_refl _) _ (by omega)
/-- the earliest time, if there is one -/
def First (fr : Fr) (n : Nat) (now : Int) (x : Wt) : Option Int → Prop
  | some t => May fr n now x t ∧ ∀ s, s < t → ¬ May fr n now x s
  | none => ∀ s, ¬ May fr n now x s
theorem first_uniq {fr : Fr} {n : Nat} {now : Int} {x : Wt} : ∀ {a b : Option Int}, First fr n now x a → First fr n now x b → a = b
  | some s, some t, ha, hb => by
    rcases Int.lt_trichotomy s t with h | h | h
    · exact absurd ha.1 (hb.2 s h)
    · rw [h]
    · exact absurd hb.1 (ha.2 t h)
  | some s, none, ha, hb => absurd ha.1 (hb s)
  | none, some t, ha, hb => absurd hb.1 (ha t)
  | none, none, _, _ => rfl
/-- of some times, among them for each time one at or ahead of it since when nothing changed, the first at which it can be placed is the earliest -/
theorem first_of {fr : Fr} {n : Nat} {now : Int} (ho : OkFr fr n now) {x : Wt} {l : List Int} (hl : ∀ t, now ≤ t → ∃ s ∈ l, now ≤ s ∧ s ≤ t ∧ ∀ k, k < n → ∀ u, s ≤ u → u ≤ t → fr k u = fr k t) :
    (∀ t, May fr n now x t → (∀ s ∈ l, s < t → ¬ May fr n now x s) → First fr n now x (some t)) ∧ ((∀ s ∈ l, ¬ May fr n now x s) → First fr n now x none) := by
  constructor
  · intro t ht hs
    refine ⟨ht, fun s hst hm => ?_⟩
    obtain ⟨r, hr, h1, h2, h3⟩ := hl s hm.2.1
    exact hs r hr (by omega) (may_back ho h1 h2 h3 hm)
  · intro hs s hm
    obtain ⟨r, hr, h1, h2, h3⟩ := hl s hm.2.1
    exact hs r hr (may_back ho h1 h2 h3 hm)

/-! ### What is taken -/
def need4 (need : V) (A : List Sh) (k : Nat) : V := need.by (onH k A)
def inW (t wall u : Int) : Prop := t ≤ u ∧ u < t + wall
instance (t wall u : Int) : Decidable (inW t wall u) := by unfold inW; infer_instance
def takeF (fr : Fr) (t wall : Int) (need : V) (A : List Sh) : Fr := fun k u => if inW t wall u then (fr k u).less (need4 need A k) else fr k u
def CanTake (fr : Fr) (n : Nat) (t wall : Int) (need : V) (A : List Sh) : Prop := ∀ k, k < n → ∀ u, inW t wall u → V.Le (need4 need A k) (fr k u)
theorem need4_nn {need : V} (h : need.Ok) {A : List Sh} {n : Int} (hA : RiseH n (-1) A) (k : Nat) : V.Le V.zero (need4 need A k) := by
  have := onH_bd (x := (k : Int)) hA
  obtain ⟨h0, h1, h2, h3⟩ := h
  exact ⟨Int.mul_nonneg h0.1 this.1, Int.mul_nonneg h1.1 this.1, Int.mul_nonneg h2.1 this.1, Int.mul_nonneg h3.1 this.1⟩
theorem take_ok {fr : Fr} {n : Nat} {now t wall : Int} {need : V} {A : List Sh} (ho : OkFr fr n now) (h0 : ∀ k, V.Le V.zero (need4 need A k)) (hc : CanTake fr n t wall need A) : OkFr (takeF fr t wall need A) n now ∧ LeFr (takeF fr t wall need A) fr n now := by
  have key : ∀ k, k < n → ∀ u, now ≤ u → (takeF fr t wall need A k u).Ok ∧ V.Le (takeF fr t wall need A k u) (fr k u) := by
    intro k hk u hu
    have h1 := ho k hk u hu
    unfold takeF
    split
    · rename_i hw
      have h2 := hc k hk u hw
      have h3 := h0 k
      generalize fr k u = f at h1 h2 ⊢
      generalize need4 need A k = d at h2 h3 ⊢
      obtain ⟨⟨a0, a1⟩, ⟨a2, a3⟩, ⟨a4, a5⟩, a6, a7⟩ := h1
      obtain ⟨b0, b1, b2, b3⟩ := h2
      obtain ⟨c0, c1, c2, c3⟩ := h3
      simp only [V.zero] at c0 c1 c2 c3
      unfold V.Ok V.Le V.less
      simp only
      omega
    · exact ⟨h1, vle_refl _⟩
  exact ⟨fun k hk u hu => (key k hk u hu).1, fun k hk u hu => (key k hk u hu).2⟩
/-- one has d more free than the other one -/
def Apart (fro frp : Fr) (d : Fr) (n : Nat) (now : Int) : Prop := ∀ k, k < n → ∀ u, now ≤ u → fro k u = (frp k u).plus (d k u)
theorem apart_take {fro frp d : Fr} {n : Nat} {now t wall : Int} {need : V} {A : List Sh} (h : Apart fro frp d n now) : Apart (takeF fro t wall need A) (takeF frp t wall need A) d n now := by
  intro k hk u hu
  have h1 := h k hk u hu
  unfold takeF
  split
  · rw [h1]
    unfold V.less V.plus
    exact V.ext' (by simp only; omega) (by simp only; omega) (by simp only; omega) (by simp only; omega)
  · exact h1
theorem apart_can {fro frp d : Fr} {n : Nat} {now t wall : Int} {need : V} {A : List Sh} (h : Apart fro frp d n now) (hd : ∀ k u, V.Le V.zero (d k u)) (ht : now ≤ t) (hc : CanTake frp n t wall need A) : CanTake fro n t wall need A := by
  intro k hk u hu
  have h1 := h k hk u (by have := hu.1; omega)
  rw [h1]
  refine vle_tr (hc k hk u hu) ?_
  have := hd k u
  generalize d k u = e at this ⊢
  obtain ⟨c0, c1, c2, c3⟩ := this
  simp only [V.zero] at c0 c1 c2 c3
  unfold V.Le V.plus
  simp only
  omega
def none4 : Fr := fun _ _ => V.zero
def part4 (t wall : Int) (need : V) (A : List Sh) : Fr := fun k u => if inW t wall u then need4 need A k else V.zero
theorem none4_nn (k : Nat) (u : Int) : V.Le V.zero (none4 k u) := vle_refl _
theorem part4_nn {t wall : Int} {need : V} {A : List Sh} (h : ∀ k, V.Le V.zero (need4 need A k)) (k : Nat) (u : Int) : V.Le V.zero (part4 t wall need A k u) := by
  unfold part4; split
  · exact h k
  · exact vle_refl _
theorem apart_none (fr : Fr) (n : Nat) (now : Int) : Apart fr fr none4 n now := fun k _ u _ => V.ext' (by simp [V.plus, none4, V.zero]) (by simp [V.plus, none4, V.zero]) (by simp [V.plus, none4, V.zero]) (by simp [V.plus, none4, V.zero])
theorem apart_mine {fro frp : Fr} {n : Nat} {now t wall : Int} {need : V} {A : List Sh} (h : Apart fro frp none4 n now) : Apart fro (takeF frp t wall need A) (part4 t wall need A) n now := by
  intro k hk u hu
  have h1 := h k hk u hu
  rw [h1]
  unfold takeF part4
  split
  · unfold V.less V.plus none4 V.zero
    exact V.ext' (by simp only; omega) (by simp only; omega) (by simp only; omega) (by simp only; omega)
  · rfl
/-- what is placed can be taken -/
theorem may_can {fr : Fr} {n : Nat} {now : Int} (ho : OkFr fr n now) {x : Wt} (hr : RiseN n (-1) x.part) {t : Int} (hm : May fr n now x t) : RiseH n (-1) (placeS (lowsL fr n t x.wall) x.part x.many x.need) ∧ x.need.Ok ∧
    CanTake fr n t x.wall x.need (placeS (lowsL fr n t x.wall) x.part x.many x.need) := by
  have hp : ¬ x.many < 1 ∧ ¬ 0 < plLeft (lowsL fr n t x.wall) x.need x.many x.part := of_decide_eq_true hm.2.2.2
  have e : placeS (lowsL fr n t x.wall) x.part x.many x.need = plPut (lowsL fr n t x.wall) x.need x.many x.part := if_pos hp
  rw [e]
  have hrise : RiseH n (-1) (plPut (lowsL fr n t x.wall) x.need x.many x.part) := put_rise hr
  have hmem := fun s hs => put_mem (fs := lowsL fr n t x.wall) (need := x.need) (l := x.part) (left := x.many) s hs
  have htot := put_total (fs := lowsL fr n t x.wall) (need := x.need) (l := x.part) (left := x.many)
  generalize plPut (lowsL fr n t x.wall) x.need x.many x.part = A at hrise hmem htot ⊢
  have fits : ∀ s ∈ A, ∃ k : Nat, s.node = (k : Int) ∧ k < n ∧ x.need.Ok ∧ V.Le (x.need.by s.many) (lowF (fr k) t (x.wall - 1).toNat) := by
    intro s hs
    obtain ⟨_, h2, h3, h4⟩ := hmem s hs
    have h5 := riseH_mem hrise s hs
    obtain ⟨k, hk⟩ : ∃ k : Nat, s.node = (k : Int) := ⟨s.node.toNat, by omega⟩
    have hkn : k < n := by omega
    have hkl : k < (lowsL fr n t x.wall).length := by rw [lowsL_len]; exact hkn
    rw [hk] at h4
    obtain ⟨h6, h7⟩ := fit_le hkl h2 h3 h4
    rw [lowsL_at] at h7
    exact ⟨k, hk, hkn, h6, h7⟩
  have hok : x.need.Ok := by
    cases A with
    | nil => simp [totalH] at htot; omega
    | cons s r => obtain ⟨_, _, _, h, _⟩ := fits s (by simp); exact h
  refine ⟨hrise, hok, fun k hk u hu => ?_⟩
  have h1 : ∃ i : Nat, u = t + (i : Int) ∧ i ≤ (x.wall - 1).toNat := ⟨(u - t).toNat, by have := hu.1; omega, by have := hu.1; have := hu.2; omega⟩
  obtain ⟨i, rfl, hi⟩ := h1
  have hone : ∀ (B : List Sh) (a : Int), RiseH n a B → (∀ s ∈ B, s ∈ A) → V.Le (need4 x.need B k) (fr k (t + i)) := by
    intro B
    induction B with
    | nil =>
      intro a _ _
      have h2 := ho k hk (t + i) (by have := hm.2.1; omega)
      unfold need4 V.by onH
      obtain ⟨⟨a0, _⟩, ⟨a2, _⟩, ⟨a4, _⟩, a6, _⟩ := h2
      exact ⟨by simp; exact a0, by simp; exact a2, by simp; exact a4, by simp; exact a6⟩
    | cons s r ih =>
      intro a ha hs
      by_cases e : s.node = (k : Int)
      · unfold need4
        rw [onH, if_pos e, onH_low (a := s.node) (by omega) ha.2.2.2.2, Int.add_zero]
        obtain ⟨k', h1, h2, _, h4⟩ := fits s (hs s (by simp))
        obtain rfl : k' = k := by omega
        exact lowF_le.1 h4 i hi
      · have e2 : need4 x.need (s :: r) k = need4 x.need r k := by unfold need4; rw [onH, if_neg e, Int.zero_add]
        rw [e2]
        exact ih s.node ha.2.2.2.2 (fun y hy => hs y (List.mem_cons_of_mem _ hy))
  exact hone A (-1) hrise (fun s hs => hs)
/-- P13.4: what was planned would be planned just so, if all others were taken, and it alone not -/
theorem stays_first {frk fro frp : Fr} {n : Nat} {now : Int} {x : Wt} (hwall : x.ok → 1 ≤ x.wall) (hr : RiseN n (-1) x.part) (ho : OkFr frk n now) (ho' : OkFr fro n now) (hle : LeFr fro frk n now) {r : Option Int} (hf : First frk n now x r)
    (hd : ∀ t, r = some t → OkFr frp n now ∧ Apart fro frp (part4 t x.wall x.need (placeS (lowsL frk n t x.wall) x.part x.many x.need)) n now) :
    First fro n now x r ∧ ∀ t, r = some t → placeS (lowsL fro n t x.wall) x.part x.many x.need = placeS (lowsL frk n t x.wall) x.part x.many x.need := by
  have hmono : ∀ s, May fro n now x s → May frk n now x s := fun s => may_mono hle ho' ho
  cases r with
  | none => exact ⟨fun s hs => hf s (hmono s hs), fun t ht => (by cases ht)⟩
  | some t =>
    obtain ⟨hop, hap⟩ := hd t rfl
    obtain ⟨h1, h2⟩ := hf
    have hu := lows_under (wall := x.wall) hle ho' ho h1.2.1
    have hal := under_alike hu hr h1.2.2.2 (fun k hk => by
      have hkn : k < n := by rw [lowsL_len] at hk; exact hk
      rw [lowsL_at]
      refine lowF_le.2 fun i hi => ?_
      have hnow : now ≤ t + (i : Int) := by have := h1.2.1; omega
      have hw1 := hwall h1.1
      have hw : inW t x.wall (t + i) := ⟨by omega, by omega⟩
      rw [hap k hkn _ hnow, part4, if_pos hw]
      have h4 := hop k hkn _ hnow
      unfold need4
      generalize (x.need.by _) = d
      generalize frp k (t + ↑i) = f at h4 ⊢
      obtain ⟨⟨a0, _⟩, ⟨a2, _⟩, ⟨a4, _⟩, a6, _⟩ := h4
      unfold V.Le V.plus
      simp only
      omega)
    exact ⟨⟨⟨h1.1, h1.2.1, h1.2.2.1, hal.1⟩, fun s hs hm => h2 s hs (hmono s hm)⟩, fun s hs => by cases hs; exact hal.2⟩
end Go.Proofs.Ytcdajfiohhbdgaa.W


/-
  What a profile is made of: runs and bookings; what is free then; with one fewer no time is lost.
-/
namespace Go.Proofs.Ytcdajfiohhbdgaa.W
set_option maxRecDepth 100000

structure Rn where
  til : Int
  need : V
  sh : List Sh
instance : Inhabited Rn := ⟨⟨0, V.zero, []⟩⟩
/-- what runs take of a node at a time, from now on -/
def usedR (k : Nat) (t : Int) : List Rn → V
  | [] => V.zero
  | r :: l => (if t < r.til then need4 r.need r.sh k else V.zero).plus (usedR k t l)
/-- a run is right -/
def RnOk (n : Nat) (now : Int) (r : Rn) : Prop := RiseH n (-1) r.sh ∧ r.need.Ok ∧ now < r.til ∧ r.til ≤ 281474976710656
instance (n : Nat) (now : Int) (r : Rn) : Decidable (RnOk n now r) := by unfold RnOk; infer_instance
/-- how much there is of a node at a time, runs aside -/
def roomAt (caps : List V) (books : List Bk) (k : Nat) (t : Int) : V := if Meets books k t (t + 1) then V.zero else caps.getD k V.zero
def frOf (caps : List V) (runs : List Rn) (books : List Bk) : Fr := fun k t => (roomAt caps books k t).less (usedR k t runs)
def ValidFr (n : Nat) (now : Int) (caps : List V) (runs : List Rn) (books : List Bk) : Prop := ∀ k, k < n → ∀ t, now ≤ t → V.Le (usedR k t runs) (roomAt caps books k t)
theorem vzero_le_plus {a b : V} (ha : V.Le V.zero a) (hb : V.Le V.zero b) : V.Le V.zero (a.plus b) ∧ V.Le b (a.plus b) := by
  obtain ⟨a0, a1, a2, a3⟩ := ha
  obtain ⟨b0, b1, b2, b3⟩ := hb
  simp only [V.zero] at a0 a1 a2 a3 b0 b1 b2 b3
  unfold V.Le V.plus V.zero
  simp only
  omega
theorem part_nn {n : Nat} {now : Int} {r : Rn} (h : RnOk n now r) (k : Nat) (t : Int) : V.Le V.zero (if t < r.til then need4 r.need r.sh k else V.zero) := by
  split
  · exact need4_nn h.2.1 h.1 k
  · exact vle_refl _
theorem usedR_nn {n : Nat} {now : Int} : ∀ {l : List Rn}, (∀ r ∈ l, RnOk n now r) → ∀ k t, V.Le V.zero (usedR k t l)
  | [], _, _, _ => vle_refl _
  | r :: l, h, k, t => (vzero_le_plus (part_nn (h r (by simp)) k t) (usedR_nn (fun x hx => h x (List.mem_cons_of_mem _ hx)) k t)).1
theorem plus_mono {a b c d : V} (h : V.Le a b) (g : V.Le c d) : V.Le (a.plus c) (b.plus d) := by
  obtain ⟨a0, a1, a2, a3⟩ := h
  obtain ⟨b0, b1, b2, b3⟩ := g
  unfold V.Le V.plus
  simp only
  omega
theorem usedR_sub {n : Nat} {now : Int} {l m : List Rn} (h : l.Sublist m) : (∀ r ∈ m, RnOk n now r) → ∀ k t, V.Le (usedR k t l) (usedR k t m) := by
  induction h with
  | slnil => intro _ k t; exact vle_refl _
  | cons r hs ih =>
    intro hm k t
    have h1 := ih (fun x hx => hm x (List.mem_cons_of_mem _ hx)) k t
    exact vle_tr h1 (vzero_le_plus (part_nn (hm r (by simp)) k t) (usedR_nn (fun x hx => hm x (List.mem_cons_of_mem _ hx)) k t)).2
  | cons_cons r hs ih =>
    intro hm k t
    exact plus_mono (vle_refl _) (ih (fun x hx => hm x (List.mem_cons_of_mem _ hx)) k t)
theorem roomAt_ok {caps : List V} (hc : ∀ c ∈ caps, c.Ok) (books : List Bk) (k : Nat) (t : Int) : (roomAt caps books k t).Ok := by
  have hz : V.zero.Ok := by unfold V.Ok V.zero; simp
  unfold roomAt
  split
  · exact hz
  · by_cases hk : k < caps.length
    · simp [hk, hc]
    · simp [hk, hz]
theorem less_ok {a b : V} (ha : a.Ok) (hb : V.Le V.zero b) (h : V.Le b a) : (a.less b).Ok := by
  obtain ⟨⟨a0, a1⟩, ⟨a2, a3⟩, ⟨a4, a5⟩, a6, a7⟩ := ha
  obtain ⟨b0, b1, b2, b3⟩ := hb
  obtain ⟨c0, c1, c2, c3⟩ := h
  simp only [V.zero] at b0 b1 b2 b3
  unfold V.Ok V.less
  simp only
  omega
theorem frOf_ok {n : Nat} {now : Int} {caps : List V} {runs : List Rn} {books : List Bk} (hc : ∀ c ∈ caps, c.Ok) (hr : ∀ r ∈ runs, RnOk n now r) (hv : ValidFr n now caps runs books) : OkFr (frOf caps runs books) n now :=
  fun k hk t ht => less_ok (roomAt_ok hc books k t) (usedR_nn hr k t) (hv k hk t ht)
/-- with fewer runs, fewer bookings, there is as much, and it is valid -/
theorem sooner {n : Nat} {now : Int} {caps : List V} {runs runs' : List Rn} {books books' : List Bk} (hc : ∀ c ∈ caps, c.Ok) (hr : ∀ r ∈ runs, RnOk n now r) (hs : runs'.Sublist runs) (hb : ∀ b ∈ books', b ∈ books) (hv : ValidFr n now caps runs books) :
    ValidFr n now caps runs' books' ∧ LeFr (frOf caps runs books) (frOf caps runs' books') n now := by
  have hroom : ∀ k t, V.Le (roomAt caps books k t) (roomAt caps books' k t) := by
    intro k t
    unfold roomAt
    by_cases h' : Meets books' k t (t + 1)
    · have h : Meets books k t (t + 1) := by obtain ⟨b, h1, h2⟩ := h'; exact ⟨b, hb b h1, h2⟩
      rw [if_pos h, if_pos h']; exact vle_refl _
    · rw [if_neg h']
      split
      · by_cases hk : k < caps.length
        · have := hc caps[k] (List.getElem_mem hk)
          obtain ⟨⟨a0, _⟩, ⟨a2, _⟩, ⟨a4, _⟩, a6, _⟩ := this
          simp only [List.getD_eq_getElem?_getD, List.getElem?_eq_getElem hk, Option.getD_some]
          exact ⟨a0, a2, a4, a6⟩
        · simp [hk]; exact vle_refl _
      · exact vle_refl _
  have hused := usedR_sub hs hr
  constructor
  · intro k hk t ht
    exact vle_tr (hused k t) (vle_tr (hv k hk t ht) (hroom k t))
  · intro k hk t ht
    have h1 := hused k t
    have h2 := hroom k t
    unfold frOf
    generalize usedR k t runs = a at h1 ⊢
    generalize usedR k t runs' = b at h1 ⊢
    generalize roomAt caps books k t = c at h2 ⊢
    generalize roomAt caps books' k t = d at h2 ⊢
    obtain ⟨a0, a1, a2, a3⟩ := h1
    obtain ⟨b0, b1, b2, b3⟩ := h2
    unfold V.Le V.less
    simp only
    omega
theorem first_sooner {fr fr' : Fr} {n : Nat} {now : Int} (h : LeFr fr fr' n now) (ho : OkFr fr n now) (ho' : OkFr fr' n now) {x : Wt} {t : Int} (hf : First fr n now x (some t)) {r : Option Int} (hf' : First fr' n now x r) :
    May fr' n now x t ∧ ∃ s, r = some s ∧ s ≤ t := by
  have hm := may_mono h ho ho' hf.1
  refine ⟨hm, ?_⟩
  cases r with
  | none => exact absurd hm (hf' t)
  | some s =>
    refine ⟨s, rfl, ?_⟩
    rcases Int.lt_or_le t s with hh | hh
    · exact absurd hm (hf'.2 t hh)
    · exact hh
end Go.Proofs.Ytcdajfiohhbdgaa.W
