/-
  Bookings, as plain lists: right ones, whether they meet, one more, one less.
-/
import Derived.Test.YtcdajfiohhbdgaaVecSpec
namespace Go.Proofs.Ytcdajfiohhbdgaa.W

structure Bk where
  id : Int
  node : Int
  frm : Int
  til : Int
theorem Bk.ext' {a b : Bk} (h0 : a.id = b.id) (h1 : a.node = b.node) (h2 : a.frm = b.frm) (h3 : a.til = b.til) : a = b := by cases a; cases b; simp_all
instance : DecidableEq Bk := fun a b => decidable_of_iff (a.id = b.id ∧ a.node = b.node ∧ a.frm = b.frm ∧ a.til = b.til) ⟨fun h => Bk.ext' h.1 h.2.1 h.2.2.1 h.2.2.2, fun h => by subst h; exact ⟨rfl, rfl, rfl, rfl⟩⟩
instance : Inhabited Bk := ⟨⟨0, 0, 0, 0⟩⟩
/-- one alone -/
def BkOk (n : Int) (b : Bk) : Prop := (0 < b.id ∧ b.id ≤ 281474976710656) ∧ (0 ≤ b.node ∧ b.node < n) ∧ 0 ≤ b.frm ∧ b.frm < b.til ∧ b.til ≤ 1099511627776
instance (n : Int) (b : Bk) : Decidable (BkOk n b) := by unfold BkOk; infer_instance
/-- a time in common -/
def Meet (b : Bk) (node f t : Int) : Prop := b.node = node ∧ b.frm < b.til ∧ f < t ∧ b.frm < t ∧ f < b.til
instance (b : Bk) (node f t : Int) : Decidable (Meet b node f t) := by unfold Meet; infer_instance
def Meets (l : List Bk) (node f t : Int) : Prop := ∃ b ∈ l, Meet b node f t
instance (l : List Bk) (node f t : Int) : Decidable (Meets l node f t) := by unfold Meets; infer_instance
def meetsB (l : List Bk) (node f t : Int) : Bool := decide (Meets l node f t)
/-- right behind those ahead of it -/
def Behind (n : Int) (pre : List Bk) (b : Bk) : Prop := BkOk n b ∧ ∀ c ∈ pre, c.id < b.id ∧ ¬ Meet c b.node b.frm b.til
instance (n : Int) (pre : List Bk) (b : Bk) : Decidable (Behind n pre b) := by unfold Behind; infer_instance
def RightK (n : Int) : List Bk → List Bk → Prop
  | _, [] => True
  | pre, b :: r => Behind n pre b ∧ RightK n (pre ++ [b]) r
instance : (n : Int) → (pre l : List Bk) → Decidable (RightK n pre l)
  | _, _, [] => isTrue trivial
  | n, pre, b :: r => by
    have := instDecidableRightK n (pre ++ [b]) r
    unfold RightK; infer_instance
def RightBk (n : Int) (l : List Bk) : Prop := RightK n [] l ∧ l.length ≤ 16
instance (n : Int) (l : List Bk) : Decidable (RightBk n l) := by unfold RightBk; infer_instance
def rightBk (l : List Bk) (n : Int) : Bool := decide (RightBk n l)
theorem rightK_app {n : Int} : ∀ {pre a b : List Bk}, RightK n pre (a ++ b) ↔ RightK n pre a ∧ RightK n (pre ++ a) b
  | pre, [], b => by simp [RightK]
  | pre, x :: a, b => by
    simp only [List.cons_append, RightK]
    rw [rightK_app, List.append_assoc]
    simp only [List.singleton_append, and_assoc]
theorem rightK_mem {n : Int} : ∀ {pre l : List Bk}, RightK n pre l → ∀ b ∈ l, BkOk n b
  | pre, x :: r, h, b, hb => by
    rcases List.mem_cons.1 hb with rfl | hb
    · exact h.1.1
    · exact rightK_mem h.2 b hb
/-- what is wrong with one more -/
def addEk (l : List Bk) (n : Int) (b : Bk) : Int :=
  if ¬ (RightBk n l ∧ BkOk n b) then 2 else if l.length = 16 then 3 else if ∃ c ∈ l, b.id ≤ c.id then 31 else if Meets l b.node b.frm b.til then 39 else 0
theorem addEk_ok {l : List Bk} {n : Int} {b : Bk} (h : addEk l n b = 0) : RightBk n l ∧ BkOk n b ∧ (∀ c ∈ l, c.id < b.id) ∧ RightBk n (l ++ [b]) := by
  unfold addEk at h
  split at h
  · cases h
  · rename_i h0
    split at h
    · cases h
    · rename_i h1
      split at h
      · cases h
      · rename_i h2
        split at h
        · cases h
        · rename_i h3
          have h0 := Classical.not_not.1 h0
          have hid : ∀ c ∈ l, c.id < b.id := fun c hc => by
            rcases Int.lt_or_le c.id b.id with hh | hh
            · exact hh
            · exact absurd ⟨c, hc, hh⟩ h2
          refine ⟨h0.1, h0.2, hid, ⟨rightK_app.2 ⟨h0.1.1, ⟨⟨h0.2, fun c hc => ?_⟩, trivial⟩⟩, by have := h0.1.2; simp; omega⟩⟩
          rw [List.nil_append] at hc
          exact ⟨hid c hc, fun hm => h3 ⟨c, hc, hm⟩⟩
/-- without the first of that number -/
def dropK (id : Int) : List Bk → List Bk
  | [] => []
  | b :: r => if b.id = id then r else b :: dropK id r
def HasK (l : List Bk) (id : Int) : Prop := ∃ b ∈ l, b.id = id
instance (l : List Bk) (id : Int) : Decidable (HasK l id) := by unfold HasK; infer_instance
theorem dropK_le (id : Int) : ∀ (l : List Bk), (dropK id l).length ≤ l.length
  | [] => Nat.le_refl _
  | b :: r => by
    rw [dropK]
    split
    · simp
    · have := dropK_le id r
      simp; exact this
theorem dropK_add {l : List Bk} {b : Bk} (h : ∀ c ∈ l, c.id < b.id) : dropK b.id (l ++ [b]) = l ∧ HasK (l ++ [b]) b.id := by
  refine ⟨?_, b, by simp, rfl⟩
  induction l with
  | nil => simp [dropK]
  | cons c r ih =>
    rw [List.cons_append, dropK, if_neg (by have := h c (by simp); omega), ih (fun x hx => h x (List.mem_cons_of_mem _ hx))]
/-- the first of that number stands behind so many -/
theorem dropK_at {id : Int} : ∀ {l : List Bk} {k : Nat} (hk : k < l.length), (∀ i (hi : i < k), (l[i]'(by omega)).id ≠ id) → l[k].id = id → dropK id l = l.take k ++ l.drop (k + 1)
  | b :: r, 0, hk, _, h => by
    have h : b.id = id := h
    simp [dropK, h]
  | b :: r, k + 1, hk, h0, h => by
    have hb : ¬ b.id = id := h0 0 (by omega)
    rw [dropK, if_neg hb]
    have := dropK_at (l := r) (k := k) (by simpa using hk) (fun i hi => by simpa using h0 (i + 1) (by omega)) (by simpa using h)
    simp [this]
end Go.Proofs.Ytcdajfiohhbdgaa.W
