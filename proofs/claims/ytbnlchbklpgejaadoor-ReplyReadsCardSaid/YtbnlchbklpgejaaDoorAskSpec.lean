/-
  Plain functions: requests, which numbers their kinds have, when they are right, their bytes. No Go in sight.
-/
import Derived.Test.YtbnlchbklpgejaaDoorCodecSpec
namespace Go.Proofs.YtbnlchbklpgejaaDoor.W
set_option linter.unusedVariables false
set_option linter.unusedSimpArgs false

/-- a request: its kind, its key, its fourteen other numbers behind a nought, its After and where that lies -/
structure Rq where
  kind : Int
  key : Int
  l : List Int
  aa : Option Addr
  ac : Nat
  af : List (Int × Bool)
def Rq.n (q : Rq) (i : Nat) : Int := q.l.getD i 0
def Rq.set (q : Rq) (i : Nat) (v : Int) : Rq := { q with l := q.l.set i v }
def zeroL : List Int := [0, 0, 0, 0, 0, 0, 0, 0, 0, 0, 0, 0, 0, 0, 0]
/-- one with kind and key alone -/
def bareQ (kind key : Int) : Rq := ⟨kind, key, zeroL, none, 0, []⟩
theorem bare_n (kind key : Int) (i : Nat) : (bareQ kind key).n i = 0 := by
  unfold Rq.n bareQ zeroL
  match i with
  | 0 | 1 | 2 | 3 | 4 | 5 | 6 | 7 | 8 | 9 | 10 | 11 | 12 | 13 | 14 => rfl
  | n + 15 => simp
theorem set_n (q : Rq) (i j : Nat) (v : Int) (hi : i < q.l.length) : (q.set i v).n j = if i = j then v else q.n j := by
  unfold Rq.n Rq.set
  simp only [List.getD_eq_getElem?_getD, List.getElem?_set]
  split <;> simp_all
/-- which numbers a kind has -/
def fieldsN (k : Int) : List Nat :=
  if k = 1 then [3, 4, 5, 6, 7, 8, 9, 10] else if k = 2 then [1, 2, 4, 5, 6, 7, 8, 9] else if k = 3 ∨ k = 4 ∨ k = 5 ∨ k = 6 then [1, 2]
  else if k = 7 then [1, 2, 3] else if k = 8 then [1] else if k = 9 then [3] else if k = 11 then [11, 12, 13] else if k = 12 then [14] else []
theorem fields_in (k : Int) : ∀ i ∈ fieldsN k, 1 ≤ i ∧ i ≤ 14 := by
  unfold fieldsN
  repeat' split
  all_goals simp
theorem fields_nodup (k : Int) : (fieldsN k).Nodup := by
  unfold fieldsN
  repeat' split
  all_goals decide
theorem fields_len (k : Int) : (fieldsN k).length ≤ 8 := by
  unfold fieldsN
  repeat' split
  all_goals decide
/-- where they stand among a request's cells -/
def cix (i : Nat) : Nat := if i ≤ 10 then i + 1 else i + 2

def kindB (k : Int) : Bool := decide (1 ≤ k ∧ k ≤ 12)
def keyB (k : Int) : Bool := decide (1 ≤ k ∧ k ≤ 1073741824)
def queryB (k : Int) : Bool := decide (8 ≤ k ∧ k ≤ 10)
def afB (af : List (Int × Bool)) : Bool := decide (af.length ≤ 4) && af.all fun d => okN d.1
def mineB (q : Rq) (i : Nat) : Bool := if i ∈ fieldsN q.kind then okN (q.n i) else decide (q.n i = 0)
def numsTo (q : Rq) (k : Nat) : Bool := (List.range' 1 k).all (mineB q)
def rightQ (q : Rq) : Bool := kindB q.kind && keyB q.key && afB q.af && (decide (q.kind = 1) || q.af.isEmpty) && numsTo q 14
theorem numsTo_succ (q : Rq) (k : Nat) : numsTo q (k + 1) = (numsTo q k && mineB q (k + 1)) := by
  unfold numsTo
  rw [List.range'_concat, List.all_append]
  simp [Nat.add_comm]
theorem numsTo_at {q : Rq} {k : Nat} (h : numsTo q k = true) (i : Nat) (h1 : 1 ≤ i) (h2 : i ≤ k) : mineB q i = true :=
  List.all_eq_true.1 h i (by simp [List.mem_range']; exact ⟨i - 1, by omega, by omega⟩)
theorem numsTo_of {q : Rq} {k : Nat} (h : ∀ i, 1 ≤ i → i ≤ k → mineB q i = true) : numsTo q k = true :=
  List.all_eq_true.2 fun i hi => by
    obtain ⟨j, hj, rfl⟩ := List.mem_range'.1 hi
    exact h _ (by omega) (by omega)
/-- are two requests the same? -/
def numsEq (a b : Rq) : Bool := (List.range' 1 14).all fun i => decide (a.n i = b.n i)
def sameQ (a b : Rq) : Bool := decide (a.kind = b.kind) && decide (a.key = b.key) && decide (a.af = b.af) && numsEq a b
theorem numsEq_iff (a b : Rq) : numsEq a b = true ↔ ∀ i, 1 ≤ i → i ≤ 14 → a.n i = b.n i := by
  unfold numsEq
  rw [List.all_eq_true]
  constructor
  · intro h i h1 h2
    exact of_decide_eq_true (h i (by simp [List.mem_range']; exact ⟨i - 1, by omega, by omega⟩))
  · intro h i hi
    obtain ⟨j, hj, rfl⟩ := List.mem_range'.1 hi
    exact decide_eq_true (h _ (by omega) (by omega))
theorem sameQ_iff (a b : Rq) : sameQ a b = true ↔ a.kind = b.kind ∧ a.key = b.key ∧ a.af = b.af ∧ ∀ i, 1 ≤ i → i ≤ 14 → a.n i = b.n i := by
  unfold sameQ
  simp only [Bool.and_eq_true, decide_eq_true_eq, numsEq_iff]
  constructor
  · rintro ⟨⟨⟨h1, h2⟩, h3⟩, h4⟩; exact ⟨h1, h2, h3, h4⟩
  · rintro ⟨h1, h2, h3, h4⟩; exact ⟨⟨⟨h1, h2⟩, h3⟩, h4⟩
theorem sameQ_refl (a : Rq) : sameQ a a = true := (sameQ_iff a a).2 ⟨rfl, rfl, rfl, fun _ _ _ => rfl⟩
theorem sameQ_symm (a b : Rq) : sameQ a b = sameQ b a := by
  rw [Bool.eq_iff_iff, sameQ_iff, sameQ_iff]
  constructor <;> (rintro ⟨h1, h2, h3, h4⟩; exact ⟨h1.symm, h2.symm, h3.symm, fun i a b => (h4 i a b).symm⟩)

/-- what is left, when so many of its kind's numbers are taken away -/
def zeroed (q : Rq) (fs : List Nat) : Rq := fs.foldl (fun q i => q.set i 0) q
theorem zeroed_snoc (q : Rq) (fs : List Nat) (i : Nat) : zeroed q (fs ++ [i]) = (zeroed q fs).set i 0 := by simp [zeroed, List.foldl_append]
theorem zeroed_same (fs : List Nat) : ∀ q : Rq, (zeroed q fs).kind = q.kind ∧ (zeroed q fs).key = q.key ∧ (zeroed q fs).aa = q.aa ∧ (zeroed q fs).ac = q.ac ∧ (zeroed q fs).af = q.af ∧ (zeroed q fs).l.length = q.l.length := by
  induction fs with
  | nil => intro q; exact ⟨rfl, rfl, rfl, rfl, rfl, rfl⟩
  | cons i fs ih =>
    intro q
    obtain ⟨h1, h2, h3, h4, h5, h6⟩ := ih (q.set i 0)
    exact ⟨h1, h2, h3, h4, h5, h6.trans (by simp [Rq.set])⟩
theorem zeroed_n (fs : List Nat) : ∀ (q : Rq) (j : Nat), q.l.length = 15 → (∀ i ∈ fs, i < 15) → (zeroed q fs).n j = if j ∈ fs then 0 else q.n j := by
  induction fs with
  | nil => intro q j _ _; simp [zeroed]
  | cons i fs ih =>
    intro q j hl hf
    have h := ih (q.set i 0) j (by simp [Rq.set, hl]) (fun k hk => hf k (by simp [hk]))
    show (zeroed (q.set i 0) fs).n j = _
    have hi : i < q.l.length := by rw [hl]; exact hf i (by simp)
    rw [h, set_n q i j 0 hi]
    by_cases e : j ∈ fs
    · simp [e]
    · by_cases e2 : i = j
      · simp [e2]
      · have : ¬ j = i := fun x => e2 x.symm
        simp [e, e2, this]
theorem right_yes_of {q : Rq} (hl : q.l.length = 15) (h1 : kindB q.kind = true) (h2 : keyB q.key = true) (h3 : afB q.af = true) (h4 : ∀ i ∈ fieldsN q.kind, okN (q.n i) = true) (af : List (Int × Bool)) (haf : af = if q.kind = 1 then [] else q.af) :
    rightQ q = sameQ { zeroed q (fieldsN q.kind) with af := af } (bareQ q.kind q.key) := by
  have hz := zeroed_same (fieldsN q.kind) q
  have hn := fun j => zeroed_n (fieldsN q.kind) q j hl (fun i hi => by have := fields_in q.kind i hi; omega)
  rw [Bool.eq_iff_iff, sameQ_iff]
  unfold rightQ
  simp only [h1, h2, h3, Bool.true_and, Bool.and_eq_true, Bool.or_eq_true, decide_eq_true_eq]
  have hni : ∀ i, ({ zeroed q (fieldsN q.kind) with af := af } : Rq).n i = (zeroed q (fieldsN q.kind)).n i := fun i => rfl
  constructor
  · rintro ⟨ha, hb⟩
    refine ⟨hz.1, hz.2.1, ?_, fun i hi1 hi2 => ?_⟩
    · show af = []
      rw [haf]
      split
      · rfl
      · exact List.isEmpty_iff.1 (ha.resolve_left ‹_›)
    · rw [hni, hn, bare_n]
      split
      · rfl
      · have := numsTo_at hb i hi1 hi2
        unfold mineB at this
        rw [if_neg ‹_›] at this
        exact of_decide_eq_true this
  · rintro ⟨_, _, ha, hb⟩
    refine ⟨?_, numsTo_of fun i hi1 hi2 => ?_⟩
    · by_cases e : q.kind = 1
      · exact .inl e
      · rw [haf, if_neg e] at ha
        exact .inr (List.isEmpty_iff.2 ha)
    · unfold mineB
      split
      · exact h4 i ‹_›
      · have := hb i hi1 hi2
        rw [hni, hn, bare_n, if_neg ‹_›] at this
        exact decide_eq_true this
theorem right_no_of {q : Rq} {i : Nat} (hi : i ∈ fieldsN q.kind) (h : okN (q.n i) = false) : rightQ q = false := by
  have hb := fields_in q.kind i hi
  cases e : rightQ q with
  | false => rfl
  | true =>
    unfold rightQ at e
    simp only [Bool.and_eq_true] at e
    have := numsTo_at e.2 i hb.1 hb.2
    unfold mineB at this
    rw [if_pos hi, h] at this
    cases this
/-- a request's numbers, those of its After -/
def depL (d : Int × Bool) : List Int := [d.1, if d.2 = true then 1 else 0]
def aftL (k : Int) (af : List (Int × Bool)) : List Int := if k = 1 then (af.length : Int) :: af.flatMap depL else []
def numsL (q : Rq) : List Int := [q.kind, q.key] ++ (fieldsN q.kind).map q.n ++ aftL q.kind q.af
def writeQ (q : Rq) : List UInt8 := putL (numsL q)
theorem putL_app (a b : List Int) : putL (a ++ b) = putL a ++ putL b := by simp [putL]
theorem okL_app (a b : List Int) : okL (a ++ b) = (okL a && okL b) := by simp [okL]
theorem depL_len (af : List (Int × Bool)) : (af.flatMap depL).length = 2 * af.length := by
  induction af with
  | nil => rfl
  | cons d r ih => rw [List.flatMap_cons, List.length_append, ih]; simp [depL]; omega
theorem depL_ok : ∀ {af : List (Int × Bool)}, (af.all fun d => okN d.1) = true → okL (af.flatMap depL) = true
  | [], _ => rfl
  | d :: r, h => by
    simp only [List.all_cons, Bool.and_eq_true] at h
    rw [List.flatMap_cons, okL_app, depL_ok h.2, Bool.and_true]
    have : okN (if d.2 = true then 1 else 0) = true := by split <;> rfl
    simp [okL, depL, h.1, this]
/-- what it says that a request is right -/
structure RightQ (q : Rq) : Prop where
  kind : 1 ≤ q.kind ∧ q.kind ≤ 12
  key : 1 ≤ q.key ∧ q.key ≤ 1073741824
  few : q.af.length ≤ 4
  aft : (q.af.all fun d => okN d.1) = true
  none : q.kind ≠ 1 → q.af = []
  mine : ∀ i ∈ fieldsN q.kind, okN (q.n i) = true
  rest : ∀ i, 1 ≤ i → i ≤ 14 → i ∉ fieldsN q.kind → q.n i = 0
theorem right_is {q : Rq} (h : rightQ q = true) : RightQ q := by
  unfold rightQ kindB keyB afB at h
  simp only [Bool.and_eq_true, Bool.or_eq_true, decide_eq_true_eq] at h
  obtain ⟨⟨⟨⟨h1, h2⟩, h3⟩, h4⟩, h5⟩ := h
  refine ⟨h1, h2, h3.1, h3.2, fun e => List.isEmpty_iff.1 (h4.resolve_left e), fun i hi => ?_, fun i a b hi => ?_⟩
  · have hb := fields_in q.kind i hi
    have := numsTo_at h5 i hb.1 hb.2
    unfold mineB at this
    rwa [if_pos hi] at this
  · have := numsTo_at h5 i a b
    unfold mineB at this
    rw [if_neg hi] at this
    exact of_decide_eq_true this
theorem right_of {q : Rq} (h : RightQ q) : rightQ q = true := by
  unfold rightQ kindB keyB afB
  simp only [Bool.and_eq_true, Bool.or_eq_true, decide_eq_true_eq]
  refine ⟨⟨⟨⟨h.kind, h.key⟩, h.few, h.aft⟩, ?_⟩, numsTo_of fun i a b => ?_⟩
  · by_cases e : q.kind = 1
    · exact .inl e
    · exact .inr (List.isEmpty_iff.2 (h.none e))
  · unfold mineB
    split
    · exact h.mine i ‹_›
    · exact decide_eq_true (h.rest i a b ‹_›)
theorem aft_len {q : Rq} (h : RightQ q) : (aftL q.kind q.af).length ≤ 9 := by
  unfold aftL
  split
  · rw [List.length_cons, depL_len]; have := h.few; omega
  · simp
theorem aft_ok {q : Rq} (h : RightQ q) : okL (aftL q.kind q.af) = true := by
  unfold aftL
  split
  · have h2 := depL_ok h.aft
    have : okN (q.af.length : Int) = true := by unfold okN; have := h.few; exact decide_eq_true ⟨by omega, by omega⟩
    show (okN _ && okL _) = true
    rw [this, h2]; rfl
  · rfl
theorem nums_ok {q : Rq} (h : RightQ q) : okL (numsL q) = true := by
  have h1 : okN q.kind = true := by have := h.kind; exact decide_eq_true ⟨by omega, by omega⟩
  have h2 : okN q.key = true := by have := h.key; exact decide_eq_true ⟨by omega, by omega⟩
  have h3 : okL ((fieldsN q.kind).map q.n) = true := List.all_eq_true.2 fun x hx => by
    obtain ⟨i, hi, rfl⟩ := List.mem_map.1 hx
    exact h.mine i hi
  unfold numsL
  rw [okL_app, okL_app, h3, aft_ok h]
  simp [okL, h1, h2]
theorem nums_len {q : Rq} (h : RightQ q) : 2 ≤ (numsL q).length ∧ (numsL q).length ≤ 19 := by
  have h1 := aft_len h
  have h2 := fields_len q.kind
  unfold numsL
  simp only [List.length_append, List.length_map, List.length_cons, List.length_nil]
  omega
theorem write_len {q : Rq} (h : RightQ q) : 1 ≤ (writeQ q).length ∧ (writeQ q).length ≤ 133 := by
  have h1 := nums_len h
  have h2 := putL_len (nums_ok h)
  refine ⟨?_, by unfold writeQ; omega⟩
  unfold writeQ numsL
  rw [List.append_assoc, List.cons_append, putL_cons, List.length_append]
  have := enc_len1 q.kind.toNat
  omega
end Go.Proofs.YtbnlchbklpgejaaDoor.W
