/-
  Plain functions: which request bytes are, read from the left; that it is read as it was written, and written as it was read. No Go in sight.
-/
import Derived.Test.YtbnlchbklpgejaaDoorAskSpec
namespace Go.Proofs.YtbnlchbklpgejaaDoor.W
set_option linter.unusedVariables false
set_option linter.unusedSimpArgs false

/-- a reader: the bytes that are left, what is wrong -/
abbrev St := List UInt8 × Nat
def numS (s : St) : Nat × St :=
  if s.2 = 0 then (if (firstS s.1).2.2 = 0 then ((firstS s.1).1, (s.1.drop (firstS s.1).2.1, 0)) else (0, ([], (firstS s.1).2.2))) else (0, ([], s.2))
def withinS (lo hi : Nat) (s : St) : Nat × St :=
  if (numS s).2.2 = 0 then (if lo ≤ (numS s).1 ∧ (numS s).1 ≤ hi then numS s else (0, ([], 11))) else (0, (numS s).2)
theorem numS_bad {s : St} (h : s.2 ≠ 0) : numS s = (0, ([], s.2)) := by unfold numS; rw [if_neg h]
theorem withinS_bad {s : St} (lo hi : Nat) (h : s.2 ≠ 0) : withinS lo hi s = (0, ([], s.2)) := by unfold withinS; rw [numS_bad h, if_neg h]
/-- the numbers of a kind, one behind the other -/
def fillS (fs : List Nat) (l : List Int) (s : St) : List Int × St :=
  fs.foldl (fun r i => (r.1.set i ((numS r.2).1 : Int), (numS r.2).2)) (l, s)
theorem fillS_snoc (fs : List Nat) (i : Nat) (l : List Int) (s : St) : fillS (fs ++ [i]) l s = ((fillS fs l s).1.set i ((numS (fillS fs l s).2).1 : Int), (numS (fillS fs l s).2).2) := by
  simp [fillS, List.foldl_append]
theorem fillS_len (fs : List Nat) : ∀ (l : List Int) (s : St), (fillS fs l s).1.length = l.length := by
  induction fs with
  | nil => intro l s; rfl
  | cons i fs ih => intro l s; exact (ih _ _).trans (by simp)
/-- so many of an After -/
def depsS : Nat → St → List (Int × Bool) × St
  | 0, s => ([], s)
  | n + 1, s => ((depsS n s).1 ++ [(((numS (depsS n s).2).1 : Int), decide ((withinS 0 1 (numS (depsS n s).2).2).1 = 1))], (withinS 0 1 (numS (depsS n s).2).2).2)
theorem depsS_len : ∀ (n : Nat) (s : St), (depsS n s).1.length = n
  | 0, _ => rfl
  | n + 1, s => by simp [depsS, depsS_len n s]
def endS (s : St) : Nat := if s.2 = 0 ∧ 0 < s.1.length then 11 else s.2
/-- the parts of what is read: behind the kind, behind the key, behind the numbers, all -/
def rKind (b : List UInt8) : Nat × St := numS (b, 0)
def rKey (b : List UInt8) : Nat × St := withinS 1 1073741824 (rKind b).2
def rFill (b : List UInt8) : List Int × St := fillS (fieldsN (rKind b).1) zeroL (rKey b).2
def rMany (b : List UInt8) : Nat × St := withinS 0 4 (rFill b).2
def rDeps (b : List UInt8) : List (Int × Bool) × St := if (rKind b).1 = 1 then depsS (rMany b).1 (rMany b).2 else ([], (rFill b).2)
def readE (b : List UInt8) : Nat := if (rKind b).2.2 ≠ 0 then (rKind b).2.2 else if kindB (rKind b).1 = false then 13 else endS (rDeps b).2
/-- what is read, as it would lie at an address -/
def readQ (b : List UInt8) (aa : Option Addr) (ac : Nat) : Rq := if readE b = 0 then ⟨(rKind b).1, (rKey b).1, (rFill b).1, aa, ac, (rDeps b).1⟩ else bareQ 0 0

/-! what is written is read -/
theorem numS_put {x : Int} (h : okN x = true) (t : List UInt8) : numS (enc x.toNat ++ t, 0) = (x.toNat, (t, 0)) := by
  have hx := (okN_iff x).1 h
  have hf := first_put x.toNat (by omega) t
  unfold numS
  simp [hf]
theorem withinS_put {x : Int} (lo hi : Nat) (h : okN x = true) (h1 : (lo : Int) ≤ x) (h2 : x ≤ (hi : Int)) (t : List UInt8) : withinS lo hi (enc x.toNat ++ t, 0) = (x.toNat, (t, 0)) := by
  unfold withinS
  rw [numS_put h]
  have : lo ≤ x.toNat ∧ x.toNat ≤ hi := ⟨by omega, by omega⟩
  simp [this]
theorem fillS_put (f : Nat → Int) : ∀ (fs : List Nat) (l : List Int) (t : List UInt8), okL (fs.map f) = true →
    fillS fs l (putL (fs.map f) ++ t, 0) = (fs.foldl (fun l i => l.set i (f i)) l, (t, 0))
  | [], l, t, _ => rfl
  | i :: fs, l, t, h => by
    have h' : okN (f i) = true ∧ okL (fs.map f) = true := by simpa [okL] using h
    have hi := (okN_iff (f i)).1 h'.1
    have ih := fillS_put f fs (l.set i (f i)) t h'.2
    show fillS fs _ _ = _
    rw [List.map_cons, putL_cons, List.append_assoc, numS_put h'.1]
    rw [show (((f i).toNat : Nat) : Int) = f i by omega]
    exact ih
theorem foldset_len (f : Nat → Int) : ∀ (fs : List Nat) (l : List Int), (fs.foldl (fun l i => l.set i (f i)) l).length = l.length
  | [], l => rfl
  | i :: fs, l => (foldset_len f fs _).trans (by simp)
theorem foldset_at (f : Nat → Int) : ∀ (fs : List Nat) (l : List Int) (j : Nat), (∀ i ∈ fs, i < l.length) →
    (fs.foldl (fun l i => l.set i (f i)) l).getD j 0 = if j ∈ fs then f j else l.getD j 0
  | [], l, j, _ => by simp
  | i :: fs, l, j, h => by
    have ih := foldset_at f fs (l.set i (f i)) j (fun k hk => by rw [List.length_set]; exact h k (by simp [hk]))
    show (fs.foldl _ (l.set i (f i))).getD j 0 = _
    rw [ih]
    have hi := h i (by simp)
    by_cases e : j ∈ fs
    · simp [e]
    · by_cases e2 : i = j
      · subst e2; simp [e, hi]
      · have : ¬ j = i := fun x => e2 x.symm
        simp [e, this, List.getElem?_set, e2]
theorem depsS_put : ∀ (n : Nat) (af : List (Int × Bool)) (t : List UInt8), n ≤ af.length → (af.all fun d => okN d.1) = true →
    depsS n (putL (af.flatMap depL) ++ t, 0) = (af.take n, (putL ((af.drop n).flatMap depL) ++ t, 0))
  | 0, af, t, _, _ => by simp [depsS]
  | n + 1, af, t, hn, h => by
    have ih := depsS_put n af t (by omega) h
    have hlt : n < af.length := by omega
    have hd := List.drop_eq_getElem_cons hlt
    have h1 : okN (af[n]).1 = true := List.all_eq_true.1 h _ (List.getElem_mem hlt)
    have hx := (okN_iff _).1 h1
    have h2 : okN (if (af[n]).2 = true then 1 else 0) = true := by split <;> rfl
    have hw := withinS_put 0 1 h2 (by split <;> decide) (by split <;> decide) (putL ((af.drop (n + 1)).flatMap depL) ++ t)
    unfold depsS
    rw [ih, hd, List.flatMap_cons, putL_app]
    have e : putL (depL af[n]) ++ putL ((af.drop (n + 1)).flatMap depL) ++ t = enc (af[n]).1.toNat ++ (enc (if (af[n]).2 = true then (1 : Int) else 0).toNat ++ (putL ((af.drop (n + 1)).flatMap depL) ++ t)) := by
      simp [depL, putL, List.append_assoc]
    simp only
    rw [e, numS_put h1, hw, take_snoc af n hlt]
    congr 1
    rw [show (((af[n]).1.toNat : Nat) : Int) = (af[n]).1 by omega]
    congr 1
    have : decide ((if (af[n]).2 = true then (1 : Int) else 0).toNat = 1) = (af[n]).2 := by cases (af[n]).2 <;> rfl
    simp [this]
structure ReadAs (b : List UInt8) (q : Rq) : Prop where
  none : readE b = 0
  kind : ((rKind b).1 : Int) = q.kind
  key : ((rKey b).1 : Int) = q.key
  af : (rDeps b).1 = q.af
  nums : ∀ i, 1 ≤ i → i ≤ 14 → (rFill b).1.getD i 0 = q.n i
theorem read_write {q : Rq} (h : RightQ q) : ReadAs (writeQ q) q := by
  have hk : okN q.kind = true := by have := h.kind; exact decide_eq_true ⟨by omega, by omega⟩
  have hy : okN q.key = true := by have := h.key; exact decide_eq_true ⟨by omega, by omega⟩
  have h3 : okL ((fieldsN q.kind).map q.n) = true := List.all_eq_true.2 fun x hx => by
    obtain ⟨i, hi, rfl⟩ := List.mem_map.1 hx
    exact h.mine i hi
  have e0 : writeQ q = enc q.kind.toNat ++ (enc q.key.toNat ++ (putL ((fieldsN q.kind).map q.n) ++ putL (aftL q.kind q.af))) := by
    unfold writeQ numsL
    rw [putL_app, putL_app]
    simp [putL, List.append_assoc]
  have k1 : rKind (writeQ q) = (q.kind.toNat, (enc q.key.toNat ++ (putL ((fieldsN q.kind).map q.n) ++ putL (aftL q.kind q.af)), 0)) := by
    unfold rKind; rw [e0, numS_put hk]
  have k2 : rKey (writeQ q) = (q.key.toNat, (putL ((fieldsN q.kind).map q.n) ++ putL (aftL q.kind q.af), 0)) := by
    unfold rKey; rw [k1]
    exact withinS_put 1 1073741824 hy (by have := h.key; omega) (by have := h.key; omega) _
  have ek : ((q.kind.toNat : Nat) : Int) = q.kind := by have := h.kind; omega
  have k3 : rFill (writeQ q) = ((fieldsN q.kind).foldl (fun l i => l.set i (q.n i)) zeroL, (putL (aftL q.kind q.af), 0)) := by
    unfold rFill; rw [k1, k2, ek]
    exact fillS_put q.n (fieldsN q.kind) zeroL _ h3
  have hnum : ∀ i, 1 ≤ i → i ≤ 14 → (rFill (writeQ q)).1.getD i 0 = q.n i := fun i a b => by
    rw [k3, foldset_at q.n _ zeroL i (fun j hj => by have := fields_in q.kind j hj; show j < 15; omega)]
    split
    · rfl
    · rw [h.rest i a b ‹_›]
      match i with
      | 0 | 1 | 2 | 3 | 4 | 5 | 6 | 7 | 8 | 9 | 10 | 11 | 12 | 13 | 14 => rfl
  have k4 : rDeps (writeQ q) = (q.af, ([], 0)) := by
    unfold rDeps
    rw [k1]
    by_cases e1 : q.kind = 1
    · have en : q.kind.toNat = 1 := by omega
      have hl : okN (q.af.length : Int) = true := by have := h.few; exact decide_eq_true ⟨by omega, by omega⟩
      have hm : rMany (writeQ q) = (q.af.length, (putL (q.af.flatMap depL), 0)) := by
        unfold rMany
        rw [k3]
        have ea : putL (aftL q.kind q.af) = enc ((q.af.length : Int).toNat) ++ putL (q.af.flatMap depL) := by
          unfold aftL; rw [if_pos e1, putL_cons]
        rw [ea, withinS_put 0 4 hl (by omega) (by have := h.few; omega)]
        simp
      rw [if_pos en, hm]
      have := depsS_put q.af.length q.af [] (Nat.le_refl _) h.aft
      simpa [putL] using this
    · have en : ¬ q.kind.toNat = 1 := by omega
      rw [if_neg en, k3, h.none e1]
      have : aftL q.kind [] = [] := by unfold aftL; rw [if_neg e1]
      rw [this]; rfl
  refine ⟨?_, by rw [k1]; exact ek, by rw [k2]; have := h.key; simp only; omega, by rw [k4], hnum⟩
  have hkb : kindB ((q.kind.toNat : Nat) : Int) = true := by rw [ek]; exact decide_eq_true h.kind
  unfold readE
  rw [k1, k4]
  simp only
  rw [hkb]
  simp [endS]
/-! what is read is written -/
theorem numS_back {s : St} (h : (numS s).2.2 = 0) : s.2 = 0 ∧ (numS s).1 ≤ 281474976710656 ∧ s.1 = enc (numS s).1 ++ (numS s).2.1 := by
  unfold numS at h ⊢
  by_cases e : s.2 = 0
  · rw [if_pos e] at h ⊢
    by_cases e2 : (firstS s.1).2.2 = 0
    · rw [if_pos e2]
      obtain ⟨h1, h2, t, h3⟩ := first_back (l := s.1) (N := (firstS s.1).1) (S := (firstS s.1).2.1) (by rw [← e2])
      refine ⟨e, h1, ?_⟩
      simp only
      rw [h2]
      generalize (firstS s.1).1 = N at h3 ⊢
      rw [h3, List.drop_left]
    · rw [if_neg e2] at h
      exact absurd h e2
  · rw [if_neg e] at h
    exact absurd h e
theorem withinS_back {lo hi : Nat} {s : St} (h : (withinS lo hi s).2.2 = 0) : s.2 = 0 ∧ lo ≤ (withinS lo hi s).1 ∧ (withinS lo hi s).1 ≤ hi ∧ (withinS lo hi s).1 ≤ 281474976710656 ∧ s.1 = enc (withinS lo hi s).1 ++ (withinS lo hi s).2.1 := by
  unfold withinS at h ⊢
  by_cases e : (numS s).2.2 = 0
  · rw [if_pos e] at h ⊢
    by_cases e2 : lo ≤ (numS s).1 ∧ (numS s).1 ≤ hi
    · rw [if_pos e2]
      have := numS_back e
      exact ⟨this.1, e2.1, e2.2, this.2⟩
    · rw [if_neg e2] at h; cases h
  · rw [if_neg e] at h; exact absurd h e
theorem fillS_back : ∀ (fs : List Nat) (l : List Int) (s : St), fs.Nodup → (∀ i ∈ fs, i < l.length) → (fillS fs l s).2.2 = 0 →
    s.2 = 0 ∧ (∀ j, j ∉ fs → (fillS fs l s).1.getD j 0 = l.getD j 0) ∧ (∀ i ∈ fs, okN ((fillS fs l s).1.getD i 0) = true) ∧ s.1 = putL (fs.map fun i => (fillS fs l s).1.getD i 0) ++ (fillS fs l s).2.1
  | [], l, s, _, _, h => ⟨h, fun j _ => rfl, fun i hi => (by cases hi), rfl⟩
  | i :: fs, l, s, hn, hi, h => by
    have hn' := List.nodup_cons.1 hn
    obtain ⟨h1, h2, h3, h4⟩ := fillS_back fs (l.set i ((numS s).1 : Int)) (numS s).2 hn'.2 (fun k hk => by rw [List.length_set]; exact hi k (by simp [hk])) h
    obtain ⟨g1, g2, g3⟩ := numS_back h1
    have e : fillS (i :: fs) l s = fillS fs (l.set i ((numS s).1 : Int)) (numS s).2 := rfl
    have hii : (fillS fs (l.set i ((numS s).1 : Int)) (numS s).2).1.getD i 0 = ((numS s).1 : Int) := by
      rw [h2 i hn'.1]
      have := hi i (by simp)
      simp [this]
    rw [e]
    refine ⟨g1, fun j hj => ?_, fun k hk => ?_, ?_⟩
    · have hj' : j ≠ i ∧ j ∉ fs := by simpa using hj
      rw [h2 j hj'.2]
      have : ¬ i = j := fun x => hj'.1 x.symm
      simp [List.getElem?_set, this]
    · rcases List.mem_cons.1 hk with rfl | hk
      · rw [hii]; exact decide_eq_true ⟨by omega, by omega⟩
      · exact h3 k hk
    · rw [List.map_cons, putL_cons, hii, Int.toNat_natCast, List.append_assoc, ← h4]
      exact g3
theorem depsS_back : ∀ (n : Nat) (s : St), (depsS n s).2.2 = 0 → s.2 = 0 ∧ ((depsS n s).1.all fun d => okN d.1) = true ∧ s.1 = putL ((depsS n s).1.flatMap depL) ++ (depsS n s).2.1
  | 0, s, h => ⟨h, rfl, rfl⟩
  | n + 1, s, h => by
    unfold depsS at h ⊢
    simp only at h ⊢
    obtain ⟨g1, g2, g3, g4, g5⟩ := withinS_back h
    obtain ⟨k1, k2, k3⟩ := numS_back g1
    obtain ⟨h1, h2, h3⟩ := depsS_back n s k1
    refine ⟨h1, ?_, ?_⟩
    · rw [List.all_append, h2]
      have : okN (((numS (depsS n s).2).1 : Nat) : Int) = true := decide_eq_true ⟨by omega, by omega⟩
      simp [this]
    · rw [List.flatMap_append, putL_app, List.append_assoc]
      conv => lhs; rw [h3]
      congr 1
      conv => lhs; rw [k3, g5]
      generalize (withinS 0 1 (numS (depsS n s).2).2).1 = m at g2 g3 ⊢
      have : m = 0 ∨ m = 1 := by omega
      rcases this with rfl | rfl <;> simp [depL, putL, List.append_assoc]
theorem write_read {b : List UInt8} (h : readE b = 0) (aa : Option Addr) (ac : Nat) : RightQ (readQ b aa ac) ∧ writeQ (readQ b aa ac) = b := by
  have hq : readQ b aa ac = ⟨(rKind b).1, (rKey b).1, (rFill b).1, aa, ac, (rDeps b).1⟩ := by unfold readQ; rw [if_pos h]
  unfold readE at h
  by_cases e1 : (rKind b).2.2 = 0
  · rw [if_neg (fun x => x e1)] at h
    cases e2 : kindB (rKind b).1 with
    | false => rw [e2] at h; simp at h
    | true =>
      rw [e2] at h
      rw [if_neg (by simp)] at h
      have hkr := of_decide_eq_true e2
      have he : (rDeps b).2.2 = 0 ∧ (rDeps b).2.1 = [] := by
        unfold endS at h
        split at h
        · cases h
        · rename_i hne
          refine ⟨h, List.eq_nil_of_length_eq_zero ?_⟩
          omega
      have hf0 : (rFill b).2.2 = 0 ∧ ((rDeps b).1.all fun d => okN d.1) = true ∧ (rDeps b).1.length ≤ 4 ∧ (¬ (rKind b).1 = 1 → (rDeps b).1 = []) ∧ (rFill b).2.1 = putL (aftL ((rKind b).1 : Nat) (rDeps b).1) := by
        unfold rDeps at he ⊢
        by_cases ek : (rKind b).1 = 1
        · rw [if_pos ek] at he ⊢
          obtain ⟨h1, h2, h3⟩ := depsS_back _ _ he.1
          unfold rMany at h1 h2 h3 ⊢
          obtain ⟨g1, g2, g3, g4, g5⟩ := withinS_back h1
          refine ⟨g1, h2, by rw [depsS_len]; exact g3, fun x => absurd ek x, ?_⟩
          unfold aftL
          rw [ek, if_pos (by rfl), putL_cons, depsS_len, Int.toNat_natCast]
          conv => lhs; rw [g5, h3]
          unfold rMany at he
          rw [he.2, List.append_nil]
        · rw [if_neg ek] at he ⊢
          refine ⟨he.1, rfl, by simp, fun _ => rfl, ?_⟩
          rw [he.2]
          unfold aftL
          rw [if_neg (by omega)]
          rfl
      obtain ⟨hf1, hf2, hf3, hf4, hf5⟩ := hf0
      obtain ⟨g1, g2, g3, g4⟩ := fillS_back (fieldsN (rKind b).1) zeroL (rKey b).2 (fields_nodup _) (fun i hi => by have := fields_in _ i hi; show i < 15; omega) hf1
      obtain ⟨w1, w2, w3, w4, w5⟩ := withinS_back (lo := 1) (hi := 1073741824) (s := (rKind b).2) g1
      obtain ⟨n1, n2, n3⟩ := numS_back (s := (b, 0)) e1
      rw [hq]
      refine ⟨⟨hkr, ⟨?_, ?_⟩, hf3, hf2, fun hne => hf4 (by simp only at hne; omega), fun i hi => g3 i hi, fun i a c hi => ?_⟩, ?_⟩
      · show (1 : Int) ≤ ((rKey b).1 : Int)
        have : 1 ≤ (rKey b).1 := w2
        omega
      · show ((rKey b).1 : Int) ≤ 1073741824
        have : (rKey b).1 ≤ 1073741824 := w3
        omega
      · show (rFill b).1.getD i 0 = 0
        have := g2 i hi
        show (fillS _ _ _).1.getD i 0 = 0
        rw [this]
        match i with
        | 0 | 1 | 2 | 3 | 4 | 5 | 6 | 7 | 8 | 9 | 10 | 11 | 12 | 13 | 14 => rfl
      · unfold writeQ numsL
        rw [putL_app, putL_app]
        show putL [((rKind b).1 : Int), ((rKey b).1 : Int)] ++ putL ((fieldsN (rKind b).1).map fun i => (rFill b).1.getD i 0) ++ putL (aftL (rKind b).1 (rDeps b).1) = b
        rw [← hf5]
        have e3 : putL ((fieldsN (rKind b).1).map fun i => (rFill b).1.getD i 0) ++ (rFill b).2.1 = (rKey b).2.1 := g4.symm
        rw [List.append_assoc, e3]
        have e4 : enc (rKey b).1 ++ (rKey b).2.1 = (rKind b).2.1 := w5.symm
        have e5 : enc (rKind b).1 ++ (rKind b).2.1 = b := n3.symm
        simp only [putL, List.flatMap_cons, List.flatMap_nil, Int.toNat_natCast, List.append_nil, List.append_assoc]
        rw [e4, e5]
  · rw [if_pos e1] at h; exact absurd h e1
/-- two right ones are the same just if their bytes are -/
theorem same_bytes {a b : Rq} (ha : RightQ a) (hb : RightQ b) : sameQ a b = decide (writeQ a = writeQ b) := by
  rw [Bool.eq_iff_iff, sameQ_iff, decide_eq_true_eq]
  constructor
  · rintro ⟨h1, h2, h3, h4⟩
    unfold writeQ numsL
    rw [h1, h2, h3]
    congr 3
    exact List.map_congr_left fun i hi => by
      have := fields_in _ i hi
      exact h4 i this.1 this.2
  · intro h
    have r1 := read_write ha
    have r2 := read_write hb
    rw [← h] at r2
    exact ⟨r1.kind.symm.trans r2.kind, r1.key.symm.trans r2.key, r1.af.symm.trans r2.af, fun i x y => (r1.nums i x y).symm.trans (r2.nums i x y)⟩
end Go.Proofs.YtbnlchbklpgejaaDoor.W
