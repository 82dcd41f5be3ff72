/-
  Vectors of resources as text: what a text is, how it is read, and that the one is the other's back: plain lists of bytes, no program.
-/
import Derived.Lib.ItoaNum
import Derived.Lib.IndexMore
import Derived.Lib.Join
import Derived.Test.YtgopjpnlpcmldaaGreatDoorVecSpec
namespace Go.Proofs.YtgopjpnlpcmldaaGreatDoor.W
set_option linter.unusedVariables false
set_option linter.unusedSimpArgs false
open Go

/-- a list cut at its first c -/
def cutAt (c : UInt8) : List UInt8 → List UInt8 × List UInt8 × Bool
  | [] => ([], [], false)
  | b :: l => if b = c then ([], l, true) else (b :: (cutAt c l).1, (cutAt c l).2.1, (cutAt c l).2.2)

theorem index_cons_one (c b : UInt8) (l : List UInt8) : Lib.index (b :: l) [c] = if b = c then 0 else if Lib.index l [c] = -1 then -1 else Lib.index l [c] + 1 := by
  by_cases h : b = c
  · subst h
    simp [Lib.index]
  · have h' : ¬ c = b := fun e => h e.symm
    simp [Lib.index, h, h']

theorem cut_one (c : UInt8) (s : List UInt8) : Lib.cut s [c] = cutAt c s := by
  induction s with
  | nil => simp [Lib.cut, Lib.index, cutAt]
  | cons b l ih =>
    unfold Lib.cut at ih ⊢
    rw [index_cons_one]
    have hge := Lib.index_ge l [c]
    unfold cutAt
    by_cases hb : b = c
    · simp [hb]
    · simp only [if_neg hb]
      by_cases hi : Lib.index l [c] = -1
      · simp only [hi, ↓reduceIte] at ih ⊢
        simp only [show ¬ (0 : Int) ≤ -1 by decide, ↓reduceIte] at ih ⊢
        rw [← ih]
      · have h0 : 0 ≤ Lib.index l [c] := by omega
        have h1 : 0 ≤ Lib.index l [c] + 1 := by omega
        simp only [hi, h0, h1, ↓reduceIte] at ih ⊢
        rw [← ih]
        obtain ⟨k, hk⟩ : ∃ k : Nat, Lib.index l [c] = k := ⟨(Lib.index l [c]).toNat, by omega⟩
        rw [hk]
        have e1 : ((k : Int) + 1).toNat = k + 1 := by omega
        have e2 : ((k : Int)).toNat = k := by omega
        rw [e1, e2]
        simp

theorem cutAt_none {c : UInt8} : ∀ {s : List UInt8}, c ∉ s → cutAt c s = (s, [], false)
  | [], _ => rfl
  | b :: l, h => by
    have hb : ¬ b = c := fun e => h (by simp [e])
    have hl : c ∉ l := fun e => h (by simp [e])
    unfold cutAt
    rw [if_neg hb, cutAt_none hl]

theorem cutAt_app {c : UInt8} : ∀ {p : List UInt8} (r : List UInt8), c ∉ p → cutAt c (p ++ c :: r) = (p, r, true)
  | [], r, _ => by simp [cutAt]
  | b :: l, r, h => by
    have hb : ¬ b = c := fun e => h (by simp [e])
    have hl : c ∉ l := fun e => h (by simp [e])
    have ih := cutAt_app r hl
    simp only [List.cons_append]
    unfold cutAt
    rw [if_neg hb, ih]

theorem cutAt_back (c : UInt8) : ∀ (s : List UInt8), c ∉ (cutAt c s).1 ∧ s = (cutAt c s).1 ++ (if (cutAt c s).2.2 then c :: (cutAt c s).2.1 else (cutAt c s).2.1) ∧ ((cutAt c s).2.2 = false → (cutAt c s).2.1 = [])
  | [] => by simp [cutAt]
  | b :: l => by
    obtain ⟨h1, h2, h3⟩ := cutAt_back c l
    unfold cutAt
    by_cases hb : b = c
    · simp [hb]
    · have hb' : ¬ c = b := fun e => hb e.symm
      simp only [if_neg hb]
      refine ⟨?_, ?_, h3⟩
      · simp [hb', h1]
      · simp only [List.cons_append, List.cons.injEq, true_and]
        exact h2

theorem cutAt_yes {c : UInt8} {s : List UInt8} (h : (cutAt c s).2.2 = true) : s = (cutAt c s).1 ++ c :: (cutAt c s).2.1 := by
  have := (cutAt_back c s).2.1
  rw [h] at this
  simpa using this
theorem cutAt_no {c : UInt8} {s : List UInt8} (h : (cutAt c s).2.2 = false) : s = (cutAt c s).1 ∧ (cutAt c s).2.1 = [] := by
  have h1 := (cutAt_back c s).2.1
  have h2 := (cutAt_back c s).2.2 h
  rw [h, h2] at h1
  exact ⟨by simpa using h1, h2⟩
theorem cutAt_len (c : UInt8) (s : List UInt8) : (cutAt c s).1.length ≤ s.length ∧ (cutAt c s).2.1.length ≤ s.length ∧ ((cutAt c s).2.2 = true → (cutAt c s).2.1.length < s.length) := by
  have h := (cutAt_back c s).2.1
  cases hb : (cutAt c s).2.2 with
  | true =>
    rw [hb] at h
    have hl := congrArg List.length h
    simp at hl
    refine ⟨by omega, by omega, fun _ => by omega⟩
  | false =>
    rw [hb] at h
    have hl := congrArg List.length h
    simp at hl
    refine ⟨by omega, by omega, fun x => by cases x⟩

/-! digits -/
def isDig (c : UInt8) : Prop := 48 ≤ c.toNat ∧ c.toNat ≤ 57
instance (c : UInt8) : Decidable (isDig c) := by unfold isDig; infer_instance
theorem dig_toNat {d : Nat} (h : d < 10) : (UInt8.ofNat (48 + d)).toNat = 48 + d := by
  rw [UInt8.toNat_ofNat']
  omega
theorem dec_digs (n : Nat) : ∀ c ∈ Lib.decDigits n, isDig c := by
  induction n using Nat.strongRecOn with
  | ind n ih =>
    intro c hc
    by_cases h : n < 10
    · rw [Lib.decDigits_one h] at hc
      simp only [List.mem_singleton] at hc
      subst hc
      unfold isDig
      rw [dig_toNat h]
      omega
    · rw [Lib.decDigits, dif_neg h] at hc
      simp only [List.mem_append, List.mem_singleton] at hc
      rcases hc with hc | hc
      · exact ih (n / 10) (by omega) c hc
      · subst hc
        unfold isDig
        rw [dig_toNat (by omega)]
        omega
theorem dec_snoc {n d : Nat} (hn : 0 < n) (hd : d < 10) : Lib.decDigits (10 * n + d) = Lib.decDigits n ++ [UInt8.ofNat (48 + d)] := by
  rw [Lib.decDigits, dif_neg (by omega)]
  rw [show (10 * n + d) / 10 = n by omega, show (10 * n + d) % 10 = d by omega]
theorem dec_ne_nil (n : Nat) : Lib.decDigits n ≠ [] := by
  rw [Lib.decDigits]
  split <;> simp
theorem not_dec {c : UInt8} (h : ¬ isDig c) (n : Nat) : c ∉ Lib.decDigits n := fun x => h (dec_digs n c x)
theorem dig_back {c : UInt8} (h : isDig c) : UInt8.ofNat (48 + (c.toNat - 48)) = c := by
  rw [show 48 + (c.toNat - 48) = c.toNat by have := h.1; omega]
  exact UInt8.ofNat_toNat

/-- what digits say, n ahead of them: 0 if they say nothing -/
def numL (n : Nat) : List UInt8 → Nat
  | [] => n
  | c :: t => if c.toNat < 48 ∨ 57 < c.toNat ∨ (c.toNat = 48 ∧ n = 0) then 0 else if 1048576 < 10 * n + (c.toNat - 48) then 0 else numL (10 * n + (c.toNat - 48)) t

theorem numL_app : ∀ (l r : List UInt8) (n : Nat), numL n l ≠ 0 → numL n (l ++ r) = numL (numL n l) r
  | [], r, n, _ => rfl
  | c :: t, r, n, h => by
    simp only [List.cons_append, numL] at h ⊢
    by_cases h1 : c.toNat < 48 ∨ 57 < c.toNat ∨ (c.toNat = 48 ∧ n = 0)
    · rw [if_pos h1] at h; exact absurd rfl h
    · rw [if_neg h1] at h
      simp only [if_neg h1]
      by_cases h2 : 1048576 < 10 * n + (c.toNat - 48)
      · rw [if_pos h2] at h; exact absurd rfl h
      · rw [if_neg h2] at h
        simp only [if_neg h2]
        exact numL_app t r _ h

theorem numL_dec (n : Nat) (h0 : 0 < n) (h1 : n ≤ 1048576) : numL 0 (Lib.decDigits n) = n := by
  induction n using Nat.strongRecOn with
  | ind n ih =>
    by_cases h : n < 10
    · rw [Lib.decDigits_one h]
      simp only [numL]
      rw [dig_toNat h]
      rw [if_neg (by omega), if_neg (by omega)]
      omega
    · have ih' := ih (n / 10) (by omega) (by omega) (by omega)
      rw [Lib.decDigits, dif_neg h, numL_app _ _ _ (by rw [ih']; omega), ih']
      simp only [numL]
      rw [dig_toNat (by omega), if_neg (by omega), if_neg (by omega)]
      omega

theorem numL_back1 : ∀ (l : List UInt8) (n : Nat), 0 < n → n ≤ 1048576 → numL n l ≠ 0 → Lib.decDigits (numL n l) = Lib.decDigits n ++ l ∧ numL n l ≤ 1048576
  | [], n, _, h1, _ => by simp [numL, h1]
  | c :: t, n, h0, h1, h => by
    simp only [numL] at h ⊢
    by_cases g1 : c.toNat < 48 ∨ 57 < c.toNat ∨ (c.toNat = 48 ∧ n = 0)
    · rw [if_pos g1] at h; exact absurd rfl h
    · by_cases g2 : 1048576 < 10 * n + (c.toNat - 48)
      · rw [if_neg g1, if_pos g2] at h; exact absurd rfl h
      · rw [if_neg g1, if_neg g2] at h ⊢
        obtain ⟨e1, e2⟩ := numL_back1 t _ (by omega) (by omega) h
        refine ⟨?_, e2⟩
        rw [e1, dec_snoc h0 (by omega), dig_back (⟨by omega, by omega⟩ : isDig c)]
        simp

theorem numL_back {l : List UInt8} (h : numL 0 l ≠ 0) : l = Lib.decDigits (numL 0 l) ∧ numL 0 l ≤ 1048576 := by
  match l with
  | [] => exact absurd rfl h
  | c :: t =>
    simp only [numL] at h ⊢
    by_cases g1 : c.toNat < 48 ∨ 57 < c.toNat ∨ (c.toNat = 48 ∧ True)
    · rw [if_pos (by simpa using g1)] at h; exact absurd rfl h
    · by_cases g2 : 1048576 < 10 * 0 + (c.toNat - 48)
      · rw [if_neg (by simpa using g1), if_pos g2] at h; exact absurd rfl h
      · rw [if_neg (by simpa using g1), if_neg g2] at h ⊢
        simp only [and_true] at g1
        obtain ⟨e1, e2⟩ := numL_back1 t _ (by omega) (by omega) h
        refine ⟨?_, e2⟩
        rw [e1, Lib.decDigits_one (by omega), show 48 + (10 * 0 + (c.toNat - 48)) = 48 + (c.toNat - 48) by omega, dig_back (⟨by omega, by omega⟩ : isDig c)]
        rfl

/-! the parts and the text -/
def uwords : List (List UInt8) := [[99, 112, 117], [109, 101, 109], [103, 112, 117], [108, 105, 99]]
def upart (w : List UInt8) (n : Nat) : List UInt8 := w ++ 61 :: Lib.decDigits n
def uparts : List (List UInt8) → List Nat → List (List UInt8)
  | w :: ws, n :: ns => if n = 0 then uparts ws ns else upart w n :: uparts ws ns
  | _, _ => []
def ujoin : List (List UInt8) → List UInt8
  | [] => []
  | x :: r => match r with | [] => x | _ :: _ => x ++ 44 :: ujoin r
def unone : List UInt8 := [110, 111, 110, 101]
def utext (ns : List Nat) : List UInt8 := if uparts uwords ns = [] then unone else ujoin (uparts uwords ns)

theorem ujoin_one (x : List UInt8) : ujoin [x] = x := by simp [ujoin]
theorem ujoin_cons (x y : List UInt8) (r : List (List UInt8)) : ujoin (x :: y :: r) = x ++ 44 :: ujoin (y :: r) := by simp [ujoin]
theorem ujoin_more (x : List UInt8) {r : List (List UInt8)} (h : r ≠ []) : ujoin (x :: r) = x ++ 44 :: ujoin r := by
  cases r with
  | nil => exact absurd rfl h
  | cons y r => exact ujoin_cons x y r
theorem ujoin_lib : ∀ (ps : List (List UInt8)), Lib.join ps [44] = ujoin ps
  | [] => rfl
  | [x] => by rw [Lib.join_one, ujoin_one]
  | x :: y :: r => by
    rw [ujoin_cons, ← ujoin_lib (y :: r), Lib.join_cons, Lib.join_cons]
    simp [Lib.joinTail]
theorem ujoin_snoc : ∀ (ps : List (List UInt8)) (p : List UInt8), ujoin (ps ++ [p]) = if ps = [] then p else ujoin ps ++ 44 :: p
  | [], p => by simp [ujoin]
  | [x], p => by simp [ujoin]
  | x :: y :: r, p => by
    have ih := ujoin_snoc (y :: r) p
    simp only [List.cons_append, ujoin_cons, reduceCtorEq, ↓reduceIte] at ih ⊢
    rw [ih]
    simp

/-- a word as this layer has them: no comma, no '=', not empty -/
def goodW (w : List UInt8) : Prop := 61 ∉ w ∧ 44 ∉ w
theorem good_words : ∀ w ∈ uwords, goodW w := by
  unfold goodW uwords
  decide
theorem nodup_words : uwords.Nodup := by unfold uwords; decide

theorem part_cut {w : List UInt8} (h : goodW w) (n : Nat) : cutAt 61 (upart w n) = (w, Lib.decDigits n, true) := cutAt_app _ h.1
theorem part_no44 {w : List UInt8} (h : goodW w) (n : Nat) : 44 ∉ upart w n := by
  unfold upart
  simp only [List.mem_append, List.mem_cons, not_or]
  exact ⟨h.2, by decide, not_dec (by decide) n⟩

/-- how a text is read, word by word -/
def readW : List (List UInt8) → List UInt8 → Option (List Nat)
  | [], _ => none
  | w :: ws, s =>
    if (cutAt 61 (cutAt 44 s).1).1 = w then
      (if numL 0 (cutAt 61 (cutAt 44 s).1).2.1 = 0 then none
       else if (cutAt 44 s).2.2 then (readW ws (cutAt 44 s).2.1).map (numL 0 (cutAt 61 (cutAt 44 s).1).2.1 :: ·)
       else some (numL 0 (cutAt 61 (cutAt 44 s).1).2.1 :: ws.map (fun _ => 0)))
    else (readW ws s).map (0 :: ·)

theorem uparts_zeros : ∀ ws : List (List UInt8), uparts ws (ws.map (fun _ => 0)) = []
  | [] => rfl
  | _ :: ws => by simp [uparts, uparts_zeros ws]
theorem uparts_none : ∀ (ws : List (List UInt8)) (ns : List Nat), ns.length = ws.length → uparts ws ns = [] → ns = ws.map (fun _ => 0)
  | [], [], _, _ => rfl
  | _ :: ws, n :: ns, hl, h => by
    unfold uparts at h
    by_cases hn : n = 0
    · rw [if_pos hn] at h
      have ih := uparts_none ws ns (by simpa using hl) h
      simp only [List.map_cons, hn, List.cons.injEq, true_and]
      exact ih
    · rw [if_neg hn] at h
      cases h
  | [], _ :: _, hl, _ => by simp at hl
  | _ :: _, [], hl, _ => by simp at hl

theorem read_sound : ∀ (ws : List (List UInt8)) (s : List UInt8) (ns : List Nat), readW ws s = some ns →
    ns.length = ws.length ∧ (∀ n ∈ ns, n ≤ 1048576) ∧ uparts ws ns ≠ [] ∧ s = ujoin (uparts ws ns)
  | [], s, ns, h => by simp [readW] at h
  | w :: ws, s, ns, h => by
    unfold readW at h
    by_cases hw : (cutAt 61 (cutAt 44 s).1).1 = w
    · rw [if_pos hw] at h
      by_cases hn : numL 0 (cutAt 61 (cutAt 44 s).1).2.1 = 0
      · rw [if_pos hn] at h; cases h
      · rw [if_neg hn] at h
        obtain ⟨hd, hb⟩ := numL_back hn
        have h61 : (cutAt 61 (cutAt 44 s).1).2.2 = true := by
          cases hx : (cutAt 61 (cutAt 44 s).1).2.2 with
          | true => rfl
          | false =>
            rw [(cutAt_no hx).2] at hn
            exact absurd rfl hn
        have hp : (cutAt 44 s).1 = upart w (numL 0 (cutAt 61 (cutAt 44 s).1).2.1) := by
          have := cutAt_yes h61
          rw [hw] at this
          unfold upart
          rw [← hd]
          exact this
        by_cases hm : (cutAt 44 s).2.2 = true
        · rw [if_pos hm] at h
          rw [Option.map_eq_some_iff] at h
          obtain ⟨r, hr, rfl⟩ := h
          obtain ⟨i1, i2, i3, i4⟩ := read_sound ws _ r hr
          have e : uparts (w :: ws) (numL 0 (cutAt 61 (cutAt 44 s).1).2.1 :: r) = upart w (numL 0 (cutAt 61 (cutAt 44 s).1).2.1) :: uparts ws r := by
            simp only [uparts]; rw [if_neg hn]
          refine ⟨by simp [i1], ?_, by rw [e]; simp, ?_⟩
          · intro n hn'
            simp only [List.mem_cons] at hn'
            rcases hn' with rfl | hn'
            · exact hb
            · exact i2 n hn'
          · rw [e, ujoin_more _ i3, ← i4, ← hp]
            exact cutAt_yes hm
        · rw [if_neg hm] at h
          have hm' : (cutAt 44 s).2.2 = false := by simpa using hm
          cases h
          have e : uparts (w :: ws) (numL 0 (cutAt 61 (cutAt 44 s).1).2.1 :: ws.map (fun _ => 0)) = [upart w (numL 0 (cutAt 61 (cutAt 44 s).1).2.1)] := by
            simp only [uparts]; rw [if_neg hn, uparts_zeros]
          refine ⟨by simp, ?_, by rw [e]; simp, ?_⟩
          · intro n hn'
            simp only [List.mem_cons, List.mem_map] at hn'
            rcases hn' with rfl | ⟨_, _, rfl⟩
            · exact hb
            · omega
          · rw [e, ujoin_one, ← hp]
            exact (cutAt_no hm').1
    · rw [if_neg hw, Option.map_eq_some_iff] at h
      obtain ⟨r, hr, rfl⟩ := h
      obtain ⟨i1, i2, i3, i4⟩ := read_sound ws _ r hr
      have e : uparts (w :: ws) (0 :: r) = uparts ws r := by simp [uparts]
      refine ⟨by simp [i1], ?_, by rw [e]; exact i3, by rw [e]; exact i4⟩
      intro n hn'
      simp only [List.mem_cons] at hn'
      rcases hn' with rfl | hn'
      · omega
      · exact i2 n hn'

theorem first_part : ∀ (ws : List (List UInt8)) (ns : List Nat), uparts ws ns ≠ [] → ∃ w n r, w ∈ ws ∧ uparts ws ns = upart w n :: r
  | [], _, h => by simp [uparts] at h
  | _ :: _, [], h => by simp [uparts] at h
  | w :: ws, n :: ns, h => by
    unfold uparts at h ⊢
    by_cases hn : n = 0
    · rw [if_pos hn] at h ⊢
      obtain ⟨v, m, r, hv, e⟩ := first_part ws ns h
      exact ⟨v, m, r, by simp [hv], e⟩
    · rw [if_neg hn]
      exact ⟨w, n, _, by simp, rfl⟩

theorem join_head {w : List UInt8} (hw : goodW w) (n : Nat) (r : List (List UInt8)) : cutAt 44 (ujoin (upart w n :: r)) = (upart w n, ujoin r, decide (r ≠ [])) := by
  cases r with
  | nil => rw [ujoin_one, cutAt_none (part_no44 hw n)]; rfl
  | cons y r =>
    rw [ujoin_cons, cutAt_app _ (part_no44 hw n)]
    simp

theorem read_complete : ∀ (ws : List (List UInt8)) (ns : List Nat), ns.length = ws.length → (∀ n ∈ ns, n ≤ 1048576) → (∀ w ∈ ws, goodW w) → ws.Nodup → uparts ws ns ≠ [] →
    readW ws (ujoin (uparts ws ns)) = some ns
  | [], ns, _, _, _, _, h => by simp [uparts] at h
  | _ :: _, [], hl, _, _, _, _ => by simp at hl
  | w :: ws, n :: ns, hl, hb, hg, hd, h => by
    have hl' : ns.length = ws.length := by simpa using hl
    have hb' : ∀ n ∈ ns, n ≤ 1048576 := fun m hm => hb m (by simp [hm])
    have hg' : ∀ w ∈ ws, goodW w := fun v hv => hg v (by simp [hv])
    have hgw : goodW w := hg w (by simp)
    have hd' := List.nodup_cons.mp hd
    by_cases hn : n = 0
    · have e : uparts (w :: ws) (n :: ns) = uparts ws ns := by simp [uparts, hn]
      rw [e] at h ⊢
      have ih := read_complete ws ns hl' hb' hg' hd'.2 h
      obtain ⟨v, m, r, hv, ep⟩ := first_part ws ns h
      unfold readW
      rw [if_neg, ih]
      · simp [hn]
      · rw [ep, join_head (hg' v hv) m r]
        simp only
        rw [part_cut (hg' v hv)]
        intro x
        subst x
        exact hd'.1 hv
    · have e : uparts (w :: ws) (n :: ns) = upart w n :: uparts ws ns := by simp [uparts, hn]
      rw [e]
      unfold readW
      rw [join_head hgw n]
      simp only
      rw [part_cut hgw]
      simp only
      have hnum := numL_dec n (by omega) (hb n (by simp))
      rw [if_pos trivial, hnum, if_neg hn]
      by_cases hr : uparts ws ns = []
      · simp only [hr, ne_eq, not_true_eq_false, decide_false, Bool.false_eq_true, ↓reduceIte]
        rw [uparts_none ws ns hl' hr]
      · simp only [ne_eq, hr, not_false_eq_true, decide_true, ↓reduceIte]
        rw [read_complete ws ns hl' hb' hg' hd'.2 hr]
        rfl

/-- which vector a text is -/
def readU (s : List UInt8) : Option (List Nat) := if s = unone then some [0, 0, 0, 0] else readW uwords s

theorem mem_join : ∀ (ps : List (List UInt8)) (p : List UInt8) (c : UInt8), c ∈ p → c ∈ ujoin (p :: ps)
  | [], p, c, h => by rw [ujoin_one]; exact h
  | _ :: _, p, c, h => by rw [ujoin_cons]; simp [h]
theorem join_ne_none (ns : List Nat) (h : uparts uwords ns ≠ []) : ujoin (uparts uwords ns) ≠ unone := by
  obtain ⟨w, n, r, _, e⟩ := first_part _ _ h
  intro x
  have : (61 : UInt8) ∈ unone := by
    rw [← x, e]
    exact mem_join _ _ _ (by simp [upart])
  revert this
  decide

theorem readU_sound {s : List UInt8} {ns : List Nat} (h : readU s = some ns) : ns.length = 4 ∧ (∀ n ∈ ns, n ≤ 1048576) ∧ utext ns = s := by
  unfold readU at h
  by_cases hs : s = unone
  · rw [if_pos hs] at h
    cases h
    refine ⟨rfl, by decide, ?_⟩
    rw [hs]
    rfl
  · rw [if_neg hs] at h
    obtain ⟨h1, h2, h3, h4⟩ := read_sound _ _ _ h
    refine ⟨h1, h2, ?_⟩
    unfold utext
    rw [if_neg h3]
    exact h4.symm
theorem readU_complete {ns : List Nat} (hl : ns.length = 4) (hb : ∀ n ∈ ns, n ≤ 1048576) : readU (utext ns) = some ns := by
  unfold readU utext
  by_cases h : uparts uwords ns = []
  · rw [if_pos h, if_pos rfl]
    rw [uparts_none uwords ns hl h]
    rfl
  · rw [if_neg h, if_neg (join_ne_none ns h)]
    exact read_complete uwords ns hl hb good_words nodup_words h

end Go.Proofs.YtgopjpnlpcmldaaGreatDoor.W
