/-
  Plain functions: replies, when they are right, their bytes; which reply bytes are, read from the left; that it is read as it was written, and written as it was read. No Go in sight.
-/
import Derived.Test.YtbnlchbklpgejaaDoorAskReadS
namespace Go.Proofs.YtbnlchbklpgejaaDoor.W
set_option linter.unusedVariables false
set_option linter.unusedSimpArgs false

/-- a reply: its four numbers, its Nums and where they lie -/
structure Rp where
  key : Int
  err : Int
  job : Int
  ver : Int
  na : Option Addr
  nc : Nat
  nums : List Int
def fourL (r : Rp) : List Int := [r.key, r.err, r.job, r.ver]
def fourMax : List Int := [1073741824, 99, 281474976710656, 281474976710656]
def fourB (r : Rp) : Bool := decide (0 ≤ r.key ∧ r.key ≤ 1073741824) && decide (0 ≤ r.err ∧ r.err ≤ 99) && okN r.job && okN r.ver
def manyB (l : List Int) : Bool := decide (l.length ≤ 64) && okL l
def rightP (r : Rp) : Bool := fourB r && manyB r.nums
def numsP (r : Rp) : List Int := [r.key, r.err, r.job, r.ver, (r.nums.length : Int)] ++ r.nums
def writeP (r : Rp) : List UInt8 := putL (numsP r)
def sameP (a b : Rp) : Bool := decide (fourL a = fourL b) && decide (a.nums = b.nums)
theorem sameP_iff (a b : Rp) : sameP a b = true ↔ a.key = b.key ∧ a.err = b.err ∧ a.job = b.job ∧ a.ver = b.ver ∧ a.nums = b.nums := by
  unfold sameP fourL
  simp only [Bool.and_eq_true, decide_eq_true_eq, List.cons.injEq, and_true]
  constructor
  · rintro ⟨⟨h1, h2, h3, h4⟩, h5⟩; exact ⟨h1, h2, h3, h4, h5⟩
  · rintro ⟨h1, h2, h3, h4, h5⟩; exact ⟨⟨h1, h2, h3, h4⟩, h5⟩
theorem sameP_refl (a : Rp) : sameP a a = true := (sameP_iff a a).2 ⟨rfl, rfl, rfl, rfl, rfl⟩
structure RightP (r : Rp) : Prop where
  key : 0 ≤ r.key ∧ r.key ≤ 1073741824
  err : 0 ≤ r.err ∧ r.err ≤ 99
  job : okN r.job = true
  ver : okN r.ver = true
  few : r.nums.length ≤ 64
  nums : okL r.nums = true
theorem rightP_is {r : Rp} (h : rightP r = true) : RightP r := by
  unfold rightP fourB manyB at h
  simp only [Bool.and_eq_true, decide_eq_true_eq] at h
  obtain ⟨⟨⟨⟨h1, h2⟩, h3⟩, h4⟩, h5, h6⟩ := h
  exact ⟨h1, h2, h3, h4, h5, h6⟩
theorem rightP_of {r : Rp} (h : RightP r) : rightP r = true := by
  unfold rightP fourB manyB
  simp only [Bool.and_eq_true, decide_eq_true_eq]
  exact ⟨⟨⟨⟨h.key, h.err⟩, h.job⟩, h.ver⟩, h.few, h.nums⟩
theorem numsP_ok {r : Rp} (h : RightP r) : okL (numsP r) = true := by
  have h1 : okN r.key = true := by have := h.key; exact decide_eq_true ⟨by omega, by omega⟩
  have h2 : okN r.err = true := by have := h.err; exact decide_eq_true ⟨by omega, by omega⟩
  have h3 : okN (r.nums.length : Int) = true := by have := h.few; exact decide_eq_true ⟨by omega, by omega⟩
  have h4 := h.nums
  unfold numsP
  unfold okL at h4 ⊢
  simp [h1, h2, h3, h.job, h.ver]
  exact fun x hx => List.all_eq_true.1 h4 x hx
theorem numsP_len (r : Rp) : (numsP r).length = 5 + r.nums.length := by simp [numsP]; omega

/-! reading -/
/-- so many numbers -/
def manyS : Nat → St → List Int × St
  | 0, s => ([], s)
  | n + 1, s => ((manyS n s).1 ++ [((numS (manyS n s).2).1 : Int)], (numS (manyS n s).2).2)
theorem manyS_len : ∀ (n : Nat) (s : St), (manyS n s).1.length = n
  | 0, _ => rfl
  | n + 1, s => by simp [manyS, manyS_len n s]
/-- a number that may be as great as any may be is as it is -/
theorem within_num (s : St) : withinS 0 281474976710656 s = numS s := by
  unfold withinS
  split
  · rename_i h
    have := numS_back h
    rw [if_pos ⟨Nat.zero_le _, this.2.1⟩]
  · rename_i h
    have h0 : (numS s).1 = 0 := by
      unfold numS at h ⊢
      split
      · rename_i h1
        rw [if_pos h1] at h
        split
        · rename_i h2; rw [if_pos h2] at h; exact absurd rfl h
        · rfl
      · rfl
    rw [← h0]
def p1 (b : List UInt8) : Nat × St := withinS 0 1073741824 (b, 0)
def p2 (b : List UInt8) : Nat × St := withinS 0 99 (p1 b).2
def p3 (b : List UInt8) : Nat × St := numS (p2 b).2
def p4 (b : List UInt8) : Nat × St := numS (p3 b).2
def p5 (b : List UInt8) : Nat × St := withinS 0 64 (p4 b).2
def p6 (b : List UInt8) : List Int × St := manyS (p5 b).1 (p5 b).2
theorem p1_eq (b : List UInt8) : p1 b = withinS 0 1073741824 (b, 0) := by unfold p1; rfl
theorem p2_eq (b : List UInt8) : p2 b = withinS 0 99 (p1 b).2 := by unfold p2; rfl
theorem p3_eq (b : List UInt8) : p3 b = numS (p2 b).2 := by unfold p3; rfl
theorem p4_eq (b : List UInt8) : p4 b = numS (p3 b).2 := by unfold p4; rfl
theorem p5_eq (b : List UInt8) : p5 b = withinS 0 64 (p4 b).2 := by unfold p5; rfl
theorem p6_eq (b : List UInt8) : p6 b = manyS (p5 b).1 (p5 b).2 := by unfold p6; rfl
theorem p6_len (b : List UInt8) : (p6 b).1.length = (p5 b).1 := by rw [p6_eq]; exact manyS_len _ _
def readPE (b : List UInt8) : Nat := endS (p6 b).2
def zeroP : Rp := ⟨0, 0, 0, 0, none, 0, []⟩
/-- what is read, as it would lie at an address -/
def readP (b : List UInt8) (na : Option Addr) (nc : Nat) : Rp := if readPE b = 0 then ⟨(p1 b).1, (p2 b).1, (p3 b).1, (p4 b).1, na, nc, (p6 b).1⟩ else zeroP

theorem manyS_put : ∀ (n : Nat) (l : List Int) (t : List UInt8), n ≤ l.length → okL l = true → manyS n (putL l ++ t, 0) = (l.take n, (putL (l.drop n) ++ t, 0))
  | 0, l, t, _, _ => by simp [manyS]
  | n + 1, l, t, hn, h => by
    have ih := manyS_put n l t (by omega) h
    have hlt : n < l.length := by omega
    have hx := okL_at h n hlt
    have ho : okN l[n] = true := decide_eq_true hx
    unfold manyS
    rw [ih, putL_drop l n hlt, List.append_assoc, numS_put ho, take_snoc l n hlt]
    simp only
    rw [show (((l[n]).toNat : Nat) : Int) = l[n] by omega]
theorem read_writeP {r : Rp} (h : RightP r) (na : Option Addr) (nc : Nat) : readPE (writeP r) = 0 ∧ sameP (readP (writeP r) na nc) r = true := by
  have hk : okN r.key = true := by have := h.key; exact decide_eq_true ⟨by omega, by omega⟩
  have he : okN r.err = true := by have := h.err; exact decide_eq_true ⟨by omega, by omega⟩
  have hl : okN (r.nums.length : Int) = true := by have := h.few; exact decide_eq_true ⟨by omega, by omega⟩
  have hj := (okN_iff _).1 h.job
  have hv := (okN_iff _).1 h.ver
  have e0 : writeP r = enc r.key.toNat ++ (enc r.err.toNat ++ (enc r.job.toNat ++ (enc r.ver.toNat ++ (enc ((r.nums.length : Int).toNat) ++ (putL r.nums ++ []))))) := by
    unfold writeP numsP
    rw [putL_app]
    simp [putL, List.append_assoc]
  have k1 := withinS_put 0 1073741824 hk (by have := h.key; omega) (by have := h.key; omega) (enc r.err.toNat ++ (enc r.job.toNat ++ (enc r.ver.toNat ++ (enc ((r.nums.length : Int).toNat) ++ (putL r.nums ++ [])))))
  have k2 := withinS_put 0 99 he (by have := h.err; omega) (by have := h.err; omega) (enc r.job.toNat ++ (enc r.ver.toNat ++ (enc ((r.nums.length : Int).toNat) ++ (putL r.nums ++ []))))
  have k3 := numS_put h.job (enc r.ver.toNat ++ (enc ((r.nums.length : Int).toNat) ++ (putL r.nums ++ [])))
  have k4 := numS_put h.ver (enc ((r.nums.length : Int).toNat) ++ (putL r.nums ++ []))
  have k5 := withinS_put 0 64 hl (by omega) (by have := h.few; omega) (putL r.nums ++ [])
  have k6 := manyS_put r.nums.length r.nums [] (Nat.le_refl _) h.nums
  have q1 := k1
  rw [← e0] at q1
  have q2 := (congrArg (fun s : Nat × St => withinS 0 99 s.2) q1).trans k2
  have q3 := (congrArg (fun s : Nat × St => numS s.2) q2).trans k3
  have q4 := (congrArg (fun s : Nat × St => numS s.2) q3).trans k4
  have q5 := (congrArg (fun s : Nat × St => withinS 0 64 s.2) q4).trans k5
  change p1 (writeP r) = _ at q1
  change p2 (writeP r) = _ at q2
  change p3 (writeP r) = _ at q3
  change p4 (writeP r) = _ at q4
  change p5 (writeP r) = _ at q5
  have q6 : p6 (writeP r) = (r.nums, ([], 0)) := by
    unfold p6
    rw [q5]
    simp only
    rw [Int.toNat_natCast, k6]
    simp [putL]
  have hE : readPE (writeP r) = 0 := by unfold readPE; rw [q6]; rfl
  refine ⟨hE, (sameP_iff _ _).2 ?_⟩
  unfold readP
  rw [if_pos hE, q1, q2, q3, q4, q6]
  have := h.key
  have := h.err
  exact ⟨by simp only; omega, by simp only; omega, by simp only; omega, by simp only; omega, rfl⟩
theorem manyS_back : ∀ (n : Nat) (s : St), (manyS n s).2.2 = 0 → s.2 = 0 ∧ okL (manyS n s).1 = true ∧ s.1 = putL (manyS n s).1 ++ (manyS n s).2.1
  | 0, s, h => ⟨h, rfl, rfl⟩
  | n + 1, s, h => by
    unfold manyS at h ⊢
    simp only at h ⊢
    obtain ⟨k1, k2, k3⟩ := numS_back h
    obtain ⟨h1, h2, h3⟩ := manyS_back n s k1
    refine ⟨h1, ?_, ?_⟩
    · rw [okL_app, h2]
      have : okN (((numS (manyS n s).2).1 : Nat) : Int) = true := decide_eq_true ⟨by omega, by omega⟩
      simp [okL, this]
    · rw [putL_snoc, List.append_assoc, Int.toNat_natCast, ← k3]
      exact h3
theorem write_readP {b : List UInt8} (h : readPE b = 0) (na : Option Addr) (nc : Nat) : RightP (readP b na nc) ∧ writeP (readP b na nc) = b := by
  have hq : readP b na nc = ⟨(p1 b).1, (p2 b).1, (p3 b).1, (p4 b).1, na, nc, (p6 b).1⟩ := by unfold readP; rw [if_pos h]
  have he : (p6 b).2.2 = 0 ∧ (p6 b).2.1 = [] := by
    unfold readPE at h
    generalize p6 b = x at h
    unfold endS at h
    split at h
    · cases h
    · rename_i hne
      exact ⟨h, List.eq_nil_of_length_eq_zero (by omega)⟩
  have k6 := manyS_back (p5 b).1 (p5 b).2
  rw [← p6_eq] at k6
  obtain ⟨h6, h6b, h6c⟩ := k6 he.1
  have k5 := @withinS_back 0 64 (p4 b).2
  rw [← p5_eq] at k5
  obtain ⟨g5, g5a, g5b, g5c, g5d⟩ := k5 h6
  have k4 := @numS_back (p3 b).2
  rw [← p4_eq] at k4
  obtain ⟨g4, g4b, g4c⟩ := k4 g5
  have k3 := @numS_back (p2 b).2
  rw [← p3_eq] at k3
  obtain ⟨g3, g3b, g3c⟩ := k3 g4
  have k2 := @withinS_back 0 99 (p1 b).2
  rw [← p2_eq] at k2
  obtain ⟨g2, g2a, g2b, g2c, g2d⟩ := k2 g3
  have k1 := @withinS_back 0 1073741824 (b, 0)
  rw [← p1_eq] at k1
  obtain ⟨g1, g1a, g1b, g1c, g1d⟩ := k1 g2
  have hl : (p6 b).1.length = (p5 b).1 := p6_len b
  have e6 : putL (p6 b).1 = (p5 b).2.1 := by
    have h6c' : (p5 b).2.1 = putL (p6 b).1 ++ (p6 b).2.1 := h6c
    rw [he.2, List.append_nil] at h6c'
    exact h6c'.symm
  have e5 : enc (p5 b).1 ++ (p5 b).2.1 = (p4 b).2.1 := g5d.symm
  have e4 : enc (p4 b).1 ++ (p4 b).2.1 = (p3 b).2.1 := g4c.symm
  have e3 : enc (p3 b).1 ++ (p3 b).2.1 = (p2 b).2.1 := g3c.symm
  have e2 : enc (p2 b).1 ++ (p2 b).2.1 = (p1 b).2.1 := g2d.symm
  have e1 : enc (p1 b).1 ++ (p1 b).2.1 = b := g1d.symm
  have b1 : (p1 b).1 ≤ 1073741824 := g1b
  have b2 : (p2 b).1 ≤ 99 := g2b
  have b3 : (p3 b).1 ≤ 281474976710656 := g3b
  have b4 : (p4 b).1 ≤ 281474976710656 := g4b
  have b5 : (p5 b).1 ≤ 64 := g5b
  have b6 : okL (p6 b).1 = true := h6b
  rw [hq]
  clear hq he h k1 k2 k3 k4 k5 k6 h6 h6b h6c g5 g5a g5b g5c g5d g4 g4b g4c g3 g3b g3c g2 g2a g2b g2c g2d g1 g1a g1b g1c g1d
  generalize p1 b = x1 at *
  generalize p2 b = x2 at *
  generalize p3 b = x3 at *
  generalize p4 b = x4 at *
  generalize p5 b = x5 at *
  generalize p6 b = x6 at *
  obtain ⟨n1, s1⟩ := x1
  obtain ⟨n2, s2⟩ := x2
  obtain ⟨n3, s3⟩ := x3
  obtain ⟨n4, s4⟩ := x4
  simp only at *
  refine ⟨⟨⟨?_, ?_⟩, ⟨?_, ?_⟩, decide_eq_true ⟨?_, ?_⟩, decide_eq_true ⟨?_, ?_⟩, ?_, b6⟩, ?_⟩
  · show (0 : Int) ≤ (n1 : Int); omega
  · show (n1 : Int) ≤ _; omega
  · show (0 : Int) ≤ (n2 : Int); omega
  · show (n2 : Int) ≤ _; omega
  · show (0 : Int) ≤ (n3 : Int); omega
  · show (n3 : Int) ≤ _; omega
  · show (0 : Int) ≤ (n4 : Int); omega
  · show (n4 : Int) ≤ _; omega
  · show x6.1.length ≤ 64
    rw [hl]; exact b5
  · unfold writeP numsP
    rw [putL_app]
    show putL [(n1 : Int), (n2 : Int), (n3 : Int), (n4 : Int), (x6.1.length : Int)] ++ putL x6.1 = b
    rw [hl, e6]
    simp only [putL, List.flatMap_cons, List.flatMap_nil, Int.toNat_natCast, List.append_nil, List.append_assoc]
    rw [e5, e4, e3, e2, e1]
theorem readP_same (b : List UInt8) (a1 a2 : Option Addr) (c1 c2 : Nat) : sameP (readP b a1 c1) (readP b a2 c2) = true := by
  unfold readP
  split
  · exact (sameP_iff _ _).2 ⟨rfl, rfl, rfl, rfl, rfl⟩
  · exact sameP_refl _
theorem withinS_le {lo hi : Nat} {s : St} : (withinS lo hi s).1 ≤ hi := by
  unfold withinS
  split
  · split
    · rename_i h; exact h.2
    · exact Nat.zero_le _
  · exact Nat.zero_le _
theorem readP_len (b : List UInt8) (na : Option Addr) (nc : Nat) : (readP b na nc).nums.length ≤ 64 := by
  unfold readP
  split
  · simp only
    rw [p6_len, p5_eq]
    exact withinS_le
  · simp [zeroP]
end Go.Proofs.YtbnlchbklpgejaaDoor.W
