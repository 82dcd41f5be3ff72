/-
  Set-ups, as plain records: which are right, and what isn't so first.
-/
import Derived.Test.YtcdajfiohhbdgaaVecSpec
import Derived.WalkKit
namespace Go.Proofs.Ytcdajfiohhbdgaa.W
set_option linter.unusedVariables false

/-- a slice of integers: where it lies, its capacity, what it holds -/
structure Sl where
  a : Option Addr
  cap : Nat
  l : List Int
structure QR where
  part : Int
  users : Sl
  mj : Int
  mr : Int
  mu : Int
  qos : Int
structure S where
  na : Option Addr
  nc : Nat
  nodes : List V
  pa : Option Addr
  pc : Nat
  parts : List Sl
  qa : Option Addr
  qc : Nat
  queues : List QR
  users : Int
  age : Int
  size : Int
  qos : Int
  share : Int
  decay : Int
  mode : Int
  jobs : Int
  ids : Int
  versions : Int
  linger : Int
  keep : Int
  inn : Int
  out : Int
  cache : Int

/-- the one ahead of it, -1 ahead of the first -/
def prevI (l : List Int) (i : Nat) : Int := match i with | 0 => -1 | j + 1 => l.getD j 0
def RiseSp (l : List Int) (e : Int) : Prop := ∀ i, i < l.length → prevI l i < l.getD i 0 ∧ l.getD i 0 < e
instance (l : List Int) (e : Int) : Decidable (RiseSp l e) := by unfold RiseSp; infer_instance
def riseB (l : List Int) (e : Int) : Bool := decide (RiseSp l e)
/-- the same, as the document has it -/
theorem rise_doc (l : List Int) (e : Int) : (∀ i, i < l.length → 0 ≤ l.getD i 0 ∧ l.getD i 0 < e ∧ (0 < i → l.getD (i - 1) 0 < l.getD i 0)) ↔ RiseSp l e := by
  constructor
  · intro h i hi
    obtain ⟨h0, h1, h2⟩ := h i hi
    refine ⟨?_, h1⟩
    cases i with
    | zero => simp only [prevI]; omega
    | succ j => exact h2 (by omega)
  · intro h
    have pos : ∀ i, i < l.length → 0 ≤ l.getD i 0 := by
      intro i
      induction i with
      | zero => intro hi; have := (h 0 hi).1; simp only [prevI] at this; omega
      | succ j ih =>
        intro hi
        have h1 := (h (j + 1) hi).1
        have h2 := ih (by omega)
        simp only [prevI] at h1
        omega
    intro i hi
    refine ⟨pos i hi, (h i hi).2, fun h0 => ?_⟩
    cases i with
    | zero => omega
    | succ j => exact (h (j + 1) hi).1

def inB (n lo hi : Int) : Bool := decide (lo ≤ n ∧ n ≤ hi)
def NodesOk (s : S) : Prop := (1 ≤ s.nodes.length ∧ s.nodes.length ≤ 16) ∧ ∀ v ∈ s.nodes, v.Ok
def PartsOk (s : S) : Prop := (1 ≤ s.parts.length ∧ s.parts.length ≤ 8) ∧ ∀ p ∈ s.parts, p.l ≠ [] ∧ RiseSp p.l s.nodes.length
def QueueOk (s : S) (q : QR) : Prop := (0 ≤ q.part ∧ q.part < s.parts.length) ∧ RiseSp q.users.l s.users ∧ (1 ≤ q.mj ∧ q.mj ≤ 256) ∧ (1 ≤ q.mr ∧ q.mr ≤ 256) ∧ (1 ≤ q.mu ∧ q.mu ≤ 256) ∧ (0 ≤ q.qos ∧ q.qos ≤ 100)
def QueuesOk (s : S) : Prop := (1 ≤ s.queues.length ∧ s.queues.length ≤ 8) ∧ ∀ q ∈ s.queues, QueueOk s q
def WeightsOk (s : S) : Prop := (0 ≤ s.age ∧ s.age ≤ 1000) ∧ (0 ≤ s.size ∧ s.size ≤ 1000) ∧ (0 ≤ s.qos ∧ s.qos ≤ 1000) ∧ (0 ≤ s.share ∧ s.share ≤ 1000)
instance (s : S) : Decidable (NodesOk s) := by unfold NodesOk; infer_instance
instance (s : S) : Decidable (PartsOk s) := by unfold PartsOk; infer_instance
instance (s : S) (q : QR) : Decidable (QueueOk s q) := by unfold QueueOk; infer_instance
instance (s : S) : Decidable (QueuesOk s) := by unfold QueuesOk; infer_instance
instance (s : S) : Decidable (WeightsOk s) := by unfold WeightsOk; infer_instance
def nodesB (s : S) : Bool := decide (NodesOk s)
def partsB (s : S) : Bool := decide (PartsOk s)
def queueB (s : S) (q : QR) : Bool := decide (QueueOk s q)
def queuesB (s : S) : Bool := decide (QueuesOk s)
def weightsB (s : S) : Bool := decide (WeightsOk s)
/-- what is looked at, by its number -/
def soB (s : S) : Nat → Bool
  | 0 => nodesB s
  | 1 => partsB s
  | 2 => inB s.users 1 8
  | 3 => queuesB s
  | 4 => weightsB s
  | 5 => inB s.decay 1 16
  | 6 => inB s.mode 1 2
  | 7 => inB s.jobs 1 256
  | 8 => inB s.ids 1 1048576
  | 9 => inB s.versions 1 65536
  | 10 => inB s.linger 0 65536
  | 11 => inB s.keep 1 16
  | 12 => inB s.inn 1 8
  | 13 => inB s.out 1 16
  | _ => inB s.cache 0 16
def wordB : Nat → ByteArray
  | 0 => ⟨#[78, 111, 100, 101, 115]⟩
  | 1 => ⟨#[80, 97, 114, 116, 115]⟩
  | 2 => ⟨#[85, 115, 101, 114, 115]⟩
  | 3 => ⟨#[81, 117, 101, 117, 101, 115]⟩
  | 4 => ⟨#[87, 101, 105, 103, 104, 116, 115]⟩
  | 5 => ⟨#[68, 101, 99, 97, 121]⟩
  | 6 => ⟨#[77, 111, 100, 101]⟩
  | 7 => ⟨#[74, 111, 98, 115]⟩
  | 8 => ⟨#[73, 100, 115]⟩
  | 9 => ⟨#[86, 101, 114, 115, 105, 111, 110, 115]⟩
  | 10 => ⟨#[76, 105, 110, 103, 101, 114]⟩
  | 11 => ⟨#[75, 101, 101, 112]⟩
  | 12 => ⟨#[73, 110]⟩
  | 13 => ⟨#[79, 117, 116]⟩
  | _ => ⟨#[67, 97, 99, 104, 101]⟩
/-- the first of so many, from one on, that isn't so -/
def flawFrom (so : Nat → Bool) : Nat → Nat → ByteArray
  | 0, _ => ⟨#[]⟩
  | n + 1, k => if so k then flawFrom so n (k + 1) else wordB k
def flawW (s : S) : ByteArray := flawFrom (soB s) 15 0
def Right (s : S) : Prop := ∀ k, k < 15 → soB s k = true
instance (s : S) : Decidable (Right s) := by unfold Right; infer_instance
def rightSSp (s : S) : Bool := decide (Right s)
theorem flaw_hit {so : Nat → Bool} : ∀ (n k i : Nat), i < n → (∀ j, j < i → so (k + j) = true) → so (k + i) = false → flawFrom so n k = wordB (k + i)
  | n + 1, k, 0, _, _, h => by simp only [flawFrom, Nat.add_zero] at h ⊢; rw [h]; simp
  | n + 1, k, i + 1, hi, h0, h => by
    have := h0 0 (by omega)
    simp only [Nat.add_zero] at this
    simp only [flawFrom, this, if_true]
    rw [flaw_hit n (k + 1) i (by omega) (fun j hj => by have := h0 (j + 1) (by omega); rwa [show k + (j + 1) = k + 1 + j by omega] at this) (by rwa [show k + (i + 1) = k + 1 + i by omega] at h)]
    rw [show k + (i + 1) = k + 1 + i by omega]
theorem flaw_none {so : Nat → Bool} : ∀ (n k : Nat), (∀ j, j < n → so (k + j) = true) → flawFrom so n k = ⟨#[]⟩
  | 0, _, _ => rfl
  | n + 1, k, h => by
    have := h 0 (by omega)
    simp only [Nat.add_zero] at this
    simp only [flawFrom, this, if_true]
    exact flaw_none n (k + 1) fun j hj => by have := h (j + 1) (by omega); rwa [show k + (j + 1) = k + 1 + j by omega] at this
theorem first_false {so : Nat → Bool} : ∀ (n : Nat), (∀ j, j < n → so j = true) ∨ ∃ i, i < n ∧ (∀ j, j < i → so j = true) ∧ so i = false
  | 0 => .inl fun j h => by omega
  | n + 1 => by
    rcases first_false (so := so) n with h | ⟨i, hi, h0, h1⟩
    · cases e : so n with
      | true =>
        refine .inl fun j hj => ?_
        rcases Nat.lt_or_ge j n with h' | h'
        · exact h j h'
        · obtain rfl : j = n := by omega
          exact e
      | false => exact .inr ⟨n, by omega, h, e⟩
    · exact .inr ⟨i, by omega, h0, h1⟩
theorem flaw_at {s : S} {i : Nat} (hi : i < 15) (h0 : ∀ j, j < i → soB s j = true) (h : soB s i = false) : flawW s = wordB i := by
  have := flaw_hit (so := soB s) 15 0 i hi (fun j hj => by rw [Nat.zero_add]; exact h0 j hj) (by rw [Nat.zero_add]; exact h)
  rwa [Nat.zero_add] at this
theorem flaw_all {s : S} (h : ∀ j, j < 15 → soB s j = true) : flawW s = ⟨#[]⟩ := flaw_none 15 0 fun j hj => by rw [Nat.zero_add]; exact h j hj
theorem word_some (k : Nat) (h : k < 15) : (wordB k == ⟨#[]⟩) = false := by
  match k, h with
  | 0, _ | 1, _ | 2, _ | 3, _ | 4, _ | 5, _ | 6, _ | 7, _ | 8, _ | 9, _ | 10, _ | 11, _ | 12, _ | 13, _ | 14, _ => decide +kernel
/-- right is what has no flaw -/
theorem flaw_right (s : S) : (flawW s == ⟨#[]⟩) = rightSSp s := by
  unfold rightSSp
  rcases first_false (so := soB s) 15 with h | ⟨i, hi, h0, h1⟩
  · rw [flaw_all h, decide_eq_true (show Right s from h)]; decide +kernel
  · rw [flaw_at hi h0 h1, word_some i hi, decide_eq_false]
    intro H
    rw [H i hi] at h1
    cases h1

theorem word_not (k : Nat) (h : k < 15) : (wordB k).toList.isEmpty = false := by
  match k, h with
  | 0, _ | 1, _ | 2, _ | 3, _ | 4, _ | 5, _ | 6, _ | 7, _ | 8, _ | 9, _ | 10, _ | 11, _ | 12, _ | 13, _ | 14, _ => decide +kernel
theorem flaw_empty (s : S) : (flawW s).toList.isEmpty = rightSSp s := by
  unfold rightSSp
  rcases first_false (so := soB s) 15 with h | ⟨i, hi, h0, h1⟩
  · rw [flaw_all h, decide_eq_true (show Right s from h)]; decide +kernel
  · rw [flaw_at hi h0 h1, word_not i hi, decide_eq_false]
    intro H
    rw [H i hi] at h1
    cases h1
/-- what a right one is, in all -/
structure RightIs (s : S) : Prop where
  nodes : NodesOk s
  parts : PartsOk s
  users : 1 ≤ s.users ∧ s.users ≤ 8
  queues : QueuesOk s
  weights : WeightsOk s
  decay : 1 ≤ s.decay ∧ s.decay ≤ 16
  mode : 1 ≤ s.mode ∧ s.mode ≤ 2
  jobs : 1 ≤ s.jobs ∧ s.jobs ≤ 256
  ids : 1 ≤ s.ids ∧ s.ids ≤ 1048576
  versions : 1 ≤ s.versions ∧ s.versions ≤ 65536
  linger : 0 ≤ s.linger ∧ s.linger ≤ 65536
  keep : 1 ≤ s.keep ∧ s.keep ≤ 16
  inn : 1 ≤ s.inn ∧ s.inn ≤ 8
  out : 1 ≤ s.out ∧ s.out ≤ 16
  cache : 0 ≤ s.cache ∧ s.cache ≤ 16
theorem right_is {s : S} (h : Right s) : RightIs s :=
  ⟨of_decide_eq_true (h 0 (by omega)), of_decide_eq_true (h 1 (by omega)), of_decide_eq_true (h 2 (by omega)), of_decide_eq_true (h 3 (by omega)), of_decide_eq_true (h 4 (by omega)), of_decide_eq_true (h 5 (by omega)),
   of_decide_eq_true (h 6 (by omega)), of_decide_eq_true (h 7 (by omega)), of_decide_eq_true (h 8 (by omega)), of_decide_eq_true (h 9 (by omega)), of_decide_eq_true (h 10 (by omega)), of_decide_eq_true (h 11 (by omega)),
   of_decide_eq_true (h 12 (by omega)), of_decide_eq_true (h 13 (by omega)), of_decide_eq_true (h 14 (by omega))⟩
theorem is_right {s : S} (h : RightIs s) : Right s := fun k hk => by
  match k, hk with
  | 0, _ => exact decide_eq_true h.nodes
  | 1, _ => exact decide_eq_true h.parts
  | 2, _ => exact decide_eq_true h.users
  | 3, _ => exact decide_eq_true h.queues
  | 4, _ => exact decide_eq_true h.weights
  | 5, _ => exact decide_eq_true h.decay
  | 6, _ => exact decide_eq_true h.mode
  | 7, _ => exact decide_eq_true h.jobs
  | 8, _ => exact decide_eq_true h.ids
  | 9, _ => exact decide_eq_true h.versions
  | 10, _ => exact decide_eq_true h.linger
  | 11, _ => exact decide_eq_true h.keep
  | 12, _ => exact decide_eq_true h.inn
  | 13, _ => exact decide_eq_true h.out
  | 14, _ => exact decide_eq_true h.cache

/-- small enough to be looked at -/
def Few (s : S) : Prop := s.nodes.length ≤ 40 ∧ s.parts.length ≤ 20 ∧ s.queues.length ≤ 20 ∧ (∀ p ∈ s.parts, p.l.length ≤ 40) ∧ ∀ q ∈ s.queues, q.users.l.length ≤ 40
instance (s : S) : Decidable (Few s) := by unfold Few; infer_instance
def fewBSp (s : S) : Bool := decide (Few s)
end Go.Proofs.Ytcdajfiohhbdgaa.W
