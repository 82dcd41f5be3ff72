/-
  How many chunks fit a part, and a queue's, as plain sums.
-/
import Derived.Test.YtgopjpnlpcmldaaGreatDoorSpecSmall
import Derived.Test.YtgopjpnlpcmldaaGreatDoorVecCountSpec
namespace Go.Proofs.YtgopjpnlpcmldaaGreatDoor.W
set_option linter.unusedVariables false

/-- of so many nodes, by their numbers, how often they fit, together -/
def roomOf (nodes : List V) (need : V) : List Int → Int
  | [] => 0
  | i :: r => countV (nodes.getD i.toNat V.zero) need + roomOf nodes need r
theorem roomOf_snoc (nodes : List V) (need : V) : ∀ (l : List Int) (i : Int), roomOf nodes need (l ++ [i]) = roomOf nodes need l + countV (nodes.getD i.toNat V.zero) need
  | [], i => by simp [roomOf]
  | j :: l, i => by simp only [List.cons_append, roomOf]; rw [roomOf_snoc nodes need l i]; omega
theorem roomOf_bd (nodes : List V) (need : V) : ∀ (l : List Int), 0 ≤ roomOf nodes need l ∧ roomOf nodes need l ≤ 64 * l.length
  | [] => by simp [roomOf]
  | i :: l => by
    have h := roomOf_bd nodes need l
    have c := countV_bd (nodes.getD i.toNat V.zero) need
    simp only [roomOf, List.length_cons]
    omega

def partL (s : S) (part : Int) : List Int := (s.parts.getD part.toNat ⟨none, 0, []⟩).l
def roomS (s : S) (part : Int) (need : V) : Int := if rightS s = true ∧ hasB s.parts.length part = true then roomOf s.nodes need (partL s part) else 0
def partOf (s : S) (queue : Int) : Int := (s.queues.getD queue.toNat ⟨0, ⟨none, 0, []⟩, 0, 0, 0, 0⟩).part
def fitsS (s : S) (queue many : Int) (need : V) : Bool := decide (hasB s.queues.length queue = true ∧ 1 ≤ many ∧ many ≤ roomS s (partOf s queue) need)

theorem by_le {a b : V} {k : Int} (h : V.Le a b) (hk : 0 ≤ k) : V.Le (a.by k) (b.by k) :=
  ⟨Int.mul_le_mul_of_nonneg_right h.1 hk, Int.mul_le_mul_of_nonneg_right h.2.1 hk, Int.mul_le_mul_of_nonneg_right h.2.2.1 hk, Int.mul_le_mul_of_nonneg_right h.2.2.2 hk⟩
theorem V.Le.trans {a b c : V} (h : V.Le a b) (g : V.Le b c) : V.Le a c := ⟨Int.le_trans h.1 g.1, Int.le_trans h.2.1 g.2.1, Int.le_trans h.2.2.1 g.2.2.1, Int.le_trans h.2.2.2 g.2.2.2⟩
/-- less fits as often at least -/
theorem count_less (f : V) {need less : V} (hl : less.Ok) (h0 : ¬ less.is0) (h : V.Le less need) : countV f need ≤ countV f less := by
  by_cases c : f.Ok ∧ need.Ok ∧ ¬ need.is0
  · rw [count_in c, count_in ⟨c.1, hl, h0⟩]
    have b := times4_bd c.1 c.2.1
    exact (count_le c.1 hl b.2).1 ((by_le h b.1).trans ((count_le c.1 c.2.1 b.2).2 (Int.le_refl _)))
  · rw [count_no c]
    exact (countV_bd f less).1
theorem roomOf_less (nodes : List V) {need less : V} (hl : less.Ok) (h0 : ¬ less.is0) (h : V.Le less need) : ∀ l, roomOf nodes need l ≤ roomOf nodes less l
  | [] => Int.le_refl _
  | i :: l => by
    have := count_less (nodes.getD i.toNat V.zero) hl h0 h
    have := roomOf_less nodes hl h0 h l
    simp only [roomOf]
    omega
theorem roomS_less (s : S) (part : Int) {need less : V} (hl : less.Ok) (h0 : ¬ less.is0) (h : V.Le less need) : roomS s part need ≤ roomS s part less := by
  unfold roomS
  split
  · exact roomOf_less _ hl h0 h _
  · exact Int.le_refl _
theorem fits_fewer {s : S} {queue many fewer : Int} {need : V} (h : fitsS s queue many need = true) (h1 : 1 ≤ fewer) (h2 : fewer ≤ many) : fitsS s queue fewer need = true := by
  unfold fitsS at *
  rw [decide_eq_true_iff] at *
  exact ⟨h.1, h1, by omega⟩
theorem fits_less {s : S} {queue many : Int} {need less : V} (h : fitsS s queue many need = true) (hl : less.Ok) (h0 : ¬ less.is0) (hle : V.Le less need) : fitsS s queue many less = true := by
  unfold fitsS at *
  rw [decide_eq_true_iff] at *
  exact ⟨h.1, h.2.1, Int.le_trans h.2.2 (roomS_less s _ hl h0 hle)⟩
/-- a right set-up's part names nodes that there are -/
theorem part_in {s : S} (h : RightIs s) {k : Nat} (hk : k < s.parts.length) {i : Nat} (hi : i < s.parts[k].l.length) : 0 ≤ s.parts[k].l.getD i 0 ∧ s.parts[k].l.getD i 0 < s.nodes.length := by
  have h1 := (h.parts.2 _ (List.getElem_mem hk)).2
  have h2 := (rise_doc _ _).2 h1 i hi
  exact ⟨h2.1, h2.2.1⟩
theorem part_few {s : S} (h : RightIs s) {k : Nat} (hk : k < s.parts.length) : s.parts[k].l.length ≤ 16 := by
  have h1 := (h.parts.2 _ (List.getElem_mem hk)).2
  have hn := h.nodes.1.2
  have key : ∀ i, i < s.parts[k].l.length → (i : Int) ≤ s.parts[k].l.getD i 0 := by
    intro i
    induction i with
    | zero => intro hi; have := (part_in h hk hi).1; simpa using this
    | succ j ih =>
      intro hi
      have a := (h1 (j + 1) hi).1
      have b := ih (by omega)
      simp only [prevI] at a
      omega
  rcases Nat.lt_or_ge s.parts[k].l.length 17 with h2 | h2
  · omega
  · have a := key 16 (by omega)
    have b := (part_in h hk (i := 16) (by omega)).2
    omega
end Go.Proofs.YtgopjpnlpcmldaaGreatDoor.W
