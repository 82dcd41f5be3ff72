/-
  Several texts in one: TextSpec, TextBack.
-/
import Derived.Lib.AtoiAll
import Derived.Test.YtgopjpnlpcmldaaGreatDoorUnitsSpec
import Derived.Test.YtgopjpnlpcmldaaGreatDoorSpecSpec

/-
  Set-ups as text: what a text is, line by line, how it is read, and that a right one's text is read back: plain lists of bytes, no program.
-/
namespace Go.Proofs.YtgopjpnlpcmldaaGreatDoor.W
set_option linter.unusedVariables false
set_option linter.unusedSimpArgs false
open Go

/-! numbers with blanks between -/
def decI (n : Int) : List UInt8 := if n < 0 then 45 :: Lib.decDigits (-n).toNat else Lib.decDigits n.toNat
def joinN : List Int → List UInt8
  | [] => []
  | n :: r => if r = [] then decI n else decI n ++ 32 :: joinN r
def splitAll (c : UInt8) : List UInt8 → List (List UInt8)
  | [] => [[]]
  | b :: l => if b = c then [] :: splitAll c l else
    match splitAll c l with
    | [] => [[b]]
    | x :: r => (b :: x) :: r
def atoiO (l : List UInt8) : Option Int := match Lib.atoiAll l with
  | .ok v => some v
  | _ => none
def allO : List (List UInt8) → Option (List Int)
  | [] => some []
  | x :: r => match atoiO x with
    | none => none
    | some n => match allO r with
      | none => none
      | some l => some (n :: l)
def partedS (l : List UInt8) : Option (List Int) := allO (splitAll 32 l)

theorem splitAll_none {c : UInt8} : ∀ {s : List UInt8}, c ∉ s → splitAll c s = [s]
  | [], _ => rfl
  | b :: l, h => by
    have hb : ¬ b = c := fun e => h (by simp [e])
    have hl : c ∉ l := fun e => h (by simp [e])
    unfold splitAll
    rw [if_neg hb, splitAll_none hl]
theorem splitAll_app {c : UInt8} : ∀ {p : List UInt8} (r : List UInt8), c ∉ p → splitAll c (p ++ c :: r) = p :: splitAll c r
  | [], r, _ => by simp [splitAll]
  | b :: l, r, h => by
    have hb : ¬ b = c := fun e => h (by simp [e])
    have hl : c ∉ l := fun e => h (by simp [e])
    have ih := splitAll_app r hl
    simp only [List.cons_append]
    rw [splitAll, if_neg hb, ih]

theorem dig_of_dec {n : Nat} {c : UInt8} (h : c ∈ Lib.decDigits n) : 48 ≤ c.toNat ∧ c.toNat ≤ 57 := dec_digs n c h
theorem parse_app : ∀ (l r : List UInt8) (acc v : Nat), Lib.parseUint10 acc l = .ok v → Lib.parseUint10 acc (l ++ r) = Lib.parseUint10 v r
  | [], r, acc, v, h => by
    simp only [Lib.parseUint10, Lib.NumEnd.ok.injEq] at h
    subst h; rfl
  | c :: l, r, acc, v, h => by
    simp only [List.cons_append]
    rw [Lib.parseUint10] at h ⊢
    split at h
    · split at h
      · cases h
      · split at h
        · cases h
        · rename_i h1 h2 h3
          rw [if_pos h1, if_neg h2, if_neg h3]
          exact parse_app l r _ v h
    · cases h
theorem parse_dec : ∀ (n : Nat), n ≤ 1048576 → Lib.parseUint10 0 (Lib.decDigits n) = .ok n := by
  intro n
  induction n using Nat.strongRecOn with
  | ind n ih =>
    intro hn
    by_cases h : n < 10
    · rw [Lib.decDigits_one h]
      obtain ⟨h1, h2⟩ := dig_of_dec (n := n) (c := UInt8.ofNat (48 + n)) (by rw [Lib.decDigits_one h]; simp)
      rw [Lib.parseUint10, if_pos ⟨h1, h2⟩, if_neg (by omega), if_neg (by rw [dig_toNat h]; omega), Lib.parseUint10, dig_toNat h]
      congr 1; omega
    · have e : Lib.decDigits n = Lib.decDigits (n / 10) ++ [UInt8.ofNat (48 + n % 10)] := by
        have := dec_snoc (n := n / 10) (d := n % 10) (by omega) (by omega)
        rw [← this]; congr 1; omega
      have hd : n % 10 < 10 := by omega
      rw [e, parse_app _ _ _ _ (ih (n / 10) (by omega) (by omega))]
      have ht := dig_toNat hd
      rw [Lib.parseUint10, if_pos (by omega), if_neg (by omega), if_neg (by omega), Lib.parseUint10, ht]
      congr 1; omega
theorem atoi_dec {n : Int} (h0 : 0 ≤ n) (h1 : n ≤ 1048576) : atoiO (decI n) = some n := by
  have e : decI n = Lib.decDigits n.toNat := by unfold decI; rw [if_neg (by omega)]
  have hp := parse_dec n.toNat (by omega)
  have hne := dec_ne_nil n.toNat
  rw [e]
  unfold atoiO Lib.atoiAll
  cases hd : Lib.decDigits n.toNat with
  | nil => exact absurd hd hne
  | cons c r =>
    obtain ⟨g1, g2⟩ := dig_of_dec (n := n.toNat) (c := c) (by rw [hd]; simp)
    have g3 : ¬ c.toNat = 43 := by omega
    have g4 : ¬ c.toNat = 45 := by omega
    rw [hd] at hp
    have hm : Lib.parseMag (c :: r) = .ok n.toNat := by
      unfold Lib.parseMag; rw [if_neg (by simp)]; exact hp
    have hb : ¬ 9223372036854775808 ≤ n.toNat := by omega
    have hx : Lib.atoiAll (c :: r) = .ok n := by
      unfold Lib.atoiAll
      simp only [g3, g4, or_self, ↓reduceIte, hm, not_false_eq_true, true_and, false_and, hb]
      rw [Int.toNat_of_nonneg h0]
    unfold Lib.atoiAll at hx
    rw [hx]
theorem decI_no {n : Int} (h0 : 0 ≤ n) {c : UInt8} (hc : ¬ isDig c) : c ∉ decI n := by
  unfold decI; rw [if_neg (by omega)]; exact not_dec hc _
theorem no32 : ¬ isDig 32 := by unfold isDig; decide
theorem no10 : ¬ isDig 10 := by unfold isDig; decide
def Num (n : Int) : Prop := 0 ≤ n ∧ n ≤ 1048576
theorem parted_join : ∀ (l : List Int), l ≠ [] → (∀ n ∈ l, Num n) → partedS (joinN l) = some l
  | [], h, _ => absurd rfl h
  | n :: r, _, h => by
    obtain ⟨h0, h1⟩ := h n (by simp)
    unfold joinN
    by_cases hr : r = []
    · subst hr
      simp only [↓reduceIte, partedS, splitAll_none (decI_no h0 no32), allO, atoi_dec h0 h1]
    · have ih := parted_join r hr (fun m hm => h m (by simp [hm]))
      unfold partedS at ih
      simp only [hr, ↓reduceIte, partedS, splitAll_app _ (decI_no h0 no32), allO, atoi_dec h0 h1, ih]
theorem join_no10 : ∀ (l : List Int), (∀ n ∈ l, Num n) → 10 ∉ joinN l
  | [], _ => by simp [joinN]
  | n :: r, h => by
    have h0 := (h n (by simp)).1
    have ih := join_no10 r (fun m hm => h m (by simp [hm]))
    unfold joinN
    split
    · exact decI_no h0 no10
    · simp [decI_no h0 no10, ih]

/-! a set-up without addresses -/
structure TQ where
  part : Int
  mj : Int
  mr : Int
  mu : Int
  qos : Int
  users : List Int
structure T where
  nodes : List V
  parts : List (List Int)
  queues : List TQ
  users : Int
  age : Int
  size : Int
  qos : Int
  share : Int
  decay : Int
  mode : Int
  jobs : Int
  ids : Int
  versions : Int
  linger : Int
  keep : Int
  inn : Int
  out : Int
  cache : Int
def T.none : T := ⟨[], [], [], 0, 0, 0, 0, 0, 0, 0, 0, 0, 0, 0, 0, 0, 0, 0⟩
def vnums (v : V) : List Nat := [v.cpu.toNat, v.mem.toNat, v.gpu.toNat, v.lic.toNat]
def vtext (v : V) : List UInt8 := utext (vnums v)
def readVec (l : List UInt8) : Option V := match readU l with
  | some [a, b, c, d] => some ⟨a, b, c, d⟩
  | _ => none
def qnums (q : TQ) : List Int := [q.part, q.mj, q.mr, q.mu, q.qos] ++ q.users
def kEasy : List UInt8 := [101, 97, 115, 121]
def kCons : List UInt8 := [99, 111, 110, 115, 101, 114, 118, 97, 116, 105, 118, 101]
def kindW : Nat → List UInt8
  | 0 => [110, 111, 100, 101]
  | 1 => [112, 97, 114, 116]
  | 2 => [117, 115, 101, 114, 115]
  | 3 => [113, 117, 101, 117, 101]
  | 4 => [119, 101, 105, 103, 104, 116, 115]
  | 5 => [100, 101, 99, 97, 121]
  | 6 => [109, 111, 100, 101]
  | 7 => [106, 111, 98, 115]
  | 8 => [105, 100, 115]
  | 9 => [118, 101, 114, 115, 105, 111, 110, 115]
  | 10 => [108, 105, 110, 103, 101, 114]
  | 11 => [107, 101, 101, 112]
  | 12 => [105, 110]
  | 13 => [111, 117, 116]
  | _ => [99, 97, 99, 104, 101]
/-- what stands behind a kind's word, in each of its lines -/
def sayS (t : T) : Nat → List (List UInt8)
  | 0 => t.nodes.map vtext
  | 1 => t.parts.map joinN
  | 2 => [joinN [t.users]]
  | 3 => t.queues.map fun q => joinN (qnums q)
  | 4 => [joinN [t.age, t.size, t.qos, t.share]]
  | 5 => [joinN [t.decay]]
  | 6 => [if t.mode = 1 then kEasy else kCons]
  | 7 => [joinN [t.jobs]]
  | 8 => [joinN [t.ids]]
  | 9 => [joinN [t.versions]]
  | 10 => [joinN [t.linger]]
  | 11 => [joinN [t.keep]]
  | 12 => [joinN [t.inn]]
  | 13 => [joinN [t.out]]
  | _ => [joinN [t.cache]]
def one (l : List UInt8) : Option Int := match partedS l with
  | some [n] => some n
  | _ => none
/-- a line's rest, put into a set-up -/
def takeS (t : T) (l : List UInt8) : Nat → Option T
  | 0 => (readVec l).map fun v => { t with nodes := t.nodes ++ [v] }
  | 1 => (partedS l).map fun p => { t with parts := t.parts ++ [p] }
  | 2 => (one l).map fun n => { t with users := n }
  | 3 => match partedS l with
    | some (a :: b :: c :: d :: e :: r) => some { t with queues := t.queues ++ [⟨a, b, c, d, e, r⟩] }
    | _ => none
  | 4 => match partedS l with
    | some [a, b, c, d] => some { t with age := a, size := b, qos := c, share := d }
    | _ => none
  | 5 => (one l).map fun n => { t with decay := n }
  | 6 => if l = kEasy then some { t with mode := 1 } else if l = kCons then some { t with mode := 2 } else none
  | 7 => (one l).map fun n => { t with jobs := n }
  | 8 => (one l).map fun n => { t with ids := n }
  | 9 => (one l).map fun n => { t with versions := n }
  | 10 => (one l).map fun n => { t with linger := n }
  | 11 => (one l).map fun n => { t with keep := n }
  | 12 => (one l).map fun n => { t with inn := n }
  | 13 => (one l).map fun n => { t with out := n }
  | _ => (one l).map fun n => { t with cache := n }
/-- the first kind of that word, from one on, of so many -/
def kindOf (w : List UInt8) : Nat → Nat → Option Nat
  | _, 0 => none
  | k, m + 1 => if kindW k = w then some k else kindOf w (k + 1) m
def takeL (t : T) (l : List UInt8) : Option T := match kindOf (cutAt 32 l).1 0 15 with
  | none => none
  | some k => takeS t (cutAt 32 l).2.1 k
/-- a text's lines, without their ends -/
def linesOf : List UInt8 → List (List UInt8)
  | [] => []
  | b :: l => if b = 10 then [] :: linesOf l else
    match linesOf l with
    | [] => [[b]]
    | x :: r => (b :: x) :: r
def takes : List (List UInt8) → T → Option T
  | [], t => some t
  | l :: r, t => match takeL t l with
    | none => none
    | some u => takes r u
def parseS (l : List UInt8) : Option T := takes (linesOf l) T.none
def lineS (k : Nat) (said : List UInt8) : List UInt8 := kindW k ++ 32 :: said
def linesS (t : T) : List (List UInt8) := (List.range 15).flatMap fun k => (sayS t k).map (lineS k)
def textOf : List (List UInt8) → List UInt8
  | [] => []
  | l :: r => l ++ 10 :: textOf r
def textT (t : T) : List UInt8 := textOf (linesS t)

theorem lines_app : ∀ {p : List UInt8} (r : List UInt8), 10 ∉ p → linesOf (p ++ 10 :: r) = p :: linesOf r
  | [], r, _ => by simp [linesOf]
  | b :: l, r, h => by
    have hb : ¬ b = 10 := fun e => h (by simp [e])
    have hl : 10 ∉ l := fun e => h (by simp [e])
    have ih := lines_app r hl
    simp only [List.cons_append]
    rw [linesOf, if_neg hb, ih]
theorem lines_text : ∀ (ls : List (List UInt8)), (∀ l ∈ ls, 10 ∉ l) → linesOf (textOf ls) = ls
  | [], _ => rfl
  | l :: r, h => by
    unfold textOf
    rw [lines_app _ (h l (by simp)), lines_text r (fun x hx => h x (by simp [hx]))]
theorem takes_app : ∀ (a b : List (List UInt8)) (t : T), takes (a ++ b) t = match takes a t with | none => none | some u => takes b u
  | [], b, t => rfl
  | l :: r, b, t => by
    simp only [List.cons_append, takes]
    cases takeL t l with
    | none => rfl
    | some u => exact takes_app r b u
theorem kind_no32 : ∀ k, k < 15 → 32 ∉ kindW k ∧ 10 ∉ kindW k ∧ kindOf (kindW k) 0 15 = some k := by
  intro k hk
  match k, hk with
  | 0, _ | 1, _ | 2, _ | 3, _ | 4, _ | 5, _ | 6, _ | 7, _ | 8, _ | 9, _ | 10, _ | 11, _ | 12, _ | 13, _ | 14, _ => decide
theorem take_line {k : Nat} (hk : k < 15) (t : T) (said : List UInt8) : takeL t (lineS k said) = takeS t said k := by
  obtain ⟨h1, _, h3⟩ := kind_no32 k hk
  unfold takeL lineS
  rw [cutAt_app _ h1, h3]

/-- a set-up whose numbers have a text -/
structure Fine (t : T) : Prop where
  nodes : ∀ v ∈ t.nodes, v.Ok
  parts : ∀ p ∈ t.parts, p ≠ [] ∧ ∀ n ∈ p, Num n
  queues : ∀ q ∈ t.queues, ∀ n ∈ qnums q, Num n
  nums : ∀ n ∈ [t.users, t.age, t.size, t.qos, t.share, t.decay, t.jobs, t.ids, t.versions, t.linger, t.keep, t.inn, t.out, t.cache], Num n
  mode : t.mode = 1 ∨ t.mode = 2
end Go.Proofs.YtgopjpnlpcmldaaGreatDoor.W


/-
  A right set-up's text is read back as the same set-up, and is of at most 2048 bytes: plain lists, no program.
-/
namespace Go.Proofs.YtgopjpnlpcmldaaGreatDoor.W
set_option linter.unusedVariables false
set_option linter.unusedSimpArgs false
open Go

/-! a vector's text has no line's end, and is read back -/
theorem join_mem : ∀ (ps : List (List UInt8)) (c : UInt8), c ∈ ujoin ps → c = 44 ∨ ∃ p ∈ ps, c ∈ p
  | [], c, h => by simp [ujoin] at h
  | [p], c, h => by rw [ujoin_one] at h; exact .inr ⟨p, by simp, h⟩
  | p :: q :: r, c, h => by
    rw [ujoin_cons, List.mem_append, List.mem_cons] at h
    rcases h with h | h | h
    · exact .inr ⟨p, by simp, h⟩
    · exact .inl h
    · rcases join_mem (q :: r) c h with h | ⟨x, hx, h⟩
      · exact .inl h
      · exact .inr ⟨x, by simp only [List.mem_cons] at hx ⊢; exact .inr hx, h⟩
theorem uparts_mem : ∀ (ws : List (List UInt8)) (ns : List Nat) (p : List UInt8), p ∈ uparts ws ns → ∃ w n, w ∈ ws ∧ p = upart w n := by
  intro ws
  induction ws with
  | nil => intro ns p h; cases ns <;> simp [uparts] at h
  | cons w ws ih =>
    intro ns p h
    cases ns with
    | nil => simp [uparts] at h
    | cons n ns =>
      unfold uparts at h
      split at h
      · obtain ⟨w', m, h1, h2⟩ := ih ns p h
        exact ⟨w', m, by simp [h1], h2⟩
      · rcases List.mem_cons.mp h with h | h
        · exact ⟨w, n, by simp, h⟩
        · obtain ⟨w', m, h1, h2⟩ := ih ns p h
          exact ⟨w', m, by simp [h1], h2⟩
theorem words_no10 : ∀ w ∈ uwords, (10 : UInt8) ∉ w := by unfold uwords; decide
theorem vtext_no10 (v : V) : 10 ∉ vtext v := by
  intro h
  unfold vtext utext at h
  split at h
  · simp [unone] at h
  · rcases join_mem _ _ h with h | ⟨p, hp, h⟩
    · simp at h
    · obtain ⟨w, n, hw, rfl⟩ := uparts_mem _ _ _ hp
      unfold upart at h
      rw [List.mem_append, List.mem_cons] at h
      rcases h with h | h | h
      · exact words_no10 w hw h
      · simp at h
      · exact not_dec no10 n h
theorem readVec_text {v : V} (h : v.Ok) : readVec (vtext v) = some v := by
  obtain ⟨⟨a0, a1⟩, ⟨b0, b1⟩, ⟨c0, c1⟩, d0, d1⟩ := h
  have e := readU_complete (ns := vnums v) rfl (by
    intro n hn
    simp only [vnums, List.mem_cons, List.not_mem_nil, or_false] at hn
    rcases hn with rfl | rfl | rfl | rfl <;> omega)
  unfold readVec vtext
  rw [e]
  simp only [vnums, Option.some.injEq]
  exact V.ext' (Int.toNat_of_nonneg a0) (Int.toNat_of_nonneg b0) (Int.toNat_of_nonneg c0) (Int.toNat_of_nonneg d0)
theorem one_join {n : Int} (h : Num n) : one (joinN [n]) = some n := by
  unfold one
  rw [parted_join [n] (by simp) (by simpa using h)]

/-! the lines of each kind -/
theorem takes_nodes : ∀ (vs : List V) (t : T), (∀ v ∈ vs, v.Ok) → takes ((vs.map vtext).map (lineS 0)) t = some { t with nodes := t.nodes ++ vs }
  | [], t, _ => by simp [takes]
  | v :: r, t, h => by
    simp only [List.map_cons, takes, take_line (k := 0) (by omega), takeS, readVec_text (h v (by simp)), Option.map_some]
    rw [takes_nodes r _ (fun x hx => h x (by simp [hx]))]
    simp
theorem takes_parts : ∀ (ps : List (List Int)) (t : T), (∀ p ∈ ps, p ≠ [] ∧ ∀ n ∈ p, Num n) → takes ((ps.map joinN).map (lineS 1)) t = some { t with parts := t.parts ++ ps }
  | [], t, _ => by simp [takes]
  | p :: r, t, h => by
    simp only [List.map_cons, takes, take_line (k := 1) (by omega), takeS, parted_join p (h p (by simp)).1 (h p (by simp)).2, Option.map_some]
    rw [takes_parts r _ (fun x hx => h x (by simp [hx]))]
    simp
theorem take_queue {q : TQ} (t : T) (h : ∀ n ∈ qnums q, Num n) : takeS t (joinN (qnums q)) 3 = some { t with queues := t.queues ++ [q] } := by
  rw [takeS, parted_join (qnums q) (by simp [qnums]) h]
  rfl
theorem takes_queues : ∀ (qs : List TQ) (t : T), (∀ q ∈ qs, ∀ n ∈ qnums q, Num n) → takes ((qs.map fun q => joinN (qnums q)).map (lineS 3)) t = some { t with queues := t.queues ++ qs }
  | [], t, _ => by simp [takes]
  | q :: r, t, h => by
    simp only [List.map_cons, takes, take_line (k := 3) (by omega), take_queue t (h q (by simp))]
    have ih := takes_queues r { t with queues := t.queues ++ [q] } (fun x hx => h x (by simp [hx]))
    rw [ih]
    simp
theorem takes_one (k : Nat) (hk : k < 15) (l : List UInt8) (t u : T) (h : takeS t l k = some u) : takes ([l].map (lineS k)) t = some u := by
  simp only [List.map_cons, List.map_nil, takes, take_line hk, h]

theorem lines_no10 {t : T} (F : Fine t) : ∀ l ∈ linesS t, 10 ∉ l := by
  intro l hl
  unfold linesS at hl
  obtain ⟨k, hk, hl⟩ := List.mem_flatMap.mp hl
  obtain ⟨s, hs, rfl⟩ := List.mem_map.mp hl
  have hk' : k < 15 := List.mem_range.mp hk
  have hw := (kind_no32 k hk').2.1
  have no : 10 ∉ s := by
    have N := F.nums
    simp only [List.mem_cons, List.not_mem_nil, or_false, forall_eq_or_imp, forall_eq] at N
    obtain ⟨n0, n1, n2, n3, n4, n5, n6, n7, n8, n9, n10, n11, n12, n13⟩ := N
    have J : ∀ {n : Int}, Num n → 10 ∉ joinN [n] := fun {n} h => join_no10 [n] (by simpa using h)
    match k, hk', hs with
    | 0, _, hs => obtain ⟨v, _, rfl⟩ := List.mem_map.mp hs; exact vtext_no10 v
    | 1, _, hs => obtain ⟨p, hp, rfl⟩ := List.mem_map.mp hs; exact join_no10 p (F.parts p hp).2
    | 2, _, hs => rw [List.mem_singleton.mp hs]; exact J n0
    | 3, _, hs => obtain ⟨q, hq, rfl⟩ := List.mem_map.mp hs; exact join_no10 _ (F.queues q hq)
    | 4, _, hs => rw [List.mem_singleton.mp hs]; exact join_no10 _ (by simp [n1, n2, n3, n4])
    | 5, _, hs => rw [List.mem_singleton.mp hs]; exact J n5
    | 6, _, hs => rw [List.mem_singleton.mp hs]; split <;> simp [kEasy, kCons]
    | 7, _, hs => rw [List.mem_singleton.mp hs]; exact J n6
    | 8, _, hs => rw [List.mem_singleton.mp hs]; exact J n7
    | 9, _, hs => rw [List.mem_singleton.mp hs]; exact J n8
    | 10, _, hs => rw [List.mem_singleton.mp hs]; exact J n9
    | 11, _, hs => rw [List.mem_singleton.mp hs]; exact J n10
    | 12, _, hs => rw [List.mem_singleton.mp hs]; exact J n11
    | 13, _, hs => rw [List.mem_singleton.mp hs]; exact J n12
    | 14, _, hs => rw [List.mem_singleton.mp hs]; exact J n13
  unfold lineS
  rw [List.mem_append, List.mem_cons]
  rintro (h | h | h)
  · exact hw h
  · simp at h
  · exact no h

theorem takes_then {A B : List (List UInt8)} {t u : T} (h : takes A t = some u) : takes (A ++ B) t = takes B u := by rw [takes_app, h]
theorem take_mode {t : T} (h : t.mode = 1 ∨ t.mode = 2) (u : T) : takeS u (if t.mode = 1 then kEasy else kCons) 6 = some { u with mode := t.mode } := by
  rcases h with h | h <;> rw [h] <;> simp [takeS, kEasy, kCons]
theorem say_2 {t : T} (h : Num t.users) (u : T) : takes ((sayS t 2).map (lineS 2)) u = some { u with users := t.users } :=
  takes_one 2 (by omega) (joinN [t.users]) u _ (by simp only [takeS, one_join h, Option.map_some])
theorem say_5 {t : T} (h : Num t.decay) (u : T) : takes ((sayS t 5).map (lineS 5)) u = some { u with decay := t.decay } :=
  takes_one 5 (by omega) (joinN [t.decay]) u _ (by simp only [takeS, one_join h, Option.map_some])
theorem say_7 {t : T} (h : Num t.jobs) (u : T) : takes ((sayS t 7).map (lineS 7)) u = some { u with jobs := t.jobs } :=
  takes_one 7 (by omega) (joinN [t.jobs]) u _ (by simp only [takeS, one_join h, Option.map_some])
theorem say_8 {t : T} (h : Num t.ids) (u : T) : takes ((sayS t 8).map (lineS 8)) u = some { u with ids := t.ids } :=
  takes_one 8 (by omega) (joinN [t.ids]) u _ (by simp only [takeS, one_join h, Option.map_some])
theorem say_9 {t : T} (h : Num t.versions) (u : T) : takes ((sayS t 9).map (lineS 9)) u = some { u with versions := t.versions } :=
  takes_one 9 (by omega) (joinN [t.versions]) u _ (by simp only [takeS, one_join h, Option.map_some])
theorem say_10 {t : T} (h : Num t.linger) (u : T) : takes ((sayS t 10).map (lineS 10)) u = some { u with linger := t.linger } :=
  takes_one 10 (by omega) (joinN [t.linger]) u _ (by simp only [takeS, one_join h, Option.map_some])
theorem say_11 {t : T} (h : Num t.keep) (u : T) : takes ((sayS t 11).map (lineS 11)) u = some { u with keep := t.keep } :=
  takes_one 11 (by omega) (joinN [t.keep]) u _ (by simp only [takeS, one_join h, Option.map_some])
theorem say_12 {t : T} (h : Num t.inn) (u : T) : takes ((sayS t 12).map (lineS 12)) u = some { u with inn := t.inn } :=
  takes_one 12 (by omega) (joinN [t.inn]) u _ (by simp only [takeS, one_join h, Option.map_some])
theorem say_13 {t : T} (h : Num t.out) (u : T) : takes ((sayS t 13).map (lineS 13)) u = some { u with out := t.out } :=
  takes_one 13 (by omega) (joinN [t.out]) u _ (by simp only [takeS, one_join h, Option.map_some])
theorem say_14 {t : T} (h : Num t.cache) (u : T) : takes ((sayS t 14).map (lineS 14)) u = some { u with cache := t.cache } :=
  takes_one 14 (by omega) (joinN [t.cache]) u _ (by simp only [takeS, one_join h, Option.map_some])
theorem say_0 {t : T} (F : Fine t) (u : T) : takes ((sayS t 0).map (lineS 0)) u = some { u with nodes := u.nodes ++ t.nodes } := takes_nodes t.nodes u F.nodes
theorem say_1 {t : T} (F : Fine t) (u : T) : takes ((sayS t 1).map (lineS 1)) u = some { u with parts := u.parts ++ t.parts } := takes_parts t.parts u F.parts
theorem say_3 {t : T} (F : Fine t) (u : T) : takes ((sayS t 3).map (lineS 3)) u = some { u with queues := u.queues ++ t.queues } := takes_queues t.queues u F.queues
theorem say_4 {t : T} (h1 : Num t.age) (h2 : Num t.size) (h3 : Num t.qos) (h4 : Num t.share) (u : T) : takes ((sayS t 4).map (lineS 4)) u = some { u with age := t.age, size := t.size, qos := t.qos, share := t.share } :=
  takes_one 4 (by omega) (joinN [t.age, t.size, t.qos, t.share]) u _ (by rw [takeS, parted_join _ (by simp) (by simp [h1, h2, h3, h4])])
theorem say_6 {t : T} (F : Fine t) (u : T) : takes ((sayS t 6).map (lineS 6)) u = some { u with mode := t.mode } :=
  takes_one 6 (by omega) _ u _ (take_mode F.mode u)
theorem lines_are (t : T) : linesS t = (sayS t 0).map (lineS 0) ++ ((sayS t 1).map (lineS 1) ++ ((sayS t 2).map (lineS 2) ++ ((sayS t 3).map (lineS 3) ++ ((sayS t 4).map (lineS 4) ++ ((sayS t 5).map (lineS 5) ++ ((sayS t 6).map (lineS 6) ++ ((sayS t 7).map (lineS 7) ++ ((sayS t 8).map (lineS 8) ++ ((sayS t 9).map (lineS 9) ++ ((sayS t 10).map (lineS 10) ++ ((sayS t 11).map (lineS 11) ++ ((sayS t 12).map (lineS 12) ++ ((sayS t 13).map (lineS 13) ++ ((sayS t 14).map (lineS 14) ++ [])))))))))))))) := by
  unfold linesS
  have r : List.range 15 = [0, 1, 2, 3, 4, 5, 6, 7, 8, 9, 10, 11, 12, 13, 14] := by decide
  rw [r]
  simp only [List.flatMap_cons, List.flatMap_nil]
theorem parse_text {t : T} (F : Fine t) : parseS (textT t) = some t := by
  unfold parseS textT
  rw [lines_text _ (lines_no10 F), lines_are]
  have N := F.nums
  simp only [List.mem_cons, List.not_mem_nil, or_false, forall_eq_or_imp, forall_eq] at N
  obtain ⟨n0, n1, n2, n3, n4, n5, n6, n7, n8, n9, n10, n11, n12, n13⟩ := N
  rw [takes_then (say_0 F _)]
  rw [takes_then (say_1 F _)]
  rw [takes_then (say_2 n0 _)]
  rw [takes_then (say_3 F _)]
  rw [takes_then (say_4 n1 n2 n3 n4 _)]
  rw [takes_then (say_5 n5 _)]
  rw [takes_then (say_6 F _)]
  rw [takes_then (say_7 n6 _)]
  rw [takes_then (say_8 n7 _)]
  rw [takes_then (say_9 n8 _)]
  rw [takes_then (say_10 n9 _)]
  rw [takes_then (say_11 n10 _)]
  rw [takes_then (say_12 n11 _)]
  rw [takes_then (say_13 n12 _)]
  rw [takes_then (say_14 n13 _)]
  simp only [takes, T.none, List.nil_append]
end Go.Proofs.YtgopjpnlpcmldaaGreatDoor.W
