/-
  Several texts in one: TextLen, TextOf, UnitsStep.
-/
import Derived.Test.YtgopjpnlpcmldaaGreatDoorJ29
import Derived.Lib.SlicesS
import Derived.Test.YtgopjpnlpcmldaaGreatDoorUnitsSpec

/-
  A right set-up's text is of at most 2048 bytes: plain lists, no program.
-/
namespace Go.Proofs.YtgopjpnlpcmldaaGreatDoor.W
set_option linter.unusedVariables false
set_option linter.unusedSimpArgs false
open Go

theorem dec_len10 : ∀ (k n : Nat), n < 10 ^ (k + 1) → (Lib.decDigits n).length ≤ k + 1
  | 0, n, h => by rw [Lib.decDigits_one (by omega)]; simp
  | k + 1, n, h => by
    by_cases hs : n < 10
    · rw [Lib.decDigits_one hs]; simp
    · have e : Lib.decDigits n = Lib.decDigits (n / 10) ++ [UInt8.ofNat (48 + n % 10)] := by
        have := dec_snoc (n := n / 10) (d := n % 10) (by omega) (by omega)
        rw [← this]; congr 1; omega
      have ih := dec_len10 k (n / 10) (by rw [Nat.pow_succ] at h; omega)
      rw [e, List.length_append]
      simp only [List.length_cons, List.length_nil]
      omega
theorem decI_len {n : Int} (k : Nat) (h0 : 0 ≤ n) (h : n < ((10 ^ (k + 1) : Nat) : Int)) : (decI n).length ≤ k + 1 := by
  unfold decI; rw [if_neg (by omega)]
  exact dec_len10 k n.toNat (by omega)
theorem join_len : ∀ (l : List Int) (k : Nat), (∀ n ∈ l, (decI n).length ≤ k) → (joinN l).length ≤ l.length * (k + 1)
  | [], k, _ => by simp [joinN]
  | n :: r, k, h => by
    have ih := join_len r k (fun m hm => h m (by simp [hm]))
    have h0 := h n (by simp)
    unfold joinN
    split
    · simp only [List.length_cons, Nat.add_mul]; omega
    · simp only [List.length_append, List.length_cons, Nat.add_mul]
      omega
theorem join_one_len (n : Int) : (joinN [n]).length = (decI n).length := by simp [joinN]
/-- numbers that rise, from 0 on, below an end, are no more than it -/
theorem rise_at {l : List Int} {e : Int} (h : Rise l e) : ∀ i, i < l.length → (i : Int) ≤ l.getD i 0
  | 0, hi => by have := (h 0 hi).1; simp only [prevI] at this; omega
  | i + 1, hi => by
    have ih := rise_at h i (by omega)
    have := (h (i + 1) hi).1
    simp only [prevI] at this
    omega
theorem rise_len {l : List Int} {e : Int} (h : Rise l e) (he : 0 ≤ e) : (l.length : Int) ≤ e := by
  by_cases h0 : l.length = 0
  · omega
  · have h1 := rise_at h (l.length - 1) (by omega)
    have h2 := (h (l.length - 1) (by omega)).2
    omega
theorem rise_mem {l : List Int} {e : Int} (h : Rise l e) : ∀ n ∈ l, 0 ≤ n ∧ n < e := by
  intro n hn
  obtain ⟨i, hi, rfl⟩ := List.mem_iff_getElem.mp hn
  have e1 : l.getD i 0 = l[i] := by simp [List.getD, hi]
  have h1 := rise_at h i hi
  have h2 := (h i hi).2
  rw [e1] at h1 h2
  omega
/-- which set-ups are right, without addresses -/
structure TOk (t : T) : Prop where
  nodes : (1 ≤ t.nodes.length ∧ t.nodes.length ≤ 16) ∧ ∀ v ∈ t.nodes, v.Ok
  parts : (1 ≤ t.parts.length ∧ t.parts.length ≤ 8) ∧ ∀ p ∈ t.parts, p ≠ [] ∧ Rise p t.nodes.length
  queues : (1 ≤ t.queues.length ∧ t.queues.length ≤ 8) ∧ ∀ q ∈ t.queues, (0 ≤ q.part ∧ q.part < t.parts.length) ∧ Rise q.users t.users ∧ (1 ≤ q.mj ∧ q.mj ≤ 256) ∧ (1 ≤ q.mr ∧ q.mr ≤ 256) ∧ (1 ≤ q.mu ∧ q.mu ≤ 256) ∧ (0 ≤ q.qos ∧ q.qos ≤ 100)
  users : 1 ≤ t.users ∧ t.users ≤ 8
  age : 0 ≤ t.age ∧ t.age ≤ 1000
  size : 0 ≤ t.size ∧ t.size ≤ 1000
  qos : 0 ≤ t.qos ∧ t.qos ≤ 1000
  share : 0 ≤ t.share ∧ t.share ≤ 1000
  decay : 1 ≤ t.decay ∧ t.decay ≤ 16
  mode : 1 ≤ t.mode ∧ t.mode ≤ 2
  jobs : 1 ≤ t.jobs ∧ t.jobs ≤ 256
  ids : 1 ≤ t.ids ∧ t.ids ≤ 1048576
  versions : 1 ≤ t.versions ∧ t.versions ≤ 65536
  linger : 0 ≤ t.linger ∧ t.linger ≤ 65536
  keep : 1 ≤ t.keep ∧ t.keep ≤ 16
  inn : 1 ≤ t.inn ∧ t.inn ≤ 8
  out : 1 ≤ t.out ∧ t.out ≤ 16
  cache : 0 ≤ t.cache ∧ t.cache ≤ 16
theorem TOk.fine {t : T} (h : TOk t) : Fine t where
  nodes := h.nodes.2
  parts p hp := by
    refine ⟨(h.parts.2 p hp).1, fun n hn => ?_⟩
    have h1 := rise_mem (h.parts.2 p hp).2 n hn
    have h2 := h.nodes.1.2
    exact ⟨h1.1, by omega⟩
  queues q hq n hn := by
    obtain ⟨h1, h2, h3, h4, h5, h6⟩ := h.queues.2 q hq
    have h7 := h.parts.1.2
    have h8 := h.users
    unfold qnums at hn
    simp only [List.mem_append, List.mem_cons, List.not_mem_nil, or_false] at hn
    unfold Num
    rcases hn with (rfl | rfl | rfl | rfl | rfl) | hn <;> first | omega | (have := rise_mem h2 n hn; omega)
  nums n hn := by
    obtain ⟨_, _, _, a, b, c, d, e, f, _, g, i, j, k, l, m, o, p⟩ := h
    simp only [List.mem_cons, List.not_mem_nil, or_false] at hn
    unfold Num
    rcases hn with rfl | rfl | rfl | rfl | rfl | rfl | rfl | rfl | rfl | rfl | rfl | rfl | rfl | rfl <;> omega
  mode := by have := h.mode; omega

theorem textOf_len_app : ∀ (a b : List (List UInt8)), (textOf (a ++ b)).length = (textOf a).length + (textOf b).length
  | [], b => by simp [textOf]
  | l :: r, b => by
    have ih := textOf_len_app r b
    simp only [List.cons_append, textOf, List.length_append, List.length_cons, ih]
    omega
theorem textOf_len (k m : Nat) : ∀ (ls : List (List UInt8)), (∀ l ∈ ls, l.length ≤ m) → (textOf (ls.map (lineS k))).length ≤ ls.length * ((kindW k).length + m + 2)
  | [], _ => by simp [textOf]
  | l :: r, h => by
    have ih := textOf_len k m r (fun x hx => h x (by simp [hx]))
    have h0 := h l (by simp)
    simp only [List.map_cons, textOf, lineS, List.length_append, List.length_cons]
    rw [Nat.succ_mul]
    omega
theorem upart_len {w : List UInt8} (hw : w.length = 3) {n : Nat} (h : n ≤ 1048576) : (upart w n).length ≤ 11 := by
  have := dec_len10 6 n (by omega)
  unfold upart
  simp only [List.length_append, List.length_cons, hw]
  omega
theorem ujoin_len : ∀ (ps : List (List UInt8)), (∀ p ∈ ps, p.length ≤ 11) → (ujoin ps).length ≤ ps.length * 12
  | [], _ => by simp [ujoin]
  | [p], h => by
    have := h p (by simp)
    rw [ujoin_one]; simp only [List.length_cons, List.length_nil]; omega
  | p :: q :: r, h => by
    have ih := ujoin_len (q :: r) (fun x hx => h x (by simp only [List.mem_cons] at hx ⊢; exact .inr hx))
    have := h p (by simp)
    rw [ujoin_cons]
    simp only [List.length_append, List.length_cons] at ih ⊢
    omega
theorem upartsT_len : ∀ (ws : List (List UInt8)) (ns : List Nat), (∀ w ∈ ws, w.length = 3) → (∀ n ∈ ns, n ≤ 1048576) → (uparts ws ns).length ≤ ws.length ∧ ∀ p ∈ uparts ws ns, p.length ≤ 11
  | [], ns, _, _ => by cases ns <;> simp [uparts]
  | w :: ws, [], _, _ => by simp [uparts]
  | w :: ws, n :: ns, hw, hn => by
    obtain ⟨h1, h2⟩ := upartsT_len ws ns (fun x hx => hw x (by simp [hx])) (fun x hx => hn x (by simp [hx]))
    unfold uparts
    split
    · exact ⟨by simp only [List.length_cons]; omega, h2⟩
    · refine ⟨by simp only [List.length_cons]; omega, fun p hp => ?_⟩
      rcases List.mem_cons.mp hp with rfl | hp
      · exact upart_len (hw w (by simp)) (hn n (by simp))
      · exact h2 p hp
theorem vtext_len {v : V} (h : v.Ok) : (vtext v).length ≤ 48 := by
  obtain ⟨h1, h2⟩ := upartsT_len uwords (vnums v) (by unfold uwords; decide) (by
    obtain ⟨⟨a0, a1⟩, ⟨b0, b1⟩, ⟨c0, c1⟩, d0, d1⟩ := h
    intro n hn
    simp only [vnums, List.mem_cons, List.not_mem_nil, or_false] at hn
    rcases hn with rfl | rfl | rfl | rfl <;> omega)
  have h3 := ujoin_len _ h2
  have h4 : uwords.length = 4 := rfl
  unfold vtext utext
  split
  · simp [unone]
  · omega
theorem one_len {k : Nat} {n : Int} (m : Nat) (h0 : 0 ≤ n) (h : n < ((10 ^ (m + 1) : Nat) : Int)) : (textOf ([joinN [n]].map (lineS k))).length ≤ (kindW k).length + (m + 1) + 2 := by
  have := textOf_len k (m + 1) [joinN [n]] (by
    intro l hl
    rw [List.mem_singleton.mp hl, join_one_len]
    exact decI_len m h0 h)
  simp only [List.length_cons, List.length_nil, Nat.zero_add, Nat.one_mul] at this
  exact this

theorem len_0 {t : T} (h : TOk t) : (textOf ((sayS t 0).map (lineS 0))).length ≤ 16 * 54 := by
  have := textOf_len 0 48 (t.nodes.map vtext) (by
    intro l hl
    obtain ⟨v, hv, rfl⟩ := List.mem_map.mp hl
    exact vtext_len (h.nodes.2 v hv))
  have h1 := h.nodes.1.2
  have e : (kindW 0).length = 4 := rfl
  rw [e, List.length_map] at this
  rw [sayS]
  omega
theorem len_1 {t : T} (h : TOk t) : (textOf ((sayS t 1).map (lineS 1))).length ≤ 8 * 54 := by
  have := textOf_len 1 48 (t.parts.map joinN) (by
    intro l hl
    obtain ⟨p, hp, rfl⟩ := List.mem_map.mp hl
    have r := (h.parts.2 p hp).2
    have n16 := h.nodes.1.2
    have hl := rise_len r (by omega)
    have := join_len p 2 (fun n hn => decI_len 1 (rise_mem r n hn).1 (by have := rise_mem r n hn; omega))
    omega)
  have h1 := h.parts.1.2
  have e : (kindW 1).length = 4 := rfl
  rw [e, List.length_map] at this
  rw [sayS]
  omega
theorem len_3 {t : T} (h : TOk t) : (textOf ((sayS t 3).map (lineS 3))).length ≤ 8 * 59 := by
  have := textOf_len 3 52 (t.queues.map fun q => joinN (qnums q)) (by
    intro l hl
    obtain ⟨q, hq, rfl⟩ := List.mem_map.mp hl
    obtain ⟨h1, h2, h3, h4, h5, h6⟩ := h.queues.2 q hq
    have h7 := h.parts.1.2
    have h8 := h.users
    have hl := rise_len h2 (by omega)
    have := join_len (qnums q) 3 (by
      intro n hn
      unfold qnums at hn
      simp only [List.mem_append, List.mem_cons, List.not_mem_nil, or_false] at hn
      refine decI_len 2 ?_ ?_
      · rcases hn with (rfl | rfl | rfl | rfl | rfl) | hn <;> first | omega | (have := rise_mem h2 n hn; omega)
      · rcases hn with (rfl | rfl | rfl | rfl | rfl) | hn <;> first | omega | (have := rise_mem h2 n hn; omega))
    have e : (qnums q).length = 5 + q.users.length := by simp [qnums]; omega
    omega)
  have h1 := h.queues.1.2
  have e : (kindW 3).length = 5 := rfl
  rw [e, List.length_map] at this
  rw [sayS]
  omega
theorem len_4 {t : T} (h : TOk t) : (textOf ((sayS t 4).map (lineS 4))).length ≤ 29 := by
  have := textOf_len 4 20 [joinN [t.age, t.size, t.qos, t.share]] (by
    intro l hl
    rw [List.mem_singleton.mp hl]
    have a := h.age; have b := h.size; have c := h.qos; have d := h.share
    have := join_len [t.age, t.size, t.qos, t.share] 4 (by
      intro n hn
      simp only [List.mem_cons, List.not_mem_nil, or_false] at hn
      refine decI_len 3 ?_ ?_ <;> (rcases hn with rfl | rfl | rfl | rfl <;> omega))
    simpa using this)
  have e : (kindW 4).length = 7 := rfl
  rw [e] at this
  rw [sayS]
  simpa using this
theorem len_6 {t : T} (h : TOk t) : (textOf ((sayS t 6).map (lineS 6))).length ≤ 18 := by
  have := textOf_len 6 12 [if t.mode = 1 then kEasy else kCons] (by
    intro l hl
    rw [List.mem_singleton.mp hl]
    split <;> simp [kEasy, kCons])
  have e : (kindW 6).length = 4 := rfl
  rw [e] at this
  rw [sayS]
  simpa using this
theorem len_2 {t : T} (h : TOk t) : (textOf ((sayS t 2).map (lineS 2))).length ≤ 8 :=
  one_len (k := 2) 0 (n := t.users) (by have := h.users; omega) (by have := h.users; omega)
theorem len_5 {t : T} (h : TOk t) : (textOf ((sayS t 5).map (lineS 5))).length ≤ 9 :=
  one_len (k := 5) 1 (n := t.decay) (by have := h.decay; omega) (by have := h.decay; omega)
theorem len_7 {t : T} (h : TOk t) : (textOf ((sayS t 7).map (lineS 7))).length ≤ 9 :=
  one_len (k := 7) 2 (n := t.jobs) (by have := h.jobs; omega) (by have := h.jobs; omega)
theorem len_8 {t : T} (h : TOk t) : (textOf ((sayS t 8).map (lineS 8))).length ≤ 12 :=
  one_len (k := 8) 6 (n := t.ids) (by have := h.ids; omega) (by have := h.ids; omega)
theorem len_9 {t : T} (h : TOk t) : (textOf ((sayS t 9).map (lineS 9))).length ≤ 15 :=
  one_len (k := 9) 4 (n := t.versions) (by have := h.versions; omega) (by have := h.versions; omega)
theorem len_10 {t : T} (h : TOk t) : (textOf ((sayS t 10).map (lineS 10))).length ≤ 13 :=
  one_len (k := 10) 4 (n := t.linger) (by have := h.linger; omega) (by have := h.linger; omega)
theorem len_11 {t : T} (h : TOk t) : (textOf ((sayS t 11).map (lineS 11))).length ≤ 8 :=
  one_len (k := 11) 1 (n := t.keep) (by have := h.keep; omega) (by have := h.keep; omega)
theorem len_12 {t : T} (h : TOk t) : (textOf ((sayS t 12).map (lineS 12))).length ≤ 5 :=
  one_len (k := 12) 0 (n := t.inn) (by have := h.inn; omega) (by have := h.inn; omega)
theorem len_13 {t : T} (h : TOk t) : (textOf ((sayS t 13).map (lineS 13))).length ≤ 7 :=
  one_len (k := 13) 1 (n := t.out) (by have := h.out; omega) (by have := h.out; omega)
theorem len_14 {t : T} (h : TOk t) : (textOf ((sayS t 14).map (lineS 14))).length ≤ 9 :=
  one_len (k := 14) 1 (n := t.cache) (by have := h.cache; omega) (by have := h.cache; omega)
theorem sum15 (a0 a1 a2 a3 a4 a5 a6 a7 a8 a9 a10 a11 a12 a13 a14 : Nat) (h0 : a0 ≤ 864) (h1 : a1 ≤ 432) (h2 : a2 ≤ 8) (h3 : a3 ≤ 472) (h4 : a4 ≤ 29) (h5 : a5 ≤ 9) (h6 : a6 ≤ 18) (h7 : a7 ≤ 9) (h8 : a8 ≤ 12) (h9 : a9 ≤ 15) (h10 : a10 ≤ 13) (h11 : a11 ≤ 8) (h12 : a12 ≤ 5) (h13 : a13 ≤ 7) (h14 : a14 ≤ 9) : a0 + (a1 + (a2 + (a3 + (a4 + (a5 + (a6 + (a7 + (a8 + (a9 + (a10 + (a11 + (a12 + (a13 + (a14 + 0)))))))))))))) ≤ 2048 :=
  Nat.le_trans (Nat.add_le_add h0 (Nat.add_le_add h1 (Nat.add_le_add h2 (Nat.add_le_add h3 (Nat.add_le_add h4 (Nat.add_le_add h5 (Nat.add_le_add h6 (Nat.add_le_add h7 (Nat.add_le_add h8 (Nat.add_le_add h9 (Nat.add_le_add h10 (Nat.add_le_add h11 (Nat.add_le_add h12 (Nat.add_le_add h13 (Nat.add_le_add h14 (Nat.le_refl 0)))))))))))))))) (by decide)
theorem text_len {t : T} (h : TOk t) : (textT t).length ≤ 2048 := by
  unfold textT
  rw [lines_are]
  simp only [textOf_len_app]
  have e : (textOf []).length = 0 := rfl
  rw [e]
  exact sum15 _ _ _ _ _ _ _ _ _ _ _ _ _ _ _ (len_0 h) (len_1 h) (len_2 h) (len_3 h) (len_4 h) (len_5 h) (len_6 h) (len_7 h) (len_8 h) (len_9 h) (len_10 h) (len_11 h) (len_12 h) (len_13 h) (len_14 h)
end Go.Proofs.YtgopjpnlpcmldaaGreatDoor.W


/-
  A set-up as the walk has it (with addresses) and as its text has it (without): which is right, in both.
-/
namespace Go.Proofs.YtgopjpnlpcmldaaGreatDoor.W
set_option linter.unusedVariables false
set_option linter.unusedSimpArgs false
open Go

def qOf (q : QR) : TQ := ⟨q.part, q.mj, q.mr, q.mu, q.qos, q.users.l⟩
def tOf (s : S) : T := ⟨s.nodes, s.parts.map (·.l), s.queues.map qOf, s.users, s.age, s.size, s.qos, s.share, s.decay, s.mode, s.jobs, s.ids, s.versions, s.linger, s.keep, s.inn, s.out, s.cache⟩
theorem right_tok {s : S} (h : RightIs s) : TOk (tOf s) where
  nodes := h.nodes
  parts := by
    obtain ⟨h1, h2⟩ := h.parts
    refine ⟨by simpa [tOf] using h1, fun p hp => ?_⟩
    obtain ⟨q, hq, rfl⟩ := List.mem_map.mp hp
    exact h2 q hq
  queues := by
    obtain ⟨h1, h2⟩ := h.queues
    refine ⟨by simpa [tOf] using h1, fun q hq => ?_⟩
    obtain ⟨r, hr, rfl⟩ := List.mem_map.mp hq
    have := h2 r hr
    unfold QueueOk at this
    simpa [tOf, qOf] using this
  users := h.users
  age := h.weights.1
  size := h.weights.2.1
  qos := h.weights.2.2.1
  share := h.weights.2.2.2
  decay := h.decay
  mode := h.mode
  jobs := h.jobs
  ids := h.ids
  versions := h.versions
  linger := h.linger
  keep := h.keep
  inn := h.inn
  out := h.out
  cache := h.cache
theorem tok_right {s : S} (h : TOk (tOf s)) : RightIs s where
  nodes := h.nodes
  parts := by
    obtain ⟨h1, h2⟩ := h.parts
    refine ⟨by simpa [tOf] using h1, fun p hp => ?_⟩
    exact h2 p.l (List.mem_map.mpr ⟨p, hp, rfl⟩)
  queues := by
    obtain ⟨h1, h2⟩ := h.queues
    refine ⟨by simpa [tOf] using h1, fun q hq => ?_⟩
    have := h2 (qOf q) (List.mem_map.mpr ⟨q, hq, rfl⟩)
    unfold QueueOk
    simpa [tOf, qOf] using this
  users := h.users
  weights := ⟨h.age, h.size, h.qos, h.share⟩
  decay := h.decay
  mode := h.mode
  jobs := h.jobs
  ids := h.ids
  versions := h.versions
  linger := h.linger
  keep := h.keep
  inn := h.inn
  out := h.out
  cache := h.cache
/-- a right set-up's text is read back as it is -/
theorem right_back {s : S} (h : Right s) : parseS (textT (tOf s)) = some (tOf s) ∧ (textT (tOf s)).length ≤ 2048 :=
  ⟨parse_text (right_tok (right_is h)).fine, text_len (right_tok (right_is h))⟩
/-- whatever a text is parsed into: it is written as the text only if the text is that of a set-up -/
theorem back_text {l : List UInt8} {t : T} (h : TOk t) (hl : textT t = l) : parseS l = some t := by
  subst hl; exact parse_text h.fine
/-- two right set-ups of one text are alike -/
theorem text_inj {a b : T} (ha : TOk a) (hb : TOk b) (h : textT a = textT b) : a = b := by
  have h1 := parse_text ha.fine
  have h2 := parse_text hb.fine
  rw [h, h2] at h1
  exact (Option.some.inj h1).symm
end Go.Proofs.YtgopjpnlpcmldaaGreatDoor.W


/-
  Vectors of resources as text: one round of each loop that writes, reads or looks for such a text: plain lists of bytes, no program.
-/
namespace Go.Proofs.YtgopjpnlpcmldaaGreatDoor.W
set_option linter.unusedVariables false
set_option linter.unusedSimpArgs false
open Go

/-- bytes as a string -/
def bs (l : List UInt8) : ByteArray := ⟨l.toArray⟩
theorem bs_list (l : List UInt8) : (bs l).data.toList = l := by simp [bs]
theorem bs_inj {a b : List UInt8} : bs a = bs b ↔ a = b := by
  constructor
  · intro h
    have := congrArg (fun x : ByteArray => x.data.toList) h
    simpa [bs_list] using this
  · intro h; rw [h]
theorem bs_size (l : List UInt8) : (bs l).size = l.length := by simp [bs, ByteArray.size]
theorem bs_back (s : ByteArray) : bs s.data.toList = s := by simp [bs]
theorem bs_app (a b : List UInt8) : bs a ++ bs b = bs (a ++ b) := by
  apply ByteArray.ext
  simp [bs]

/-! reading: one round -/
theorem readW_idx (s : List UInt8) : ∀ (ws : List (List UInt8)) (i : Nat),
    (Lib.idxFromS (ws.map bs) (bs (cutAt 61 (cutAt 44 s).1).1) i = -1 ∧ readW ws s = none) ∨
    ∃ k, k < ws.length ∧ Lib.idxFromS (ws.map bs) (bs (cutAt 61 (cutAt 44 s).1).1) i = ((i + k : Nat) : Int) ∧
      readW ws s = if numL 0 (cutAt 61 (cutAt 44 s).1).2.1 = 0 then none
        else if (cutAt 44 s).2.2 then (readW (ws.drop (k + 1)) (cutAt 44 s).2.1).map (fun r => List.replicate k 0 ++ numL 0 (cutAt 61 (cutAt 44 s).1).2.1 :: r)
        else some (List.replicate k 0 ++ numL 0 (cutAt 61 (cutAt 44 s).1).2.1 :: List.replicate (ws.length - (k + 1)) 0)
  | [], i => Or.inl ⟨rfl, rfl⟩
  | w :: ws, i => by
    by_cases hw : (cutAt 61 (cutAt 44 s).1).1 = w
    · refine Or.inr ⟨0, by simp, ?_, ?_⟩
      · rw [hw]; simp [Lib.idxFromS]
      · conv => lhs; unfold readW
        rw [if_pos hw]
        by_cases hn : numL 0 (cutAt 61 (cutAt 44 s).1).2.1 = 0
        · rw [if_pos hn, if_pos hn]
        · rw [if_neg hn, if_neg hn]
          cases (cutAt 44 s).2.2 with
          | true => simp
          | false => simp [List.map_const']
    · have hw' : ¬ bs w = bs (cutAt 61 (cutAt 44 s).1).1 := fun e => hw (bs_inj.mp e).symm
      have e1 : Lib.idxFromS ((w :: ws).map bs) (bs (cutAt 61 (cutAt 44 s).1).1) i = Lib.idxFromS (ws.map bs) (bs (cutAt 61 (cutAt 44 s).1).1) (i + 1) := by
        simp only [List.map_cons, Lib.idxFromS, if_neg hw']
      have e2 : readW (w :: ws) s = (readW ws s).map (0 :: ·) := by
        conv => lhs; unfold readW
        rw [if_neg hw]
      rw [e1, e2]
      rcases readW_idx s ws (i + 1) with ⟨h1, h2⟩ | ⟨k, h0, h1, h2⟩
      · exact Or.inl ⟨h1, by rw [h2]; rfl⟩
      · refine Or.inr ⟨k + 1, by simp; omega, by rw [h1]; congr 1; omega, ?_⟩
        rw [h2]
        by_cases hn : numL 0 (cutAt 61 (cutAt 44 s).1).2.1 = 0
        · rw [if_pos hn, if_pos hn]; rfl
        · rw [if_neg hn, if_neg hn]
          cases (cutAt 44 s).2.2 with
          | true => simp [List.replicate_succ]; rfl
          | false => simp [List.replicate_succ]

/-- what comes of a text, the first words having had their turn -/
def goU (next : Nat) (ns : List Nat) (s : List UInt8) : Option (List Nat) := (readW (uwords.drop next) s).map (fun r => ns.take next ++ r)
def late (next : Nat) (ns : List Nat) : Prop := ns.length = 4 ∧ next ≤ 4 ∧ ns.drop next = List.replicate (4 - next) 0
def idxU (next : Nat) (s : List UInt8) : Int := Lib.idxOfS ((uwords.drop next).map bs) (bs (cutAt 61 (cutAt 44 s).1).1)
def numU (s : List UInt8) : Nat := numL 0 (cutAt 61 (cutAt 44 s).1).2.1

theorem late_set {next k n : Nat} {ns : List Nat} (h : late next ns) (hk : next + k < 4) : late (next + k + 1) (ns.set (next + k) n) ∧
    (ns.set (next + k) n).take (next + k + 1) = ns.take next ++ (List.replicate k 0 ++ [n]) ∧ ns.set (next + k) n = ns.take next ++ (List.replicate k 0 ++ n :: List.replicate (4 - next - (k + 1)) 0) := by
  obtain ⟨h1, h2, h3⟩ := h
  match ns, h1 with
  | [a, b, c, d], _ =>
    rcases next with _ | _ | _ | _ | next
    · simp [List.replicate] at h3
      obtain ⟨rfl, rfl, rfl, rfl⟩ := h3
      rcases k with _ | _ | _ | _ | k
      all_goals first | omega | simp [late, List.replicate]
    · simp [List.replicate] at h3
      obtain ⟨rfl, rfl, rfl⟩ := h3
      rcases k with _ | _ | _ | k
      all_goals first | omega | simp [late, List.replicate]
    · simp [List.replicate] at h3
      obtain ⟨rfl, rfl⟩ := h3
      rcases k with _ | _ | k
      all_goals first | omega | simp [late, List.replicate]
    · simp [List.replicate] at h3
      obtain rfl := h3
      rcases k with _ | k
      all_goals first | omega | simp [late, List.replicate]
    · omega

theorem goU_round (next : Nat) (ns : List Nat) (s : List UInt8) (h : late next ns) :
    (idxU next s = -1 ∧ goU next ns s = none) ∨
    ∃ k : Nat, next + k < 4 ∧ idxU next s = (k : Int) ∧ (numU s = 0 → goU next ns s = none) ∧
      (numU s ≠ 0 → late (next + k + 1) (ns.set (next + k) (numU s)) ∧
        ((cutAt 44 s).2.2 = true → goU next ns s = goU (next + k + 1) (ns.set (next + k) (numU s)) (cutAt 44 s).2.1) ∧
        ((cutAt 44 s).2.2 = false → goU next ns s = some (ns.set (next + k) (numU s)))) := by
  have hlen : (uwords.drop next).length = 4 - next := by simp [uwords]
  rcases readW_idx s (uwords.drop next) 0 with ⟨h1, h2⟩ | ⟨k, h0, h1, h2⟩
  · refine Or.inl ⟨h1, ?_⟩
    unfold goU
    rw [h2]; rfl
  · rw [hlen] at h0
    refine Or.inr ⟨k, by omega, by unfold idxU Lib.idxOfS; rw [h1]; simp, ?_, ?_⟩
    · intro hn
      unfold goU
      unfold numU at hn
      rw [h2, if_pos hn]; rfl
    · intro hn
      obtain ⟨e1, e2, e3⟩ := late_set (n := numU s) h (show next + k < 4 by omega)
      refine ⟨e1, ?_, ?_⟩
      · intro hm
        unfold goU
        rw [h2, e2]
        have hn' : ¬ numL 0 (cutAt 61 (cutAt 44 s).1).2.1 = 0 := hn
        rw [if_neg hn', if_pos hm, List.drop_drop, show next + (k + 1) = next + k + 1 by omega]
        rw [Option.map_map]
        congr 1
        funext r
        simp [numU]
      · intro hm
        unfold goU
        have hn' : ¬ numL 0 (cutAt 61 (cutAt 44 s).1).2.1 = 0 := hn
        rw [h2, if_neg hn', hm, e3, hlen]
        simp [numU]

theorem goU_start (s : List UInt8) (h : s ≠ unone) : goU 0 [0, 0, 0, 0] s = readU s := by
  unfold goU readU
  rw [if_neg h]
  simp
theorem late_start : late 0 [0, 0, 0, 0] := by simp [late, List.replicate]

/-! writing: one round -/
def uacc (i : Nat) (ns : List Nat) : List (List UInt8) := uparts (uwords.take i) (ns.take i)
theorem uparts_take : ∀ (ws : List (List UInt8)) (ns : List Nat) (i : Nat) (w : List UInt8) (n : Nat), ws[i]? = some w → ns[i]? = some n →
    uparts (ws.take (i + 1)) (ns.take (i + 1)) = uparts (ws.take i) (ns.take i) ++ if n = 0 then [] else [upart w n]
  | [], _, i, w, n, h, _ => by simp at h
  | _ :: _, [], i, w, n, _, h => by simp at h
  | w0 :: ws, n0 :: ns, 0, w, n, h, h' => by
    simp only [List.getElem?_cons_zero, Option.some.injEq] at h h'
    subst h; subst h'
    simp [uparts]
  | w0 :: ws, n0 :: ns, i + 1, w, n, h, h' => by
    have ih := uparts_take ws ns i w n (by simpa using h) (by simpa using h')
    rw [List.take_succ_cons, List.take_succ_cons, List.take_succ_cons, List.take_succ_cons]
    unfold uparts
    rw [ih]
    by_cases h0 : n0 = 0
    · simp only [h0, ↓reduceIte]
    · simp only [h0, ↓reduceIte]
      simp
theorem uacc_succ {i : Nat} {ns : List Nat} {w : List UInt8} {n : Nat} (hw : uwords[i]? = some w) (hn : ns[i]? = some n) :
    uacc (i + 1) ns = uacc i ns ++ if n = 0 then [] else [upart w n] := uparts_take _ _ _ _ _ hw hn
theorem uacc_zero (ns : List Nat) : uacc 0 ns = [] := by simp [uacc, uparts]
theorem uacc_all {ns : List Nat} (h : ns.length = 4) : uacc 4 ns = uparts uwords ns := by
  unfold uacc
  rw [List.take_of_length_le (by simp [uwords]), List.take_of_length_le (by omega)]
theorem ujoin_nil_iff (ws : List (List UInt8)) (ns : List Nat) : ujoin (uparts ws ns) = [] ↔ uparts ws ns = [] := by
  constructor
  · intro h
    by_cases he : uparts ws ns = []
    · exact he
    · obtain ⟨w, n, r, _, e⟩ := first_part _ _ he
      have : (61 : UInt8) ∈ ujoin (uparts ws ns) := by rw [e]; exact mem_join _ _ _ (by simp [upart])
      rw [h] at this
      cases this
  · intro h; rw [h]; rfl

/-! looking for a word, wherever it stands -/
def numR : Nat → Nat → List UInt8 → Nat
  | 0, n, _ => n
  | _ + 1, n, [] => n
  | k + 1, n, c :: t => if isDig c then numR k (10 * n + (c.toNat - 48)) t else n
def num8 : List UInt8 → Int
  | [] => -1
  | c :: t => if isDig c then ((numR 8 0 (c :: t) : Nat) : Int) else -1
def scan1 (key : List UInt8) : List UInt8 → Int → Int
  | [], v => v
  | c :: t, v => scan1 key t (if (c :: t).take 4 = key then num8 ((c :: t).drop 4) else v)
def wkey (k : Nat) : List UInt8 := uwords.getD k [] ++ [61]

def stepD (m : Nat) (c : UInt8) : Nat := 10 * m + (c.toNat - 48)
def foldD (m : Nat) (l : List UInt8) : Nat := l.foldl stepD m
theorem foldD_nil (m : Nat) : foldD m [] = m := rfl
theorem foldD_cons (m : Nat) (c : UInt8) (t : List UInt8) : foldD m (c :: t) = foldD (10 * m + (c.toNat - 48)) t := by
  show List.foldl stepD m (c :: t) = List.foldl stepD (stepD m c) t
  rw [List.foldl_cons]
theorem foldD_app (l r : List UInt8) (m : Nat) : foldD m (l ++ r) = foldD (foldD m l) r := List.foldl_append
theorem foldD_dec (n : Nat) : foldD 0 (Lib.decDigits n) = n := by
  induction n using Nat.strongRecOn with
  | ind n ih =>
    by_cases h : n < 10
    · rw [Lib.decDigits_one h, foldD_cons, foldD_nil, dig_toNat h]
      omega
    · rw [Lib.decDigits, dif_neg h, foldD_app, ih (n / 10) (by omega), foldD_cons, foldD_nil, dig_toNat (by omega)]
      omega
def stops (r : List UInt8) : Prop := ∀ c t, r = c :: t → ¬ isDig c
theorem numR_app : ∀ (l r : List UInt8) (k m : Nat), l.length ≤ k → (∀ c ∈ l, isDig c) → stops r → numR k m (l ++ r) = foldD m l
  | [], r, k, m, _, _, hr => by
    simp only [List.nil_append, foldD_nil]
    cases k with
    | zero => rfl
    | succ k =>
      cases r with
      | nil => rfl
      | cons c t => simp only [numR]; rw [if_neg (hr c t rfl)]
  | c :: t, r, 0, m, hl, _, _ => by simp at hl
  | c :: t, r, k + 1, m, hl, hd, hr => by
    simp only [List.cons_append, numR, foldD_cons]
    rw [if_pos (hd c (by simp))]
    exact numR_app t r k _ (by simpa using hl) (fun x hx => hd x (by simp [hx])) hr
theorem dec_len : ∀ (k n : Nat), n < 10 ^ (k + 1) → (Lib.decDigits n).length ≤ k + 1
  | k, n, h => by
    by_cases h10 : n < 10
    · rw [Lib.decDigits_one h10]; simp
    · match k, h with
      | 0, h => simp at h; omega
      | k + 1, h =>
        rw [Lib.decDigits, dif_neg h10]
        have := dec_len k (n / 10) (by rw [Nat.pow_succ] at h; omega)
        simp
        omega
theorem num8_dec {n : Nat} (hn : n ≤ 1048576) {r : List UInt8} (hr : stops r) : num8 (Lib.decDigits n ++ r) = n := by
  have hl : (Lib.decDigits n).length ≤ 8 := dec_len 7 n (by omega)
  have h := numR_app (Lib.decDigits n) r 8 0 hl (dec_digs n) hr
  rw [foldD_dec] at h
  cases hd : Lib.decDigits n with
  | nil => exact absurd hd (dec_ne_nil n)
  | cons c t =>
    rw [hd] at h
    simp only [List.cons_append, num8] at h ⊢
    rw [if_pos (dec_digs n c (by rw [hd]; simp)), h]

/-- a key as this layer has them -/
def goodK (key : List UInt8) : Prop := ∃ a b c, key = [a, b, c, 61] ∧ ¬ isDig a ∧ a ≠ 44 ∧ a ≠ 61 ∧ b ≠ 61 ∧ c ≠ 61
theorem good_keys {k : Nat} (h : k < 4) : goodK (wkey k) := by
  rcases k with _ | _ | _ | _ | k
  · exact ⟨99, 112, 117, rfl, by decide⟩
  · exact ⟨109, 101, 109, rfl, by decide⟩
  · exact ⟨103, 112, 117, rfl, by decide⟩
  · exact ⟨108, 105, 99, rfl, by decide⟩
  · omega
theorem scan_skip {key : List UInt8} (hk : goodK key) {c : UInt8} (hc : isDig c ∨ c = 44 ∨ c = 61) (t : List UInt8) (v : Int) : scan1 key (c :: t) v = scan1 key t v := by
  obtain ⟨a, b, d, rfl, h1, h2, h3, _⟩ := hk
  conv => lhs; unfold scan1
  rw [if_neg]
  · intro e
    simp only [List.take_succ_cons, List.cons.injEq] at e
    rcases hc with hc | hc | hc
    · exact h1 (e.1 ▸ hc)
    · exact h2 (e.1 ▸ hc)
    · exact h3 (e.1 ▸ hc)
theorem scan_digs {key : List UInt8} (hk : goodK key) : ∀ (l r : List UInt8) (v : Int), (∀ c ∈ l, isDig c) → scan1 key (l ++ r) v = scan1 key r v
  | [], _, _, _ => rfl
  | c :: t, r, v, h => by
    rw [List.cons_append, scan_skip hk (Or.inl (h c (by simp))), scan_digs hk t r v (fun x hx => h x (by simp [hx]))]
theorem scan_part {key : List UInt8} (hk : goodK key) {a b c : UInt8} (hb : b ≠ 61) (hc : c ≠ 61) {n : Nat} (hn : n ≤ 1048576) {r : List UInt8} (hr : stops r) (v : Int) :
    scan1 key (upart [a, b, c] n ++ r) v = scan1 key r (if [a, b, c, 61] = key then (n : Int) else v) := by
  have e : upart [a, b, c] n ++ r = a :: b :: c :: 61 :: (Lib.decDigits n ++ r) := by simp [upart]
  rw [e]
  have h8 := num8_dec hn hr
  have hk' := hk
  obtain ⟨x, y, z, rfl, _, _, h3, h4, h5⟩ := hk
  rw [show scan1 [x, y, z, 61] (a :: b :: c :: 61 :: (Lib.decDigits n ++ r)) v = scan1 [x, y, z, 61] (b :: c :: 61 :: (Lib.decDigits n ++ r)) (if [a, b, c, 61] = [x, y, z, 61] then (n : Int) else v) by
    conv => lhs; unfold scan1
    simp only [List.take_succ_cons, List.take_zero, List.drop_succ_cons, List.drop_zero, h8]]
  rw [show ∀ u, scan1 [x, y, z, 61] (b :: c :: 61 :: (Lib.decDigits n ++ r)) u = scan1 [x, y, z, 61] (c :: 61 :: (Lib.decDigits n ++ r)) u from fun u => by
    conv => lhs; unfold scan1
    rw [if_neg]
    intro e
    simp only [List.take_succ_cons, List.cons.injEq] at e
    exact h5 e.2.2.1.symm]
  rw [show ∀ u, scan1 [x, y, z, 61] (c :: 61 :: (Lib.decDigits n ++ r)) u = scan1 [x, y, z, 61] (61 :: (Lib.decDigits n ++ r)) u from fun u => by
    conv => lhs; unfold scan1
    rw [if_neg]
    intro e
    simp only [List.take_succ_cons, List.cons.injEq] at e
    exact h4 e.2.1.symm]
  rw [scan_skip hk' (Or.inr (Or.inr rfl)), scan_digs hk' _ _ _ (dec_digs n)]

def upd (key : List UInt8) : List (List UInt8) → List Nat → Int → Int
  | w :: ws, n :: ns, v => upd key ws ns (if n = 0 then v else if w ++ [61] = key then (n : Int) else v)
  | _, _, v => v
def word3 (w : List UInt8) : Prop := ∃ a b c, w = [a, b, c] ∧ b ≠ 61 ∧ c ≠ 61
theorem scan_parts {key : List UInt8} (hk : goodK key) : ∀ (ws : List (List UInt8)) (ns : List Nat) (v : Int), (∀ w ∈ ws, word3 w) → (∀ n ∈ ns, n ≤ 1048576) →
    scan1 key (ujoin (uparts ws ns)) v = upd key ws ns v
  | [], ns, v, _, _ => by simp [uparts, ujoin, upd, scan1]
  | _ :: _, [], v, _, _ => by simp [uparts, ujoin, upd, scan1]
  | w :: ws, n :: ns, v, hw, hn => by
    have ih := fun v => scan_parts hk ws ns v (fun x hx => hw x (by simp [hx])) (fun x hx => hn x (by simp [hx]))
    obtain ⟨a, b, c, rfl, hb, hc⟩ := hw w (by simp)
    by_cases h0 : n = 0
    · simp only [uparts, upd, if_pos h0]
      exact ih v
    · simp only [uparts, upd, if_neg h0]
      rw [← ih]
      by_cases hr : uparts ws ns = []
      · rw [hr, ujoin_one]
        have := scan_part hk hb hc (hn n (by simp)) (r := []) (fun _ _ h => by cases h) v (a := a)
        rw [List.append_nil] at this
        exact this
      · rw [ujoin_more _ hr, scan_part hk hb hc (hn n (by simp)) (fun c t h => by cases h; decide), scan_skip hk (Or.inr (Or.inl rfl))]
        rfl
theorem words3 : ∀ w ∈ uwords, word3 w := by
  intro w hw
  simp only [uwords, List.mem_cons, List.not_mem_nil, or_false] at hw
  rcases hw with rfl | rfl | rfl | rfl
  · exact ⟨_, _, _, rfl, by decide⟩
  · exact ⟨_, _, _, rfl, by decide⟩
  · exact ⟨_, _, _, rfl, by decide⟩
  · exact ⟨_, _, _, rfl, by decide⟩
/-- what is looked for in a text is found: each word's number -/
theorem scan_text {ns : List Nat} (hl : ns.length = 4) (hb : ∀ n ∈ ns, n ≤ 1048576) {k : Nat} (hk : k < 4) : scan1 (wkey k) (utext ns) 0 = ((ns.getD k 0 : Nat) : Int) := by
  match ns, hl with
  | [a, b, c, d], _ =>
    unfold utext
    by_cases h : uparts uwords [a, b, c, d] = []
    · rw [if_pos h]
      have := uparts_none uwords [a, b, c, d] rfl h
      simp only [uwords, List.map_cons, List.map_nil, List.cons.injEq, and_true] at this
      obtain ⟨rfl, rfl, rfl, rfl⟩ := this
      rcases k with _ | _ | _ | _ | k
      all_goals first | omega | rfl | decide
    · rw [if_neg h, scan_parts (good_keys hk) _ _ _ words3 hb]
      rcases k with _ | _ | _ | _ | k
      · simp [upd, uwords, wkey]; omega
      · simp [upd, uwords, wkey]; omega
      · simp [upd, uwords, wkey]; omega
      · simp [upd, uwords, wkey]; omega
      · omega
theorem scan_short {k : Nat} (hk : k < 4) : ∀ (s : List UInt8) (v : Int), s.length < 4 → scan1 (wkey k) s v = v
  | [], v, _ => rfl
  | c :: t, v, h => by
    conv => lhs; unfold scan1
    rw [if_neg, scan_short hk t v (by simp at h; omega)]
    intro e
    have := congrArg List.length e
    have hw : (wkey k).length = 4 := by
      obtain ⟨_, _, _, e, _⟩ := good_keys hk
      rw [e]; rfl
    rw [hw] at this
    simp at this h
    omega

end Go.Proofs.YtgopjpnlpcmldaaGreatDoor.W
