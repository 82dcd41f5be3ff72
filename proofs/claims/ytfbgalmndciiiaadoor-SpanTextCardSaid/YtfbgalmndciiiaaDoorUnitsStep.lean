/-
  Vectors of resources as text: one round of each loop that writes, reads or looks for such a text: plain lists of bytes, no program.
-/
import Derived.Lib.SlicesS
import Derived.Test.YtfbgalmndciiiaaDoorUnitsSpec
namespace Go.Proofs.YtfbgalmndciiiaaDoor.W
set_option linter.unusedVariables false
set_option linter.unusedSimpArgs false
open Go

/-- bytes as a string -/
def bs (l : List UInt8) : ByteArray := ⟨l.toArray⟩
theorem bs_list (l : List UInt8) : (bs l).data.toList = l := by simp [bs]
theorem bs_inj {a b : List UInt8} : bs a = bs b ↔ a = b := by
  constructor
  · intro h
    have := congrArg (fun x : ByteArray => x.data.toList) h
    simpa [bs_list] using this
  · intro h; rw [h]
theorem bs_size (l : List UInt8) : (bs l).size = l.length := by simp [bs, ByteArray.size]
theorem bs_back (s : ByteArray) : bs s.data.toList = s := by simp [bs]
theorem bs_app (a b : List UInt8) : bs a ++ bs b = bs (a ++ b) := by
  apply ByteArray.ext
  simp [bs]

/-! reading: one round -/
theorem readW_idx (s : List UInt8) : ∀ (ws : List (List UInt8)) (i : Nat),
    (Lib.idxFromS (ws.map bs) (bs (cutAt 61 (cutAt 44 s).1).1) i = -1 ∧ readW ws s = none) ∨
    ∃ k, k < ws.length ∧ Lib.idxFromS (ws.map bs) (bs (cutAt 61 (cutAt 44 s).1).1) i = ((i + k : Nat) : Int) ∧
      readW ws s = if numL 0 (cutAt 61 (cutAt 44 s).1).2.1 = 0 then none
        else if (cutAt 44 s).2.2 then (readW (ws.drop (k + 1)) (cutAt 44 s).2.1).map (fun r => List.replicate k 0 ++ numL 0 (cutAt 61 (cutAt 44 s).1).2.1 :: r)
        else some (List.replicate k 0 ++ numL 0 (cutAt 61 (cutAt 44 s).1).2.1 :: List.replicate (ws.length - (k + 1)) 0)
  | [], i => Or.inl ⟨rfl, rfl⟩
  | w :: ws, i => by
    by_cases hw : (cutAt 61 (cutAt 44 s).1).1 = w
    · refine Or.inr ⟨0, by simp, ?_, ?_⟩
      · rw [hw]; simp [Lib.idxFromS]
      · conv => lhs; unfold readW
        rw [if_pos hw]
        by_cases hn : numL 0 (cutAt 61 (cutAt 44 s).1).2.1 = 0
        · rw [if_pos hn, if_pos hn]
        · rw [if_neg hn, if_neg hn]
          cases (cutAt 44 s).2.2 with
          | true => simp
          | false => simp [List.map_const']
    · have hw' : ¬ bs w = bs (cutAt 61 (cutAt 44 s).1).1 := fun e => hw (bs_inj.mp e).symm
      have e1 : Lib.idxFromS ((w :: ws).map bs) (bs (cutAt 61 (cutAt 44 s).1).1) i = Lib.idxFromS (ws.map bs) (bs (cutAt 61 (cutAt 44 s).1).1) (i + 1) := by
        simp only [List.map_cons, Lib.idxFromS, if_neg hw']
      have e2 : readW (w :: ws) s = (readW ws s).map (0 :: ·) := by
        conv => lhs; unfold readW
        rw [if_neg hw]
      rw [e1, e2]
      rcases readW_idx s ws (i + 1) with ⟨h1, h2⟩ | ⟨k, h0, h1, h2⟩
      · exact Or.inl ⟨h1, by rw [h2]; rfl⟩
      · refine Or.inr ⟨k + 1, by simp; omega, by rw [h1]; congr 1; omega, ?_⟩
        rw [h2]
        by_cases hn : numL 0 (cutAt 61 (cutAt 44 s).1).2.1 = 0
        · rw [if_pos hn, if_pos hn]; rfl
        · rw [if_neg hn, if_neg hn]
          cases (cutAt 44 s).2.2 with
          | true => simp [List.replicate_succ]; rfl
          | false => simp [List.replicate_succ]

/-- what comes of a text, the first words having had their turn -/
def goU (next : Nat) (ns : List Nat) (s : List UInt8) : Option (List Nat) := (readW (uwords.drop next) s).map (fun r => ns.take next ++ r)
def late (next : Nat) (ns : List Nat) : Prop := ns.length = 4 ∧ next ≤ 4 ∧ ns.drop next = List.replicate (4 - next) 0
def idxU (next : Nat) (s : List UInt8) : Int := Lib.idxOfS ((uwords.drop next).map bs) (bs (cutAt 61 (cutAt 44 s).1).1)
def numU (s : List UInt8) : Nat := numL 0 (cutAt 61 (cutAt 44 s).1).2.1

theorem late_set {next k n : Nat} {ns : List Nat} (h : late next ns) (hk : next + k < 4) : late (next + k + 1) (ns.set (next + k) n) ∧
    (ns.set (next + k) n).take (next + k + 1) = ns.take next ++ (List.replicate k 0 ++ [n]) ∧ ns.set (next + k) n = ns.take next ++ (List.replicate k 0 ++ n :: List.replicate (4 - next - (k + 1)) 0) := by
  obtain ⟨h1, h2, h3⟩ := h
  match ns, h1 with
  | [a, b, c, d], _ =>
    rcases next with _ | _ | _ | _ | next
    · simp [List.replicate] at h3
      obtain ⟨rfl, rfl, rfl, rfl⟩ := h3
      rcases k with _ | _ | _ | _ | k
      all_goals first | omega | simp [late, List.replicate]
    · simp [List.replicate] at h3
      obtain ⟨rfl, rfl, rfl⟩ := h3
      rcases k with _ | _ | _ | k
      all_goals first | omega | simp [late, List.replicate]
    · simp [List.replicate] at h3
      obtain ⟨rfl, rfl⟩ := h3
      rcases k with _ | _ | k
      all_goals first | omega | simp [late, List.replicate]
    · simp [List.replicate] at h3
      obtain rfl := h3
      rcases k with _ | k
      all_goals first | omega | simp [late, List.replicate]
    · omega

theorem goU_round (next : Nat) (ns : List Nat) (s : List UInt8) (h : late next ns) :
    (idxU next s = -1 ∧ goU next ns s = none) ∨
    ∃ k : Nat, next + k < 4 ∧ idxU next s = (k : Int) ∧ (numU s = 0 → goU next ns s = none) ∧
      (numU s ≠ 0 → late (next + k + 1) (ns.set (next + k) (numU s)) ∧
        ((cutAt 44 s).2.2 = true → goU next ns s = goU (next + k + 1) (ns.set (next + k) (numU s)) (cutAt 44 s).2.1) ∧
        ((cutAt 44 s).2.2 = false → goU next ns s = some (ns.set (next + k) (numU s)))) := by
  have hlen : (uwords.drop next).length = 4 - next := by simp [uwords]
  rcases readW_idx s (uwords.drop next) 0 with ⟨h1, h2⟩ | ⟨k, h0, h1, h2⟩
  · refine Or.inl ⟨h1, ?_⟩
    unfold goU
    rw [h2]; rfl
  · rw [hlen] at h0
    refine Or.inr ⟨k, by omega, by unfold idxU Lib.idxOfS; rw [h1]; simp, ?_, ?_⟩
    · intro hn
      unfold goU
      unfold numU at hn
      rw [h2, if_pos hn]; rfl
    · intro hn
      obtain ⟨e1, e2, e3⟩ := late_set (n := numU s) h (show next + k < 4 by omega)
      refine ⟨e1, ?_, ?_⟩
      · intro hm
        unfold goU
        rw [h2, e2]
        have hn' : ¬ numL 0 (cutAt 61 (cutAt 44 s).1).2.1 = 0 := hn
        rw [if_neg hn', if_pos hm, List.drop_drop, show next + (k + 1) = next + k + 1 by omega]
        rw [Option.map_map]
        congr 1
        funext r
        simp [numU]
      · intro hm
        unfold goU
        have hn' : ¬ numL 0 (cutAt 61 (cutAt 44 s).1).2.1 = 0 := hn
        rw [h2, if_neg hn', hm, e3, hlen]
        simp [numU]

theorem goU_start (s : List UInt8) (h : s ≠ unone) : goU 0 [0, 0, 0, 0] s = readU s := by
  unfold goU readU
  rw [if_neg h]
  simp
theorem late_start : late 0 [0, 0, 0, 0] := by simp [late, List.replicate]

/-! writing: one round -/
def uacc (i : Nat) (ns : List Nat) : List (List UInt8) := uparts (uwords.take i) (ns.take i)
theorem uparts_take : ∀ (ws : List (List UInt8)) (ns : List Nat) (i : Nat) (w : List UInt8) (n : Nat), ws[i]? = some w → ns[i]? = some n →
    uparts (ws.take (i + 1)) (ns.take (i + 1)) = uparts (ws.take i) (ns.take i) ++ if n = 0 then [] else [upart w n]
  | [], _, i, w, n, h, _ => by simp at h
  | _ :: _, [], i, w, n, _, h => by simp at h
  | w0 :: ws, n0 :: ns, 0, w, n, h, h' => by
    simp only [List.getElem?_cons_zero, Option.some.injEq] at h h'
    subst h; subst h'
    simp [uparts]
  | w0 :: ws, n0 :: ns, i + 1, w, n, h, h' => by
    have ih := uparts_take ws ns i w n (by simpa using h) (by simpa using h')
    rw [List.take_succ_cons, List.take_succ_cons, List.take_succ_cons, List.take_succ_cons]
    unfold uparts
    rw [ih]
    by_cases h0 : n0 = 0
    · simp only [h0, ↓reduceIte]
    · simp only [h0, ↓reduceIte]
      simp
theorem uacc_succ {i : Nat} {ns : List Nat} {w : List UInt8} {n : Nat} (hw : uwords[i]? = some w) (hn : ns[i]? = some n) :
    uacc (i + 1) ns = uacc i ns ++ if n = 0 then [] else [upart w n] := uparts_take _ _ _ _ _ hw hn
theorem uacc_zero (ns : List Nat) : uacc 0 ns = [] := by simp [uacc, uparts]
theorem uacc_all {ns : List Nat} (h : ns.length = 4) : uacc 4 ns = uparts uwords ns := by
  unfold uacc
  rw [List.take_of_length_le (by simp [uwords]), List.take_of_length_le (by omega)]
theorem ujoin_nil_iff (ws : List (List UInt8)) (ns : List Nat) : ujoin (uparts ws ns) = [] ↔ uparts ws ns = [] := by
  constructor
  · intro h
    by_cases he : uparts ws ns = []
    · exact he
    · obtain ⟨w, n, r, _, e⟩ := first_part _ _ he
      have : (61 : UInt8) ∈ ujoin (uparts ws ns) := by rw [e]; exact mem_join _ _ _ (by simp [upart])
      rw [h] at this
      cases this
  · intro h; rw [h]; rfl

/-! looking for a word, wherever it stands -/
def numR : Nat → Nat → List UInt8 → Nat
  | 0, n, _ => n
  | _ + 1, n, [] => n
  | k + 1, n, c :: t => if isDig c then numR k (10 * n + (c.toNat - 48)) t else n
def num8 : List UInt8 → Int
  | [] => -1
  | c :: t => if isDig c then ((numR 8 0 (c :: t) : Nat) : Int) else -1
def scan1 (key : List UInt8) : List UInt8 → Int → Int
  | [], v => v
  | c :: t, v => scan1 key t (if (c :: t).take 4 = key then num8 ((c :: t).drop 4) else v)
def wkey (k : Nat) : List UInt8 := uwords.getD k [] ++ [61]

def stepD (m : Nat) (c : UInt8) : Nat := 10 * m + (c.toNat - 48)
def foldD (m : Nat) (l : List UInt8) : Nat := l.foldl stepD m
theorem foldD_nil (m : Nat) : foldD m [] = m := rfl
theorem foldD_cons (m : Nat) (c : UInt8) (t : List UInt8) : foldD m (c :: t) = foldD (10 * m + (c.toNat - 48)) t := by
  show List.foldl stepD m (c :: t) = List.foldl stepD (stepD m c) t
  rw [List.foldl_cons]
theorem foldD_app (l r : List UInt8) (m : Nat) : foldD m (l ++ r) = foldD (foldD m l) r := List.foldl_append
theorem foldD_dec (n : Nat) : foldD 0 (Lib.decDigits n) = n := by
  induction n using Nat.strongRecOn with
  | ind n ih =>
    by_cases h : n < 10
    · rw [Lib.decDigits_one h, foldD_cons, foldD_nil, dig_toNat h]
      omega
    · rw [Lib.decDigits, dif_neg h, foldD_app, ih (n / 10) (by omega), foldD_cons, foldD_nil, dig_toNat (by omega)]
      omega
def stops (r : List UInt8) : Prop := ∀ c t, r = c :: t → ¬ isDig c
theorem numR_app : ∀ (l r : List UInt8) (k m : Nat), l.length ≤ k → (∀ c ∈ l, isDig c) → stops r → numR k m (l ++ r) = foldD m l
  | [], r, k, m, _, _, hr => by
    simp only [List.nil_append, foldD_nil]
    cases k with
    | zero => rfl
    | succ k =>
      cases r with
      | nil => rfl
      | cons c t => simp only [numR]; rw [if_neg (hr c t rfl)]
  | c :: t, r, 0, m, hl, _, _ => by simp at hl
  | c :: t, r, k + 1, m, hl, hd, hr => by
    simp only [List.cons_append, numR, foldD_cons]
    rw [if_pos (hd c (by simp))]
    exact numR_app t r k _ (by simpa using hl) (fun x hx => hd x (by simp [hx])) hr
theorem dec_len : ∀ (k n : Nat), n < 10 ^ (k + 1) → (Lib.decDigits n).length ≤ k + 1
  | k, n, h => by
    by_cases h10 : n < 10
    · rw [Lib.decDigits_one h10]; simp
    · match k, h with
      | 0, h => simp at h; omega
      | k + 1, h =>
        rw [Lib.decDigits, dif_neg h10]
        have := dec_len k (n / 10) (by rw [Nat.pow_succ] at h; omega)
        simp
        omega
theorem num8_dec {n : Nat} (hn : n ≤ 1048576) {r : List UInt8} (hr : stops r) : num8 (Lib.decDigits n ++ r) = n := by
  have hl : (Lib.decDigits n).length ≤ 8 := dec_len 7 n (by omega)
  have h := numR_app (Lib.decDigits n) r 8 0 hl (dec_digs n) hr
  rw [foldD_dec] at h
  cases hd : Lib.decDigits n with
  | nil => exact absurd hd (dec_ne_nil n)
  | cons c t =>
    rw [hd] at h
    simp only [List.cons_append, num8] at h ⊢
    rw [if_pos (dec_digs n c (by rw [hd]; simp)), h]

/-- a key as this layer has them -/
def goodK (key : List UInt8) : Prop := ∃ a b c, key = [a, b, c, 61] ∧ ¬ isDig a ∧ a ≠ 44 ∧ a ≠ 61 ∧ b ≠ 61 ∧ c ≠ 61
theorem good_keys {k : Nat} (h : k < 4) : goodK (wkey k) := by
  rcases k with _ | _ | _ | _ | k
  · exact ⟨99, 112, 117, rfl, by decide⟩
  · exact ⟨109, 101, 109, rfl, by decide⟩
  · exact ⟨103, 112, 117, rfl, by decide⟩
  · exact ⟨108, 105, 99, rfl, by decide⟩
  · omega
theorem scan_skip {key : List UInt8} (hk : goodK key) {c : UInt8} (hc : isDig c ∨ c = 44 ∨ c = 61) (t : List UInt8) (v : Int) : scan1 key (c :: t) v = scan1 key t v := by
  obtain ⟨a, b, d, rfl, h1, h2, h3, _⟩ := hk
  conv => lhs; unfold scan1
  rw [if_neg]
  · intro e
    simp only [List.take_succ_cons, List.cons.injEq] at e
    rcases hc with hc | hc | hc
    · exact h1 (e.1 ▸ hc)
    · exact h2 (e.1 ▸ hc)
    · exact h3 (e.1 ▸ hc)
theorem scan_digs {key : List UInt8} (hk : goodK key) : ∀ (l r : List UInt8) (v : Int), (∀ c ∈ l, isDig c) → scan1 key (l ++ r) v = scan1 key r v
  | [], _, _, _ => rfl
  | c :: t, r, v, h => by
    rw [List.cons_append, scan_skip hk (Or.inl (h c (by simp))), scan_digs hk t r v (fun x hx => h x (by simp [hx]))]
theorem scan_part {key : List UInt8} (hk : goodK key) {a b c : UInt8} (hb : b ≠ 61) (hc : c ≠ 61) {n : Nat} (hn : n ≤ 1048576) {r : List UInt8} (hr : stops r) (v : Int) :
    scan1 key (upart [a, b, c] n ++ r) v = scan1 key r (if [a, b, c, 61] = key then (n : Int) else v) := by
  have e : upart [a, b, c] n ++ r = a :: b :: c :: 61 :: (Lib.decDigits n ++ r) := by simp [upart]
  rw [e]
  have h8 := num8_dec hn hr
  have hk' := hk
  obtain ⟨x, y, z, rfl, _, _, h3, h4, h5⟩ := hk
  rw [show scan1 [x, y, z, 61] (a :: b :: c :: 61 :: (Lib.decDigits n ++ r)) v = scan1 [x, y, z, 61] (b :: c :: 61 :: (Lib.decDigits n ++ r)) (if [a, b, c, 61] = [x, y, z, 61] then (n : Int) else v) by
    conv => lhs; unfold scan1
    simp only [List.take_succ_cons, List.take_zero, List.drop_succ_cons, List.drop_zero, h8]]
  rw [show ∀ u, scan1 [x, y, z, 61] (b :: c :: 61 :: (Lib.decDigits n ++ r)) u = scan1 [x, y, z, 61] (c :: 61 :: (Lib.decDigits n ++ r)) u from fun u => by
    conv => lhs; unfold scan1
    rw [if_neg]
    intro e
    simp only [List.take_succ_cons, List.cons.injEq] at e
    exact h5 e.2.2.1.symm]
  rw [show ∀ u, scan1 [x, y, z, 61] (c :: 61 :: (Lib.decDigits n ++ r)) u = scan1 [x, y, z, 61] (61 :: (Lib.decDigits n ++ r)) u from fun u => by
    conv => lhs; unfold scan1
    rw [if_neg]
    intro e
    simp only [List.take_succ_cons, List.cons.injEq] at e
    exact h4 e.2.1.symm]
  rw [scan_skip hk' (Or.inr (Or.inr rfl)), scan_digs hk' _ _ _ (dec_digs n)]

def upd (key : List UInt8) : List (List UInt8) → List Nat → Int → Int
  | w :: ws, n :: ns, v => upd key ws ns (if n = 0 then v else if w ++ [61] = key then (n : Int) else v)
  | _, _, v => v
def word3 (w : List UInt8) : Prop := ∃ a b c, w = [a, b, c] ∧ b ≠ 61 ∧ c ≠ 61
theorem scan_parts {key : List UInt8} (hk : goodK key) : ∀ (ws : List (List UInt8)) (ns : List Nat) (v : Int), (∀ w ∈ ws, word3 w) → (∀ n ∈ ns, n ≤ 1048576) →
    scan1 key (ujoin (uparts ws ns)) v = upd key ws ns v
  | [], ns, v, _, _ => by simp [uparts, ujoin, upd, scan1]
  | _ :: _, [], v, _, _ => by simp [uparts, ujoin, upd, scan1]
  | w :: ws, n :: ns, v, hw, hn => by
    have ih := fun v => scan_parts hk ws ns v (fun x hx => hw x (by simp [hx])) (fun x hx => hn x (by simp [hx]))
    obtain ⟨a, b, c, rfl, hb, hc⟩ := hw w (by simp)
    by_cases h0 : n = 0
    · simp only [uparts, upd, if_pos h0]
      exact ih v
    · simp only [uparts, upd, if_neg h0]
      rw [← ih]
      by_cases hr : uparts ws ns = []
      · rw [hr, ujoin_one]
        have := scan_part hk hb hc (hn n (by simp)) (r := []) (fun _ _ h => by cases h) v (a := a)
        rw [List.append_nil] at this
        exact this
      · rw [ujoin_more _ hr, scan_part hk hb hc (hn n (by simp)) (fun c t h => by cases h; decide), scan_skip hk (Or.inr (Or.inl rfl))]
        rfl
theorem words3 : ∀ w ∈ uwords, word3 w := by
  intro w hw
  simp only [uwords, List.mem_cons, List.not_mem_nil, or_false] at hw
  rcases hw with rfl | rfl | rfl | rfl
  · exact ⟨_, _, _, rfl, by decide⟩
  · exact ⟨_, _, _, rfl, by decide⟩
  · exact ⟨_, _, _, rfl, by decide⟩
  · exact ⟨_, _, _, rfl, by decide⟩
/-- what is looked for in a text is found: each word's number -/
theorem scan_text {ns : List Nat} (hl : ns.length = 4) (hb : ∀ n ∈ ns, n ≤ 1048576) {k : Nat} (hk : k < 4) : scan1 (wkey k) (utext ns) 0 = ((ns.getD k 0 : Nat) : Int) := by
  match ns, hl with
  | [a, b, c, d], _ =>
    unfold utext
    by_cases h : uparts uwords [a, b, c, d] = []
    · rw [if_pos h]
      have := uparts_none uwords [a, b, c, d] rfl h
      simp only [uwords, List.map_cons, List.map_nil, List.cons.injEq, and_true] at this
      obtain ⟨rfl, rfl, rfl, rfl⟩ := this
      rcases k with _ | _ | _ | _ | k
      all_goals first | omega | rfl | decide
    · rw [if_neg h, scan_parts (good_keys hk) _ _ _ words3 hb]
      rcases k with _ | _ | _ | _ | k
      · simp [upd, uwords, wkey]; omega
      · simp [upd, uwords, wkey]; omega
      · simp [upd, uwords, wkey]; omega
      · simp [upd, uwords, wkey]; omega
      · omega
theorem scan_short {k : Nat} (hk : k < 4) : ∀ (s : List UInt8) (v : Int), s.length < 4 → scan1 (wkey k) s v = v
  | [], v, _ => rfl
  | c :: t, v, h => by
    conv => lhs; unfold scan1
    rw [if_neg, scan_short hk t v (by simp at h; omega)]
    intro e
    have := congrArg List.length e
    have hw : (wkey k).length = 4 := by
      obtain ⟨_, _, _, e, _⟩ := good_keys hk
      rw [e]; rfl
    rw [hw] at this
    simp at this h
    omega

end Go.Proofs.YtfbgalmndciiiaaDoor.W
