/-
  Placing, as plain functions: how many fit a node, all nodes together, which shares come of it; right shares; what placing less leaves alike.
-/
import Derived.Test.YtcdajfiohhbdgaaVecCountSpec
namespace Go.Proofs.Ytcdajfiohhbdgaa.W

structure Sh where
  node : Int
  many : Int
theorem Sh.ext' {a b : Sh} (h : a.node = b.node) (h' : a.many = b.many) : a = b := by cases a; cases b; simp_all
instance : DecidableEq Sh := fun a b => decidable_of_iff (a.node = b.node ∧ a.many = b.many) ⟨fun h => Sh.ext' h.1 h.2, fun h => by subst h; exact ⟨rfl, rfl⟩⟩
instance : Inhabited Sh := ⟨⟨0, 0⟩⟩

/-- how many chunks fit a node -/
def fitN (fs : List V) (need : V) (n : Int) : Int := if 0 ≤ n ∧ n < fs.length then countV (fs.getD n.toNat V.zero) need else 0
theorem fitN_bd (fs : List V) (need : V) (n : Int) : 0 ≤ fitN fs need n ∧ fitN fs need n ≤ 64 := by
  unfold fitN; split
  · exact countV_bd _ _
  · omega
theorem fitN_low {fs : List V} {need : V} {n : Int} (h : n < 0) : fitN fs need n = 0 := if_neg (by omega)
theorem fitN_high {fs : List V} {need : V} {n : Int} (h : (fs.length : Int) ≤ n) : fitN fs need n = 0 := if_neg (by omega)
theorem fitN_in {fs : List V} {need : V} {k : Nat} (h : k < fs.length) : fitN fs need k = countV fs[k] need := by
  unfold fitN
  rw [if_pos (by omega)]
  congr 1
  simp [h]
/-- all nodes together -/
def roomS (fs : List V) (need : V) : List Int → Int
  | [] => 0
  | n :: r => fitN fs need n + roomS fs need r
theorem roomS_bd (fs : List V) (need : V) : ∀ l : List Int, 0 ≤ roomS fs need l ∧ roomS fs need l ≤ 64 * l.length
  | [] => by simp [roomS]
  | n :: r => by
    have h1 := roomS_bd fs need r
    have h2 := fitN_bd fs need n
    unfold roomS
    rw [List.length_cons]
    omega
/-- what is put where, and how many are left -/
def plPut (fs : List V) (need : V) : Int → List Int → List Sh
  | _, [] => []
  | left, n :: r => if left < 1 then [] else if low left (fitN fs need n) = 0 then plPut fs need left r else ⟨n, low left (fitN fs need n)⟩ :: plPut fs need (left - low left (fitN fs need n)) r
def plLeft (fs : List V) (need : V) : Int → List Int → Int
  | left, [] => left
  | left, n :: r => if left < 1 then left else plLeft fs need (left - low left (fitN fs need n)) r
theorem put_stop {fs : List V} {need : V} {left : Int} (h : left < 1) : ∀ l, plPut fs need left l = [] ∧ plLeft fs need left l = left
  | [] => ⟨rfl, rfl⟩
  | _ :: _ => ⟨if_pos h, if_pos h⟩
theorem put_skip {fs : List V} {need : V} {left : Int} (h : ¬ left < 1) {n : Int} (h0 : low left (fitN fs need n) = 0) (r : List Int) : plPut fs need left (n :: r) = plPut fs need left r ∧ plLeft fs need left (n :: r) = plLeft fs need left r := by
  constructor
  · rw [plPut, if_neg h, if_pos h0]
  · rw [plLeft, if_neg h, h0, Int.sub_zero]
theorem put_next {fs : List V} {need : V} {left : Int} (h : ¬ left < 1) {n : Int} (h0 : ¬ low left (fitN fs need n) = 0) (r : List Int) :
    plPut fs need left (n :: r) = ⟨n, low left (fitN fs need n)⟩ :: plPut fs need (left - low left (fitN fs need n)) r ∧ plLeft fs need left (n :: r) = plLeft fs need (left - low left (fitN fs need n)) r := by
  constructor
  · rw [plPut, if_neg h, if_neg h0]
  · rw [plLeft, if_neg h]
theorem low_bd {left f : Int} (h : ¬ left < 1) (hf : 0 ≤ f ∧ f ≤ 64) : 0 ≤ low left f ∧ low left f ≤ left ∧ low left f ≤ 64 ∧ low left f ≤ f := by
  unfold low; split <;> omega
/-- how many are left: none just if there is room for all -/
theorem pl_room (fs : List V) (need : V) : ∀ (l : List Int) (left : Int), 0 ≤ left → plLeft fs need left l = if roomS fs need l ≤ left then left - roomS fs need l else 0
  | [], left, h => by simp [plLeft, roomS, h]
  | n :: r, left, h => by
    have b1 := roomS_bd fs need r
    have b2 := fitN_bd fs need n
    by_cases hl : left < 1
    · rw [(put_stop hl _).2, roomS]; split <;> omega
    · have b3 := low_bd hl b2
      rw [plLeft, if_neg hl, pl_room fs need r _ (by omega), roomS]
      unfold low
      split <;> split <;> split <;> omega
def placeB (fs : List V) (part : List Int) (many : Int) (need : V) : Bool := decide (¬ many < 1 ∧ ¬ 0 < plLeft fs need many part)
def placeS (fs : List V) (part : List Int) (many : Int) (need : V) : List Sh := if ¬ many < 1 ∧ ¬ 0 < plLeft fs need many part then plPut fs need many part else []
theorem plPut_len (fs : List V) (need : V) : ∀ (l : List Int) (left : Int), (plPut fs need left l).length ≤ l.length
  | [], _ => by simp [plPut]
  | n :: r, left => by
    unfold plPut
    split
    · simp
    · split
      · have := plPut_len fs need r left; simp; omega
      · have := plPut_len fs need r (left - low left (fitN fs need n)); simp; omega
theorem placeS_len (fs : List V) (part : List Int) (many : Int) (need : V) : (placeS fs part many need).length ≤ part.length := by
  unfold placeS; split
  · exact plPut_len _ _ _ _
  · simp
theorem place_room {fs : List V} {part : List Int} {many : Int} {need : V} (h : ¬ many < 1) : placeB fs part many need = decide (many ≤ roomS fs need part) := by
  unfold placeB
  rw [pl_room fs need part many (by omega), decide_eq_decide]
  have := roomS_bd fs need part
  split <;> omega

/-- right shares -/
def RiseH (n : Int) : Int → List Sh → Prop
  | _, [] => True
  | a, s :: r => a < s.node ∧ s.node < n ∧ 1 ≤ s.many ∧ s.many ≤ 64 ∧ RiseH n s.node r
instance : (n a : Int) → (l : List Sh) → Decidable (RiseH n a l)
  | _, _, [] => isTrue trivial
  | n, a, s :: r => by
    have := instDecidableRiseH n s.node r
    unfold RiseH; infer_instance
def rightH (l : List Sh) (n : Int) : Bool := decide (RiseH n (-1) l)
def holdM (m : Int) : Int := if m < 0 then 0 else if 64 < m then 64 else m
theorem holdM_bd (m : Int) : 0 ≤ holdM m ∧ holdM m ≤ 64 := by unfold holdM; split; omega; split <;> omega
def totalH : List Sh → Int
  | [] => 0
  | s :: r => holdM s.many + totalH r
theorem totalH_bd : ∀ l : List Sh, 0 ≤ totalH l ∧ totalH l ≤ 64 * l.length
  | [] => by simp [totalH]
  | s :: r => by
    have h1 := totalH_bd r
    have h2 := holdM_bd s.many
    unfold totalH
    rw [List.length_cons]
    omega
def onH (x : Int) : List Sh → Int
  | [] => 0
  | s :: r => (if s.node = x then s.many else 0) + onH x r
/-- nodes of a part -/
def RiseN (n : Int) : Int → List Int → Prop
  | _, [] => True
  | a, x :: r => a < x ∧ x < n ∧ RiseN n x r
instance : (n a : Int) → (l : List Int) → Decidable (RiseN n a l)
  | _, _, [] => isTrue trivial
  | n, a, s :: r => by
    have := instDecidableRiseN n s r
    unfold RiseN; infer_instance
def risingB (l : List Int) (n : Int) : Bool := decide (RiseN n (-1) l)

theorem riseH_mono {n a b : Int} {l : List Sh} (h : RiseH n b l) (hab : a ≤ b) : RiseH n a l := by
  cases l with
  | nil => trivial
  | cons s r => exact ⟨by have := h.1; omega, h.2⟩
theorem riseH_mem {n : Int} : ∀ {a : Int} {l : List Sh}, RiseH n a l → ∀ s ∈ l, a < s.node ∧ s.node < n ∧ 1 ≤ s.many ∧ s.many ≤ 64
  | a, s :: r, h, x, hx => by
    rcases List.mem_cons.1 hx with rfl | hx
    · exact ⟨h.1, h.2.1, h.2.2.1, h.2.2.2.1⟩
    · have h1 := riseH_mem h.2.2.2.2 x hx
      have := h.1
      exact ⟨by omega, h1.2⟩
theorem put_rise {fs : List V} {need : V} {n : Int} : ∀ {l : List Int} {a left : Int}, RiseN n a l → RiseH n a (plPut fs need left l)
  | [], _, _, _ => trivial
  | x :: r, a, left, h => by
    unfold plPut
    have b2 := fitN_bd fs need x
    split
    · trivial
    · rename_i hl
      have b3 := low_bd hl b2
      split
      · exact riseH_mono (put_rise h.2.2) (by have := h.1; omega)
      · refine ⟨h.1, h.2.1, ?_, ?_, put_rise h.2.2⟩
        · show 1 ≤ low left _; omega
        · exact b3.2.2.1
theorem hold_in {m : Int} (h : 0 ≤ m ∧ m ≤ 64) : holdM m = m := by unfold holdM; rw [if_neg (by omega), if_neg (by omega)]
theorem put_total {fs : List V} {need : V} : ∀ {l : List Int} {left : Int}, totalH (plPut fs need left l) + plLeft fs need left l = left
  | [], left => by simp [plPut, plLeft, totalH]
  | x :: r, left => by
    have b2 := fitN_bd fs need x
    by_cases hl : left < 1
    · rw [(put_stop hl _).1, (put_stop hl _).2]; simp [totalH]
    · have b3 := low_bd hl b2
      by_cases h0 : low left (fitN fs need x) = 0
      · rw [(put_skip hl h0 r).1, (put_skip hl h0 r).2]; exact put_total
      · rw [(put_next hl h0 r).1, (put_next hl h0 r).2, totalH, hold_in ⟨b3.1, b3.2.2.1⟩]
        have := put_total (fs := fs) (need := need) (l := r) (left := left - low left (fitN fs need x))
        omega
theorem put_mem {fs : List V} {need : V} : ∀ {l : List Int} {left : Int}, ∀ s ∈ plPut fs need left l, s.node ∈ l ∧ 1 ≤ s.many ∧ s.many ≤ 64 ∧ s.many ≤ fitN fs need s.node
  | [], _, s, h => by simp [plPut] at h
  | x :: r, left, s, h => by
    have b2 := fitN_bd fs need x
    by_cases hl : left < 1
    · rw [(put_stop hl _).1] at h; cases h
    · have b3 := low_bd hl b2
      by_cases h0 : low left (fitN fs need x) = 0
      · rw [(put_skip hl h0 r).1] at h
        have := put_mem s h
        exact ⟨List.mem_cons_of_mem _ this.1, this.2⟩
      · rw [(put_next hl h0 r).1] at h
        rcases List.mem_cons.1 h with rfl | h
        · exact ⟨by simp, by show 1 ≤ low left _; omega, b3.2.2.1, b3.2.2.2⟩
        · have := put_mem s h
          exact ⟨List.mem_cons_of_mem _ this.1, this.2⟩
/-- what is put on a node fits it -/
theorem fit_le {fs : List V} {need : V} {k : Nat} (hk : k < fs.length) {m : Int} (h1 : 1 ≤ m) (h2 : m ≤ 64) (h : m ≤ fitN fs need k) : need.Ok ∧ V.Le (need.by m) fs[k] := by
  rw [fitN_in hk] at h
  by_cases hc : fs[k].Ok ∧ need.Ok ∧ ¬ need.is0
  · rw [count_in hc] at h
    exact ⟨hc.2.1, (count_le hc.1 hc.2.1 h2).2 h⟩
  · rw [count_no hc] at h; omega

/-! ### P11.2 -/
theorem onH_nn {x : Int} : ∀ {l : List Sh}, (∀ s ∈ l, 1 ≤ s.many ∧ s.many ≤ 64) → 0 ≤ onH x l ∧ onH x l ≤ 64 * l.length
  | [], _ => by simp [onH]
  | s :: r, h => by
    have h1 := onH_nn (x := x) (l := r) (fun s hs => h s (List.mem_cons_of_mem _ hs))
    have h2 := h s (by simp)
    unfold onH
    rw [List.length_cons]
    split <;> omega
theorem onH_low {n x a : Int} (hx : x ≤ a) : ∀ {l : List Sh}, RiseH n a l → onH x l = 0
  | [], _ => rfl
  | s :: r, h => by
    have := h.1
    rw [onH, if_neg (by omega), onH_low (a := s.node) (by omega) h.2.2.2.2]; rfl
theorem onH_bd {n x : Int} : ∀ {a : Int} {l : List Sh}, RiseH n a l → 0 ≤ onH x l ∧ onH x l ≤ 64
  | a, [], _ => by simp [onH]
  | a, s :: r, h => by
    by_cases e : s.node = x
    · rw [onH, if_pos e, onH_low (a := s.node) (by omega) h.2.2.2.2]
      have := h.2.2.1; have := h.2.2.2.1
      omega
    · rw [onH, if_neg e]
      have := onH_bd (x := x) h.2.2.2.2
      omega
theorem onH_none {x : Int} : ∀ {l : List Sh}, (∀ s ∈ l, s.node ≠ x) → onH x l = 0
  | [], _ => rfl
  | s :: r, h => by rw [onH, if_neg (h s (by simp)), onH_none (fun s hs => h s (List.mem_cons_of_mem _ hs))]; rfl
theorem put_alike {fs ls : List V} {need : V} : ∀ {l : List Int} {left : Int}, (∀ n ∈ l, fitN ls need n = fitN fs need n ∨ (fitN ls need n ≤ fitN fs need n ∧ onH n (plPut fs need left l) ≤ fitN ls need n)) →
    plPut ls need left l = plPut fs need left l ∧ plLeft ls need left l = plLeft fs need left l
  | [], _, _ => ⟨rfl, rfl⟩
  | x :: r, left, h => by
    by_cases hl : left < 1
    · rw [(put_stop hl _).1, (put_stop hl _).2, (put_stop hl _).1, (put_stop hl _).2]; exact ⟨rfl, rfl⟩
    · have bf := fitN_bd fs need x
      have bl := fitN_bd ls need x
      have b3 := low_bd hl bf
      have nn : ∀ y lf, 0 ≤ onH y (plPut fs need lf r) := fun y lf => (onH_nn (fun s hs => ⟨(put_mem s hs).2.1, (put_mem s hs).2.2.1⟩)).1
      have e : low left (fitN ls need x) = low left (fitN fs need x) := by
        rcases h x (by simp) with e | ⟨h1, h2⟩
        · rw [e]
        · by_cases h0 : low left (fitN fs need x) = 0
          · unfold low at h0 ⊢
            split at h0 <;> split <;> omega
          · rw [(put_next hl h0 r).1, onH, if_pos rfl] at h2
            have := nn x (left - low left (fitN fs need x))
            simp only at h2
            generalize onH x (plPut fs need (left - low left (fitN fs need x)) r) = o at h2 this
            unfold low at h2 ⊢
            split at h2 <;> split <;> omega
      by_cases h0 : low left (fitN fs need x) = 0
      · rw [(put_skip hl h0 r).1, (put_skip hl h0 r).2, (put_skip hl (e.trans h0) r).1, (put_skip hl (e.trans h0) r).2]
        refine put_alike fun n hn => ?_
        rcases h n (List.mem_cons_of_mem _ hn) with a | ⟨a, b⟩
        · exact .inl a
        · rw [(put_skip hl h0 r).1] at b
          exact .inr ⟨a, b⟩
      · have h0' : ¬ low left (fitN ls need x) = 0 := by rw [e]; exact h0
        have ih := put_alike (fs := fs) (ls := ls) (need := need) (l := r) (left := left - low left (fitN fs need x)) (fun n hn => by
          rcases h n (List.mem_cons_of_mem _ hn) with a | ⟨a, b⟩
          · exact .inl a
          · rw [(put_next hl h0 r).1, onH] at b
            refine .inr ⟨a, Int.le_trans ?_ b⟩
            have := b3.1
            simp only
            split <;> omega)
        rw [(put_next hl h0 r).1, (put_next hl h0 r).2, (put_next hl h0' r).1, (put_next hl h0' r).2, e, ih.1, ih.2]
        exact ⟨rfl, rfl⟩
/-- what is left of a node where something else is taken, that leaves it its room -/
def CutV (need : V) (on : Int) (t f : V) : Prop := t.Ok ∧ f.Ok ∧ V.Le t f ∧ V.Le (need.by on) (f.less t)
instance (need : V) (on : Int) (t f : V) : Decidable (CutV need on t f) := by unfold CutV; infer_instance
def cutV (need : V) (l : List Sh) (ts : List V) (k : Nat) (f : V) : V := if k < ts.length ∧ CutV need (onH k l) (ts.getD k V.zero) f then f.less (ts.getD k V.zero) else f
theorem vle_tr {a b c : V} (h : V.Le a b) (g : V.Le b c) : V.Le a c := ⟨Int.le_trans h.1 g.1, Int.le_trans h.2.1 g.2.1, Int.le_trans h.2.2.1 g.2.2.1, Int.le_trans h.2.2.2 g.2.2.2⟩
theorem cut_count {need t f : V} {on : Int} (hn : need.Ok) (h0 : 0 ≤ on ∧ on ≤ 64) (h : CutV need on t f) (hz : ¬ need.is0) : countV (f.less t) need ≤ countV f need ∧ on ≤ countV (f.less t) need := by
  obtain ⟨ht, hf, hle, hby⟩ := h
  have hlo : (f.less t).Ok := by
    obtain ⟨⟨a0, a1⟩, ⟨a2, a3⟩, ⟨a4, a5⟩, a6, a7⟩ := ht
    obtain ⟨⟨c0, c1⟩, ⟨c2, c3⟩, ⟨c4, c5⟩, c6, c7⟩ := hf
    obtain ⟨d0, d1, d2, d3⟩ := hle
    unfold V.Ok V.less; simp only; omega
  have hlf : V.Le (f.less t) f := by
    obtain ⟨⟨a0, a1⟩, ⟨a2, a3⟩, ⟨a4, a5⟩, a6, a7⟩ := ht
    unfold V.Le V.less; simp only; omega
  have b := times4_bd hlo hn
  rw [count_in ⟨hlo, hn, hz⟩, count_in ⟨hf, hn, hz⟩]
  refine ⟨?_, (count_le hlo hn h0.2).1 hby⟩
  exact (count_le hf hn b.2).1 (vle_tr ((count_le hlo hn b.2).2 (Int.le_refl _)) hlf)
theorem cut_fit {fs ls ts : List V} {need : V} {l : List Sh} (hn : need.Ok) (hl : ls.length = fs.length) (h : ∀ k (hk : k < fs.length), ls.getD k V.zero = cutV need l ts k fs[k]) (hon : ∀ x, 0 ≤ onH x l ∧ onH x l ≤ 64) (n : Int) :
    fitN ls need n = fitN fs need n ∨ (fitN ls need n ≤ fitN fs need n ∧ onH n l ≤ fitN ls need n) := by
  by_cases hn0 : 0 ≤ n ∧ n < fs.length
  · obtain ⟨k, rfl⟩ : ∃ k : Nat, n = (k : Int) := ⟨n.toNat, by omega⟩
    have hk : k < fs.length := by omega
    have hk' : k < ls.length := by omega
    have e := h k hk
    rw [fitN_in hk, fitN_in hk']
    have e' : ls[k] = cutV need l ts k fs[k] := by rw [← e]; simp [hk']
    rw [e']
    unfold cutV
    split
    · rename_i hc
      by_cases hz : need.is0
      · left
        rw [count_no (fun x => x.2.2 hz), count_no (fun x => x.2.2 hz)]
      · right
        exact cut_count hn (hon _) hc.2 hz
    · exact .inl rfl
  · left
    unfold fitN
    rw [if_neg (by rw [hl]; exact hn0), if_neg hn0]
theorem place_alike {fs ls ts : List V} {part : List Int} {many : Int} {need : V} {n : Int} (hr : RiseN n (-1) part) (hn : need.Ok) (hp : ¬ many < 1 ∧ ¬ 0 < plLeft fs need many part) (hl : ls.length = fs.length)
    (h : ∀ k (hk : k < fs.length), ls.getD k V.zero = cutV need (placeS fs part many need) ts k fs[k]) : placeB ls part many need = true ∧ placeS ls part many need = placeS fs part many need := by
  have e : placeS fs part many need = plPut fs need many part := if_pos hp
  rw [e] at h
  have k := put_alike (fs := fs) (ls := ls) (need := need) (l := part) (left := many) (fun x hx => cut_fit hn hl h (fun y => onH_bd (put_rise hr)) x)
  constructor
  · unfold placeB; rw [k.2]; exact decide_eq_true hp
  · rw [e]; unfold placeS; rw [k.2, if_pos hp, k.1]
end Go.Proofs.Ytcdajfiohhbdgaa.W
