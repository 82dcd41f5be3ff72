/-
  Contract of plan's When.
-/
import Derived.Test.YtcdajfiohhbdgaaJ42
namespace Go.Proofs.Ytcdajfiohhbdgaa.W
set_option maxRecDepth 100000
set_option linter.unusedVariables false
set_option linter.unusedSimpArgs false
open Go.ChangeShapes Go.WideShapes Go.ChangeAt Go.RowKit

/-- shares, in a block of shares -/
structure ShlAt (w : World) (a : Option Addr) (cap : Nat) (l : List Sh) : Prop where
  st : ShAt w a cap l
  ty : Ty w 51 a
theorem ShlAt.later {w w' : World} {a : Option Addr} {cap : Nat} {l : List Sh} (h : ShlAt w a cap l) (hb : Below w.heap.size w w') : ShlAt w' a cap l := ⟨h.st.later hb, h.ty.later hb⟩
theorem shl_none (w : World) : ShlAt w none 0 [] := ⟨⟨.inl rfl, Nat.le_refl _, fun _ => rfl⟩, fun d h => by cases h⟩
theorem ShlAt.set {w : World} {a : Option Addr} {cap : Nat} {l : List Sh} (h : ShlAt w a cap l) {t' : TypeId} {g : Nat} {cs : Array Value} {y : Nat × Nat} (hg : w.heap[g]? = some (.cells cs t' y)) (hne : 51 ≠ t') (j : Nat) (u : Value) : ShlAt (w.setCell ⟨g, j, none⟩ u) a cap l :=
  ⟨⟨h.st.row.set h.ty hg hne j u, h.st.le, h.st.nil⟩, h.ty.set _ _⟩
/-- a set-up that is right, and a profile of it -/
structure PrOk (s : S) (now : Int) (F : List Stl) : Prop where
  right : Right s
  time : 0 ≤ now ∧ now ≤ 1099511627776
  len : F.length = s.nodes.length
  ok : OkFL (flOf F) now
  lens : LenLe (flOf F) 50000
theorem rise_to {n : Int} : ∀ {l : List Int} {a : Int}, (∀ i, i < l.length → (match i with | 0 => a | j + 1 => l.getD j 0) < l.getD i 0 ∧ l.getD i 0 < n) → RiseN n a l
  | [], a, h => trivial
  | x :: r, a, h => by
    have h0 := h 0 (by simp)
    simp at h0
    refine ⟨h0.1, h0.2, rise_to fun i hi => ?_⟩
    have h1 := h (i + 1) (by simp; omega)
    cases i with
    | zero => simpa using h1
    | succ i => simpa using h1
theorem riseN_of {l : List Int} {n : Int} (h : RiseSp l n) : RiseN n (-1) l := rise_to fun i hi => by
  have := h i hi
  unfold prevI at this
  cases i <;> exact this
theorem part_rise {s : S} (h : Right s) {k : Nat} (hk : k < s.parts.length) : RiseN s.nodes.length (-1) s.parts[k].l ∧ s.parts[k].l.length ≤ 16 := by
  obtain ⟨⟨⟨h0, h1⟩, _⟩, ⟨_, h2⟩, _⟩ := right_is h
  have h3 := riseN_of (h2 _ (List.getElem_mem hk)).2
  refine ⟨h3, ?_⟩
  have key : ∀ {l : List Int} {a : Int} {n : Int}, RiseN n a l → a < n → (l.length : Int) ≤ n - a - 1 := by
    intro l
    induction l with
    | nil => intro a n _ h; simp; omega
    | cons x r ih =>
      intro a n h hn
      have h1 := ih h.2.2 h.2.1
      have := h.1
      rw [List.length_cons]; omega
  have := key h3 (by omega)
  omega
def PartOk (s : S) (part : Int) : Prop := 0 ≤ part ∧ part < s.parts.length
instance (s : S) (part : Int) : Decidable (PartOk s part) := by unfold PartOk; infer_instance
def partOf (s : S) (part : Int) : List Int := (s.parts.getD part.toNat ⟨none, 0, []⟩).l
def whenB (s : S) (now : Int) (F : FL) (part many : Int) (need : V) (wall at_ : Int) : Bool := if PartOk s part ∧ WinT now at_ wall then placeB (leastsP F (partOf s part) at_ (at_ + wall)) (partOf s part) many need else false
def whenS (s : S) (now : Int) (F : FL) (part many : Int) (need : V) (wall at_ : Int) : List Sh := if PartOk s part ∧ WinT now at_ wall then placeS (leastsP F (partOf s part) at_ (at_ + wall)) (partOf s part) many need else []
theorem when_first {s : S} {now part wall t : Int} (h : ¬ (PartOk s part ∧ WinT now t wall)) : decide (part < 0) = true ∨ (decide (part < 0) = false ∧ decide ((s.parts.length : Int) ≤ part) = true) ∨ (decide (part < 0) = false ∧ decide ((s.parts.length : Int) ≤ part) = false ∧ winB now t wall = false) := by
  unfold winB
  unfold PartOk at h
  by_cases h0 : 0 ≤ part
  · by_cases h1 : part < s.parts.length
    · by_cases h2 : WinT now t wall
      · exact absurd ⟨⟨h0, h1⟩, h2⟩ h
      · right; right; exact ⟨decide_eq_false (by omega), decide_eq_false (by omega), decide_eq_false h2⟩
    · right; left; exact ⟨decide_eq_false (by omega), decide_eq_true (by omega)⟩
  · left; exact decide_eq_true (by omega)
theorem leastsP_nil (F : FL) (a t : Int) : leastsP F [] a t = List.replicate F.length V.zero := by
  refine List.ext_getElem (by simp [leastsP]) fun i h1 h2 => ?_
  simp [leastsP]
theorem leastsP_next (F : FL) (P : List Int) (a t : Int) (kk : Nat) : (leastsP F P a t).set kk (leastS (F.getD kk []) a t) = leastsP F (P ++ [(kk : Int)]) a t := by
  refine List.ext_getElem (by simp [leastsP]) fun i h1 h2 => ?_
  rw [List.getElem_set]
  simp only [leastsP, List.getElem_map, List.getElem_range, List.mem_append, List.mem_singleton]
  by_cases e : kk = i
  · subst e; simp
  · rw [if_neg e]
    have : ¬ (i : Int) = kk := by omega
    simp [this]
theorem pPlace2 (a : Option Addr) (cap : Nat) (fs : List V) (hl : fs.length ≤ 100000) (b : Option Addr) (cb : Nat) (part : List Int) (hp : part.length ≤ 100000) (many : Int) (hm : many ≤ 9223372036854775807) (need : V) (w : World) (HA : VcAt w a cap fs) (HB : RowAt w b (vals part)) :
    Calls Try.prog 30 #[.slice a fs.length cap, .slice b part.length cb, .int .i64 many, (.agg #[.int .i64 need.cpu, .int .i64 need.mem, .int .i64 need.gpu, .int .i64 need.lic])] w
      fun e w' => ∃ a' c', e = .returned (.tuple #[.slice a' (placeS fs part many need).length c', .bool (placeB fs part many need)]) ∧ ShlAt w' a' c' (placeS fs part many need) ∧ Below w.heap.size w w' := by
  refine (pPlaceR a cap fs hl b cb part hp many hm need w HA HB).mono ?_
  rintro e w' ⟨v, rfl, ho, hb⟩
  obtain ⟨a', c', rfl, h⟩ := own_sh ho
  exact ⟨a', c', rfl, ⟨h, Ty.own ho⟩, hb⟩
def pwSp (g nb gg pb po sn spc n pt : Nat) (qa : Option Addr) (qn qc : Nat) (many : Int) (need : V) (B : Bool) (L : List Sh) : List Sp :=
  [Sp.c (.slice (some ⟨gg, 0, none⟩) n n) [],
   Sp.c (.pointer (some ⟨g, 0, none⟩)) [],
   Sp.c (.pointer (some ⟨g, 0, none⟩)) [1],
   Sp.c (.pointer (some ⟨g, 0, none⟩)) [2],
   Sp.c (.slice (some ⟨pb, po, none⟩) sn spc) [3],
   Sp.c (.int .i64 (pt : Int)) [],
   Sp.c (.pointer (some ⟨pb, po + pt, none⟩)) [4, 5],
   Sp.c (.slice qa qn qc) [6],
   Sp.c (.int .i64 many) [],
   Sp.c ((.agg #[.int .i64 need.cpu, .int .i64 need.mem, .int .i64 need.gpu, .int .i64 need.lic])) [],
   Sp.m true (fun x wm => ∃ a c, x = .tuple #[.slice a L.length c, .bool B] ∧ ShlAt wm a c L) [0, 7, 8, 9],
   Sp.m true (fun x wm => ∃ a c, x = .slice a L.length c ∧ ShlAt wm a c L) [10],
   Sp.c (.bool B) [10],
   Sp.m true (fun x wm => ∃ a c, x = .slice a L.length c ∧ ShlAt wm a c L) [11],
   Sp.c (.bool B) [12]]
set_option maxHeartbeats 4000000 in
theorem pWhen_no (g : Nat) (s : S) (now : Int) (fa : Option Addr) (fc : Nat) (F : List Stl) (part many : Int) (need : V) (wall t : Int) (w : World) (HP : PrAt w g s now fa fc F) (h : ¬ (PartOk s part ∧ WinT now t wall)) :
    Calls Try.prog 14 #[.pointer (some ⟨g, 0, none⟩), .int .i64 part, .int .i64 many, (.agg #[.int .i64 need.cpu, .int .i64 need.mem, .int .i64 need.gpu, .int .i64 need.lic]), .int .i64 wall, .int .i64 t] w fun e w' => e = .returned (.tuple #[.slice none 0 0, .bool false]) ∧ Below w.heap.size w w' := by
  have c0 := HP.c0
  have hgl := blk_lt HP.blk
  have HW := Lib.hid (fun w' h1 => pWithin g now t wall w' h1)
  have HR := Lib.hid HP
  have key := when_first h
  generalize s.parts.length = sn at c0 key
  clear HP h
  rcases key with g0 | ⟨g0, g1⟩ | ⟨g0, g1, g2⟩
  · go_enter Try.func14, Try.ntmps14
    go_wp2
    go_ret2
    exact ⟨rfl, (by repeat' (first | exact Below.refl _ _ | assumption | exact And.left (by assumption) | refine Below.drew ?_ | refine below_drewN ?_ _ | refine Below.setCell ?_ (by first | (simp; done) | (simp; omega) | omega) _ | refine Below.alloc ?_ (by first | (simp; done) | (simp; omega) | omega) _ | refine after (by assumption) (by first | (simp; done) | (simp; omega) | omega) ?_))⟩
  · go_enter Try.func14, Try.ntmps14
    go_wp2
    go_ret2
    exact ⟨rfl, (by repeat' (first | exact Below.refl _ _ | assumption | exact And.left (by assumption) | refine Below.drew ?_ | refine below_drewN ?_ _ | refine Below.setCell ?_ (by first | (simp; done) | (simp; omega) | omega) _ | refine Below.alloc ?_ (by first | (simp; done) | (simp; omega) | omega) _ | refine after (by assumption) (by first | (simp; done) | (simp; omega) | omega) ?_))⟩
  · rw [g2] at HW
    go_enter Try.func14, Try.ntmps14
    go_wp2_with fail
    generalize hw0 : World.alloc w _ = w0
    have hb0 : Below w.heap.size w w0 := by rw [← hw0]; exact (by repeat' (first | exact Below.refl _ _ | assumption | exact And.left (by assumption) | refine Below.drew ?_ | refine below_drewN ?_ _ | refine Below.setCell ?_ (by first | (simp; done) | (simp; omega) | omega) _ | refine Below.alloc ?_ (by first | (simp; done) | (simp; omega) | omega) _ | refine after (by assumption) (by first | (simp; done) | (simp; omega) | omega) ?_))
    clear hw0
    refine (HW.out w0 (HR.out.later hb0).c1).mono ?_; rintro e w1 ⟨rfl, hb1⟩
    go_wp2
    go_ret2
    exact ⟨rfl, hb0.trans (hb1.mono hb0.size)⟩
set_option maxHeartbeats 8000000 in
theorem pWhen_yes (g : Nat) (s : S) (now : Int) (fa : Option Addr) (fc : Nat) (F : List Stl) (hok : PrOk s now F) (pt : Nat) (hpt : pt < s.parts.length) (pb po : Nat) (hpa : s.pa = some ⟨pb, po, none⟩) (many : Int) (hm : many ≤ 9223372036854775807) (need : V) (wall t : Int) (hW : WinT now t wall) (w : World) (HP : PrAt w g s now fa fc F) (HS : Rows w s) :
    Calls Try.prog 14 #[.pointer (some ⟨g, 0, none⟩), .int .i64 (pt : Int), .int .i64 many, (.agg #[.int .i64 need.cpu, .int .i64 need.mem, .int .i64 need.gpu, .int .i64 need.lic]), .int .i64 wall, .int .i64 t] w fun e w' =>
      ∃ a c, e = .returned (.tuple #[.slice a (placeS (leastsP (flOf F) s.parts[pt].l t (t + wall)) s.parts[pt].l many need).length c, .bool (placeB (leastsP (flOf F) s.parts[pt].l t (t + wall)) s.parts[pt].l many need)]) ∧ ShlAt w' a c (placeS (leastsP (flOf F) s.parts[pt].l t (t + wall)) s.parts[pt].l many need) ∧ Below w.heap.size w w' := by
  have HR := Lib.hid HP
  have HSR := Lib.hid HS
  obtain ⟨hpr, hpl⟩ := part_rise hok.right hpt
  have hn16 : F.length ≤ 16 := by have := (right_is hok.right).nodes.1.2; rw [hok.len]; exact this
  have hlen := hok.len
  rw [← hlen] at hpr
  have c0 := HP.c0
  have c2 := HP.c2
  rw [hpa] at c0
  have hgl := blk_lt HP.blk
  obtain ⟨b1, o1, e1, hbl1, p0⟩ := HS.part_ hpt
  rw [hpa] at e1
  injection e1 with e1
  injection e1 with e11 e12
  subst e11 e12
  have HNM := Lib.hid (HS.part _ (List.getElem_mem hpt))
  have HWI := Lib.hid (fun w' h1 => pWithin g now t wall w' h1)
  rw [show winB now t wall = true from decide_eq_true hW] at HWI
  obtain ⟨hw1, hw2, hw3, hw4⟩ := hW
  have hnow := hok.time
  have haddH := Lib.hid (show IntKind.i64.wrap (t + wall) = t + wall from IntWalk.i64_in _ (by omega))
  have HLS := Lib.hid (fun (k : Nat) (hk : k < F.length) (w' : World) (h : StAt w' F[k].a F[k].cap F[k].l) => sLeast F[k].a F[k].cap F[k].l (by have := hok.lens F[k].l (List.mem_map.2 ⟨F[k], List.getElem_mem hk, rfl⟩); omega) t (t + wall) w' h)
  have HFG := Lib.hid (fun (k : Nat) (hk : k < F.length) => flOf_at hk)
  obtain ⟨i0, hi, hzz, hzs, hzb⟩ := info_parts infoVc4
  have hmk := fun W => run_make (P := Try.prog) W 22 34 i0 _ Try.underlying22 hi hzz .i64 .i64 (F.length : Int) (F.length : Int) (by omega) (by omega) (by rw [hzb]; omega) (by omega)
  simp only [Int.toNat_natCast, hzs, made_zero] at hmk
  have hfl := flOf_len F
  have HPL := Lib.hid (fun (a : Option Addr) (c : Nat) (w' : World) => pPlace2 a c (leastsP (flOf F) s.parts[pt].l t (t + wall)) (by rw [leastsP_len, hfl]; omega) s.parts[pt].a s.parts[pt].cap s.parts[pt].l (by omega) many hm need w')
  rw [leastsP_len, hfl] at HPL
  have hz0 : (vcsV (leastsP (flOf F) [] t (t + wall))) = vcsV (List.replicate F.length V.zero) := by rw [leastsP_nil, hfl]
  rw [← hz0] at hmk
  have hsn : (pt : Int) < s.parts.length := by omega
  have g0 : decide ((pt : Int) < 0) = false := decide_eq_false (by omega)
  have g1 : decide ((s.parts.length : Int) ≤ (pt : Int)) = false := decide_eq_false (by omega)
  have hpt0 : ((pt : Int)).toNat = pt := by omega
  have hpt1 : (0 : Int) ≤ pt := by omega
  clear HP HS hok hlen hz0 hw1 hw2 hw3 hw4 hnow hpa
  generalize hto : t + wall = to_ at *
  have hadd : IntKind.i64.wrap (t + wall) = to_ := by rw [← hto]; rw [← hto] at haddH; exact haddH.out
  clear hto haddH
  generalize hq : s.parts[pt] = q at *
  obtain ⟨qa, qc, ql⟩ := q
  dsimp only at *
  clear hq
  clear hpt
  generalize s.parts.length = sn at c0 hsn g1
  have g1n : decide (sn ≤ pt) = false := decide_eq_false (by omega)
  generalize hnn : F.length = n at hn16 c2 hmk HPL hpr hfl
  have HN := Lib.hid hnn
  clear hnn
  go_enter Try.func14, Try.ntmps14
  go_wp2_with fail
  generalize hw0 : World.alloc w _ = w0
  have hb0 : Below w.heap.size w w0 := by rw [← hw0]; exact (by repeat' (first | exact Below.refl _ _ | assumption | exact And.left (by assumption) | refine Below.drew ?_ | refine below_drewN ?_ _ | refine Below.setCell ?_ (by first | (simp; done) | (simp; omega) | omega) _ | refine Below.alloc ?_ (by first | (simp; done) | (simp; omega) | omega) _ | refine after (by assumption) (by first | (simp; done) | (simp; omega) | omega) ?_))
  have m0 : w0.cell? ⟨w.heap.size, 0, none⟩ = some (.int .i64 need.cpu) := by rw [← hw0]; simp [go_sem]
  have m1 : w0.cell? ⟨w.heap.size, 1, none⟩ = some (.int .i64 need.mem) := by rw [← hw0]; simp [go_sem]
  have m2 : w0.cell? ⟨w.heap.size, 2, none⟩ = some (.int .i64 need.gpu) := by rw [← hw0]; simp [go_sem]
  have m3 : w0.cell? ⟨w.heap.size, 3, none⟩ = some (.int .i64 need.lic) := by rw [← hw0]; simp [go_sem]
  have hw0l : w.heap.size < w0.heap.size := World.block_lt_of_cell? _ _ m0
  clear hw0
  refine (HWI.out w0 (HR.out.later hb0).c1).mono ?_; rintro e w1 ⟨rfl, hb1⟩
  have k1 := hb0.trans (hb1.mono hb0.size)
  have hz1 := k1.size
  have hz01 := hb1.size
  replace m0 := carry hb1 m0
  replace m1 := carry hb1 m1
  replace m2 := carry hb1 m2
  replace m3 := carry hb1 m3
  replace c0 := carry k1 c0
  replace c2 := carry k1 c2
  replace p0 := carry k1 p0
  have hgl1 : g < w1.heap.size := by omega
  have hbl2 : pb < w1.heap.size := by omega
  clear HWI hb0 hb1
  go_wp2
  generalize hw2 : World.alloc w1 _ = w2
  have hb2 : Below w1.heap.size w1 w2 := by rw [← hw2]; exact (by repeat' (first | exact Below.refl _ _ | assumption | exact And.left (by assumption) | refine Below.drew ?_ | refine below_drewN ?_ _ | refine Below.setCell ?_ (by first | (simp; done) | (simp; omega) | omega) _ | refine Below.alloc ?_ (by first | (simp; done) | (simp; omega) | omega) _ | refine after (by assumption) (by first | (simp; done) | (simp; omega) | omega) ?_))
  have H2 : Hid (w2.heap[w1.heap.size]? = some (.cells (vcsV (leastsP (flOf F) [] t to_)).toArray 34 (0, 0))) := Lib.hid (by rw [← hw2]; exact heap_alloc_new _ _)
  clear hw2
  have k2 := k1.trans (hb2.mono hz1)
  replace m0 := carry hb2 m0
  replace m1 := carry hb2 m1
  replace m2 := carry hb2 m2
  replace m3 := carry hb2 m3
  replace c0 := carry hb2 c0
  replace c2 := carry hb2 c2
  replace p0 := carry hb2 p0
  have HNM2 := Lib.hid (RowAt.later HNM.out k2)
  have HR2 := Lib.hid (HR.out.later k2)
  generalize hg1 : w1.heap.size = g1' at H2 hgl1 hbl2 hw0l hz1 ⊢
  have HG1 := Lib.hid hg1
  have hg1w : w.heap.size ≤ g1' := hz1
  have hg1w2 : w.heap.size < g1' := by omega
  clear hg1
  go_loopw [53] (fun x wr => ∃ k : Nat, k ≤ ql.length ∧ x = .int .i64 k ∧ Below w.heap.size w wr ∧ Below g1' w2 wr ∧ Hid (wr.heap[g1']? = some (.cells (vcsV (leastsP (flOf F) (ql.take k) t to_)).toArray 34 (0, 0)))) (fun x _ => ql.length - (intOf x).toNat)
  case atStart => exact ⟨0, Nat.zero_le _, rfl, k2, Below.refl _ _, H2⟩
  case round =>
    obtain ⟨k, hk, rfl, hb, hbg, HI⟩ := hrel
    have hz := hb.size
    replace m0 : wr.cell? ⟨w.heap.size, 0, none⟩ = _ := (Below.cell hbg (by exact hg1w2)).trans m0
    replace m1 : wr.cell? ⟨w.heap.size, 1, none⟩ = _ := (Below.cell hbg (by exact hg1w2)).trans m1
    replace m2 : wr.cell? ⟨w.heap.size, 2, none⟩ = _ := (Below.cell hbg (by exact hg1w2)).trans m2
    replace m3 : wr.cell? ⟨w.heap.size, 3, none⟩ = _ := (Below.cell hbg (by exact hg1w2)).trans m3
    replace c0 : wr.cell? ⟨g, 0, none⟩ = _ := (Below.cell hbg (by exact hgl1)).trans c0
    replace c2 : wr.cell? ⟨g, 2, none⟩ = _ := (Below.cell hbg (by exact hgl1)).trans c2
    replace p0 : wr.cell? ⟨pb, po + pt, none⟩ = _ := (Below.cell hbg (by exact hbl2)).trans p0
    by_cases hlt : k < ql.length
    · obtain ⟨b2, o2, ea2, hbl3, q0⟩ := (RowAt.later HNM.out hb).nm hlt
      subst ea2
      have hx := riseN_mem hpr ql[k] (List.getElem_mem hlt)
      obtain ⟨kk, hkk⟩ : ∃ kk : Nat, (kk : Int) = ql[k] := ⟨ql[k].toNat, by omega⟩
      have hkn : kk < n := by omega
      have hkF : kk < F.length := by rw [HN.out]; exact hkn
      have HT : Hid (ql.take (k + 1) = ql.take k ++ [(kk : Int)]) := Lib.hid (by rw [hkk]; exact take_app ql k hlt)
      rw [← hkk] at q0
      obtain ⟨b3, o3, ea3, hbl4, q1⟩ := (HR.out.later hb).free.at_ hkF
      have HE : Hid (StlAt wr F[kk]) := Lib.hid ((HR.out.later hb).free.each _ (List.getElem_mem hkF))
      have HQ := Lib.hid (fun w' h => HLS.out kk hkF w' h)
      have HV : Hid ((flOf F).getD kk [] = F[kk].l) := Lib.hid (HFG.out kk hkF)
      subst ea3
      generalize F[kk] = p at q1 HE HQ HV
      clear hx hkk
      have hk0 : (0 : Int) ≤ kk := by omega
      have hk1 : (kk : Int) < n := by omega
      have hkt : ((kk : Int)).toNat = kk := by omega
      go_wp2_with fail
      refine (HQ.out wr HE.out.st).mono ?_; rintro e w3 ⟨rfl, hb3⟩
      have k3 := hb.trans (hb3.mono hz)
      have hwg : g1' < wr.heap.size := blk_lt HI.out
      have kg3 := hbg.trans (hb3.mono (Nat.le_of_lt hwg))
      have HI3 : Hid (w3.heap[g1']? = some (.cells (vcsV (leastsP (flOf F) (ql.take k) t to_)).toArray 34 (0, 0))) := Lib.hid ((hb3.block _ hwg).trans HI.out)
      have HNX := Lib.hid (leastsP_next (flOf F) (ql.take k) t to_ kk)
      rw [HV.out] at HNX
      have hll := leastsP_len (flOf F) (ql.take k) t to_
      rw [flOf_len, HN.out] at hll
      have HLL := Lib.hid hll
      clear hll
      generalize leastS p.l t to_ = v at HNX ⊢
      go_wp2_with ((with_reducible show wpList _ _ _ _ _ _); refine wpList_store_splice rfl 34 (.tmp 71) (.tmp 70) rfl g1' (kk * 4) (vcV v) rfl rfl (by kernel_rfl) _ 34 HI3.out (by rw [vcsV_len, HLL.out]; show _ + 4 ≤ _; omega) (by simp [vcV, Value.oneCell']) g1' w2 kg3 (Nat.le_refl _) ?_)
      intro w4 HW4 kg4
      have k4 : Below w.heap.size w w4 := k2.trans (kg4.mono hg1w)
      go_wp2
      go_roundw
      case rel =>
        refine ⟨k + 1, by omega, by go_num, k4, kg4, Lib.hid ?_⟩
        have h := HW4.out
        rw [splice_vc _ kk _ (by rw [HLL.out]; exact hkn), HNX.out, ← HT.out] at h
        exact h
      case measure => simp [intOf]; omega
    · have hkl : k = ql.length := by omega
      have HIX : Hid (wr.heap[g1']? = some (.cells (vcsV (leastsP (flOf F) ql t to_)).toArray 34 (0, 0))) := Lib.hid (by have := HI.out; rw [hkl, List.take_length] at this; exact this)
      have HVC : Hid (VcAt wr (some ⟨g1', 0, none⟩) n (leastsP (flOf F) ql t to_)) := Lib.hid (by
        have hl : (leastsP (flOf F) ql t to_).length = n := by rw [leastsP_len, flOf_len, HN.out]
        have ho := own_whole (n := n) (base := g1') HIX.out (Nat.le_refl _) (by unfold maxLen; omega) (by rw [vcsV_len, hl])
        rw [← hl] at ho
        obtain ⟨a9, c9, e9, h9⟩ := own_vc ho
        injection e9 with e91 _ e92
        subst e91 e92
        rw [hl] at h9
        exact h9)
      have HNMr := Lib.hid (RowAt.later HNM.out hb)
      clear HI HIX HLS HFG HR2 HNM2 H2
      replace HPL := Lib.hid (HPL.out (some ⟨g1', 0, none⟩) n)
      obtain ⟨L, hL⟩ : ∃ L, placeS (leastsP (flOf F) ql t to_) ql many need = L := ⟨_, rfl⟩
      obtain ⟨B, hB⟩ : ∃ B, placeB (leastsP (flOf F) ql t to_) ql many need = B := ⟨_, rfl⟩
      rw [hL, hB] at HPL
      have HLE := Lib.hid hL
      have HBE := Lib.hid hB
      clear hL hB
      clear hkl
      generalize hqn : ql.length = qn at p0 HPL hlt hk hpl ⊢
      clear hqn
      have z0 := c0
      have z1 := p0
      go_upto_region 9 with fail
      refine region_mono (pwSp g w.heap.size g1' pb po sn s.pc n pt qa qn qc many need B L) [73, 74, 75, 76, 77, 78, 79, 80, 81, 82, 83, 84, 85, 12, 13] (by kernel_rfl) (by kernel_rfl) (by kernel_rfl) (by kernel_rfl) (stables_cons (Sp.c_stable _ _) (stables_cons (Sp.c_stable _ _) (stables_cons (Sp.c_stable _ _) (stables_cons (Sp.c_stable _ _) (stables_cons (Sp.c_stable _ _) (stables_cons (Sp.c_stable _ _) (stables_cons (Sp.c_stable _ _) (stables_cons (Sp.c_stable _ _) (stables_cons (Sp.c_stable _ _) (stables_cons (Sp.c_stable _ _) (stables_cons (Sp.m_stable _ _ _ (fun v w w' h hb => by obtain ⟨a, c, e, h⟩ := h; exact ⟨a, c, e, h.later hb⟩)) (stables_cons (Sp.m_stable _ _ _ (fun v w w' h hb => by obtain ⟨a, c, e, h⟩ := h; exact ⟨a, c, e, h.later hb⟩)) (stables_cons (Sp.c_stable _ _) (stables_cons (Sp.m_stable _ _ _ (fun v w w' h hb => by obtain ⟨a, c, e, h⟩ := h; exact ⟨a, c, e, h.later hb⟩)) (stables_cons (Sp.c_stable _ _) (trivial)))))))))))))))) ?_ ?_
      · intro am wm L hbm hbase hbase2
        have s0 : am.tmps.getD 0 undef = .pointer (some ⟨g, 0, none⟩) := (hbase 0 rfl).trans (by simp only [Array.getD_eq_getD_getElem?, List.getElem?_toArray, List.getElem?_cons_succ, List.getElem?_cons_zero, Option.getD_some])
        have s1 : am.tmps.getD 1 undef = .int .i64 (pt : Int) := (hbase 1 rfl).trans (by simp only [Array.getD_eq_getD_getElem?, List.getElem?_toArray, List.getElem?_cons_succ, List.getElem?_cons_zero, Option.getD_some])
        have s2 : am.tmps.getD 2 undef = .int .i64 many := (hbase 2 rfl).trans (by simp only [Array.getD_eq_getD_getElem?, List.getElem?_toArray, List.getElem?_cons_succ, List.getElem?_cons_zero, Option.getD_some])
        have s9 : am.tmps.getD 9 undef = .pointer (some ⟨w.heap.size, 0, none⟩) := (hbase 9 rfl).trans (by simp only [Array.getD_eq_getD_getElem?, List.getElem?_toArray, List.getElem?_cons_succ, List.getElem?_cons_zero, Option.getD_some])
        have s14 : am.tmps.getD 14 undef = .slice (some ⟨g1', 0, none⟩) n n := (hbase 14 rfl).trans (by simp only [Array.getD_eq_getD_getElem?, List.getElem?_toArray, List.getElem?_cons_succ, List.getElem?_cons_zero, Option.getD_some])
        clear hbase hbase2
        have p0 := carry hbm z0
        have p1 := carry hbm z1
        have d0 := carry hbm m0
        have d1 := carry hbm m1
        have d2 := carry hbm m2
        have d3 := carry hbm m3
        refine steps_cons (fun hn hl => ?_) fun H0 => ?_
        · skip
          clear hn hl 
          refine stepC (wanted_free rfl) fun K hK => ?_
          go_simp
          exact hK _ (Below.refl _ _)
        refine steps_cons (fun hn hl => ?_) fun H1 => ?_
        · skip
          clear hn hl H0
          refine stepC (wanted_free rfl) fun K hK => ?_
          go_simp
          exact hK _ (Below.refl _ _)
        refine steps_cons (fun hn hl => ?_) fun H2 => ?_
        · skip
          have h74 := Sp.of_c (H1 (hn 1 (show 1 ∈ [1] from .head _)))
          clear hn hl H0 H1
          refine stepC (wanted_free rfl) fun K hK => ?_
          go_simp
          exact hK _ (Below.refl _ _)
        refine steps_cons (fun hn hl => ?_) fun H3 => ?_
        · skip
          have h75 := Sp.of_c (H2 (hn 2 (show 2 ∈ [2] from .head _)))
          clear hn hl H0 H1 H2
          refine stepC (wanted_free rfl) fun K hK => ?_
          go_simp
          exact hK _ (Below.refl _ _)
        refine steps_cons (fun hn hl => ?_) fun H4 => ?_
        · skip
          have h76 := Sp.of_c (H3 (hn 3 (show 3 ∈ [3] from .head _)))
          clear hn hl H0 H1 H2 H3
          refine stepC (wanted_free rfl) fun K hK => ?_
          go_simp
          exact hK _ (Below.refl _ _)
        refine steps_cons (fun hn hl => ?_) fun H5 => ?_
        · skip
          clear hn hl H0 H1 H2 H3 H4
          refine stepC (wanted_free rfl) fun K hK => ?_
          go_simp
          exact hK _ (Below.refl _ _)
        refine steps_cons (fun hn hl => ?_) fun H6 => ?_
        · skip
          have h77 := Sp.of_c (H4 (hn 4 (show 4 ∈ [4, 5] from .head _)))
          have h78 := Sp.of_c (H5 (hn 5 (show 5 ∈ [4, 5] from .tail _ (.head _))))
          clear hn hl H0 H1 H2 H3 H4 H5
          refine stepC (wanted_free rfl) fun K hK => ?_
          go_simp
          exact hK _ (Below.refl _ _)
        refine steps_cons (fun hn hl => ?_) fun H7 => ?_
        · skip
          have h79 := Sp.of_c (H6 (hn 6 (show 6 ∈ [6] from .head _)))
          clear hn hl H0 H1 H2 H3 H4 H5 H6
          refine stepC (wanted_free rfl) fun K hK => ?_
          go_simp
          exact hK _ (Below.refl _ _)
        refine steps_cons (fun hn hl => ?_) fun H8 => ?_
        · skip
          clear hn hl H0 H1 H2 H3 H4 H5 H6 H7
          refine stepC (wanted_free rfl) fun K hK => ?_
          go_simp
          exact hK _ (Below.refl _ _)
        refine steps_cons (fun hn hl => ?_) fun H9 => ?_
        · skip
          clear hn hl H0 H1 H2 H3 H4 H5 H6 H7 H8
          refine stepC (wanted_free rfl) fun K hK => ?_
          go_simp
          exact hK _ (Below.refl _ _)
        refine steps_cons (fun hn hl => ?_) fun H10 => ?_
        · skip
          have h73 := Sp.of_c (H0 (hn 0 (show 0 ∈ [0, 7, 8, 9] from .head _)))
          have h80 := Sp.of_c (H7 (hn 7 (show 7 ∈ [0, 7, 8, 9] from .tail _ (.head _))))
          have h81 := Sp.of_c (H8 (hn 8 (show 8 ∈ [0, 7, 8, 9] from .tail _ (.tail _ (.head _)))))
          have h82 := Sp.of_c (H9 (hn 9 (show 9 ∈ [0, 7, 8, 9] from .tail _ (.tail _ (.tail _ (.head _))))))
          clear hn hl H0 H1 H2 H3 H4 H5 H6 H7 H8 H9
          refine stepR (wanted_free rfl) fun K hK => ?_
          go_simp
          (with_reducible refine (HPL.out _ (HVC.out.later hbm) (RowAt.later HNMr.out hbm)).mono ?_); rintro e w6 ⟨a6, c6, rfl, ho6, hb6⟩; exact hK _ _ hb6 ⟨_, _, rfl, ho6⟩
        refine steps_cons (fun hn hl => ?_) fun H11 => ?_
        · skip
          obtain ⟨b, y0, h83, y1⟩ := Sp.of_m (H10 (hn 10 (show 10 ∈ [10] from .head _))) rfl
          clear hn hl H0 H1 H2 H3 H4 H5 H6 H7 H8 H9 H10
          refine stepR (wanted_free rfl) fun K hK => ?_
          go_simp
          exact hK _ _ (Below.refl _ _) ⟨_, _, rfl, y1⟩
        refine steps_cons (fun hn hl => ?_) fun H12 => ?_
        · skip
          obtain ⟨b, y0, h83, y1⟩ := Sp.of_m (H10 (hn 10 (show 10 ∈ [10] from .head _))) rfl
          clear hn hl H0 H1 H2 H3 H4 H5 H6 H7 H8 H9 H10 H11
          refine stepC (wanted_free rfl) fun K hK => ?_
          go_simp
          exact hK _ (Below.refl _ _)
        refine steps_cons (fun hn hl => ?_) fun H13 => ?_
        · skip
          obtain ⟨b, y0, h84, y1⟩ := Sp.of_m (H11 (hn 11 (show 11 ∈ [11] from .head _))) rfl
          clear hn hl H0 H1 H2 H3 H4 H5 H6 H7 H8 H9 H10 H11 H12
          refine stepR (wanted_free rfl) fun K hK => ?_
          go_simp
          exact hK _ _ (Below.refl _ _) ⟨_, _, rfl, y1⟩
        refine steps_cons (fun hn hl => ?_) fun H14 => ?_
        · skip
          have h85 := Sp.of_c (H12 (hn 12 (show 12 ∈ [12] from .head _)))
          clear hn hl H0 H1 H2 H3 H4 H5 H6 H7 H8 H9 H10 H11 H12 H13
          refine stepC (wanted_free rfl) fun K hK => ?_
          go_simp
          exact hK _ (Below.refl _ _)
        exact trivial
      · intro w5 hb5
        have hz5 := hb5.size
        refine end_cons ?_; rintro _ rfl
        refine end_cons ?_; rintro _ rfl
        refine end_cons ?_; rintro _ rfl
        refine end_cons ?_; rintro _ rfl
        refine end_cons ?_; rintro _ rfl
        refine end_cons ?_; rintro _ rfl
        refine end_cons ?_; rintro _ rfl
        refine end_cons ?_; rintro _ rfl
        refine end_cons ?_; rintro _ rfl
        refine end_cons ?_; rintro _ rfl
        refine end_cons ?_; rintro _ ⟨b83, y83_0, rfl, y83_1⟩
        refine end_cons ?_; rintro _ ⟨b84, y84_0, rfl, y84_1⟩
        refine end_cons ?_; rintro _ rfl
        refine end_cons ?_; rintro _ ⟨b12, y12_0, rfl, y12_1⟩
        refine end_cons ?_; rintro _ rfl
        refine end_nil ?_
        simp only [List.setIfInBounds_toArray, List.set_cons_succ, List.set_cons_zero, Bool.not_false, Bool.not_true, Bool.true_or, Bool.or_true, Bool.false_or, Bool.or_false]
        go_wp2
        go_ret2
        rw [HLE.out, HBE.out]
        exact ⟨_, _, rfl, y12_1, hb.trans (hb5.mono hz)⟩
end Go.Proofs.Ytcdajfiohhbdgaa.W
