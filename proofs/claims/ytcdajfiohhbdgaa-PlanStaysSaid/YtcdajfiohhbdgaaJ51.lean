/-
  Several texts in one: PnStaysSpec, PnTake, PlanStays.
-/
import Derived.Test.YtcdajfiohhbdgaaPlanSooner
import Derived.Test.YtcdajfiohhbdgaaJ47

/-
  What was planned stays: both profiles while things are planned and taken, one behind the other.
-/
namespace Go.Proofs.Ytcdajfiohhbdgaa.W
set_option maxRecDepth 100000
set_option linter.unusedVariables false
set_option linter.unusedSimpArgs false
open Go.ChangeShapes Go.WideShapes Go.ChangeAt Go.RowKit

theorem partOf_any {s : S} (h : Right s) (part : Int) : RiseN s.nodes.length (-1) (partOf s part) := by
  unfold partOf
  by_cases hk : part.toNat < s.parts.length
  · rw [List.getD_eq_getElem?_getD, List.getElem?_eq_getElem hk, Option.getD_some]
    exact (part_rise h hk).1
  · rw [List.getD_eq_getElem?_getD, List.getElem?_eq_none (by omega)]
    trivial
/-- one has d more free than the other; once the one that is looked at was planned (r, A), d is what it takes -/
def StI (n : Nat) (now : Int) (fro frp : Fr) (x : Wt) (done : Bool) (r : Option Int) (A : List Sh) : Prop :=
  ∃ d : Fr, (∀ k u, V.Le V.zero (d k u)) ∧ Apart fro frp d n now ∧ (done = false → d = none4) ∧
    (done = true → ∃ frk, OkFr frk n now ∧ LeFr fro frk n now ∧ First frk n now x r ∧ (r = none → d = none4) ∧ ∀ t, r = some t → A = placeS (lowsL frk n t x.wall) x.part x.many x.need ∧ d = part4 t x.wall x.need A)
theorem apart_congr {fro frp fro' frp' d : Fr} {n : Nat} {now : Int} (h : Apart fro frp d n now) (h1 : ∀ k, k < n → ∀ u, now ≤ u → fro' k u = fro k u) (h2 : ∀ k, k < n → ∀ u, now ≤ u → frp' k u = frp k u) : Apart fro' frp' d n now := fun k hk u hu => by
  rw [h1 k hk u hu, h2 k hk u hu]; exact h k hk u hu
theorem stI_start (fr : Fr) (n : Nat) (now : Int) (x : Wt) (r : Option Int) (A : List Sh) : StI n now fr fr x false r A :=
  ⟨none4, none4_nn, apart_none fr n now, fun _ => rfl, fun h => (by cases h)⟩
theorem plus_zero (a : V) : a.plus V.zero = a := V.ext' (by simp [V.plus, V.zero]) (by simp [V.plus, V.zero]) (by simp [V.plus, V.zero]) (by simp [V.plus, V.zero])
theorem apart_same {fro frp : Fr} {n : Nat} {now : Int} (h : Apart fro frp none4 n now) : ∀ k, k < n → ∀ u, now ≤ u → fro k u = frp k u := fun k hk u hu => by
  rw [h k hk u hu]; exact plus_zero _
/-- it can't be planned -/
theorem stI_none {n : Nat} {now : Int} {fro frp : Fr} {x : Wt} {r : Option Int} {A : List Sh} (h : StI n now fro frp x false r A) (hp : OkFr frp n now) (hf : First frp n now x none) : StI n now fro frp x true none [] := by
  obtain ⟨d, h1, h2, h3, _⟩ := h
  have hd := h3 rfl
  subst hd
  exact ⟨none4, h1, h2, fun h => (by cases h), fun _ => ⟨frp, hp, fun k hk u hu => by rw [apart_same h2 k hk u hu]; exact vle_refl _, hf, fun _ => rfl, fun t ht => (by cases ht)⟩⟩
/-- it is planned, and taken of the one profile alone -/
theorem stI_mine {n : Nat} {now : Int} {fro frp frp' : Fr} {x : Wt} {r : Option Int} {A A' : List Sh} {t : Int} (h : StI n now fro frp x false r A) (hp : OkFr frp n now) (hf : First frp n now x (some t)) (hA : A' = placeS (lowsL frp n t x.wall) x.part x.many x.need) (h0 : ∀ k, V.Le V.zero (need4 x.need A' k))
    (hp' : ∀ k, k < n → ∀ u, now ≤ u → frp' k u = takeF frp t x.wall x.need A' k u) : StI n now fro frp' x true (some t) A' := by
  obtain ⟨d, h1, h2, h3, _⟩ := h
  have hd := h3 rfl
  subst hd
  refine ⟨part4 t x.wall x.need A', part4_nn h0, apart_congr (apart_mine h2) (fun _ _ _ _ => rfl) hp', fun h => (by cases h), fun _ => ⟨frp, hp, fun k hk u hu => by rw [apart_same h2 k hk u hu]; exact vle_refl _, hf, fun h => (by cases h), fun t' ht => ?_⟩⟩
  injection ht with ht; subst ht
  exact ⟨hA, rfl⟩
/-- another one is taken of both -/
theorem stI_both {n : Nat} {now : Int} {fro frp fro' frp' : Fr} {x : Wt} {done : Bool} {r : Option Int} {A : List Sh} {t wall : Int} {need : V} {L : List Sh} (h : StI n now fro frp x done r A) (hle : LeFr fro' fro n now)
    (ho' : ∀ k, k < n → ∀ u, now ≤ u → fro' k u = takeF fro t wall need L k u) (hp' : ∀ k, k < n → ∀ u, now ≤ u → frp' k u = takeF frp t wall need L k u) : StI n now fro' frp' x done r A := by
  obtain ⟨d, h1, h2, h3, h4⟩ := h
  refine ⟨d, h1, apart_congr (apart_take h2) ho' hp', h3, fun hd => ?_⟩
  obtain ⟨frk, k1, k2, k3, k4, k5⟩ := h4 hd
  exact ⟨frk, k1, fun k hk u hu => vle_tr (hle k hk u hu) (k2 k hk u hu), k3, k4, k5⟩
theorem stI_can {n : Nat} {now : Int} {fro frp : Fr} {x : Wt} {done : Bool} {r : Option Int} {A : List Sh} {t wall : Int} {need : V} {L : List Sh} (h : StI n now fro frp x done r A) (ht : now ≤ t) (hc : CanTake frp n t wall need L) : CanTake fro n t wall need L := by
  obtain ⟨d, h1, h2, _⟩ := h
  exact apart_can h2 h1 ht hc
theorem stI_end {n : Nat} {now : Int} {fro frp : Fr} {x : Wt} {r : Option Int} {A : List Sh} (hwall : x.ok → 1 ≤ x.wall) (hr : RiseN n (-1) x.part) (h : StI n now fro frp x true r A) (ho : OkFr fro n now) (hp : OkFr frp n now) :
    First fro n now x r ∧ ∀ t, r = some t → placeS (lowsL fro n t x.wall) x.part x.many x.need = A := by
  obtain ⟨d, h1, h2, _, h4⟩ := h
  obtain ⟨frk, k1, k2, k3, k4, k5⟩ := h4 rfl
  have key := stays_first (frp := frp) hwall hr k1 ho k2 k3 (fun t ht => by
    obtain ⟨e1, e2⟩ := k5 t ht
    refine ⟨hp, ?_⟩
    rw [← e1, ← e2]
    exact h2)
  exact ⟨key.1, fun t ht => (key.2 t ht).trans (k5 t ht).1.symm⟩
/-- what is taken, as steps -/
theorem take_step {s : S} {now : Int} {F : List Stl} (hok : PrOk s now F) {B : Nat} (hB : LenLe (flOf F) B) {t wall : Int} (hW : WinT now t wall) {L : List Sh} {need : V} (hr : RiseH F.length (-1) L) (hneed : need.Ok) (hc : CanTake (frL (flOf F)) F.length t wall need L) :
    ∃ G, lessF need t (t + wall) (flOf F) L = some G ∧ G.length = F.length ∧ OkFL G now ∧ LenLe G (B + 2 * L.length) ∧ (∀ k, k < F.length → ∀ u, now ≤ u → frL G k u = takeF (frL (flOf F)) t wall need L k u) ∧ LeFr (frL G) (frL (flOf F)) F.length now := by
  obtain ⟨w0, w1, w2, w3⟩ := hW
  have hn := hok.time
  have hr' : RiseH (flOf F).length (-1) L := by rw [flOf_len]; exact hr
  obtain ⟨c0, c1⟩ := lessF_ok hneed (now := now) (f := t) (t := t + wall) w0 (by omega) (by omega) (Int.le_refl _) hok.ok hr'
  cases hL : lessF need t (t + wall) (flOf F) L with
  | none =>
    obtain ⟨k, hk, u, u0, u1, hx⟩ := c1 hL
    rw [flOf_len] at hk
    exact absurd (hc k hk u ⟨u0, u1⟩) hx
  | some G =>
    obtain ⟨d0, d1, _⟩ := c0 G hL
    obtain ⟨e0, e1⟩ := lessF_lens hB hL
    have hfr : ∀ k, k < F.length → ∀ u, now ≤ u → frL G k u = takeF (frL (flOf F)) t wall need L k u := fun k hk u hu => by
      by_cases hx : t ≤ u ∧ u < t + wall
      · rw [d1 k u hu, if_pos hx, takeF, if_pos (show inW t wall u from hx)]
      · rw [d1 k u hu, if_neg hx, takeF, if_neg (show ¬ inW t wall u from hx)]
    refine ⟨G, rfl, by rw [e1, flOf_len], d0, e0, hfr, fun k hk u hu => ?_⟩
    have := take_ok (okFr_of hok.ok) (t := t) (wall := wall) (need := need) (A := L) (fun k => need4_nn hneed hr k) (by rw [flOf_len]; exact hc)
    rw [hfr k hk u hu]
    exact this.2 k (by rw [flOf_len]; exact hk) u hu
end Go.Proofs.Ytcdajfiohhbdgaa.W


/-
  Contracts of plan's Take, Clone, of the document's Same.
-/
namespace Go.Proofs.Ytcdajfiohhbdgaa.W
set_option maxRecDepth 100000
set_option linter.unusedVariables false
set_option linter.unusedSimpArgs false
open Go.ChangeShapes Go.WideShapes Go.ChangeAt Go.RowKit

theorem FrAt.set {w : World} {a : Option Addr} {cap : Nat} {F : List Stl} (h : FrAt w a cap F) {g : Nat} {cs : Array Value} {y : Nat × Nat} (hg : w.heap[g]? = some (.cells cs 76 y)) (j : Nat) (u : Value) : FrAt (w.setCell ⟨g, j, none⟩ u) a cap F :=
  ⟨h.row.set h.ty hg (by decide) j u, h.ty.set _ _, fun p hp => (h.each p hp).set hg (by decide) j u, h.le, h.nil⟩
/-- the profile behind a store of what is left -/
theorem PrAt.taken {w : World} {g : Nat} {s : S} {now : Int} {fa : Option Addr} {fc : Nat} {F : List Stl} (h : PrAt w g s now fa fc F) {a : Option Addr} {c n : Nat} {F' : List Stl} (hF : FrAt w a c F') (hn : F'.length = n) : PrAt (w.setCell ⟨g, 2, none⟩ (.slice a n c)) g s now a c F' := by
  subst hn
  exact ⟨blk_set h.blk 2 _ (by simp), hF.set h.blk 2 _⟩
/-- another profile behind that store -/
theorem PrAt.other {w : World} {g h : Nat} {s : S} {now : Int} {fa : Option Addr} {fc : Nat} {F : List Stl} (hp : PrAt w h s now fa fc F) {cs : Array Value} {y : Nat × Nat} (hg : w.heap[g]? = some (.cells cs 76 y)) (hne : h ≠ g) (u : Value) : PrAt (w.setCell ⟨g, 2, none⟩ u) h s now fa fc F :=
  ⟨blk_else hne hp.blk, hp.free.set hg 2 u⟩
/-- what is left, where it lies -/
structure TkAt (w : World) (a : Option Addr) (c : Nat) (F : List Stl) (n : Nat) (G : FL) : Prop where
  at_ : FrAt w a c F
  len : F.length = n
  is : flOf F = G
theorem TkAt.later {w w' : World} {a : Option Addr} {c : Nat} {F : List Stl} {n : Nat} {G : FL} (h : TkAt w a c F n G) (hb : Below w.heap.size w w') : TkAt w' a c F n G := ⟨h.at_.later hb, h.len, h.is⟩
theorem pLess_ok (fb fo fc : Nat) (F : List Stl) (hF : F.length ≤ 16) (hpos : 0 < F.length) (B0 : Nat) (hB : LenLe (flOf F) B0) (sa : Option Addr) (sc : Nat) (l : List Sh) (hl : l.length ≤ 40) (hB2 : B0 + 2 * l.length ≤ 80000) (hr : RiseH F.length (-1) l) (need : V) (f t : Int) (G : FL) (hG : lessF need f t (flOf F) l = some G) (w : World)
    (HF : FrAt w (some ⟨fb, fo, none⟩) fc F) (HS : RowAt w sa (shsV l)) :
    Calls Try.prog 24 #[.slice (some ⟨fb, fo, none⟩) F.length fc, .slice sa l.length sc, (.agg #[.int .i64 need.cpu, .int .i64 need.mem, .int .i64 need.gpu, .int .i64 need.lic]), .int .i64 f, .int .i64 t] w fun e w' =>
      ∃ a c F', e = .returned (.tuple #[.slice a F.length c, .int .i64 0]) ∧ TkAt w' a c F' F.length G ∧ Below w.heap.size w w' := by
  refine (pLess fb fo fc F hF hpos B0 hB sa sc l hl hB2 hr need f t w HF HS).mono ?_
  rintro e w' ⟨v, E, rfl, hb, ⟨rfl, F', hO, hl⟩ | ⟨_, _, hl⟩⟩
  · have hG' : flOf F' = G := by rw [hl] at hG; injection hG
    have hn : F'.length = F.length := by
      have := lessF_len hl
      rwa [flOf_len, flOf_len] at this
    obtain ⟨a, c, rfl, h, _⟩ := hO.shape
    rw [hn]
    exact ⟨a, c, F', rfl, ⟨h, hn, hG'⟩, hb⟩
  · rw [hl] at hG; cases hG
def ptSp (g nb fb fo n fc : Nat) (sa : Option Addr) (sn sc : Nat) (t wall to_ : Int) (need : V) (G : FL) : List Sp :=
  [Sp.c (.pointer (some ⟨g, 0, none⟩)) [],
   Sp.c (.pointer (some ⟨g, 0, none⟩)) [0],
   Sp.c (.pointer (some ⟨g, 2, none⟩)) [1],
   Sp.c (.slice (some ⟨fb, fo, none⟩) n fc) [2],
   Sp.c (.slice sa sn sc) [],
   Sp.c ((.agg #[.int .i64 need.cpu, .int .i64 need.mem, .int .i64 need.gpu, .int .i64 need.lic])) [],
   Sp.c (.int .i64 t) [],
   Sp.c (.int .i64 t) [],
   Sp.c (.int .i64 wall) [],
   Sp.c (.int .i64 to_) [7, 8],
   Sp.m true (fun x wm => ∃ a c F, x = .tuple #[.slice a n c, .int .i64 0] ∧ TkAt wm a c F n G) [3, 4, 5, 6, 9],
   Sp.m true (fun x wm => ∃ a c F, x = .tuple #[.slice a n c, .int .i64 0] ∧ TkAt wm a c F n G) [10],
   Sp.m true (fun x wm => ∃ a c F, x = .slice a n c ∧ TkAt wm a c F n G) [11],
   Sp.c (.int .i64 0) [11],
   Sp.m true (fun x wm => ∃ a c F, x = .slice a n c ∧ TkAt wm a c F n G) [12],
   Sp.c (.int .i64 0) [13]]
set_option maxHeartbeats 8000000 in
theorem pTake (g : Nat) (s : S) (now : Int) (fa : Option Addr) (fc : Nat) (F : List Stl) (hok : PrOk s now F) (hle : LenLe (flOf F) 70000) (t : Int) (sa : Option Addr) (sc : Nat) (l : List Sh) (hl : l.length ≤ 40) (need : V) (wall : Int) (hW : WinT now t wall) (hr : RiseH F.length (-1) l) (hneed : need.Ok) (G : FL) (hG : lessF need t (t + wall) (flOf F) l = some G)
    (w : World) (HP : PrAt w g s now fa fc F) (HS : RowAt w sa (shsV l)) :
    Calls Try.prog 16 #[.pointer (some ⟨g, 0, none⟩), .int .i64 t, .slice sa l.length sc, (.agg #[.int .i64 need.cpu, .int .i64 need.mem, .int .i64 need.gpu, .int .i64 need.lic]), .int .i64 wall] w fun e w' =>
      ∃ w1 a c F', e = .returned (.int .i64 0) ∧ Below w.heap.size w w1 ∧ w' = w1.setCell ⟨g, 2, none⟩ (.slice a F.length c) ∧ TkAt w1 a c F' F.length G := by
  have hn16 : F.length ≤ 16 ∧ 1 ≤ F.length := by have := (right_is hok.right).nodes.1; rw [hok.len]; exact ⟨this.2, this.1⟩
  obtain ⟨fb, fo, efa, _⟩ := HP.free.at_ (k := 0) (by omega)
  subst efa
  have HR := Lib.hid HP
  have HSA0 := Lib.hid HS
  have c2 := HP.c2
  have hgl := blk_lt HP.blk
  have HWI := Lib.hid (fun w' h1 => pWithin g now t wall w' h1)
  rw [show winB now t wall = true from decide_eq_true hW] at HWI
  have HQ1 := Lib.hid (fun (w' : World) (h : RowAt w' sa (shsV l)) => pRightR sa sc l (by omega) F.length w' h)
  rw [show rightH l F.length = true from decide_eq_true hr] at HQ1
  have HQ2 := Lib.hid (fun w' => right need w')
  rw [right_yes hneed] at HQ2
  have HLS := Lib.hid (fun (w' : World) h1 h2 => pLess_ok fb fo fc F hn16.1 hn16.2 70000 hle sa sc l hl (by omega) hr need t (t + wall) G hG w' h1 h2)
  obtain ⟨w0, w1, w2, w3⟩ := hW
  have hnow := hok.time
  obtain ⟨to_, hto⟩ : ∃ to_, t + wall = to_ := ⟨_, rfl⟩
  have hadd : IntKind.i64.wrap (t + wall) = to_ := by rw [← hto]; exact IntWalk.i64_in _ (by omega)
  rw [hto] at HLS
  clear hto hok hle HP HS hr hneed hG hnow w0 w1 w2 w3
  go_enter Try.func16, Try.ntmps16
  go_wp2_with fail
  generalize hw0 : World.alloc w _ = w0
  have hb0 : Below w.heap.size w w0 := by rw [← hw0]; exact (by repeat' (first | exact Below.refl _ _ | assumption | exact And.left (by assumption) | refine Below.drew ?_ | refine below_drewN ?_ _ | refine Below.setCell ?_ (by first | (simp; done) | (simp; omega) | omega) _ | refine Below.alloc ?_ (by first | (simp; done) | (simp; omega) | omega) _ | refine after (by assumption) (by first | (simp; done) | (simp; omega) | omega) ?_))
  have m0 : w0.cell? ⟨w.heap.size, 0, none⟩ = some (.int .i64 need.cpu) := by rw [← hw0]; simp [go_sem]
  have m1 : w0.cell? ⟨w.heap.size, 1, none⟩ = some (.int .i64 need.mem) := by rw [← hw0]; simp [go_sem]
  have m2 : w0.cell? ⟨w.heap.size, 2, none⟩ = some (.int .i64 need.gpu) := by rw [← hw0]; simp [go_sem]
  have m3 : w0.cell? ⟨w.heap.size, 3, none⟩ = some (.int .i64 need.lic) := by rw [← hw0]; simp [go_sem]
  have hw0l : w.heap.size < w0.heap.size := World.block_lt_of_cell? _ _ m0
  clear hw0
  refine (HWI.out w0 (HR.out.later hb0).c1).mono ?_; rintro e w1 ⟨rfl, hb1⟩
  have k1 := hb0.trans (hb1.mono hb0.size)
  replace m0 := carry hb1 m0
  replace m1 := carry hb1 m1
  replace m2 := carry hb1 m2
  replace m3 := carry hb1 m3
  replace c2 := carry k1 c2
  clear HWI
  go_wp2_with fail
  refine (HQ1.out w1 (RowAt.later HSA0.out k1)).mono ?_; rintro e w2 ⟨rfl, hb2⟩
  have k2 := k1.trans (hb2.mono k1.size)
  replace m0 := carry hb2 m0
  replace m1 := carry hb2 m1
  replace m2 := carry hb2 m2
  replace m3 := carry hb2 m3
  replace c2 := carry hb2 c2
  clear HQ1
  go_wp2_with fail
  refine (HQ2.out w2).mono ?_; rintro e w3 ⟨rfl, hb3⟩
  have k3 := k2.trans (hb3.mono k2.size)
  replace m0 := carry hb3 m0
  replace m1 := carry hb3 m1
  replace m2 := carry hb3 m2
  replace m3 := carry hb3 m3
  replace c2 := carry hb3 c2
  clear HQ2
  have HFA := Lib.hid (HR.out.later k3).free
  have HSA := Lib.hid (RowAt.later HSA0.out k3)
  go_upto_region 5 with fail
  refine region_mono (ptSp g w.heap.size fb fo F.length fc sa l.length sc t wall to_ need G) [36, 37, 38, 39, 40, 41, 42, 43, 44, 45, 46, 35, 47, 48, 11, 12] (by kernel_rfl) (by kernel_rfl) (by kernel_rfl) (by kernel_rfl) (stables_cons (Sp.c_stable _ _) (stables_cons (Sp.c_stable _ _) (stables_cons (Sp.c_stable _ _) (stables_cons (Sp.c_stable _ _) (stables_cons (Sp.c_stable _ _) (stables_cons (Sp.c_stable _ _) (stables_cons (Sp.c_stable _ _) (stables_cons (Sp.c_stable _ _) (stables_cons (Sp.c_stable _ _) (stables_cons (Sp.c_stable _ _) (stables_cons (Sp.m_stable _ _ _ (fun v w w' h hb => by obtain ⟨a, c, F, e, h⟩ := h; exact ⟨a, c, F, e, h.later hb⟩)) (stables_cons (Sp.m_stable _ _ _ (fun v w w' h hb => by obtain ⟨a, c, F, e, h⟩ := h; exact ⟨a, c, F, e, h.later hb⟩)) (stables_cons (Sp.m_stable _ _ _ (fun v w w' h hb => by obtain ⟨a, c, F, e, h⟩ := h; exact ⟨a, c, F, e, h.later hb⟩)) (stables_cons (Sp.c_stable _ _) (stables_cons (Sp.m_stable _ _ _ (fun v w w' h hb => by obtain ⟨a, c, F, e, h⟩ := h; exact ⟨a, c, F, e, h.later hb⟩)) (stables_cons (Sp.c_stable _ _) (trivial))))))))))))))))) ?_ ?_
  · intro am wm L hbm hbase hbase2
    have s0 : am.tmps.getD 0 undef = .pointer (some ⟨g, 0, none⟩) := (hbase 0 rfl).trans (by simp only [Array.getD_eq_getD_getElem?, List.getElem?_toArray, List.getElem?_cons_succ, List.getElem?_cons_zero, Option.getD_some])
    have s1 : am.tmps.getD 1 undef = .int .i64 t := (hbase 1 rfl).trans (by simp only [Array.getD_eq_getD_getElem?, List.getElem?_toArray, List.getElem?_cons_succ, List.getElem?_cons_zero, Option.getD_some])
    have s2 : am.tmps.getD 2 undef = .slice sa l.length sc := (hbase 2 rfl).trans (by simp only [Array.getD_eq_getD_getElem?, List.getElem?_toArray, List.getElem?_cons_succ, List.getElem?_cons_zero, Option.getD_some])
    have s4 : am.tmps.getD 4 undef = .int .i64 wall := (hbase 4 rfl).trans (by simp only [Array.getD_eq_getD_getElem?, List.getElem?_toArray, List.getElem?_cons_succ, List.getElem?_cons_zero, Option.getD_some])
    have s8 : am.tmps.getD 8 undef = .pointer (some ⟨w.heap.size, 0, none⟩) := (hbase 8 rfl).trans (by simp only [Array.getD_eq_getD_getElem?, List.getElem?_toArray, List.getElem?_cons_succ, List.getElem?_cons_zero, Option.getD_some])
    clear hbase hbase2
    have p0 := carry hbm c2
    have d0 := carry hbm m0
    have d1 := carry hbm m1
    have d2 := carry hbm m2
    have d3 := carry hbm m3
    refine steps_cons (fun hn hl => ?_) fun H0 => ?_
    · skip
      clear hn hl 
      refine stepC (wanted_free rfl) fun K hK => ?_
      go_simp
      exact hK _ (Below.refl _ _)
    refine steps_cons (fun hn hl => ?_) fun H1 => ?_
    · skip
      have h36 := Sp.of_c (H0 (hn 0 (show 0 ∈ [0] from .head _)))
      clear hn hl H0
      refine stepC (wanted_free rfl) fun K hK => ?_
      go_simp
      exact hK _ (Below.refl _ _)
    refine steps_cons (fun hn hl => ?_) fun H2 => ?_
    · skip
      have h37 := Sp.of_c (H1 (hn 1 (show 1 ∈ [1] from .head _)))
      clear hn hl H0 H1
      refine stepC (wanted_free rfl) fun K hK => ?_
      go_simp
      exact hK _ (Below.refl _ _)
    refine steps_cons (fun hn hl => ?_) fun H3 => ?_
    · skip
      have h38 := Sp.of_c (H2 (hn 2 (show 2 ∈ [2] from .head _)))
      clear hn hl H0 H1 H2
      refine stepC (wanted_free rfl) fun K hK => ?_
      go_simp
      exact hK _ (Below.refl _ _)
    refine steps_cons (fun hn hl => ?_) fun H4 => ?_
    · skip
      clear hn hl H0 H1 H2 H3
      refine stepC (wanted_free rfl) fun K hK => ?_
      go_simp
      exact hK _ (Below.refl _ _)
    refine steps_cons (fun hn hl => ?_) fun H5 => ?_
    · skip
      clear hn hl H0 H1 H2 H3 H4
      refine stepC (wanted_free rfl) fun K hK => ?_
      go_simp
      exact hK _ (Below.refl _ _)
    refine steps_cons (fun hn hl => ?_) fun H6 => ?_
    · skip
      clear hn hl H0 H1 H2 H3 H4 H5
      refine stepC (wanted_free rfl) fun K hK => ?_
      go_simp
      exact hK _ (Below.refl _ _)
    refine steps_cons (fun hn hl => ?_) fun H7 => ?_
    · skip
      clear hn hl H0 H1 H2 H3 H4 H5 H6
      refine stepC (wanted_free rfl) fun K hK => ?_
      go_simp
      exact hK _ (Below.refl _ _)
    refine steps_cons (fun hn hl => ?_) fun H8 => ?_
    · skip
      clear hn hl H0 H1 H2 H3 H4 H5 H6 H7
      refine stepC (wanted_free rfl) fun K hK => ?_
      go_simp
      exact hK _ (Below.refl _ _)
    refine steps_cons (fun hn hl => ?_) fun H9 => ?_
    · skip
      have h43 := Sp.of_c (H7 (hn 7 (show 7 ∈ [7, 8] from .head _)))
      have h44 := Sp.of_c (H8 (hn 8 (show 8 ∈ [7, 8] from .tail _ (.head _))))
      clear hn hl H0 H1 H2 H3 H4 H5 H6 H7 H8
      refine stepC (wanted_free rfl) fun K hK => ?_
      go_simp
      exact hK _ (Below.refl _ _)
    refine steps_cons (fun hn hl => ?_) fun H10 => ?_
    · skip
      have h39 := Sp.of_c (H3 (hn 3 (show 3 ∈ [3, 4, 5, 6, 9] from .head _)))
      have h40 := Sp.of_c (H4 (hn 4 (show 4 ∈ [3, 4, 5, 6, 9] from .tail _ (.head _))))
      have h41 := Sp.of_c (H5 (hn 5 (show 5 ∈ [3, 4, 5, 6, 9] from .tail _ (.tail _ (.head _)))))
      have h42 := Sp.of_c (H6 (hn 6 (show 6 ∈ [3, 4, 5, 6, 9] from .tail _ (.tail _ (.tail _ (.head _))))))
      have h45 := Sp.of_c (H9 (hn 9 (show 9 ∈ [3, 4, 5, 6, 9] from .tail _ (.tail _ (.tail _ (.tail _ (.head _)))))))
      clear hn hl H0 H1 H2 H3 H4 H5 H6 H7 H8 H9
      refine stepR (wanted_free rfl) fun K hK => ?_
      go_simp
      (with_reducible refine (HLS.out _ (HFA.out.later hbm) (RowAt.later HSA.out hbm)).mono ?_); rintro e w6 ⟨a6, c6, F6, rfl, ho6, hb6⟩; exact hK _ _ hb6 ⟨_, _, _, rfl, ho6⟩
    refine steps_cons (fun hn hl => ?_) fun H11 => ?_
    · skip
      obtain ⟨b, y0, y2, h46, y1⟩ := Sp.of_m (H10 (hn 10 (show 10 ∈ [10] from .head _))) rfl
      clear hn hl H0 H1 H2 H3 H4 H5 H6 H7 H8 H9 H10
      refine stepR (wanted_free rfl) fun K hK => ?_
      go_simp
      exact hK _ _ (Below.refl _ _) ⟨_, _, _, rfl, y1⟩
    refine steps_cons (fun hn hl => ?_) fun H12 => ?_
    · skip
      obtain ⟨b, y0, y2, h35, y1⟩ := Sp.of_m (H11 (hn 11 (show 11 ∈ [11] from .head _))) rfl
      clear hn hl H0 H1 H2 H3 H4 H5 H6 H7 H8 H9 H10 H11
      refine stepR (wanted_free rfl) fun K hK => ?_
      go_simp
      exact hK _ _ (Below.refl _ _) ⟨_, _, _, rfl, y1⟩
    refine steps_cons (fun hn hl => ?_) fun H13 => ?_
    · skip
      obtain ⟨b, y0, y2, h35, y1⟩ := Sp.of_m (H11 (hn 11 (show 11 ∈ [11] from .head _))) rfl
      clear hn hl H0 H1 H2 H3 H4 H5 H6 H7 H8 H9 H10 H11 H12
      refine stepC (wanted_free rfl) fun K hK => ?_
      go_simp
      exact hK _ (Below.refl _ _)
    refine steps_cons (fun hn hl => ?_) fun H14 => ?_
    · skip
      obtain ⟨b, y0, y2, h47, y1⟩ := Sp.of_m (H12 (hn 12 (show 12 ∈ [12] from .head _))) rfl
      clear hn hl H0 H1 H2 H3 H4 H5 H6 H7 H8 H9 H10 H11 H12 H13
      refine stepR (wanted_free rfl) fun K hK => ?_
      go_simp
      exact hK _ _ (Below.refl _ _) ⟨_, _, _, rfl, y1⟩
    refine steps_cons (fun hn hl => ?_) fun H15 => ?_
    · skip
      have h48 := Sp.of_c (H13 (hn 13 (show 13 ∈ [13] from .head _)))
      clear hn hl H0 H1 H2 H3 H4 H5 H6 H7 H8 H9 H10 H11 H12 H13 H14
      refine stepC (wanted_free rfl) fun K hK => ?_
      go_simp
      exact hK _ (Below.refl _ _)
    exact trivial
  · intro w5 hb5
    have hz5 := hb5.size
    refine end_cons ?_; rintro _ rfl
    refine end_cons ?_; rintro _ rfl
    refine end_cons ?_; rintro _ rfl
    refine end_cons ?_; rintro _ rfl
    refine end_cons ?_; rintro _ rfl
    refine end_cons ?_; rintro _ rfl
    refine end_cons ?_; rintro _ rfl
    refine end_cons ?_; rintro _ rfl
    refine end_cons ?_; rintro _ rfl
    refine end_cons ?_; rintro _ rfl
    refine end_cons ?_; rintro _ ⟨b46, y46_0, y46_2, rfl, y46_1⟩
    refine end_cons ?_; rintro _ ⟨b35, y35_0, y35_2, rfl, y35_1⟩
    refine end_cons ?_; rintro _ ⟨b47, y47_0, y47_2, rfl, y47_1⟩
    refine end_cons ?_; rintro _ rfl
    refine end_cons ?_; rintro _ ⟨b11, y11_0, y11_2, rfl, y11_1⟩
    refine end_cons ?_; rintro _ rfl
    refine end_nil ?_
    simp only [List.setIfInBounds_toArray, List.set_cons_succ, List.set_cons_zero, Bool.not_false, Bool.not_true, Bool.true_or, Bool.or_true, Bool.false_or, Bool.or_false]
    have k5 := k3.trans (hb5.mono k3.size)
    have hp5 := (HR.out.later k5).blk
    have e2 := blk_cell hp5 2 (by simp)
    have f2 := blk_froz hp5 2
    have HTK := Lib.hid y11_1
    clear hp5 HLS HFA HSA
    go_wp2
    go_ret
    exact ⟨w5, _, _, _, rfl, k5, rfl, HTK.out⟩
set_option maxHeartbeats 2000000 in
theorem pClone (g : Nat) (s : S) (now : Int) (fa : Option Addr) (fc : Nat) (F : List Stl) (w : World) (HP : PrAt w g s now fa fc F) :
    Calls Try.prog 15 #[.pointer (some ⟨g, 0, none⟩)] w fun e w' => ∃ h, e = .returned (.pointer (some ⟨h, 0, none⟩)) ∧ w.heap.size ≤ h ∧ PrAt w' h s now fa fc F ∧ Below w.heap.size w w' := by
  have HR := Lib.hid HP
  have c0 := HP.c0
  have c1 := HP.c1
  have c2 := HP.c2
  have hgl := blk_lt HP.blk
  clear HP
  go_enter Try.func15, Try.ntmps15
  go_wp2
  generalize hw0 : World.alloc w _ = w0
  have hb0 : Below w.heap.size w w0 := by rw [← hw0]; exact (Below.refl _ _).alloc (Nat.le_refl _) _
  have HBK : Hid (w0.heap[w.heap.size]? = some (.cells #[.slice s.pa s.parts.length s.pc, .int .i64 now, .slice fa F.length fc] 76 (0, 0))) := Lib.hid (by rw [← hw0]; exact heap_alloc_new _ _)
  clear hw0
  go_ret
  exact ⟨_, rfl, Nat.le_refl _, ⟨HBK.out, HR.out.free.later hb0⟩, hb0⟩
set_option maxHeartbeats 2000000 in
theorem rSame13 (t : Int) (a b : Option Addr) (ca cb : Nat) (l : List Sh) (hl : l.length ≤ 100000) (w : World) (HA : ShAt w a ca l) (HB : ShAt w b cb l) :
    Calls Try.prog 17 #[.agg #[.int .i64 0, .int .i64 t, .slice a l.length ca], .agg #[.int .i64 0, .int .i64 t, .slice b l.length cb]] w fun e w' => e = .returned (.bool true) ∧ Below w.heap.size w w' := by
  have H1 := Lib.hid HA
  have H2 := Lib.hid HB
  have HS := Lib.hid (fun w' h1 h2 => rShSame a b ca cb l l hl hl w' h1 h2)
  rw [decide_eq_true (rfl : l = l)] at HS
  clear HA HB
  go_enter Try.func17, Try.ntmps17
  go_wp2_with fail
  generalize hw0 : World.alloc (World.alloc w _) _ = w0
  have hb0 : Below w.heap.size w w0 := by rw [← hw0]; exact ((Below.refl _ _).alloc (Nat.le_refl _) _).alloc (by simp) _
  clear hw0
  refine (HS.out w0 (H1.out.later hb0) (H2.out.later hb0)).mono ?_; rintro e w1 ⟨rfl, hb1⟩
  go_wp2
  go_ret
  exact ⟨rfl, hb0.trans (hb1.mono hb0.size)⟩
end Go.Proofs.Ytcdajfiohhbdgaa.W


/-
  The walk of PlanStays.
-/
namespace Go.Proofs.Ytcdajfiohhbdgaa.W
set_option maxRecDepth 100000
set_option linter.unusedVariables false
set_option linter.unusedSimpArgs false
open Go.ChangeShapes Go.WideShapes Go.ChangeAt Go.RowKit

theorem Ty.setRow {w : World} {t : TypeId} {a : Option Addr} (h : Ty w t a) {g : Nat} {cs : Array Value} {t' : TypeId} {y : Nat × Nat} (hg : w.heap[g]? = some (.cells cs t' y)) (hne : t ≠ t') (cs' : Array Value) : Ty (w.setRow g cs') t a := by
  intro d hd
  obtain ⟨cs2, y2, h2⟩ := h d hd
  subst hd
  exact ⟨cs2, y2, (setRow_other w g d.block cs' (h.ne hg hne)).trans h2⟩
theorem RowAt.setRowT {w : World} {a : Option Addr} {xs : List Value} {t t' : TypeId} (h : RowAt w a xs) (ht : Ty w t a) {g : Nat} {cs : Array Value} {y : Nat × Nat} (hg : w.heap[g]? = some (.cells cs t' y)) (hne : t ≠ t') (cs' : Array Value) : RowAt (w.setRow g cs') a xs := by
  rcases h with hx | ⟨b, off, rfl, hl, hc⟩
  · exact .inl hx
  · exact .inr ⟨b, off, rfl, by simpa using hl, fun i u hu => (World.cell?_of_block (a := ⟨b, off + i, none⟩) (setRow_other w g b cs' (ht.ne hg hne))).trans (hc i u hu)⟩
theorem StlAt.setRow {w : World} {p : Stl} (h : StlAt w p) {t' : TypeId} {g : Nat} {cs : Array Value} {y : Nat × Nat} (hg : w.heap[g]? = some (.cells cs t' y)) (hne : 101 ≠ t') (cs' : Array Value) : StlAt (w.setRow g cs') p :=
  ⟨⟨h.st.row.setRowT h.ty hg hne cs', h.st.le, h.st.nil⟩, h.ty.setRow hg hne cs'⟩
theorem PrAt.setRow {w : World} {h : Nat} {s : S} {now : Int} {fa : Option Addr} {fc : Nat} {F : List Stl} (hp : PrAt w h s now fa fc F) {g : Nat} {cs : Array Value} {y : Nat × Nat} (hg : w.heap[g]? = some (.cells cs 45 y)) (hne : h ≠ g) (cs' : Array Value) : PrAt (w.setRow g cs') h s now fa fc F :=
  ⟨(setRow_other w g h cs' hne).trans hp.blk, ⟨hp.free.row.setRowT hp.free.ty hg (by decide) cs', hp.free.ty.setRow hg (by decide) cs', fun p hp' => (hp.free.each p hp').setRow hg (by decide) cs', hp.free.le, hp.free.nil⟩⟩
theorem cell_row_ne {w : World} {b g i : Nat} (cs : Array Value) (h : b ≠ g) : (w.setRow g cs).cell? ⟨b, i, none⟩ = w.cell? ⟨b, i, none⟩ := World.cell?_of_block (a := ⟨b, i, none⟩) (setRow_other w g b cs h)
theorem u8_of_wf {n : Int} (h : (Lit.int IntKind.u8 n).wf = true) : 0 ≤ n ∧ n ≤ 255 := by
  simp [Lit.wf, IntKind.min, IntKind.max, IntKind.bits, IntKind.signed] at h; omega
theorem RowAt.wn {w : World} {a : Option Addr} {l : List Wn} (h : RowAt w a (wnsV l)) {k : Nat} (hk : k < l.length) : ∃ b off, a = some ⟨b, off, none⟩ ∧ b < w.heap.size ∧
    w.cell? ⟨b, off + k * 7, none⟩ = some (.int .i64 l[k].part) ∧ w.cell? ⟨b, off + k * 7 + 1, none⟩ = some (.int .i64 l[k].many) ∧
    w.cell? ⟨b, off + k * 7 + 2, none⟩ = some (.int .i64 l[k].need.cpu) ∧ w.cell? ⟨b, off + k * 7 + 3, none⟩ = some (.int .i64 l[k].need.mem) ∧
    w.cell? ⟨b, off + k * 7 + 4, none⟩ = some (.int .i64 l[k].need.gpu) ∧ w.cell? ⟨b, off + k * 7 + 5, none⟩ = some (.int .i64 l[k].need.lic) ∧ w.cell? ⟨b, off + k * 7 + 6, none⟩ = some (.int .i64 l[k].wall) := by
  obtain ⟨b, off, e, hl, hc⟩ := h.row (by rw [wnsV_len]; omega)
  have at' : ∀ j, j < 7 → ∀ u, (wnV l[k])[j]? = some u → w.cell? ⟨b, off + (k * 7 + j), none⟩ = some u := fun j hj u hu => hc _ u (by rw [wnsV, flat_at (n := 7) (fun _ => rfl) _ _ _ hk hj]; exact hu)
  exact ⟨b, off, e, hl, at' 0 (by omega) _ rfl, by rw [Nat.add_assoc]; exact at' 1 (by omega) _ rfl, by rw [Nat.add_assoc]; exact at' 2 (by omega) _ rfl, by rw [Nat.add_assoc]; exact at' 3 (by omega) _ rfl, by rw [Nat.add_assoc]; exact at' 4 (by omega) _ rfl, by rw [Nat.add_assoc]; exact at' 5 (by omega) _ rfl, by rw [Nat.add_assoc]; exact at' 6 (by omega) _ rfl⟩
/-- what was planned of the one that is looked at -/
structure MineAt (w : World) (gm : Nat) (r : Option Int) (ma : Option Addr) (mc : Nat) (A : List Sh) : Prop where
  blk : w.heap[gm]? = some (.cells #[.int .i64 0, .int .i64 (r.getD 0), .slice ma A.length mc] 45 (0, 0))
  sh : ShlAt w ma mc A
  le : A.length ≤ 1000
theorem MineAt.later {w w' : World} {gm : Nat} {r : Option Int} {ma : Option Addr} {mc : Nat} {A : List Sh} (h : MineAt w gm r ma mc A) (hb : Below w.heap.size w w') : MineAt w' gm r ma mc A := ⟨(hb.block _ (blk_lt h.blk)).trans h.blk, h.sh.later hb, h.le⟩
theorem MineAt.set {w : World} {gm : Nat} {r : Option Int} {ma : Option Addr} {mc : Nat} {A : List Sh} (h : MineAt w gm r ma mc A) {g j : Nat} {cs : Array Value} {y : Nat × Nat} (hg : w.heap[g]? = some (.cells cs 76 y)) (hne : gm ≠ g) (u : Value) : MineAt (w.setCell ⟨g, j, none⟩ u) gm r ma mc A :=
  ⟨blk_else hne h.blk, h.sh.set hg (by decide) j u, h.le⟩
/-- both profiles, and what is told of them -/
structure StW (w : World) (s : S) (now : Int) (g h gm : Nat) (Fp Fo : List Stl) (i : Nat) (xk : Wt) (done : Bool) (r : Option Int) (A : List Sh) : Prop where
  p : ∃ fa fc, PrAt w g s now fa fc Fp
  o : ∃ fa fc, PrAt w h s now fa fc Fo
  okp : PrOk s now Fp
  oko : PrOk s now Fo
  lp : LenLe (flOf Fp) (1100 + 32 * i)
  lo : LenLe (flOf Fo) (1100 + 32 * i)
  st : StI s.nodes.length now (frL (flOf Fo)) (frL (flOf Fp)) xk done r A
  mine : ∃ ma mc, MineAt w gm r ma mc A
  nil : r = none → A = []
theorem placeS_16 {s : S} (h : Right s) (part : Int) (fs : List V) (many : Int) (need : V) : (placeS fs (partOf s part) many need).length ≤ 16 := by
  refine Nat.le_trans (placeS_len _ _ _ _) ?_
  unfold partOf
  by_cases hk : part.toNat < s.parts.length
  · rw [List.getD_eq_getElem?_getD, List.getElem?_eq_getElem hk, Option.getD_some]
    exact (part_rise h hk).2
  · rw [List.getD_eq_getElem?_getD, List.getElem?_eq_none (by omega)]
    simp
/-- what is planned can be taken -/
theorem plan_take {s : S} {now : Int} {F : List Stl} (hok : PrOk s now F) {y : Wn} {t : Int} (hf : First (frL (flOf F)) F.length now (wtOf s y.part y.many y.need y.wall) (some t)) :
    WinT now t y.wall ∧ RiseH F.length (-1) (placeS (lowsL (frL (flOf F)) F.length t y.wall) (partOf s y.part) y.many y.need) ∧ y.need.Ok ∧ CanTake (frL (flOf F)) F.length t y.wall y.need (placeS (lowsL (frL (flOf F)) F.length t y.wall) (partOf s y.part) y.many y.need) := by
  have hm := hf.1
  have o1 := okFr_of hok.ok
  rw [flOf_len] at o1
  have hr : RiseN F.length (-1) (wtOf s y.part y.many y.need y.wall).part := by rw [hok.len]; exact partOf_any hok.right y.part
  obtain ⟨h1, h2, h3⟩ := may_can o1 hr hm
  exact ⟨⟨hm.2.1, hm.2.2.1, hm.1.2.1, hm.1.2.2⟩, h1, h2, h3⟩
theorem prOk_next {s : S} {now : Int} {F F' : List Stl} (hok : PrOk s now F) {G : FL} (hG : flOf F' = G) (hl : G.length = F.length) (ho : OkFL G now) {B : Nat} (hB : LenLe G B) (hB2 : B ≤ 50000) : PrOk s now F' := by
  subst hG
  rw [flOf_len] at hl
  exact ⟨hok.right, hok.time, by rw [hl]; exact hok.len, ho, fun l h => by have := hB l h; omega⟩
set_option maxHeartbeats 16000000 in
theorem planStays_walk (v0 : Value) (v1 : Value) (v2 : Value) (w : World) (F0 : FWorld w v0) (F1 : FWns w v1) (F2 : FInt .u8 v2) :
    Calls Try.prog 4 #[v0, v1, v2] w fun e w' => e = .returned (.bool true) ∧ Below w.heap.size w w' := by
  obtain ⟨s, now, ra, rc, R, ba, bc, B, rfl, HS, HR, HB⟩ := F0
  obtain ⟨wa, wc, l, rfl, HWN, hx64⟩ := F1
  obtain ⟨n8, rfl, h8⟩ := F2
  have HSR := Lib.hid HS
  have HRR := Lib.hid HR
  have HBR := Lib.hid HB
  have HWR := Lib.hid HWN
  have HX64 := Lib.hid hx64
  have HFW := Lib.hid (fun (w' : World) h1 h2 => few13 s now ra rc R ba bc B w' h1 h2)
  clear HS HR HB HWN hx64
  go_enter Try.func4, Try.ntmps4
  go_upto_region 1 with fail
  generalize hw0 : World.alloc w _ = w0
  have hb0 : Below w.heap.size w w0 := by rw [← hw0]; exact (Below.refl _ _).alloc (Nat.le_refl _) _
  have HW0 : Hid (WdBox w0 w.heap.size s now ra R.length rc ba B.length bc) := Lib.hid (WdBox.of (by rw [← hw0]; exact blk_top rfl))
  clear hw0
  obtain ⟨gw, hgw⟩ : ∃ gw, w.heap.size = gw := ⟨_, rfl⟩
  rw [hgw] at HW0 ⊢
  clear hgw
  go_wp2_with fail
  refine (awake13 w0).mono ?_; rintro e w1 ⟨rfl, hb1⟩
  have k1 := hb0.trans (hb1.mono hb0.size)
  have HW1 := Lib.hid (HW0.out.later hb1)
  clear HW0
  go_wp2_with (refine wpList_load_wd (s := s) rfl (.tmp 3) rfl rfl HW1.out ?_)
  refine (HFW.out w1 (HSR.out.later k1) (HRR.out.later k1)).mono ?_; rintro e w2 ⟨rfl, hb2⟩
  have k2 := k1.trans (hb2.mono k1.size)
  have HW2 := Lib.hid (HW1.out.later hb2)
  clear HW1 HFW
  have hcase : (FewW s R B ∧ l.length ≤ 8 ∧ l.length ≠ 0) ∨ fewW s R B = false ∨ (fewW s R B = true ∧ decide (8 < l.length) = true) ∨ (fewW s R B = true ∧ decide (8 < l.length) = false ∧ l.length = 0) := by
    by_cases h1 : FewW s R B
    · by_cases h2 : l.length ≤ 8
      · by_cases h3 : l.length = 0
        · exact .inr (.inr (.inr ⟨decide_eq_true h1, decide_eq_false (by omega), h3⟩))
        · exact .inl ⟨h1, h2, h3⟩
      · exact .inr (.inr (.inl ⟨decide_eq_true h1, decide_eq_true (by omega)⟩))
    · exact .inr (.inl (decide_eq_false h1))
  rcases hcase with ⟨hfew, hl8, hl0⟩ | hh | ⟨hh, h8l⟩ | ⟨hh, h8l, h0l⟩
  · rw [show fewW s R B = true from decide_eq_true hfew]
    have g8 : decide (8 < l.length) = false := decide_eq_false (by omega)
    have g8i : decide ((8 : Int) < (l.length : Int)) = false := decide_eq_false (by omega)
    have g0 : ((l.length : Int) == 0) = false := by simp; intro h; exact hl0 (by rw [h]; rfl)
    have g0n : ¬ (l.length : Int) = 0 := by omega
    obtain ⟨hf0, hf1, hf2, hf3⟩ := hfew
    have hss : SmallS s := ⟨fun p hp => by have := hf0.2.2.2.1 p hp; omega, fun q hq => by have := hf0.2.2.2.2 q hq; omega⟩
    have HNEW := Lib.hid (fun (w' : World) h1 h2 h3 => pNew s hss now ra rc R hf1 hf3 ba bc B (by omega) w' h1 h2 h3)
    obtain ⟨hbox, c18, c19, c20⟩ := HW2.out
    go_wp2_with (refine wpList_load_box (s := s) rfl (.tmp 36) rfl rfl hbox ?_)
    refine (HNEW.out w2 (HSR.out.later k2) (HRR.out.later k2) (HBR.out.later k2)).mono ?_
    rintro e w3 ⟨hb3, ⟨E, hE, rfl, _⟩ | ⟨g, fa, fc, Fl, rfl, hg, hpr, harg, hpl, hln⟩⟩
    · have hne : (E == 0) = false := by simpa using hE
      have k3 := k2.trans (hb3.mono k2.size)
      clear hbox
      go_wp2
      go_ret
      exact ⟨rfl, k3⟩
    · have k3 := k2.trans (hb3.mono k2.size)
      obtain ⟨hok, _, _⟩ := prOk_of harg hpl hln hf1
      have HOK := Lib.hid hok
      have HP3 := Lib.hid hpr
      have HLN3 : Hid (LenLe (flOf Fl) (1100 + 32 * 0)) := Lib.hid (fun l h => by have := hln l h; omega)
      have HCL := Lib.hid (fun (w' : World) h => pClone g s now fa fc Fl w' h)
      have hg3 := hg
      have hgw3 : w.heap.size ≤ g := Nat.le_trans k2.size hg
      clear hpr harg hpl hln hok hbox HW2 c18 c19 c20 HNEW
      go_wp2_with fail
      refine (HCL.out w3 HP3.out).mono ?_; rintro e w4 ⟨h, rfl, hh4, hp4, hb4⟩
      have k4 := k3.trans (hb4.mono k3.size)
      have hgh : g < h := Nat.lt_of_lt_of_le (blk_lt HP3.out.blk) hh4
      have HP4 := Lib.hid (HP3.out.later hb4)
      have HO4 := Lib.hid hp4
      clear hp4 HCL
      go_upto_region 11 with fail
      generalize hw5 : World.alloc w4 _ = w5
      have hb5 : Below w4.heap.size w4 w5 := by rw [← hw5]; exact (Below.refl _ _).alloc (Nat.le_refl _) _
      have HM5 : Hid (w5.heap[w4.heap.size]? = some (.cells #[.int .i64 0, .int .i64 0, .slice none 0 0] 45 (0, 0))) := Lib.hid (by rw [← hw5]; exact heap_alloc_new _ _)
      clear hw5
      have k5 := k4.trans (hb5.mono k4.size)
      have hhm : h < w4.heap.size := blk_lt HO4.out.blk
      have hmw : w.heap.size ≤ w4.heap.size := k4.size
      generalize hgm : w4.heap.size = gm at HM5 hhm hmw ⊢
      clear hgm
      have hkk : ∃ kn : Nat, kn < l.length ∧ (wrap64 n8).tmod (l.length : Int) = (kn : Int) := by
        have hn8 : 0 ≤ wrap64 n8 := by
          have := u8_of_wf h8
          unfold wrap64; omega
        refine ⟨((wrap64 n8).tmod (l.length : Int)).toNat, ?_, ?_⟩
        · have h1 := Int.tmod_lt_of_pos (wrap64 n8) (show (0 : Int) < l.length by omega)
          have h2 := Int.tmod_nonneg (l.length : Int) hn8
          omega
        · have h2 := Int.tmod_nonneg (l.length : Int) hn8
          omega
      obtain ⟨kn, hkn, hkq⟩ := hkk
      rw [hkq]
      have HKQ := Lib.hid hkq
      clear hkq
      obtain ⟨yk, hyk⟩ : ∃ yk, l[kn] = yk := ⟨_, rfl⟩
      have HYK := Lib.hid hyk
      clear hyk
      have HST : Hid (StW w5 s now g h gm Fl Fl 0 (wtOf s yk.part yk.many yk.need yk.wall) (decide (kn < 0)) none []) := Lib.hid
        ⟨⟨_, _, HP4.out.later hb5⟩, ⟨_, _, HO4.out.later hb5⟩, HOK.out, HOK.out, HLN3.out, HLN3.out, by rw [decide_eq_false (Nat.not_lt_zero kn)]; exact stI_start _ _ _ _ _ _, ⟨none, 0, HM5.out, shl_none _, by simp⟩, fun _ => rfl⟩
      clear HOK HP3 HP4 HO4 HM5 HLN3 hg hg3 hh4 hb0 hb1 hb2 hb3 hb4 hb5
      go_wp2
      go_loopw [12, 60] (fun v12 v wr => ∃ (i : Nat) (Fp Fo : List Stl) (r : Option Int) (A : List Sh), i ≤ l.length ∧ v = .int .i64 i ∧ v12 = .bool r.isSome ∧ Below w.heap.size w wr ∧ gm < wr.heap.size ∧ Hid (StW wr s now g h gm Fp Fo i (wtOf s yk.part yk.many yk.need yk.wall) (decide (kn < i)) r A)) (fun _ v _ => l.length - (intOf v).toNat)
      case atStart => exact ⟨0, Fl, Fl, none, [], Nat.zero_le _, rfl, rfl, k5, (by obtain ⟨ma, mc, hm⟩ := HST.out.mine; exact blk_lt hm.blk), HST⟩
      case round =>
        rename World => wr
        obtain ⟨i, Fp, Fo, r, A, hi, rfl, rfl, hb, hgmr, HW⟩ := hrel
        have hz := hb.size
        by_cases hlt : i < l.length
        · obtain ⟨b, off, ea, hbq, q0, q1, q2, q3, q4, q5, q6⟩ := (RowAt.later HWR.out hb).wn hlt
          subst ea
          have hy64 := HX64.out l[i] (List.getElem_mem hlt)
          have HEQ : Hid (i = kn → l[i] = yk) := Lib.hid (fun e => by subst e; exact HYK.out)
          generalize l[i] = y at q0 q1 q2 q3 q4 q5 q6 hy64 HEQ
          obtain ⟨⟨pfa, pfc, hpp⟩, ⟨ofa, ofc, hpo⟩, hokp, hoko, hlp, hlo, hst, ⟨ma, mc, hmine⟩, hnil⟩ := HW.out
          have HPP := Lib.hid hpp
          have HPO := Lib.hid hpo
          have HMI := Lib.hid hmine
          have HOKP := Lib.hid hokp
          have HOKO := Lib.hid hoko
          have HLP := Lib.hid hlp
          have HLO := Lib.hid hlo
          have HSTI := Lib.hid hst
          have HE := Lib.hid (fun (w' : World) h1 h2 => pEarliest g s now pfa pfc Fp hokp y.part y.many hy64.1 y.need y.wall w' h1 h2)
          clear hpp hpo hmine hokp hoko hlp hlo hst HW
          go_upto_region 15 with fail
          generalize hwA : World.alloc wr _ = wA
          have hbA : Below wr.heap.size wr wA := by rw [← hwA]; exact (Below.refl _ _).alloc (Nat.le_refl _) _
          have HXB : Hid (WnBox wA wr.heap.size y) := Lib.hid (WnBox.of (by rw [← hwA]; exact heap_alloc_new _ _))
          clear hwA q0 q1 q2 q3 q4 q5 q6
          have kA := hb.trans (hbA.mono hz)
          obtain ⟨x0, x1, x2, x3, x4, x5, x6⟩ := HXB.out
          have hyb : gm < wr.heap.size := hgmr
          have HPA := Lib.hid (HPP.out.later hbA)
          go_wp2_with fail
          refine (HE.out wA HPA.out (HSR.out.later kA)).mono ?_
          rintro e wB ⟨hbB, ⟨hfst, rfl⟩ | ⟨t, la, lc, hfst, rfl, hsh⟩⟩
          · have kB := kA.trans (hbB.mono kA.size)
            have hrB : Below wr.heap.size wr wB := hbA.trans (hbB.mono hbA.size)
            clear HE HPA x0 x1 x2 x3 x4 x5 x6
            have hgB : gm < wB.heap.size := Nat.lt_of_lt_of_le hgmr hrB.size
            go_upto_region 16 with fail
            generalize hwC : World.alloc wB _ = wC
            have hbC : Below wB.heap.size wB wC := by rw [← hwC]; exact (Below.refl _ _).alloc (Nat.le_refl _) _
            have p0 : wC.cell? ⟨wB.heap.size, 0, none⟩ = some (.int .i64 0) := by rw [← hwC]; simp [go_sem]
            have p1 : wC.cell? ⟨wB.heap.size, 1, none⟩ = some (.int .i64 0) := by rw [← hwC]; simp [go_sem]
            have p2 : wC.cell? ⟨wB.heap.size, 2, none⟩ = some (.slice none 0 0) := by rw [← hwC]; simp [go_sem]
            clear hwC
            have kC := kB.trans (hbC.mono kB.size)
            have hrC : Below wr.heap.size wr wC := hrB.trans (hbC.mono hrB.size)
            have hgC : gm < wC.heap.size := Nat.lt_of_lt_of_le hgB hbC.size
            have HMC := Lib.hid (HMI.out.later hrC)
            have HPC := Lib.hid (HPP.out.later hrC)
            have HOC := Lib.hid (HPO.out.later hrC)
            generalize wB.heap.size = pb at p0 p1 p2 ⊢
            by_cases hik : i = kn
            · subst hik
              have hy := HEQ.out rfl
              subst hy
              have HN := Lib.hid (by
                have h1 := HSTI.out
                rw [decide_eq_false (Nat.lt_irrefl i)] at h1
                have o1 := okFr_of HOKP.out.ok
                rw [flOf_len, HOKP.out.len] at o1
                have h2 := hfst
                rw [HOKP.out.len] at h2
                exact stI_none h1 o1 h2)
              go_wp2_with ((refine wpList_store_row rfl 45 (.tmp 11) (.tmp 81) rfl gm _ rfl rfl 45 #[.int .i64 0, .int .i64 (r.getD 0), .slice ma A.length mc] HMC.out.blk (by kernel_rfl) (by simp) (by simp [Value.oneCell']) ?_; generalize hwD : World.setRow _ _ _ = wD))
              have HWN2 : Hid (StW wD s now g h gm Fp Fo (i + 1) (wtOf s y.part y.many y.need y.wall) (decide (i < i + 1)) none []) := Lib.hid (by
                rw [← hwD, decide_eq_true (Nat.lt_succ_self i)]
                exact ⟨⟨_, _, HPC.out.setRow HMC.out.blk (by omega) _⟩, ⟨_, _, HOC.out.setRow HMC.out.blk (by omega) _⟩, HOKP.out, HOKO.out, fun x hx => by have := HLP.out x hx; omega, fun x hx => by have := HLO.out x hx; omega, HN.out, ⟨none, 0, setRow_heap _ _ _ _ _ _ HMC.out.blk, shl_none _, by simp⟩, fun _ => rfl⟩)
              have hbD : Below w.heap.size w wD := by rw [← hwD]; exact below_setRow kC hmw _
              have hgD : gm < wD.heap.size := by rw [← hwD]; simpa using hgC
              clear hwD hfst
              go_roundw
              case rel => exact ⟨i + 1, Fp, Fo, none, [], by omega, by go_num, rfl, hbD, hgD, HWN2⟩
              case measure => simp [intOf]; omega
            · have hke : ((i : Int) == (kn : Int)) = false := by simp; omega
              have hkeN : (i == kn) = false := by simp [hik]
              have HWN2 : Hid (StW wC s now g h gm Fp Fo (i + 1) (wtOf s yk.part yk.many yk.need yk.wall) (decide (kn < i + 1)) r A) := Lib.hid (by
                rw [show decide (kn < i + 1) = decide (kn < i) by rw [decide_eq_decide]; omega]
                exact ⟨⟨_, _, HPC.out⟩, ⟨_, _, HOC.out⟩, HOKP.out, HOKO.out, fun x hx => by have := HLP.out x hx; omega, fun x hx => by have := HLO.out x hx; omega, HSTI.out, ⟨_, _, HMC.out⟩, hnil⟩)
              clear hfst
              go_wp2
              go_roundw
              case rel => exact ⟨i + 1, Fp, Fo, r, A, by omega, by go_num, rfl, kC, hgC, HWN2⟩
              case measure => simp [intOf]; omega
          · have kB := kA.trans (hbB.mono kA.size)
            have hrB : Below wr.heap.size wr wB := hbA.trans (hbB.mono hbA.size)
            have hgB : gm < wB.heap.size := Nat.lt_of_lt_of_le hgmr hrB.size
            obtain ⟨htW, htR, htN, htC⟩ := plan_take HOKP.out hfst
            have ht16 := placeS_16 HOKP.out.right y.part (lowsL (frL (flOf Fp)) Fp.length t y.wall) y.many y.need
            obtain ⟨L, hL⟩ : ∃ L, placeS (lowsL (frL (flOf Fp)) Fp.length t y.wall) (partOf s y.part) y.many y.need = L := ⟨_, rfl⟩
            have HLE := Lib.hid hL
            rw [hL] at htR htC ht16 hsh ⊢
            clear hL HE HPA x0 x1
            obtain ⟨Gp, gp0, gp1, gp2, gp3, gp4, gp5⟩ := take_step HOKP.out HLP.out htW htR htN htC
            have HTP := Lib.hid (fun (w' : World) h1 h2 => pTake g s now pfa pfc Fp HOKP.out (fun x hx => by have := HLP.out x hx; omega) t la lc L (by omega) y.need y.wall htW htR htN Gp gp0 w' h1 h2)
            have HF := Lib.hid hfst
            have HSHB := Lib.hid hsh
            clear hfst hsh
            replace x2 := carry hbB x2
            replace x3 := carry hbB x3
            replace x4 := carry hbB x4
            replace x5 := carry hbB x5
            replace x6 := carry hbB x6
            go_upto_region 16 with fail
            generalize hwC : World.alloc wB _ = wC
            have hbC : Below wB.heap.size wB wC := by rw [← hwC]; exact (Below.refl _ _).alloc (Nat.le_refl _) _
            have p0 : wC.cell? ⟨wB.heap.size, 0, none⟩ = some (.int .i64 0) := by rw [← hwC]; simp [go_sem]
            have p1 : wC.cell? ⟨wB.heap.size, 1, none⟩ = some (.int .i64 t) := by rw [← hwC]; simp [go_sem]
            have p2 : wC.cell? ⟨wB.heap.size, 2, none⟩ = some (.slice la L.length lc) := by rw [← hwC]; simp [go_sem]
            clear hwC
            have kC := kB.trans (hbC.mono kB.size)
            have hrC : Below wr.heap.size wr wC := hrB.trans (hbC.mono hrB.size)
            have hgC : gm < wC.heap.size := Nat.lt_of_lt_of_le hgB hbC.size
            replace x2 := carry hbC x2
            replace x3 := carry hbC x3
            replace x4 := carry hbC x4
            replace x5 := carry hbC x5
            replace x6 := carry hbC x6
            have HMC := Lib.hid (HMI.out.later hrC)
            have HPC := Lib.hid (HPP.out.later hrC)
            have HOC := Lib.hid (HPO.out.later hrC)
            have HSC := Lib.hid (HSHB.out.later hbC)
            have hpbg : gm < wB.heap.size := hgB
            generalize wB.heap.size = pb at p0 p1 p2 hpbg ⊢
            generalize wr.heap.size = yb at x2 x3 x4 x5 x6 hyb ⊢
            by_cases hik : i = kn
            · subst hik
              have hy := HEQ.out rfl
              subst hy
              go_upto_region 18 with ((refine wpList_store_row rfl 45 (.tmp 11) (.tmp 81) rfl gm _ rfl rfl 45 #[.int .i64 0, .int .i64 (r.getD 0), .slice ma A.length mc] HMC.out.blk (by kernel_rfl) (by simp) (by simp [Value.oneCell']) ?_; generalize hwD : World.setRow _ _ _ = wD))
              have HMD : Hid (MineAt wD gm (some t) la lc L) := Lib.hid (by rw [← hwD]; exact ⟨setRow_heap _ _ _ _ _ _ HMC.out.blk, HSC.out.setRow HMC.out.blk (by decide) _, by omega⟩)
              have HPD : Hid (PrAt wD g s now pfa pfc Fp) := Lib.hid (by rw [← hwD]; exact HPC.out.setRow HMC.out.blk (by omega) _)
              have HOD : Hid (PrAt wD h s now ofa ofc Fo) := Lib.hid (by rw [← hwD]; exact HOC.out.setRow HMC.out.blk (by omega) _)
              have hbD : Below w.heap.size w wD := by rw [← hwD]; exact below_setRow kC hmw _
              have hgD : gm < wD.heap.size := by rw [← hwD]; simpa using hgC
              replace p1 : wD.cell? ⟨pb, 1, none⟩ = some (.int .i64 t) := by rw [← hwD, cell_row_ne _ (by omega)]; exact p1
              replace p2 : wD.cell? ⟨pb, 2, none⟩ = some (.slice la L.length lc) := by rw [← hwD, cell_row_ne _ (by omega)]; exact p2
              replace x2 : wD.cell? ⟨yb, 2, none⟩ = some (.int .i64 y.need.cpu) := by rw [← hwD, cell_row_ne _ (by omega)]; exact x2
              replace x3 : wD.cell? ⟨yb, 3, none⟩ = some (.int .i64 y.need.mem) := by rw [← hwD, cell_row_ne _ (by omega)]; exact x3
              replace x4 : wD.cell? ⟨yb, 4, none⟩ = some (.int .i64 y.need.gpu) := by rw [← hwD, cell_row_ne _ (by omega)]; exact x4
              replace x5 : wD.cell? ⟨yb, 5, none⟩ = some (.int .i64 y.need.lic) := by rw [← hwD, cell_row_ne _ (by omega)]; exact x5
              replace x6 : wD.cell? ⟨yb, 6, none⟩ = some (.int .i64 y.wall) := by rw [← hwD, cell_row_ne _ (by omega)]; exact x6
              clear hwD HMC HPC HOC HSC p0
              have HN := Lib.hid (fun (Fq : List Stl) (hG : flOf Fq = Gp) => (show StI s.nodes.length now (frL (flOf Fo)) (frL (flOf Fq)) (wtOf s y.part y.many y.need y.wall) true (some t) L from by
                have h1 := HSTI.out
                rw [decide_eq_false (Nat.lt_irrefl i)] at h1
                have o1 := okFr_of HOKP.out.ok
                have hln := HOKP.out.len
                rw [flOf_len, hln] at o1
                have h2 := HF.out
                rw [hln] at h2
                have h3 := HLE.out
                rw [hln] at h3
                exact stI_mine h1 o1 h2 h3.symm (fun k => need4_nn htN htR k) (fun k hk u hu => by rw [hG]; exact gp4 k (by rw [hln]; exact hk) u hu)))
              go_wp2_with fail
              refine (HTP.out wD HPD.out HMD.out.sh.st.row).mono ?_
              rintro e wE ⟨w9, a9, c9, F9, rfl, hb9, hwE, htk⟩
              have hkE : Below w.heap.size w wE := by rw [hwE]; exact (hbD.trans (hb9.mono hbD.size)).setCell (p := ⟨g, 2, none⟩) hgw3 _
              have hgE : gm < wE.heap.size := by rw [hwE]; have := hb9.size; simp; omega
              have HWN2 : Hid (StW wE s now g h gm F9 Fo (i + 1) (wtOf s y.part y.many y.need y.wall) (decide (i < i + 1)) (some t) L) := Lib.hid (by
                rw [hwE, decide_eq_true (Nat.lt_succ_self i)]
                have hp9 := HPD.out.later hb9
                exact ⟨⟨_, _, hp9.taken htk.at_ htk.len⟩, ⟨_, _, (HOD.out.later hb9).other hp9.blk (by omega) _⟩, prOk_next HOKP.out htk.is gp1 gp2 gp3 (by omega), HOKO.out, by rw [htk.is]; exact fun x hx => by have := gp3 x hx; omega, fun x hx => by have := HLO.out x hx; omega, HN.out F9 htk.is, ⟨_, _, (HMD.out.later hb9).set hp9.blk (by omega) _⟩, fun hx => (by cases hx)⟩)
              clear hwE htk HN HTP gp0 gp1 gp2 gp3 gp4 gp5 htW htR htN htC
              go_wp2
              go_roundw
              case rel => exact ⟨i + 1, F9, Fo, some t, L, by omega, by go_num, rfl, hkE, hgE, HWN2⟩
              case measure => simp [intOf]; omega
            · have hke : ((i : Int) == (kn : Int)) = false := by simp; omega
              have hkeN : (i == kn) = false := by simp [hik]
              have hfl : Fo.length = Fp.length := by rw [HOKO.out.len, HOKP.out.len]
              have htRo : RiseH Fo.length (-1) L := by rw [hfl]; exact htR
              have htCo : CanTake (frL (flOf Fo)) Fo.length t y.wall y.need L := by
                have h2 := htC
                rw [HOKP.out.len] at h2
                rw [HOKO.out.len]
                exact stI_can HSTI.out htW.1 h2
              obtain ⟨Gq, gq0, gq1, gq2, gq3, gq4, gq5⟩ := take_step HOKO.out HLO.out htW htRo htN htCo
              have HTO := Lib.hid (fun (w' : World) h1 h2 => pTake h s now ofa ofc Fo HOKO.out (fun x hx => by have := HLO.out x hx; omega) t la lc L (by omega) y.need y.wall htW htRo htN Gq gq0 w' h1 h2)
              have HN := Lib.hid (fun (Fq Fr2 : List Stl) (hG : flOf Fq = Gp) (hH : flOf Fr2 = Gq) => (show StI s.nodes.length now (frL (flOf Fr2)) (frL (flOf Fq)) (wtOf s yk.part yk.many yk.need yk.wall) (decide (kn < i)) r A from by
                have hlo := HOKO.out.len
                have hlp := HOKP.out.len
                rw [hG, hH]
                refine stI_both HSTI.out (t := t) (wall := y.wall) (need := y.need) (L := L) ?_ (fun k hk u hu => gq4 k (by rw [hlo]; exact hk) u hu) (fun k hk u hu => gp4 k (by rw [hlp]; exact hk) u hu)
                rw [← hlo]; exact gq5))
              have HOKP' := Lib.hid (fun (Fq : List Stl) (hG : flOf Fq = Gp) => prOk_next HOKP.out hG gp1 gp2 gp3 (by omega))
              have HOKO' := Lib.hid (fun (Fq : List Stl) (hG : flOf Fq = Gq) => prOk_next HOKO.out hG gq1 gq2 gq3 (by omega))
              have HLP' := Lib.hid (fun (Fq : List Stl) (hG : flOf Fq = Gp) => (show LenLe (flOf Fq) (1100 + 32 * (i + 1)) from by rw [hG]; exact fun x hx => by have := gp3 x hx; omega))
              have HLO' := Lib.hid (fun (Fq : List Stl) (hG : flOf Fq = Gq) => (show LenLe (flOf Fq) (1100 + 32 * (i + 1)) from by rw [hG]; exact fun x hx => by have := gq3 x hx; omega))
              clear gp0 gp1 gp2 gp3 gp4 gp5 gq0 gq1 gq2 gq3 gq4 gq5 htW htR htRo htN htC htCo p0
              go_wp2_with fail
              refine (HTP.out wC HPC.out HSC.out.st.row).mono ?_
              rintro e wE ⟨w9, a9, c9, F9, rfl, hb9, hwE, htk⟩
              have hp9 := HPC.out.later hb9
              have hkE : Below w.heap.size w wE := by rw [hwE]; exact (kC.trans (hb9.mono kC.size)).setCell (p := ⟨g, 2, none⟩) hgw3 _
              have hgE : gm < wE.heap.size := by rw [hwE]; have := hb9.size; simp; omega
              have HPE : Hid (PrAt wE g s now a9 c9 F9) := Lib.hid (by rw [hwE]; exact hp9.taken htk.at_ htk.len)
              have HOE : Hid (PrAt wE h s now ofa ofc Fo) := Lib.hid (by rw [hwE]; exact (HOC.out.later hb9).other hp9.blk (by omega) _)
              have HSE : Hid (ShlAt wE la lc L) := Lib.hid (by rw [hwE]; exact (HSC.out.later hb9).set hp9.blk (by decide) 2 _)
              have HME : Hid (MineAt wE gm r ma mc A) := Lib.hid (by rw [hwE]; exact (HMC.out.later hb9).set hp9.blk (by omega) _)
              replace p1 : wE.cell? ⟨pb, 1, none⟩ = some (.int .i64 t) := by rw [hwE, cell_set_ne _ (by omega)]; exact carry hb9 p1
              replace p2 : wE.cell? ⟨pb, 2, none⟩ = some (.slice la L.length lc) := by rw [hwE, cell_set_ne _ (by omega)]; exact carry hb9 p2
              replace x2 : wE.cell? ⟨yb, 2, none⟩ = some (.int .i64 y.need.cpu) := by rw [hwE, cell_set_ne _ (by omega)]; exact carry hb9 x2
              replace x3 : wE.cell? ⟨yb, 3, none⟩ = some (.int .i64 y.need.mem) := by rw [hwE, cell_set_ne _ (by omega)]; exact carry hb9 x3
              replace x4 : wE.cell? ⟨yb, 4, none⟩ = some (.int .i64 y.need.gpu) := by rw [hwE, cell_set_ne _ (by omega)]; exact carry hb9 x4
              replace x5 : wE.cell? ⟨yb, 5, none⟩ = some (.int .i64 y.need.lic) := by rw [hwE, cell_set_ne _ (by omega)]; exact carry hb9 x5
              replace x6 : wE.cell? ⟨yb, 6, none⟩ = some (.int .i64 y.wall) := by rw [hwE, cell_set_ne _ (by omega)]; exact carry hb9 x6
              have htki := htk.is
              clear hwE htk hp9 HPC HOC HMC HSC HTP
              go_wp2_with fail
              refine (HTO.out wE HOE.out HSE.out.st.row).mono ?_
              rintro e wF ⟨wG, aG, cG, FG, rfl, hbG, hwF, htl⟩
              have hkF : Below w.heap.size w wF := by rw [hwF]; exact (hkE.trans (hbG.mono hkE.size)).setCell (p := ⟨h, 2, none⟩) (by show w.heap.size ≤ h; omega) _
              have hgF : gm < wF.heap.size := by rw [hwF]; have := hbG.size; simp; omega
              have HWN2 : Hid (StW wF s now g h gm F9 FG (i + 1) (wtOf s yk.part yk.many yk.need yk.wall) (decide (kn < i + 1)) r A) := Lib.hid (by
                rw [hwF, show decide (kn < i + 1) = decide (kn < i) by rw [decide_eq_decide]; omega]
                have hoG := HOE.out.later hbG
                exact ⟨⟨_, _, (HPE.out.later hbG).other hoG.blk (by omega) _⟩, ⟨_, _, hoG.taken htl.at_ htl.len⟩, HOKP'.out F9 htki, HOKO'.out FG htl.is, HLP'.out F9 htki, HLO'.out FG htl.is, HN.out F9 FG htki htl.is, ⟨_, _, (HME.out.later hbG).set hoG.blk (by omega) _⟩, hnil⟩)
              clear hwF htl htki HN HTO HOKP' HOKO' HLP' HLO' HPE HOE HSE HME
              go_wp2
              go_roundw
              case rel => exact ⟨i + 1, F9, FG, r, A, by omega, by go_num, rfl, hkF, hgF, HWN2⟩
              case measure => simp [intOf]; omega
        · have hil : i = l.length := by omega
          subst hil
          obtain ⟨b, off, ea, hbq, q0, q1, q2, q3, q4, q5, q6⟩ := (RowAt.later HWR.out hb).wn hkn
          subst ea
          have hy64 := HX64.out l[kn] (List.getElem_mem hkn)
          rw [HYK.out] at q0 q1 q2 q3 q4 q5 q6 hy64
          obtain ⟨⟨pfa, pfc, hpp⟩, ⟨ofa, ofc, hpo⟩, hokp, hoko, hlp, hlo, hst, ⟨ma, mc, hmine⟩, hnil⟩ := HW.out
          rw [decide_eq_true hkn] at hst
          have HEND := Lib.hid (show First (frL (flOf Fo)) Fo.length now (wtOf s yk.part yk.many yk.need yk.wall) r ∧ ∀ t, r = some t → placeS (lowsL (frL (flOf Fo)) Fo.length t yk.wall) (partOf s yk.part) yk.many yk.need = A from by
            have o1 := okFr_of hoko.ok
            have o2 := okFr_of hokp.ok
            rw [flOf_len, hoko.len] at o1
            rw [flOf_len, hokp.len] at o2
            rw [hoko.len]
            exact stI_end (x := wtOf s yk.part yk.many yk.need yk.wall) (fun h => h.2.1) (partOf_any hoko.right yk.part) hst o1 o2)
          have HPO := Lib.hid hpo
          have HMI := Lib.hid hmine
          have HE := Lib.hid (fun (w' : World) h1 h2 => pEarliest h s now ofa ofc Fo hoko yk.part yk.many hy64.1 yk.need yk.wall w' h1 h2)
          clear hpp hpo hmine hokp hoko hlp hlo hst HW
          go_upto_region 23 with fail
          generalize hwA : World.alloc wr _ = wA
          have hbA : Below wr.heap.size wr wA := by rw [← hwA]; exact (Below.refl _ _).alloc (Nat.le_refl _) _
          have HXB : Hid (WnBox wA wr.heap.size yk) := Lib.hid (WnBox.of (by rw [← hwA]; exact heap_alloc_new _ _))
          clear hwA q0 q1 q2 q3 q4 q5 q6
          have kA := hb.trans (hbA.mono hz)
          obtain ⟨x0, x1, x2, x3, x4, x5, x6⟩ := HXB.out
          have HPA := Lib.hid (HPO.out.later hbA)
          go_wp2_with fail
          refine (HE.out wA HPA.out (HSR.out.later kA)).mono ?_
          rintro e wB ⟨hbB, hpost⟩
          have kB := kA.trans (hbB.mono kA.size)
          have hrB : Below wr.heap.size wr wB := hbA.trans (hbB.mono hbA.size)
          have hMB := HMI.out.later hrB
          obtain ⟨hf1, hpl⟩ := HEND.out
          clear HE HPA HXB x0 x1 x2 x3 x4 x5 x6 HEND HPO HMI
          rcases hpost with ⟨hfst, rfl⟩ | ⟨t, la, lc, hfst, rfl, hsh⟩
          · have hr := first_uniq hf1 hfst
            subst hr
            have hA := hnil rfl
            subst hA
            clear hf1 hfst hpl
            have HMB := Lib.hid hMB
            clear hMB
            go_upto_region 24 with fail
            generalize hwC : World.alloc wB _ = wC
            have hbC : Below wB.heap.size wB wC := by rw [← hwC]; exact (Below.refl _ _).alloc (Nat.le_refl _) _
            have p0 : wC.cell? ⟨wB.heap.size, 0, none⟩ = some (.int .i64 0) := by rw [← hwC]; simp [go_sem]
            have p1 : wC.cell? ⟨wB.heap.size, 1, none⟩ = some (.int .i64 0) := by rw [← hwC]; simp [go_sem]
            have p2 : wC.cell? ⟨wB.heap.size, 2, none⟩ = some (.slice none 0 0) := by rw [← hwC]; simp [go_sem]
            clear hwC
            have kC := kB.trans (hbC.mono kB.size)
            have HMC := Lib.hid (HMB.out.later hbC)
            have m0 : wC.cell? ⟨gm, 0, none⟩ = some (.int .i64 0) := blk_cell HMC.out.blk 0 (by simp)
            have m1 : wC.cell? ⟨gm, 1, none⟩ = some (.int .i64 0) := blk_cell HMC.out.blk 1 (by simp)
            have m2 : wC.cell? ⟨gm, 2, none⟩ = some (.slice ma 0 mc) := blk_cell HMC.out.blk 2 (by simp)
            have HSA := Lib.hid (fun (w' : World) h1 h2 => rSame13 0 ma none mc 0 [] (by simp) w' h1 h2)
            generalize wB.heap.size = pb at p0 p1 p2 ⊢
            go_wp2_with fail
            refine (HSA.out wC HMC.out.sh.st (shl_none wC).st).mono ?_
            rintro e wD ⟨rfl, hbD⟩
            have kD := kC.trans (hbD.mono kC.size)
            go_wp2
            go_ret
            exact ⟨rfl, kD⟩
          · have hr := first_uniq hf1 hfst
            subst hr
            have hA := hpl t rfl
            rw [hA] at hsh ⊢
            clear hf1 hfst hpl hA hnil
            have HMB := Lib.hid hMB
            have HSB := Lib.hid hsh
            clear hMB hsh
            go_upto_region 24 with fail
            generalize hwC : World.alloc wB _ = wC
            have hbC : Below wB.heap.size wB wC := by rw [← hwC]; exact (Below.refl _ _).alloc (Nat.le_refl _) _
            have p0 : wC.cell? ⟨wB.heap.size, 0, none⟩ = some (.int .i64 0) := by rw [← hwC]; simp [go_sem]
            have p1 : wC.cell? ⟨wB.heap.size, 1, none⟩ = some (.int .i64 t) := by rw [← hwC]; simp [go_sem]
            have p2 : wC.cell? ⟨wB.heap.size, 2, none⟩ = some (.slice la A.length lc) := by rw [← hwC]; simp [go_sem]
            clear hwC
            have kC := kB.trans (hbC.mono kB.size)
            have HMC := Lib.hid (HMB.out.later hbC)
            have HSC := Lib.hid (HSB.out.later hbC)
            have m0 : wC.cell? ⟨gm, 0, none⟩ = some (.int .i64 0) := blk_cell HMC.out.blk 0 (by simp)
            have m1 : wC.cell? ⟨gm, 1, none⟩ = some (.int .i64 t) := blk_cell HMC.out.blk 1 (by simp)
            have m2 : wC.cell? ⟨gm, 2, none⟩ = some (.slice ma A.length mc) := blk_cell HMC.out.blk 2 (by simp)
            have HSA := Lib.hid (fun (w' : World) h1 h2 => rSame13 t ma la mc lc A (by have := HMC.out.le; omega) w' h1 h2)
            generalize wB.heap.size = pb at p0 p1 p2 ⊢
            go_wp2_with fail
            refine (HSA.out wC HMC.out.sh.st HSC.out.st).mono ?_
            rintro e wD ⟨rfl, hbD⟩
            have kD := kC.trans (hbD.mono kC.size)
            go_wp2
            go_ret
            exact ⟨rfl, kD⟩
  · rw [hh]
    go_wp2
    go_ret
    exact ⟨rfl, k2⟩
  · rw [hh]
    have h8i : decide ((8 : Int) < (l.length : Int)) = true := decide_eq_true (by have := of_decide_eq_true h8l; omega)
    go_wp2
    go_ret
    exact ⟨rfl, k2⟩
  · rw [hh]
    have h8i : decide ((8 : Int) < (l.length : Int)) = false := decide_eq_false (by omega)
    have h0i : ((l.length : Int) == 0) = true := by rw [h0l]; rfl
    have h0j : (l.length : Int) = 0 := by omega
    go_wp2
    go_ret
    exact ⟨rfl, k2⟩
end Go.Proofs.Ytcdajfiohhbdgaa.W
