/-
  Several texts in one: PnEarl, PnSmall.
-/
import Derived.Test.YtcdajfiohhbdgaaPnRises
import Derived.ScopeJumps
import Derived.WalkMore

/-
  plan's When, as May says; contract of plan's Earliest.
-/
namespace Go.Proofs.Ytcdajfiohhbdgaa.W
set_option maxRecDepth 100000
set_option linter.unusedVariables false
set_option linter.unusedSimpArgs false
open Go.ChangeShapes Go.WideShapes Go.ChangeAt Go.RowKit

/-- what is asked for -/
def wtOf (s : S) (part many : Int) (need : V) (wall : Int) : Wt := ⟨PartOk s part ∧ 1 ≤ wall ∧ wall ≤ 65536, partOf s part, many, need, wall⟩
theorem partOf_at {s : S} {pt : Nat} (h : pt < s.parts.length) : partOf s pt = s.parts[pt].l := by simp [partOf, h]
theorem partOf_rise {s : S} (h : Right s) (part : Int) (hp : PartOk s part) : RiseN s.nodes.length (-1) (partOf s part) := by
  obtain ⟨k, rfl⟩ : ∃ k : Nat, part = (k : Int) := ⟨part.toNat, by have := hp.1; omega⟩
  have hk : k < s.parts.length := by have := hp.2; omega
  rw [partOf_at hk]
  exact (part_rise h hk).1
theorem partOf_none {s : S} (part : Int) (hp : ¬ PartOk s part) (h0 : 0 ≤ part) : partOf s part = [] := by
  have : ¬ part.toNat < s.parts.length := fun h => hp ⟨h0, by omega⟩
  simp [partOf, this]
theorem when_may {s : S} {now : Int} {F : List Stl} (hok : PrOk s now F) (part many : Int) (need : V) (wall t : Int) :
    (whenB s now (flOf F) part many need wall t = true ↔ May (frL (flOf F)) F.length now (wtOf s part many need wall) t) ∧
    (May (frL (flOf F)) F.length now (wtOf s part many need wall) t → whenS s now (flOf F) part many need wall t = placeS (lowsL (frL (flOf F)) F.length t wall) (partOf s part) many need) := by
  have key : ∀ (h : PartOk s part ∧ WinT now t wall), placeB (leastsP (flOf F) (partOf s part) t (t + wall)) (partOf s part) many need = placeB (lowsL (frL (flOf F)) F.length t wall) (partOf s part) many need ∧ placeS (leastsP (flOf F) (partOf s part) t (t + wall)) (partOf s part) many need = placeS (lowsL (frL (flOf F)) F.length t wall) (partOf s part) many need := by
    intro h
    have hr := partOf_rise hok.right part h.1
    rw [← hok.len, ← flOf_len] at hr
    have := leastsP_place hok.ok hr h.2.1 h.2.2.2.1 many need
    rw [flOf_len] at this
    exact this
  constructor
  · unfold whenB May wtOf
    by_cases h : PartOk s part ∧ WinT now t wall
    · rw [if_pos h, (key h).1]
      obtain ⟨h0, h1, h2, h3, h4⟩ := h
      exact ⟨fun x => ⟨⟨h0, h3, h4⟩, h1, h2, x⟩, fun x => x.2.2.2⟩
    · rw [if_neg h]
      exact ⟨fun x => (by cases x), fun x => absurd ⟨x.1.1, x.2.1, x.2.2.1, x.1.2.1, x.1.2.2⟩ h⟩
  · intro x
    have h : PartOk s part ∧ WinT now t wall := ⟨x.1.1, x.2.1, x.2.2.1, x.1.2.1, x.1.2.2⟩
    unfold whenS
    rw [if_pos h, (key h).2]
theorem pWhen (g : Nat) (s : S) (now : Int) (fa : Option Addr) (fc : Nat) (F : List Stl) (hok : PrOk s now F) (part many : Int) (hm : many ≤ 9223372036854775807) (need : V) (wall t : Int) (w : World) (HP : PrAt w g s now fa fc F) (HS : Rows w s) :
    Calls Try.prog 14 #[.pointer (some ⟨g, 0, none⟩), .int .i64 part, .int .i64 many, (.agg #[.int .i64 need.cpu, .int .i64 need.mem, .int .i64 need.gpu, .int .i64 need.lic]), .int .i64 wall, .int .i64 t] w fun e w' =>
      ∃ a c, e = .returned (.tuple #[.slice a (whenS s now (flOf F) part many need wall t).length c, .bool (whenB s now (flOf F) part many need wall t)]) ∧ ShlAt w' a c (whenS s now (flOf F) part many need wall t) ∧ Below w.heap.size w w' := by
  by_cases h : PartOk s part ∧ WinT now t wall
  · obtain ⟨pt, rfl⟩ : ∃ k : Nat, part = (k : Int) := ⟨part.toNat, by have := h.1.1; omega⟩
    have hpt : pt < s.parts.length := by have := h.1.2; omega
    obtain ⟨b, off, ea, _⟩ := HS.part_ hpt
    unfold whenS whenB
    rw [if_pos h, if_pos h, partOf_at hpt]
    exact pWhen_yes g s now fa fc F hok pt hpt b off ea many hm need wall t h.2 w HP HS
  · unfold whenS whenB
    rw [if_neg h, if_neg h]
    refine (pWhen_no g s now fa fc F part many need wall t w HP h).mono ?_
    rintro e w' ⟨rfl, hb⟩
    exact ⟨none, 0, rfl, shl_none w', hb⟩
/-- the times so far: at_ is the next, T are those behind it; the others were tried -/
structure Tried (fr : Fr) (n : Nat) (now : Int) (x : Wt) (R : List Int) (at_ : Int) (T : List Int) : Prop where
  is : at_ = now ∨ at_ ∈ R
  left : ∀ y ∈ T, y ∈ R
  done : ∀ t, (t = now ∨ t ∈ R) → t = at_ ∨ t ∈ T ∨ ¬ May fr n now x t
  sorted : (at_ :: T).Pairwise (· ≤ ·)
theorem Tried.next {fr : Fr} {n : Nat} {now : Int} {x : Wt} {R : List Int} {at_ t : Int} {T : List Int} (h : Tried fr n now x R at_ (t :: T)) (hno : ¬ May fr n now x at_) : Tried fr n now x R t T := by
  refine ⟨.inr (h.left t (by simp)), fun y hy => h.left y (by simp [hy]), fun u hu => ?_, (List.pairwise_cons.1 h.sorted).2⟩
  rcases h.done u hu with rfl | h1 | h1
  · exact .inr (.inr hno)
  · rcases List.mem_cons.1 h1 with rfl | h1
    · exact .inl rfl
    · exact .inr (.inl h1)
  · exact .inr (.inr h1)
theorem Tried.first {F : FL} {now : Int} (hF : OkFL F now) {x : Wt} (hr : RiseN F.length (-1) x.part) {at_ : Int} {T : List Int} (h : Tried (frL F) F.length now x (risesF F x.part) at_ T) (hm : May (frL F) F.length now x at_) : First (frL F) F.length now x (some at_) := by
  refine (first_rise hF hr (T := risesF F x.part) (fun _ => Iff.rfl)).1 at_ hm fun s hs hlt hs2 => ?_
  rcases h.done s hs with rfl | h1 | h1
  · omega
  · have := (List.pairwise_cons.1 h.sorted).1 s h1; omega
  · exact h1 hs2
theorem Tried.none {F : FL} {now : Int} (hF : OkFL F now) {x : Wt} (hr : RiseN F.length (-1) x.part) {at_ : Int} (h : Tried (frL F) F.length now x (risesF F x.part) at_ []) (hm : ¬ May (frL F) F.length now x at_) : First (frL F) F.length now x Option.none := by
  refine (first_rise hF hr (T := risesF F x.part) (fun _ => Iff.rfl)).2 fun s hs hs2 => ?_
  rcases h.done s hs with rfl | h1 | h1
  · exact hm hs2
  · cases h1
  · exact h1 hs2
theorem ShlAt.setRow {w : World} {a : Option Addr} {cap : Nat} {l : List Sh} (h : ShlAt w a cap l) {t' : TypeId} {g : Nat} {cs : Array Value} {y : Nat × Nat} (hg : w.heap[g]? = some (.cells cs t' y)) (hne : 51 ≠ t') (cs' : Array Value) : ShlAt (w.setRow g cs') a cap l := by
  refine ⟨⟨?_, h.st.le, h.st.nil⟩, fun d hd => ?_⟩
  · rcases h.st.row with hx | ⟨b, off, rfl, hl, hc⟩
    · exact .inl hx
    · exact .inr ⟨b, off, rfl, by simpa using hl, fun i u hu => (World.cell?_of_block (a := ⟨b, off + i, none⟩) (setRow_other w g b cs' (h.ty.ne hg hne))).trans (hc i u hu)⟩
  · obtain ⟨cs2, y2, h2⟩ := h.ty d hd
    subst hd
    exact ⟨cs2, y2, (setRow_other w g d.block cs' (h.ty.ne hg hne)).trans h2⟩
/-- what Earliest gives -/
def EarlPost (s : S) (now : Int) (F : List Stl) (part many : Int) (need : V) (wall : Int) (w : World) (e : Ending) (w' : World) : Prop :=
  Below w.heap.size w w' ∧ ((First (frL (flOf F)) F.length now (wtOf s part many need wall) none ∧ e = .returned (.tuple #[.agg #[.int .i64 0, .int .i64 0, .slice none 0 0], .bool false])) ∨
    ∃ t a c, First (frL (flOf F)) F.length now (wtOf s part many need wall) (some t) ∧ e = .returned (.tuple #[.agg #[.int .i64 0, .int .i64 t, .slice a (placeS (lowsL (frL (flOf F)) F.length t wall) (partOf s part) many need).length c], .bool true]) ∧
      ShlAt w' a c (placeS (lowsL (frL (flOf F)) F.length t wall) (partOf s part) many need))
theorem results_cell_tmp_row2 {P : Program} {fn : Func} {p u : Tmp} {ty : TypeId} (h : fn.results = #[.cell p ty, .tmp u]) (tmps : Array Value) (w : World) (g : Nat) (t : TypeId) (cs : Array Value) (fr : Nat × Nat) (d : TypeDesc)
    (hp : tmps.getD p undef = .pointer (some ⟨g, 0, none⟩)) (hg : w.heap[g]? = some (.cells cs t fr))
    (hu : P.underlying ty = some d) (hd : (match d with | .struct _ | .array _ _ => true | _ => false) = true) (hi : (P.info? ty).map (·.size) = some cs.size) :
    (results fn tmps).run P w = .ok (.tuple #[.agg cs, tmps.getD u undef]) w := by
  rw [results_cell_tmp h, hp]
  simp [asAddr, Result.andThen, run_loadVar_row w g t ty cs fr d hg hu hd hi]
theorem wp_moreE {P : Program} {c : Code} {Q Q' : Exit → Act → World → Prop} {a : Act} {w : World} (h : c.wp P Q a w) (hq : ∀ e a w, Q e a w → Q' e a w) : c.wp P Q' a w := by
  intro b k cs
  obtain ⟨e, a1, w1, h1, h2⟩ := h b k cs
  exact ⟨e, a1, w1, hq _ _ _ h1, h2⟩
theorem wp_scope_onceE {P : Program} {a : Act} {w : World} {Q : Exit → Act → World → Prop} {c body : Code} (l : Nat) (J : Act → World → Prop) (μ : Act → World → Nat) (hf : findLabel c l = some (Code.skip.seq body))
    (first : ∀ Q', (∀ a w, J a w → body.wp P Q' a w) → c.wp P Q' a w)
    (pass : ∀ a w, J a w → body.wp P (Exit.jump l (fun a' w' => J a' w' ∧ μ a' w' < μ a w) Q) a w) : (Code.scope c).wp P Q a w := by
  refine wp_scope_jumps l J μ hf (first _ fun a w hJ => wp_moreE (pass a w hJ) ?_) (fun a w hJ => wp_seq (wp_skip (pass a w hJ)))
  intro e a' w' h
  cases e <;> first | exact h | exact ⟨h.1, h.2.1⟩
theorem frU (x0 x1 x2 x3 x4 x5 x6 x7 x8 x9 x10 x11 x12 x13 x14 x15 x16 x17 x18 x19 x20 x21 x22 x23 x24 x25 x26 x27 x28 x29 x30 x31 x32 x33 x34 x35 x36 x37 x38 x39 x40 x41 x42 x43 x44 x45 x46 x47 x48 x49 x50 x51 x52 x53 x54 x55 x56 x57 x58 x59 x60 x61 : Value) : ∃ U : Nat → Value, ({ tmps := #[x0, x1, x2, x3, x4, x5, x6, x7, x8, x9, x10, x11, x12, x13, x14, x15, x16, x17, x18, x19, x20, x21, x22, x23, x24, x25, x26, x27, x28, x29, x30, x31, x32, x33, x34, x35, x36, x37, x38, x39, x40, x41, x42, x43, x44, x45, x46, x47, x48, x49, x50, x51, x52, x53, x54, x55, x56, x57, x58, x59, x60, x61], defers := [] } : Act) = { tmps := #[x0, x1, x2, x3, x4, U 5, U 6, U 7, x8, U 9, x10, x11, x12, x13, U 14, U 15, U 16, U 17, U 18, U 19, U 20, U 21, U 22, U 23, U 24, U 25, U 26, U 27, U 28, U 29, U 30, U 31, U 32, U 33, U 34, U 35, U 36, U 37, U 38, U 39, U 40, U 41, U 42, U 43, U 44, U 45, U 46, U 47, U 48, U 49, U 50, U 51, U 52, U 53, U 54, U 55, U 56, U 57, U 58, U 59, U 60, U 61], defers := [] } :=
  ⟨fun i => (#[x0, x1, x2, x3, x4, x5, x6, x7, x8, x9, x10, x11, x12, x13, x14, x15, x16, x17, x18, x19, x20, x21, x22, x23, x24, x25, x26, x27, x28, x29, x30, x31, x32, x33, x34, x35, x36, x37, x38, x39, x40, x41, x42, x43, x44, x45, x46, x47, x48, x49, x50, x51, x52, x53, x54, x55, x56, x57, x58, x59, x60, x61] : Array Value).getD i undef, rfl⟩
def slLen : Value → Nat | .slice _ n _ => n | _ => 0
def peSp (g pt : Nat) (now : Int) (F : FL) (part : List Int) : List Sp :=
  [Sp.c (.pointer (some ⟨g, 0, none⟩)) [],
   Sp.c (.pointer (some ⟨g, 0, none⟩)) [0],
   Sp.c (.pointer (some ⟨g, 1, none⟩)) [1],
   Sp.c (.int .i64 now) [2],
   Sp.c (.pointer (some ⟨g, 0, none⟩)) [],
   Sp.c (.int .i64 (pt : Int)) [],
   Sp.m true (fun x wm => ∃ a c T, x = .slice a (List.length T) c ∧ RisT wm a c T F part) [4, 5],
   Sp.c (.int .i64 now) [3],
   Sp.m true (fun x wm => ∃ a c T, x = .slice a (List.length T) c ∧ RisT wm a c T F part) [6]]
set_option maxHeartbeats 4000000 in
theorem pEarl_no (g : Nat) (s : S) (now : Int) (fa : Option Addr) (fc : Nat) (F : List Stl) (part many : Int) (need : V) (wall : Int) (w : World) (HP : PrAt w g s now fa fc F) (h : ¬ PartOk s part) :
    Calls Try.prog 9 #[.pointer (some ⟨g, 0, none⟩), .int .i64 part, .int .i64 many, (.agg #[.int .i64 need.cpu, .int .i64 need.mem, .int .i64 need.gpu, .int .i64 need.lic]), .int .i64 wall] w (EarlPost s now F part many need wall w) := by
  have c0 := HP.c0
  have hgl := blk_lt HP.blk
  have HF : Hid (First (frL (flOf F)) F.length now (wtOf s part many need wall) none) := Lib.hid (fun t x => h x.1.1)
  have key : decide (part < 0) = true ∨ (decide (part < 0) = false ∧ decide ((s.parts.length : Int) ≤ part) = true) := by
    by_cases h0 : part < 0
    · exact .inl (decide_eq_true h0)
    · exact .inr ⟨decide_eq_false h0, decide_eq_true (by unfold PartOk at h; omega)⟩
  generalize s.parts.length = sn at c0 key
  clear HP h
  rcases key with g0 | ⟨g0, g1⟩
  all_goals
    go_enter Try.func9, Try.ntmps9
    go_wp2
    go_step3
    go_upto_region 1 with fail
    generalize hw0 : World.alloc (World.alloc w _) _ = w0
    have hb0 : Below w.heap.size w w0 := by rw [← hw0]; exact (by repeat' (first | exact Below.refl _ _ | assumption | exact And.left (by assumption) | refine Below.drew ?_ | refine below_drewN ?_ _ | refine Below.setCell ?_ (by first | (simp; done) | (simp; omega) | omega) _ | refine Below.alloc ?_ (by first | (simp; done) | (simp; omega) | omega) _ | refine after (by assumption) (by first | (simp; done) | (simp; omega) | omega) ?_))
    have H0 : Hid (w0.heap[w.heap.size + 1]? = some (.cells (List.toArray [.int .i64 0, .int .i64 0, .slice none 0 0]) 45 (0, 0))) := Lib.hid (by rw [← hw0]; simpa using heap_alloc_new (World.alloc w _) _)
    clear hw0
    replace c0 := carry hb0 c0
    go_wp2_with ((with_reducible show wpList _ _ _ _ _ _); refine wpList_store_splice rfl 45 (.tmp 10) (.tmp 31) rfl (w.heap.size + 1) 0 [.int .i64 0, .int .i64 0, .slice none 0 0] rfl rfl (by kernel_rfl) [.int .i64 0, .int .i64 0, .slice none 0 0] 45 H0.out (by decide) (by simp [Value.oneCell']) w.heap.size w hb0 (by omega) ?_; intro w5 HW5 hb5)
    (try rw [Exit.noGoto_ret])
    refine bodyPost_ret (results_cell_tmp_row2 Try.results9 _ _ (w.heap.size + 1) _ _ _ _ rfl HW5.out Try.underlying45 rfl (by kernel_rfl)) rfl ?_
    exact ⟨hb5, .inl ⟨HF.out, rfl⟩⟩
set_option maxHeartbeats 16000000 in
theorem pEarl_yes (g : Nat) (s : S) (now : Int) (fa : Option Addr) (fc : Nat) (F : List Stl) (hok : PrOk s now F) (pt : Nat) (hpt : pt < s.parts.length) (pb po : Nat) (hpa : s.pa = some ⟨pb, po, none⟩) (many : Int) (hm : many ≤ 9223372036854775807) (need : V) (wall : Int) (w : World) (HP : PrAt w g s now fa fc F) (HS : Rows w s) :
    Calls Try.prog 9 #[.pointer (some ⟨g, 0, none⟩), .int .i64 (pt : Int), .int .i64 many, (.agg #[.int .i64 need.cpu, .int .i64 need.mem, .int .i64 need.gpu, .int .i64 need.lic]), .int .i64 wall] w (EarlPost s now F pt many need wall w) := by
  have HPR := Lib.hid HP
  have HSR := Lib.hid HS
  have HOK := Lib.hid hok
  have c0 := HP.c0
  have c1 := HP.c1
  have hgl := blk_lt HP.blk
  have g0 : decide ((pt : Int) < 0) = false := decide_eq_false (by omega)
  have g1 : decide ((s.parts.length : Int) ≤ (pt : Int)) = false := decide_eq_false (by omega)
  have g1n : decide (s.parts.length ≤ pt) = false := decide_eq_false (by omega)
  have hql : partOf s pt = s.parts[pt].l := partOf_at hpt
  have HRI := Lib.hid (fun (w' : World) h1 h2 => pRises g s now fa fc F hok pt hpt pb po hpa w' h1 h2)
  have HWH := Lib.hid (fun (t : Int) (w' : World) h1 h2 => pWhen g s now fa fc F hok pt many hm need wall t w' h1 h2)
  have HMAY := Lib.hid (fun (t : Int) => when_may hok pt many need wall t)
  have HRN : Hid (RiseN (flOf F).length (-1) (wtOf s pt many need wall).part) := Lib.hid (by
    rw [flOf_len, hok.len]
    exact partOf_rise hok.right pt ⟨by omega, by omega⟩)
  have HGT := Lib.hid (risesF_gt hok.ok (n := F.length) (by rw [flOf_len]) (part := s.parts[pt].l) (by rw [hok.len]; exact (part_rise hok.right hpt).1))
  have HQL := Lib.hid hql
  rw [← hql] at HRI HGT
  generalize hqq : partOf s pt = ql at HRI HGT
  have HQQ := Lib.hid hqq
  clear hqq hql HP HS hok hpa
  clear HQL hpt
  generalize s.parts.length = sn at c0 g1 g1n
  go_enter Try.func9, Try.ntmps9
  go_wp2
  generalize hw0 : World.alloc (World.alloc w _) _ = w0
  have hb0 : Below w.heap.size w w0 := by rw [← hw0]; exact (by repeat' (first | exact Below.refl _ _ | assumption | exact And.left (by assumption) | refine Below.drew ?_ | refine below_drewN ?_ _ | refine Below.setCell ?_ (by first | (simp; done) | (simp; omega) | omega) _ | refine Below.alloc ?_ (by first | (simp; done) | (simp; omega) | omega) _ | refine after (by assumption) (by first | (simp; done) | (simp; omega) | omega) ?_))
  have n0 : w0.cell? ⟨w.heap.size, 0, none⟩ = some (.int .i64 need.cpu) := by rw [← hw0]; simp [go_sem]
  have n1 : w0.cell? ⟨w.heap.size, 1, none⟩ = some (.int .i64 need.mem) := by rw [← hw0]; simp [go_sem]
  have n2 : w0.cell? ⟨w.heap.size, 2, none⟩ = some (.int .i64 need.gpu) := by rw [← hw0]; simp [go_sem]
  have n3 : w0.cell? ⟨w.heap.size, 3, none⟩ = some (.int .i64 need.lic) := by rw [← hw0]; simp [go_sem]
  have H0 : Hid (w0.heap[w.heap.size + 1]? = some (.cells #[.int .i64 0, .int .i64 0, .slice none 0 0] 45 (0, 0))) := Lib.hid (by rw [← hw0]; simpa using heap_alloc_new (World.alloc w _) _)
  clear hw0
  replace c0 := carry hb0 c0
  replace c1 := carry hb0 c1
  have hgl0 : g < w0.heap.size := by have := hb0.size; omega
  have HPX := Lib.hid (HPR.out.later hb0)
  have HSX := Lib.hid (HSR.out.later hb0)
  generalize hrc : w.heap.size + 1 = rc at H0 ⊢
  have HRCL : Hid (w.heap.size < rc) := Lib.hid (by omega)
  clear hrc
  have hz0 := hb0.size
  refine wp_scope_onceE 0 (fun a' w' => Below w.heap.size w w' ∧ ∃ (at_ : Int) (la : Option Addr) (lc : Nat) (T : List Int), (∃ U : Nat → Value, a' = { tmps := #[.pointer (some ⟨g, 0, none⟩), .int .i64 (pt : Int), .int .i64 many, (.agg #[.int .i64 need.cpu, .int .i64 need.mem, .int .i64 need.gpu, .int .i64 need.lic]), .int .i64 wall, U 5, U 6, U 7, .pointer (some ⟨w.heap.size, 0, none⟩), U 9, .pointer (some ⟨rc, 0, none⟩), .bool false, .int .i64 at_, .slice la T.length lc, U 14, U 15, U 16, U 17, U 18, U 19, U 20, U 21, U 22, U 23, U 24, U 25, U 26, U 27, U 28, U 29, U 30, U 31, U 32, U 33, U 34, U 35, U 36, U 37, U 38, U 39, U 40, U 41, U 42, U 43, U 44, U 45, U 46, U 47, U 48, U 49, U 50, U 51, U 52, U 53, U 54, U 55, U 56, U 57, U 58, U 59, U 60, U 61], defers := [] }) ∧ Hid (T.length ≤ lc ∧ RowAt w' la (vals T)) ∧ Hid (Tried (frL (flOf F)) F.length now (wtOf s pt many need wall) (risesF (flOf F) ql) at_ T) ∧
    w'.cell? ⟨w.heap.size, 0, none⟩ = some (.int .i64 need.cpu) ∧ w'.cell? ⟨w.heap.size, 1, none⟩ = some (.int .i64 need.mem) ∧ w'.cell? ⟨w.heap.size, 2, none⟩ = some (.int .i64 need.gpu) ∧ w'.cell? ⟨w.heap.size, 3, none⟩ = some (.int .i64 need.lic) ∧ Hid (w'.heap[rc]? = some (.cells #[.int .i64 0, .int .i64 0, .slice none 0 0] 45 (0, 0)))) (fun a' _ => slLen (a'.tmps.getD 13 undef)) rfl ?_ ?_
  · intro Q' hQ
    go_upto_region 3 with fail
    refine region_mono (peSp g pt now (flOf F) ql) [32, 33, 34, 35, 36, 37, 38, 12, 13] (by kernel_rfl) (by kernel_rfl) (by kernel_rfl) (by kernel_rfl) (stables_cons (Sp.c_stable _ _) (stables_cons (Sp.c_stable _ _) (stables_cons (Sp.c_stable _ _) (stables_cons (Sp.c_stable _ _) (stables_cons (Sp.c_stable _ _) (stables_cons (Sp.c_stable _ _) (stables_cons (Sp.m_stable _ _ _ (fun v w w' h hb => by obtain ⟨a, c, T, e, h⟩ := h; exact ⟨a, c, T, e, h.later hb⟩)) (stables_cons (Sp.c_stable _ _) (stables_cons (Sp.m_stable _ _ _ (fun v w w' h hb => by obtain ⟨a, c, T, e, h⟩ := h; exact ⟨a, c, T, e, h.later hb⟩)) (trivial)))))))))) ?_ ?_
    · intro am wm L hbm hbase hbase2
      have s0 : am.tmps.getD 0 undef = .pointer (some ⟨g, 0, none⟩) := (hbase 0 rfl).trans (by simp only [Array.getD_eq_getD_getElem?, List.getElem?_toArray, List.getElem?_cons_succ, List.getElem?_cons_zero, Option.getD_some])
      have s1 : am.tmps.getD 1 undef = .int .i64 (pt : Int) := (hbase 1 rfl).trans (by simp only [Array.getD_eq_getD_getElem?, List.getElem?_toArray, List.getElem?_cons_succ, List.getElem?_cons_zero, Option.getD_some])
      clear hbase hbase2
      have p0 := carry hbm c1
      refine steps_cons (fun hn hl => ?_) fun H0 => ?_
      · skip
        clear hn hl 
        refine stepC (wanted_free rfl) fun K hK => ?_
        go_simp
        exact hK _ (Below.refl _ _)
      refine steps_cons (fun hn hl => ?_) fun H1 => ?_
      · skip
        have h32 := Sp.of_c (H0 (hn 0 (show 0 ∈ [0] from .head _)))
        clear hn hl H0
        refine stepC (wanted_free rfl) fun K hK => ?_
        go_simp
        exact hK _ (Below.refl _ _)
      refine steps_cons (fun hn hl => ?_) fun H2 => ?_
      · skip
        have h33 := Sp.of_c (H1 (hn 1 (show 1 ∈ [1] from .head _)))
        clear hn hl H0 H1
        refine stepC (wanted_free rfl) fun K hK => ?_
        go_simp
        exact hK _ (Below.refl _ _)
      refine steps_cons (fun hn hl => ?_) fun H3 => ?_
      · skip
        have h34 := Sp.of_c (H2 (hn 2 (show 2 ∈ [2] from .head _)))
        clear hn hl H0 H1 H2
        refine stepC (wanted_free rfl) fun K hK => ?_
        go_simp
        exact hK _ (Below.refl _ _)
      refine steps_cons (fun hn hl => ?_) fun H4 => ?_
      · skip
        clear hn hl H0 H1 H2 H3
        refine stepC (wanted_free rfl) fun K hK => ?_
        go_simp
        exact hK _ (Below.refl _ _)
      refine steps_cons (fun hn hl => ?_) fun H5 => ?_
      · skip
        clear hn hl H0 H1 H2 H3 H4
        refine stepC (wanted_free rfl) fun K hK => ?_
        go_simp
        exact hK _ (Below.refl _ _)
      refine steps_cons (fun hn hl => ?_) fun H6 => ?_
      · skip
        have h36 := Sp.of_c (H4 (hn 4 (show 4 ∈ [4, 5] from .head _)))
        have h37 := Sp.of_c (H5 (hn 5 (show 5 ∈ [4, 5] from .tail _ (.head _))))
        clear hn hl H0 H1 H2 H3 H4 H5
        refine stepR (wanted_free rfl) fun K hK => ?_
        go_simp
        (with_reducible refine (HRI.out _ (HPX.out.later hbm) (HSX.out.later hbm)).mono ?_); rintro e w6 ⟨a6, c6, T6, rfl, ho6, hb6⟩; exact hK _ _ hb6 ⟨_, _, _, rfl, ho6⟩
      refine steps_cons (fun hn hl => ?_) fun H7 => ?_
      · skip
        have h35 := Sp.of_c (H3 (hn 3 (show 3 ∈ [3] from .head _)))
        clear hn hl H0 H1 H2 H3 H4 H5 H6
        refine stepC (wanted_free rfl) fun K hK => ?_
        go_simp
        exact hK _ (Below.refl _ _)
      refine steps_cons (fun hn hl => ?_) fun H8 => ?_
      · skip
        obtain ⟨b, y0, y2, h38, y1⟩ := Sp.of_m (H6 (hn 6 (show 6 ∈ [6] from .head _))) rfl
        clear hn hl H0 H1 H2 H3 H4 H5 H6 H7
        refine stepR (wanted_free rfl) fun K hK => ?_
        go_simp
        exact hK _ _ (Below.refl _ _) ⟨_, _, _, rfl, y1⟩
      exact trivial
    · intro w5 hb5
      have hz5 := hb5.size
      refine end_cons ?_; rintro _ rfl
      refine end_cons ?_; rintro _ rfl
      refine end_cons ?_; rintro _ rfl
      refine end_cons ?_; rintro _ rfl
      refine end_cons ?_; rintro _ rfl
      refine end_cons ?_; rintro _ rfl
      refine end_cons ?_; rintro _ ⟨b38, y38_0, y38_2, rfl, y38_1⟩
      refine end_cons ?_; rintro _ rfl
      refine end_cons ?_; rintro _ ⟨b13, y13_0, y13_2, rfl, y13_1⟩
      refine end_nil ?_
      simp only [List.setIfInBounds_toArray, List.set_cons_succ, List.set_cons_zero, Bool.not_false, Bool.not_true, Bool.true_or, Bool.or_true, Bool.false_or, Bool.or_false]
      have k5 := hb0.trans (hb5.mono hz0)
      replace n0 := carry hb5 n0
      replace n1 := carry hb5 n1
      replace n2 := carry hb5 n2
      replace n3 := carry hb5 n3
      have H5 : Hid (w5.heap[rc]? = some (.cells #[.int .i64 0, .int .i64 0, .slice none 0 0] 45 (0, 0))) := Lib.hid ((hb5.block _ (blk_lt H0.out)).trans H0.out)
      have HTR : Hid (Tried (frL (flOf F)) F.length now (wtOf s pt many need wall) (risesF (flOf F) ql) now y13_2) := Lib.hid ⟨.inl rfl, fun y hy => (y13_1.mem y).1 hy, fun t ht => by
        rcases ht with rfl | ht
        · exact .inl rfl
        · exact .inr (.inl ((y13_1.mem t).2 ht)), List.pairwise_cons.2 ⟨fun y hy => Int.le_of_lt (HGT.out y ((y13_1.mem y).1 hy)).1, y13_1.sorted⟩⟩
      have HRW := Lib.hid (And.intro y13_1.le y13_1.row)
      clear HRI HPX HSX y13_1 y38_1
      go_wp2
      go_step3
      rename_i hK
      exact hK _ _ <| hQ _ _ ⟨k5, now, _, _, _, frU _ _ _ _ _ _ _ _ _ _ _ _ _ _ _ _ _ _ _ _ _ _ _ _ _ _ _ _ _ _ _ _ _ _ _ _ _ _ _ _ _ _ _ _ _ _ _ _ _ _ _ _ _ _ _ _ _ _ _ _ _ _, HRW, HTR, n0, n1, n2, n3, H5⟩
  · rintro a' w' ⟨hb, at_, la, lc, T, ⟨U, rfl⟩, HT, HTR, m0, m1, m2, m3, HRC⟩
    have hz := hb.size
    have hwl : w.heap.size < w'.heap.size := World.block_lt_of_cell? _ _ m0
    have HX := Lib.hid (HWH.out at_ w' (HPR.out.later hb) (HSR.out.later hb))
    have HM := HMAY.out at_
    by_cases hmay : May (frL (flOf F)) F.length now (wtOf s pt many need wall) at_
    · have hB := HM.1.2 hmay
      have hS := HM.2 hmay
      rw [hB, hS] at HX
      have HFST := Lib.hid (by
        have h := HTR.out
        have hq := HQQ.out
        have hr := HRN.out
        have h2 := Tried.first (F := flOf F) HOK.out.ok (x := wtOf s pt many need wall) hr (at_ := at_) (T := T) (by rw [flOf_len]; show Tried _ _ _ _ (risesF (flOf F) (partOf s pt)) _ _; rw [hq]; exact h) (by rw [flOf_len]; exact hmay)
        rw [flOf_len] at h2
        exact h2)
      obtain ⟨L, hL⟩ : ∃ L, placeS (lowsL (frL (flOf F)) F.length at_ wall) (partOf s pt) many need = L := ⟨_, rfl⟩
      rw [hL] at HX
      have HL := Lib.hid hL
      clear hL hB hS HM hmay HMAY HWH
      go_wp2_with fail
      refine HX.out.mono ?_; rintro e w3 ⟨a3, c3, rfl, hsh, hb3⟩
      have k3 := hb.trans (hb3.mono hz)
      have HSH := Lib.hid hsh
      have HRC3 : Hid (w3.heap[rc]? = some (.cells #[.int .i64 0, .int .i64 0, .slice none 0 0] 45 (0, 0))) := Lib.hid ((hb3.block _ (blk_lt HRC.out)).trans HRC.out)
      clear hsh HX HRC m0 m1 m2 m3
      go_wp2_with ((refine wpList_store_row rfl 45 (.tmp 10) (.tmp 52) rfl rc _ rfl rfl 45 #[.int .i64 0, .int .i64 0, .slice none 0 0] HRC3.out (by kernel_rfl) (by simp) (by simp [Value.oneCell']) ?_; generalize hw5 : World.setRow _ _ _ = w5))
      have hb5 : Below w.heap.size w w5 := by rw [← hw5]; exact below_setRow k3 (Nat.le_of_lt HRCL.out) _
      have hg5 : w5.heap[rc]? = some (.cells #[.int .i64 0, .int .i64 at_, .slice a3 L.length c3] 45 (0, 0)) := by rw [← hw5]; exact setRow_heap _ _ _ _ _ _ HRC3.out
      have hs5 : ShlAt w5 a3 c3 L := by rw [← hw5]; exact HSH.out.setRow HRC3.out (by decide) _
      clear hw5
      simp only [Exit.jump]
      refine bodyPost_ret (results_cell_tmp_row2 Try.results9 _ _ rc _ _ _ _ rfl hg5 Try.underlying45 rfl (by kernel_rfl)) rfl ?_
      exact ⟨hb5, .inr ⟨at_, a3, c3, HFST.out, by rw [HL.out]; rfl, by rw [HL.out]; exact hs5⟩⟩
    · have hB : whenB s now (flOf F) pt many need wall at_ = false := by
        cases h9 : whenB s now (flOf F) pt many need wall at_ with
        | false => rfl
        | true => exact absurd (HM.1.1 h9) hmay
      rw [hB] at HX
      have HNO := Lib.hid hmay
      generalize whenS s now (flOf F) pt many need wall at_ = L at HX
      clear hB HM hmay HMAY HWH
      go_wp2_with fail
      refine HX.out.mono ?_; rintro e w3 ⟨a3, c3, rfl, hsh, hb3⟩
      have k3 := hb.trans (hb3.mono hz)
      have HRC3 : Hid (w3.heap[rc]? = some (.cells #[.int .i64 0, .int .i64 0, .slice none 0 0] 45 (0, 0))) := Lib.hid ((hb3.block _ (blk_lt HRC.out)).trans HRC.out)
      replace m0 := carry hb3 m0
      replace m1 := carry hb3 m1
      replace m2 := carry hb3 m2
      replace m3 := carry hb3 m3
      have HT3 := Lib.hid (RowAt.later HT.out.2 hb3)
      have HTL := Lib.hid HT.out.1
      clear hsh HX HRC HT
      cases T with
      | nil =>
        have HFST := Lib.hid (by
          have h := HTR.out
          have hq := HQQ.out
          have hr := HRN.out
          have h2 := Tried.none (F := flOf F) HOK.out.ok (x := wtOf s pt many need wall) hr (at_ := at_) (by rw [flOf_len]; show Tried _ _ _ _ (risesF (flOf F) (partOf s pt)) _ _; rw [hq]; exact h) (by rw [flOf_len]; exact HNO.out)
          rw [flOf_len] at h2
          exact h2)
        go_wp2_with ((refine wpList_store_row rfl 45 (.tmp 10) (.tmp 61) rfl rc _ rfl rfl 45 #[.int .i64 0, .int .i64 0, .slice none 0 0] HRC3.out (by kernel_rfl) (by simp) (by simp [Value.oneCell']) ?_; generalize hw5 : World.setRow _ _ _ = w5))
        have hb5 : Below w.heap.size w w5 := by rw [← hw5]; exact below_setRow k3 (Nat.le_of_lt HRCL.out) _
        have hg5 : w5.heap[rc]? = some (.cells #[.int .i64 0, .int .i64 0, .slice none 0 0] 45 (0, 0)) := by rw [← hw5]; exact setRow_heap _ _ _ _ _ _ HRC3.out
        clear hw5
        simp only [Exit.jump]
        refine bodyPost_ret (results_cell_tmp_row2 Try.results9 _ _ rc _ _ _ _ rfl hg5 Try.underlying45 rfl (by kernel_rfl)) rfl ?_
        exact ⟨hb5, .inl ⟨HFST.out, rfl⟩⟩
      | cons t T2 =>
        have HTR2 := Lib.hid (HTR.out.next HNO.out)
        obtain ⟨tb, to', ela, htb, q0⟩ := HT3.out.nm (k := 0) (by simp)
        subst ela
        have HROW : Hid (RowAt w3 (some ⟨tb, to' + 1, none⟩) (vals T2)) := Lib.hid (by
          have := HT3.out.drop 1
          exact this)
        have hle := HTL.out
        rw [List.length_cons] at hle
        have HLE : Hid (T2.length ≤ lc - 1) := Lib.hid (by omega)
        rw [Nat.add_zero, List.getElem_cons_zero] at q0
        have htl : (t :: T2).length = T2.length + 1 := rfl
        rw [htl]
        generalize hn2 : T2.length = n2 at hle ⊢
        have HN2 := Lib.hid hn2
        clear hn2 htl HTR HT3 HTL
        have hp0 : (0 : Int) < (n2 : Int) + 1 := by omega
        have hle1 : (1 : Int) ≤ (n2 : Int) + 1 := by omega
        have hle2 : (n2 : Int) + 1 ≤ lc := by omega
        have hle3 : ¬ n2 + 1 < 1 := by omega
        go_wp2
        go_region
        generalize hw4 : World.drew w3 = w4
        have hb4 : Below w3.heap.size w3 w4 := by rw [← hw4]; exact below_drewN (Below.refl _ _) 1
        clear hw4
        have k4 := k3.trans (hb4.mono k3.size)
        have HROW4 : Hid (RowAt w4 (if lc = 1 then some ⟨tb, to', none⟩ else some ⟨tb, to' + 1, none⟩) (vals T2)) := Lib.hid (by
          split
          · have := HN2.out
            exact .inl (by rw [List.eq_nil_of_length_eq_zero (show T2.length = 0 by omega)]; rfl)
          · exact RowAt.later HROW.out hb4)
        replace m0 := carry hb4 m0
        replace m1 := carry hb4 m1
        replace m2 := carry hb4 m2
        replace m3 := carry hb4 m3
        have HRC4 : Hid (w4.heap[rc]? = some (.cells #[.int .i64 0, .int .i64 0, .slice none 0 0] 45 (0, 0))) := Lib.hid ((hb4.block _ (blk_lt HRC3.out)).trans HRC3.out)
        generalize (if lc = 1 then some (⟨tb, to', none⟩ : Addr) else some ⟨tb, to' + 1, none⟩) = la4 at HROW4 ⊢
        obtain rfl := HN2.out
        go_wp2
        go_step3
        refine ⟨rfl, ⟨k4, t, _, _, T2, frU _ _ _ _ _ _ _ _ _ _ _ _ _ _ _ _ _ _ _ _ _ _ _ _ _ _ _ _ _ _ _ _ _ _ _ _ _ _ _ _ _ _ _ _ _ _ _ _ _ _ _ _ _ _ _ _ _ _ _ _ _ _, Lib.hid ⟨HLE.out, HROW4.out⟩, HTR2, m0, m1, m2, m3, HRC4⟩, ?_⟩
        simp [slLen]
theorem pEarliest (g : Nat) (s : S) (now : Int) (fa : Option Addr) (fc : Nat) (F : List Stl) (hok : PrOk s now F) (part many : Int) (hm : many ≤ 9223372036854775807) (need : V) (wall : Int) (w : World) (HP : PrAt w g s now fa fc F) (HS : Rows w s) :
    Calls Try.prog 9 #[.pointer (some ⟨g, 0, none⟩), .int .i64 part, .int .i64 many, (.agg #[.int .i64 need.cpu, .int .i64 need.mem, .int .i64 need.gpu, .int .i64 need.lic]), .int .i64 wall] w (EarlPost s now F part many need wall w) := by
  by_cases h : PartOk s part
  · obtain ⟨pt, rfl⟩ : ∃ k : Nat, part = (k : Int) := ⟨part.toNat, by have := h.1; omega⟩
    have hpt : pt < s.parts.length := by have := h.2; omega
    obtain ⟨b, off, ea, _⟩ := HS.part_ hpt
    exact pEarl_yes g s now fa fc F hok pt hpt b off ea many hm need wall w HP HS
  · exact pEarl_no g s now fa fc F part many need wall w HP h
end Go.Proofs.Ytcdajfiohhbdgaa.W


/-
  Contract of the document's small set-up.
-/
namespace Go.Proofs.Ytcdajfiohhbdgaa.W
set_option maxRecDepth 100000
set_option linter.unusedVariables false
set_option linter.unusedSimpArgs false
open Go.ChangeShapes Go.WideShapes Go.ChangeAt Go.RowKit

/-- the small set-up, its lists in these blocks -/
def smallP (nb p1 p2 pb ub qb : Nat) : S :=
  { na := some ⟨nb, 0, none⟩, nc := 2, nodes := [⟨4, 8, 0, 1⟩, ⟨8, 8, 1, 0⟩],
    pa := some ⟨pb, 0, none⟩, pc := 2, parts := [⟨some ⟨p1, 0, none⟩, 2, [0, 1]⟩, ⟨some ⟨p2, 0, none⟩, 1, [1]⟩],
    qa := some ⟨qb, 0, none⟩, qc := 2, queues := [⟨0, ⟨none, 0, []⟩, 8, 4, 3, 1⟩, ⟨1, ⟨some ⟨ub, 0, none⟩, 2, [0, 1]⟩, 4, 2, 2, 5⟩],
    users := 3, age := 1, size := 2, qos := 10, share := 3, decay := 4, mode := 1, jobs := 12, ids := 100, versions := 50, linger := 5, keep := 4, inn := 3, out := 6, cache := 4 }
theorem smallP_right (nb p1 p2 pb ub qb : Nat) : rightSSp (smallP nb p1 p2 pb ub qb) = true := by kernel_rfl
theorem smallP_small (nb p1 p2 pb ub qb : Nat) : SmallS (smallP nb p1 p2 pb ub qb) := ⟨fun p hp => by simp [smallP] at hp; rcases hp with rfl | rfl <;> simp, fun p hp => by simp [smallP] at hp; rcases hp with rfl | rfl <;> simp⟩
/-- one block aside, what there was is as it was -/
def KeepBut (b : Nat) (w w' : World) : Prop := w.heap.size ≤ w'.heap.size ∧ ∀ i o, i ≠ b → w.heap[i]? = some o → w'.heap[i]? = some o
theorem KeepBut.refl (b : Nat) (w : World) : KeepBut b w w := ⟨Nat.le_refl _, fun _ _ _ h => h⟩
theorem KeepBut.alloc {b : Nat} {w w' : World} (h : KeepBut b w w') (o : Obj) : KeepBut b w (w'.alloc o) :=
  ⟨Nat.le_trans h.1 (by simp), fun i x hi hx => (Below.heap_alloc _ _ _ (blk_lt (h.2 i x hi hx))).trans (h.2 i x hi hx)⟩
theorem KeepBut.set {b : Nat} {w w' : World} (h : KeepBut b w w') (j : Nat) (u : Value) : KeepBut b w (w'.setCell ⟨b, j, none⟩ u) :=
  ⟨Nat.le_trans h.1 (by simp), fun i x hi hx => (Below.heap_setCell _ _ _ _ hi).trans (h.2 i x hi hx)⟩
theorem KeepBut.setRow {b : Nat} {w w' : World} (h : KeepBut b w w') (cs : Array Value) : KeepBut b w (w'.setRow b cs) :=
  ⟨Nat.le_trans h.1 (by simp), fun i x hi hx => (setRow_other w' b i cs hi).trans (h.2 i x hi hx)⟩
theorem row_blk {w : World} {b : Nat} {cs : Array Value} {t : TypeId} (h : w.heap[b]? = some (.cells cs t (0, 0))) {xs : List Value} (hx : xs = cs.toList) : RowAt w (some ⟨b, 0, none⟩) xs := by
  refine .inr ⟨b, 0, rfl, blk_lt h, fun i u hu => ?_⟩
  rw [Nat.zero_add]
  subst hx
  have hi : i < cs.size := by
    have := (List.getElem?_eq_some_iff.1 hu).1
    simpa using this
  rw [blk_cell h i hi, ← hu]
  simp [hi]
theorem box_blk {W : World} {g : Nat} {s : S} {t : TypeId} (h : W.heap[g]? = some (.cells #[.slice s.na s.nodes.length s.nc, .slice s.pa s.parts.length s.pc, .slice s.qa s.queues.length s.qc, .int .i64 s.users, .int .i64 s.age, .int .i64 s.size, .int .i64 s.qos, .int .i64 s.share, .int .i64 s.decay, .int .i64 s.mode, .int .i64 s.jobs, .int .i64 s.ids, .int .i64 s.versions, .int .i64 s.linger, .int .i64 s.keep, .int .i64 s.inn, .int .i64 s.out, .int .i64 s.cache] t (0, 0))) : Box W g s :=
  ⟨blk_cell h 0 (by simp), blk_cell h 1 (by simp), blk_cell h 2 (by simp), blk_cell h 3 (by simp), blk_cell h 4 (by simp), blk_cell h 5 (by simp), blk_cell h 6 (by simp), blk_cell h 7 (by simp), blk_cell h 8 (by simp), blk_cell h 9 (by simp), blk_cell h 10 (by simp), blk_cell h 11 (by simp), blk_cell h 12 (by simp), blk_cell h 13 (by simp), blk_cell h 14 (by simp), blk_cell h 15 (by simp), blk_cell h 16 (by simp), blk_cell h 17 (by simp)⟩
theorem blk_froz {w : World} {g : Nat} {cs : Array Value} {t : TypeId} (h : w.heap[g]? = some (.cells cs t (0, 0))) (j : Nat) : w.frozen? ⟨g, j, none⟩ = false := by simp [World.frozen?, h]
theorem blk_set {w : World} {g : Nat} {cs : Array Value} {t : TypeId} (h : w.heap[g]? = some (.cells cs t (0, 0))) (j : Nat) (u : Value) {cs' : Array Value} (e : cs.setIfInBounds j u = cs') : (w.setCell ⟨g, j, none⟩ u).heap[g]? = some (.cells cs' t (0, 0)) := by
  rw [heap_setCell_same w g j cs t u h, e]
theorem blk_top {w : World} {o : Obj} {i : Nat} (h : i = w.heap.size) : (w.alloc o).heap[i]? = some o := by
  subst h
  exact heap_alloc_new _ _
theorem blk_up {w : World} {o x : Obj} {i : Nat} (h : w.heap[i]? = some x) : (w.alloc o).heap[i]? = some x := (Below.heap_alloc _ _ _ (blk_lt h)).trans h
theorem blk_else {w : World} {g j i : Nat} {u : Value} {x : Obj} (h : i ≠ g) (hx : w.heap[i]? = some x) : (w.setCell ⟨g, j, none⟩ u).heap[i]? = some x := (Below.heap_setCell _ _ _ _ h).trans hx
set_option maxHeartbeats 4000000 in
theorem rSmall (w : World) : Calls Try.prog 18 #[] w fun e w' => ∃ nb p1 p2 pb ub qb, e = .returned (.agg #[.slice (smallP nb p1 p2 pb ub qb).na (smallP nb p1 p2 pb ub qb).nodes.length (smallP nb p1 p2 pb ub qb).nc, .slice (smallP nb p1 p2 pb ub qb).pa (smallP nb p1 p2 pb ub qb).parts.length (smallP nb p1 p2 pb ub qb).pc, .slice (smallP nb p1 p2 pb ub qb).qa (smallP nb p1 p2 pb ub qb).queues.length (smallP nb p1 p2 pb ub qb).qc, .int .i64 (smallP nb p1 p2 pb ub qb).users, .int .i64 (smallP nb p1 p2 pb ub qb).age, .int .i64 (smallP nb p1 p2 pb ub qb).size, .int .i64 (smallP nb p1 p2 pb ub qb).qos, .int .i64 (smallP nb p1 p2 pb ub qb).share, .int .i64 (smallP nb p1 p2 pb ub qb).decay, .int .i64 (smallP nb p1 p2 pb ub qb).mode, .int .i64 (smallP nb p1 p2 pb ub qb).jobs, .int .i64 (smallP nb p1 p2 pb ub qb).ids, .int .i64 (smallP nb p1 p2 pb ub qb).versions, .int .i64 (smallP nb p1 p2 pb ub qb).linger, .int .i64 (smallP nb p1 p2 pb ub qb).keep, .int .i64 (smallP nb p1 p2 pb ub qb).inn, .int .i64 (smallP nb p1 p2 pb ub qb).out, .int .i64 (smallP nb p1 p2 pb ub qb).cache]) ∧ Below w.heap.size w w' ∧ Rows w' (smallP nb p1 p2 pb ub qb) := by
  go_enter Try.func18, Try.ntmps18
  go_upto_region 1 with fail
  generalize hw0 : World.alloc w _ = w0
  have hb0 : Below w.heap.size w w0 := by rw [← hw0]; exact (by repeat' (first | exact Below.refl _ _ | assumption | exact And.left (by assumption) | refine Below.drew ?_ | refine below_drewN ?_ _ | refine Below.setCell ?_ (by first | (simp; done) | (simp; omega) | omega) _ | refine Below.alloc ?_ (by first | (simp; done) | (simp; omega) | omega) _ | refine after (by assumption) (by first | (simp; done) | (simp; omega) | omega) ?_))
  have R0 : w0.heap[w.heap.size]? = some (.cells #[.slice none 0 0, .slice none 0 0, .slice none 0 0, .int .i64 0, .int .i64 0, .int .i64 0, .int .i64 0, .int .i64 0, .int .i64 0, .int .i64 0, .int .i64 0, .int .i64 0, .int .i64 0, .int .i64 0, .int .i64 0, .int .i64 0, .int .i64 0, .int .i64 0] 28 (0, 0)) := by rw [← hw0]; exact heap_alloc_new _ _
  have hs0 : w.heap.size < w0.heap.size := blk_lt R0
  clear hw0
  generalize hrc : w.heap.size = rc at R0 hs0 ⊢
  have HRC := Lib.hid hrc
  clear hrc
  have hgz : (w0.alloc (.cells #[.slice none 0 0, .slice none 0 0, .slice none 0 0, .int .i64 0, .int .i64 0, .int .i64 0, .int .i64 0, .int .i64 0, .int .i64 0, .int .i64 0, .int .i64 0, .int .i64 0, .int .i64 0, .int .i64 0, .int .i64 0, .int .i64 0, .int .i64 0, .int .i64 0] 28)).heap[w0.heap.size]? = some (.cells #[.slice none 0 0, .slice none 0 0, .slice none 0 0, .int .i64 0, .int .i64 0, .int .i64 0, .int .i64 0, .int .i64 0, .int .i64 0, .int .i64 0, .int .i64 0, .int .i64 0, .int .i64 0, .int .i64 0, .int .i64 0, .int .i64 0, .int .i64 0, .int .i64 0] 28 (0, 0)) := heap_alloc_new _ _
  have HGZ := Lib.hid hgz
  clear hgz
  have HR0 := Lib.hid R0
  clear R0
  go_upto_region 2 with ((refine wpList_store_row rfl 28 (.tmp 1) (.tmp 4) rfl w0.heap.size _ rfl rfl 28 #[.slice none 0 0, .slice none 0 0, .slice none 0 0, .int .i64 0, .int .i64 0, .int .i64 0, .int .i64 0, .int .i64 0, .int .i64 0, .int .i64 0, .int .i64 0, .int .i64 0, .int .i64 0, .int .i64 0, .int .i64 0, .int .i64 0, .int .i64 0, .int .i64 0] HGZ.out (by kernel_rfl) (by simp) (by simp [Value.oneCell']) ?_; generalize hw1 : World.setRow _ _ _ = w1))
  have k1 : Below rc w0 w1 := by rw [← hw1]; exact below_setRow ((Below.refl _ _).alloc (Nat.le_of_lt hs0) _) (Nat.le_of_lt hs0) _
  have H1 : w1.heap[w0.heap.size]? = some (.cells #[.slice none 0 0, .slice none 0 0, .slice none 0 0, .int .i64 3, .int .i64 0, .int .i64 0, .int .i64 0, .int .i64 0, .int .i64 4, .int .i64 1, .int .i64 12, .int .i64 100, .int .i64 50, .int .i64 5, .int .i64 4, .int .i64 3, .int .i64 6, .int .i64 4] 28 (0, 0)) := by rw [← hw1]; exact setRow_heap _ _ _ _ _ _ HGZ.out
  have RK1 : w1.heap[rc]? = some (.cells #[.slice none 0 0, .slice none 0 0, .slice none 0 0, .int .i64 0, .int .i64 0, .int .i64 0, .int .i64 0, .int .i64 0, .int .i64 0, .int .i64 0, .int .i64 0, .int .i64 0, .int .i64 0, .int .i64 0, .int .i64 0, .int .i64 0, .int .i64 0, .int .i64 0] 28 (0, 0)) := by rw [← hw1]; exact (setRow_other _ _ _ _ (Nat.ne_of_lt hs0)).trans (blk_up HR0.out)
  clear hw1
  generalize hsb : w0.heap.size = sb at H1 hs0 k1 ⊢
  clear hsb HGZ
  have c0 := blk_cell H1 0 (by simp)
  have f0 := blk_froz H1 0
  have hl1 := blk_lt H1
  have HH1 := Lib.hid H1
  have HRK1 := Lib.hid RK1
  clear H1 RK1
  go_upto_region 3 with fail
  generalize hnb : w1.heap.size = nb
  have HNB := Lib.hid hnb
  clear hnb
  generalize hw2 : World.alloc (World.setCell w1 _ _) _ = w2
  have kb2 : KeepBut sb w1 w2 := by rw [← hw2]; exact ((KeepBut.refl _ _).set _ _).alloc _
  have k2 : Below rc w0 w2 := by rw [← hw2]; exact (k1.setCell (p := ⟨sb, _, none⟩) (Nat.le_of_lt hs0) _).alloc (by simp; omega) _
  have HH2 : Hid (w2.heap[sb]? = some (.cells #[.slice (some ⟨nb, 0, none⟩) 2 2, .slice none 0 0, .slice none 0 0, .int .i64 3, .int .i64 0, .int .i64 0, .int .i64 0, .int .i64 0, .int .i64 4, .int .i64 1, .int .i64 12, .int .i64 100, .int .i64 50, .int .i64 5, .int .i64 4, .int .i64 3, .int .i64 6, .int .i64 4] 28 (0, 0))) := Lib.hid (by rw [← hw2]; exact blk_up (blk_set HH1.out 0 _ (by simp)))
  have HN2 : Hid (w2.heap[nb]? = some (.cells #[.int .i64 4, .int .i64 8, .int .i64 0, .int .i64 1, .int .i64 8, .int .i64 8, .int .i64 1, .int .i64 0] 34 (0, 0))) := Lib.hid (by rw [← hw2]; exact blk_top (by rw [← HNB.out]; simp))
  have hnl : sb < nb := by have := HNB.out; omega
  clear hw2 c0 f0
  have hl2 : sb < w2.heap.size := blk_lt HH2.out
  have c1 : ∀ o1 o2 o3, World.cell? (World.alloc (World.alloc (World.alloc w2 o1) o2) o3) ⟨sb, 1, none⟩ = some (.slice none 0 0) := fun o1 o2 o3 => blk_cell (blk_up (blk_up (blk_up HH2.out))) 1 (by simp)
  have f1 : ∀ o1 o2 o3, World.frozen? (World.alloc (World.alloc (World.alloc w2 o1) o2) o3) ⟨sb, 1, none⟩ = false := fun o1 o2 o3 => blk_froz (blk_up (blk_up (blk_up HH2.out))) 1
  have hr2 : rc < w2.heap.size := by omega
  go_upto_region 4 with fail
  generalize hp1 : w2.heap.size = p1
  have HP1 := Lib.hid hp1
  clear hp1
  generalize hw3 : World.setCell (World.alloc (World.alloc (World.alloc w2 _) _) _) _ _ = w3
  have kb3 : KeepBut sb w2 w3 := by rw [← hw3]; exact ((((KeepBut.refl _ _).alloc _).alloc _).alloc _).set _ _
  have k3 : Below rc w0 w3 := by rw [← hw3]; exact (((k2.alloc (by omega) _).alloc (by simp; omega) _).alloc (by simp; omega) _).setCell (p := ⟨sb, _, none⟩) (Nat.le_of_lt hs0) _
  have HA3 : Hid (w3.heap[p1]? = some (.cells #[.int .i64 0, .int .i64 1] 3 (0, 0))) := Lib.hid (by rw [← hw3]; exact blk_else (by have := HP1.out; omega) (blk_up (blk_up (blk_top (by rw [← HP1.out])))))
  have HB3 : Hid (w3.heap[p1 + 1]? = some (.cells #[.int .i64 1] 3 (0, 0))) := Lib.hid (by rw [← hw3]; exact blk_else (by have := HP1.out; omega) (blk_up (blk_top (by rw [← HP1.out]; simp))))
  have HC3 : Hid (w3.heap[p1 + 1 + 1]? = some (.cells #[.slice (some ⟨p1, 0, none⟩) 2 2, .slice (some ⟨p1 + 1, 0, none⟩) 1 1] 77 (0, 0))) := Lib.hid (by rw [← hw3]; exact blk_else (by have := HP1.out; omega) (blk_top (by rw [← HP1.out]; simp)))
  generalize hp2 : p1 + 1 = p2 at *
  have hp12 : p1 < p2 := by omega
  clear hp2
  generalize hpb : p2 + 1 = pb at *
  have hp2b : p2 < pb := by omega
  clear hpb
  have HH3 : Hid (w3.heap[sb]? = some (.cells #[.slice (some ⟨nb, 0, none⟩) 2 2, .slice (some ⟨pb, 0, none⟩) 2 2, .slice none 0 0, .int .i64 3, .int .i64 0, .int .i64 0, .int .i64 0, .int .i64 0, .int .i64 4, .int .i64 1, .int .i64 12, .int .i64 100, .int .i64 50, .int .i64 5, .int .i64 4, .int .i64 3, .int .i64 6, .int .i64 4] 28 (0, 0))) := Lib.hid (by rw [← hw3]; exact blk_set (blk_up (blk_up (blk_up HH2.out))) 1 _ (by simp))
  have hpl : sb < p1 := by have := HP1.out; omega
  clear hw3 c1 f1
  have hl3 : sb < w3.heap.size := blk_lt HH3.out
  have c2 : ∀ o1 o2 o3 o4, World.cell? (World.alloc (World.alloc (World.alloc (World.alloc w3 o1) o2) o3) o4) ⟨sb, 2, none⟩ = some (.slice none 0 0) := fun o1 o2 o3 o4 => blk_cell (blk_up (blk_up (blk_up (blk_up HH3.out)))) 2 (by simp)
  have f2 : ∀ o1 o2 o3 o4, World.frozen? (World.alloc (World.alloc (World.alloc (World.alloc w3 o1) o2) o3) o4) ⟨sb, 2, none⟩ = false := fun o1 o2 o3 o4 => blk_froz (blk_up (blk_up (blk_up (blk_up HH3.out)))) 2
  have hr3 : rc < w3.heap.size := by omega
  go_upto_region 7 with fail
  generalize hqz : w3.heap.size = qz
  have HQZ := Lib.hid hqz
  clear hqz
  generalize hw4 : World.setCell (World.alloc (World.alloc (World.alloc (World.alloc w3 _) _) _) _) _ _ = w4
  have kb4 : KeepBut sb w3 w4 := by rw [← hw4]; exact (((((KeepBut.refl _ _).alloc _).alloc _).alloc _).alloc _).set _ _
  have k4 : Below rc w0 w4 := by rw [← hw4]; exact ((((k3.alloc (by omega) _).alloc (by simp; omega) _).alloc (by simp; omega) _).alloc (by simp; omega) _).setCell (p := ⟨sb, _, none⟩) (Nat.le_of_lt hs0) _
  have HU4 : Hid (w4.heap[qz + 1]? = some (.cells #[.int .i64 0, .int .i64 1] 3 (0, 0))) := Lib.hid (by rw [← hw4]; exact blk_else (by have := HQZ.out; omega) (blk_up (blk_up (blk_top (by rw [← HQZ.out]; simp)))))
  have HQ4 : Hid (w4.heap[qz + 1 + 1 + 1]? = some (.cells #[.int .i64 0, .slice none 0 0, .int .i64 8, .int .i64 4, .int .i64 3, .int .i64 1, .int .i64 1, .slice (some ⟨qz + 1, 0, none⟩) 2 2, .int .i64 4, .int .i64 2, .int .i64 2, .int .i64 5] 89 (0, 0))) := Lib.hid (by rw [← hw4]; exact blk_else (by have := HQZ.out; omega) (blk_top (by rw [← HQZ.out]; simp)))
  have hqz1 : sb < qz := by have := HQZ.out; omega
  have hqz2 : rc < qz := by omega
  generalize hub : qz + 1 = ub at *
  have hub1 : qz < ub := by omega
  clear hub
  generalize hqb : ub + 1 + 1 = qb at *
  have hqb1 : ub < qb := by omega
  clear hqb
  have HH4 : Hid (w4.heap[sb]? = some (.cells #[.slice (some ⟨nb, 0, none⟩) 2 2, .slice (some ⟨pb, 0, none⟩) 2 2, .slice (some ⟨qb, 0, none⟩) 2 2, .int .i64 3, .int .i64 0, .int .i64 0, .int .i64 0, .int .i64 0, .int .i64 4, .int .i64 1, .int .i64 12, .int .i64 100, .int .i64 50, .int .i64 5, .int .i64 4, .int .i64 3, .int .i64 6, .int .i64 4] 28 (0, 0))) := Lib.hid (by rw [← hw4]; exact blk_set (blk_up (blk_up (blk_up (blk_up HH3.out)))) 2 _ (by simp))
  clear hw4 c2 f2
  have g4 := blk_cell HH4.out 4 (by simp)
  have g5 := blk_cell HH4.out 5 (by simp)
  have g6 := blk_cell HH4.out 6 (by simp)
  have g7 := blk_cell HH4.out 7 (by simp)
  have f4 := blk_froz HH4.out 4
  have f5 := blk_froz HH4.out 5
  have f6 := blk_froz HH4.out 6
  have f7 := blk_froz HH4.out 7
  go_upto_region 8 with fail
  generalize hw5 : World.setCell (World.setCell (World.setCell (World.setCell w4 _ _) _ _) _ _) _ _ = w5
  have kb5 : KeepBut sb w4 w5 := by rw [← hw5]; exact ((((KeepBut.refl _ _).set _ _).set _ _).set _ _).set _ _
  have k5 : Below rc w0 w5 := by rw [← hw5]; exact (((k4.setCell (p := ⟨sb, _, none⟩) (Nat.le_of_lt hs0) _).setCell (p := ⟨sb, _, none⟩) (Nat.le_of_lt hs0) _).setCell (p := ⟨sb, _, none⟩) (Nat.le_of_lt hs0) _).setCell (p := ⟨sb, _, none⟩) (Nat.le_of_lt hs0) _
  have HH5 : Hid (w5.heap[sb]? = some (.cells #[.slice (some ⟨nb, 0, none⟩) 2 2, .slice (some ⟨pb, 0, none⟩) 2 2, .slice (some ⟨qb, 0, none⟩) 2 2, .int .i64 3, .int .i64 1, .int .i64 2, .int .i64 10, .int .i64 3, .int .i64 4, .int .i64 1, .int .i64 12, .int .i64 100, .int .i64 50, .int .i64 5, .int .i64 4, .int .i64 3, .int .i64 6, .int .i64 4] 28 (0, 0))) := Lib.hid (by rw [← hw5]; exact blk_set (blk_set (blk_set (blk_set HH4.out 4 _ rfl) 5 _ rfl) 6 _ rfl) 7 _ (by simp))
  clear hw5 g4 g5 g6 g7 f4 f5 f6 f7
  have HBX : Hid (Box w5 sb (smallP nb p1 p2 pb ub qb)) := Lib.hid (box_blk (s := smallP nb p1 p2 pb ub qb) HH5.out)
  have HRK5 : Hid (w5.heap[rc]? = some (.cells #[.slice none 0 0, .slice none 0 0, .slice none 0 0, .int .i64 0, .int .i64 0, .int .i64 0, .int .i64 0, .int .i64 0, .int .i64 0, .int .i64 0, .int .i64 0, .int .i64 0, .int .i64 0, .int .i64 0, .int .i64 0, .int .i64 0, .int .i64 0, .int .i64 0] 28 (0, 0))) := Lib.hid (kb5.2 _ _ (Nat.ne_of_lt hs0) (kb4.2 _ _ (Nat.ne_of_lt hs0) (kb3.2 _ _ (Nat.ne_of_lt hs0) (kb2.2 _ _ (Nat.ne_of_lt hs0) HRK1.out))))
  go_wp2_with (first
    | refine wpList_load_box (s := smallP nb p1 p2 pb ub qb) rfl (.tmp 1) rfl rfl HBX.out ?_
    | (refine wpList_store_row rfl 28 (.tmp 0) (.tmp 22) rfl rc _ rfl rfl 28 #[.slice none 0 0, .slice none 0 0, .slice none 0 0, .int .i64 0, .int .i64 0, .int .i64 0, .int .i64 0, .int .i64 0, .int .i64 0, .int .i64 0, .int .i64 0, .int .i64 0, .int .i64 0, .int .i64 0, .int .i64 0, .int .i64 0, .int .i64 0, .int .i64 0] HRK5.out (by kernel_rfl) (by simp) (by simp [Value.oneCell']) ?_; generalize hw9 : World.setRow _ _ _ = w9))
  have kb9 : KeepBut rc w5 w9 := by rw [← hw9]; exact (KeepBut.refl _ _).setRow _
  have k9 : Below rc w0 w9 := by rw [← hw9]; exact below_setRow k5 (Nat.le_refl _) _
  have hg9 : w9.heap[rc]? = some (.cells #[.slice (smallP nb p1 p2 pb ub qb).na (smallP nb p1 p2 pb ub qb).nodes.length (smallP nb p1 p2 pb ub qb).nc, .slice (smallP nb p1 p2 pb ub qb).pa (smallP nb p1 p2 pb ub qb).parts.length (smallP nb p1 p2 pb ub qb).pc, .slice (smallP nb p1 p2 pb ub qb).qa (smallP nb p1 p2 pb ub qb).queues.length (smallP nb p1 p2 pb ub qb).qc, .int .i64 (smallP nb p1 p2 pb ub qb).users, .int .i64 (smallP nb p1 p2 pb ub qb).age, .int .i64 (smallP nb p1 p2 pb ub qb).size, .int .i64 (smallP nb p1 p2 pb ub qb).qos, .int .i64 (smallP nb p1 p2 pb ub qb).share, .int .i64 (smallP nb p1 p2 pb ub qb).decay, .int .i64 (smallP nb p1 p2 pb ub qb).mode, .int .i64 (smallP nb p1 p2 pb ub qb).jobs, .int .i64 (smallP nb p1 p2 pb ub qb).ids, .int .i64 (smallP nb p1 p2 pb ub qb).versions, .int .i64 (smallP nb p1 p2 pb ub qb).linger, .int .i64 (smallP nb p1 p2 pb ub qb).keep, .int .i64 (smallP nb p1 p2 pb ub qb).inn, .int .i64 (smallP nb p1 p2 pb ub qb).out, .int .i64 (smallP nb p1 p2 pb ub qb).cache] 28 (0, 0)) := by rw [← hw9]; exact setRow_heap _ _ _ _ _ _ HRK5.out
  have hr9 : Rows w9 (smallP nb p1 p2 pb ub qb) := by
    have up5 : ∀ {i o}, i ≠ sb → i ≠ rc → w4.heap[i]? = some o → w9.heap[i]? = some o := fun h1 h2 h => kb9.2 _ _ h2 (kb5.2 _ _ h1 h)
    have up3 : ∀ {i o}, i ≠ sb → i ≠ rc → w3.heap[i]? = some o → w9.heap[i]? = some o := fun h1 h2 h => up5 h1 h2 (kb4.2 _ _ h1 h)
    have up2 : ∀ {i o}, i ≠ sb → i ≠ rc → w2.heap[i]? = some o → w9.heap[i]? = some o := fun h1 h2 h => up3 h1 h2 (kb3.2 _ _ h1 h)
    refine ⟨row_blk (up2 (by omega) (by omega) HN2.out) (by rfl), row_blk (up3 (by omega) (by omega) HC3.out) (by rfl), fun p hp => ?_, row_blk (up5 (by omega) (by omega) HQ4.out) (by rfl), fun q hq => ?_⟩
    · simp only [smallP, List.mem_cons, List.not_mem_nil, or_false] at hp
      rcases hp with rfl | rfl
      · exact row_blk (up3 (by omega) (by omega) HA3.out) (by rfl)
      · exact row_blk (up3 (by omega) (by omega) HB3.out) (by rfl)
    · simp only [smallP, List.mem_cons, List.not_mem_nil, or_false] at hq
      rcases hq with rfl | rfl
      · exact .inl rfl
      · exact row_blk (up5 (by omega) (by omega) HU4.out) (by rfl)
  clear hw9
  have hb9 : Below w.heap.size w w9 := by
    have := HRC.out
    rw [this]
    rw [this] at hb0
    exact hb0.trans k9
  go_wp2
  refine bodyPost_ret (results_cell_row (by simp [results, Try.results18]; rfl) _ _ rc _ _ _ _ rfl hg9 Try.underlying28 rfl (by kernel_rfl)) rfl ⟨nb, p1, p2, pb, ub, qb, rfl, hb9, hr9⟩
end Go.Proofs.Ytcdajfiohhbdgaa.W
