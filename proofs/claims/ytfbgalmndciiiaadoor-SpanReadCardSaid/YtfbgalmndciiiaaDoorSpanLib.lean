/-
  What the functions of layer 4 call of the library, in this layer's words: cut, a number's digits and back; span.number.
-/
import Derived.Test.YtfbgalmndciiiaaDoorSpanBuf
import Derived.Lib.ItoaMem
import Derived.Lib.CutLaws
import Derived.Lib.IndexBytes
namespace Go.Proofs.YtfbgalmndciiiaaDoor.W
set_option linter.unusedVariables false
set_option linter.unusedSimpArgs false
open Go.ChangeShapes Go.WideShapes Go.ChangeAt Go.RowKit

/-- what the library's functions ask of the world: its own variables hold what they hold from the start -/
structure Std (w : World) : Prop where
  max : ∃ m, w.cell? ⟨0, 0, none⟩ = some (.int .i64 m)
  tab : Lib.TabIs Tryd.prog w "internal/strconv.uint64pow10" .u64 Lib.pow10Tab
  syn : ∃ tp p, w.var? Tryd.prog "strconv.ErrSyntax" = some #[.iface tp p]
  ran : ∃ tp p, w.var? Tryd.prog "strconv.ErrRange" = some #[.iface tp p]
  size : 4 ≤ w.heap.size

theorem gTab : Tryd.prog.globalNamed "internal/strconv.uint64pow10" = some 1 := by kernel_rfl
theorem gSyn : Tryd.prog.globalNamed "strconv.ErrSyntax" = some 2 := by kernel_rfl
theorem gRan : Tryd.prog.globalNamed "strconv.ErrRange" = some 3 := by kernel_rfl

theorem var_below {P : Program} {w w' : World} {B g : Nat} {s : String} {x : Array Value} (hg : P.globalNamed s = some g) (h : w.var? P s = some x) (hb : Below B w w') (hB : g < B) : w'.var? P s = some x := by
  unfold World.var? at h ⊢
  rw [hg] at h ⊢
  simp only [Option.bind_some] at h ⊢
  rw [hb.block g hB]
  exact h
theorem Std.below {w w' : World} {B : Nat} (h : Std w) (hb : Below B w w') (hB : 4 ≤ B) (hs : w.heap.size ≤ w'.heap.size) : Std w' where
  max := by obtain ⟨m, hm⟩ := h.max; exact ⟨m, (hb.cell (p := ⟨0, 0, none⟩) (by show 0 < B; omega)).trans hm⟩
  tab := var_below gTab h.tab hb (by omega)
  syn := by obtain ⟨tp, p, hv⟩ := h.syn; exact ⟨tp, p, var_below gSyn hv hb (by omega)⟩
  ran := by obtain ⟨tp, p, hv⟩ := h.ran; exact ⟨tp, p, var_below gRan hv hb (by omega)⟩
  size := by have := h.size; omega
/-- behind a call -/
theorem Std.on {w w' : World} (h : Std w) (hb : Below w.heap.size w w') : Std w' := h.below hb h.size hb.size

/-- the library's cut at one byte, of a text of whatever length -/
theorem cutB_one (l : List UInt8) (c : UInt8) : (Lib.indexByte l c = -1 ∧ bs (cutAt c l).1 = bs l ∧ bs (cutAt c l).2.1 = ⟨#[]⟩ ∧ (cutAt c l).2.2 = false) ∨
    ∃ i : Nat, Lib.indexByte l c = i ∧ i + 1 ≤ l.length ∧ bs (cutAt c l).1 = (bs l).extract 0 i ∧ bs (cutAt c l).2.1 = (bs l).extract (i + 1) (bs l).size ∧ (cutAt c l).2.2 = true := by
  have hx : Lib.indexB (bs l) ⟨#[c]⟩ = Lib.indexByte l c := by
    show Lib.index (bs l).data.toList [c] = _
    rw [bs_list, Lib.index_one]
  have hc : Lib.cut (bs l).data.toList (⟨#[c]⟩ : ByteArray).data.toList = cutAt c l := by
    rw [bs_list]
    exact cut_one c l
  rcases Lib.indexB_cases (bs l) ⟨#[c]⟩ with h | ⟨i, h, hroom⟩
  · obtain ⟨e1, e2, e3⟩ := Lib.cutB_miss (bs l) ⟨#[c]⟩ h
    rw [hc] at e1 e2 e3
    exact Or.inl ⟨hx.symm.trans h, e1, e2, e3⟩
  · obtain ⟨e1, e2, e3⟩ := Lib.cutB_hit (bs l) ⟨#[c]⟩ i h
    rw [hc] at e1 e2 e3
    rw [bs_size] at hroom
    exact Or.inr ⟨i, hx.symm.trans h, hroom, e1, e2, e3⟩
set_option maxHeartbeats 2000000 in
theorem cutS (l : List UInt8) (c : UInt8) (w : World) (hl : l.length ≤ 140737488355328) :
    Calls Tryd.prog 21 #[.string (bs l), .string ⟨#[c]⟩] w fun e w' => e = .returned (.tuple #[.string (bs (cutAt c l).1), .string (bs (cutAt c l).2.1), .bool (cutAt c l).2.2]) ∧ Below w.heap.size w w' := by
  have HI := Lib.hid (Tryd.stringslite_Index_one (bs l) c)
  have hz := bs_size l
  rcases cutB_one l c with ⟨h, e1, e2, e3⟩ | ⟨i, h, hroom, e1, e2, e3⟩
  · rw [bs_list, h] at HI
    rw [e1, e2, e3]
    clear e1 e2 e3 h
    go_enter Tryd.func21, Tryd.ntmps21
    go_wp2_with fail
    refine (HI.out _).mono ?_; rintro e w1 ⟨rfl, rfl⟩
    go_wp2
    go_ret3
    exact ⟨rfl, Below.refl _ _⟩
  · rw [bs_list, h] at HI
    rw [e1, e2, e3]
    have c1 : (0 : Int) ≤ (i : Int) := by omega
    have c2 : (i : Int) ≤ ((bs l).size : Int) := by omega
    have c3 : (0 : Int) ≤ (i : Int) + 1 := by omega
    have c4 : (i : Int) + 1 ≤ ((bs l).size : Int) := by omega
    have c5 : i ≤ l.length := by omega
    have c6 : (i : Int) + 1 ≤ (l.length : Int) := by omega
    have mixed : Tryd.prog.follows .mixedOrders = true := by kernel_rfl
    clear e1 e2 e3 h
    go_enter Tryd.func21, Tryd.ntmps21
    go_wp2_with fail
    refine (HI.out _).mono ?_; rintro e w1 ⟨rfl, rfl⟩
    go_wp2
    go_region_o
    go_wp2
    go_ret3
    exact ⟨rfl, (by repeat' (first | exact Below.refl _ _ | assumption | exact And.left (by assumption) | refine Below.drew ?_ | refine below_drewN ?_ _ | refine Below.setCell ?_ (by first | (simp; done) | (simp; omega) | omega) _ | refine Below.alloc ?_ (by first | (simp; done) | (simp; omega) | omega) _ | refine after (by assumption) (by first | (simp; done) | (simp; omega) | omega) ?_))⟩

set_option maxHeartbeats 2000000 in
theorem cCut (l : List UInt8) (c : UInt8) (w : World) (hl : l.length ≤ 140737488355328) :
    Calls Tryd.prog 14 #[.string (bs l), .string ⟨#[c]⟩] w fun e w' => e = .returned (.tuple #[.string (bs (cutAt c l).1), .string (bs (cutAt c l).2.1), .bool (cutAt c l).2.2]) ∧ Below w.heap.size w w' := by
  have HC := Lib.hid (fun w => cutS l c w hl)
  generalize cutAt c l = x at HC ⊢
  go_enter Tryd.func14, Tryd.ntmps14
  go_wp2_with fail
  refine (HC.out _).mono ?_; rintro e w1 ⟨rfl, hb1⟩
  go_wp2
  go_ret3
  exact ⟨rfl, hb1⟩

theorem below_grown {B : Nat} {w : World} (k : Nat) (os : Array Obj) (hB : B ≤ w.heap.size) : Below B w (Go.Sort.grow (w.drewN k) os) :=
  ⟨rfl, rfl, rfl, by simp [Go.Sort.grow, World.drewN], fun i hi => by simp [Go.Sort.grow, World.drewN, Array.getElem?_append, show i < w.heap.size by omega]⟩
theorem cItoa (n : Nat) (w : World) (hS : Std w) (hn : n ≤ 1048576) :
    Calls Tryd.prog 12 #[.int .i64 n] w fun e w' => e = .returned (.string (bs (Lib.decDigits n))) ∧ Below w.heap.size w w' := by
  have h := Tryd.strconv_Itoa n (by omega) (by omega) w hS.tab
  refine h.mono ?_
  rintro e w' ⟨rfl, k, os, rfl⟩
  refine ⟨?_, below_grown k os (Nat.le_refl _)⟩
  rw [Lib.itoa_nonneg]
  rfl

theorem cAtoi_ok (l : List UInt8) (hl : l.length ≤ 140737488355328) (v : Int) (h : Lib.atoiAll l = .ok v) (w : World) :
    Calls Tryd.prog 22 #[.string (bs l)] w fun e w' => e = .returned (.tuple #[.int .i64 v, .nilIface]) ∧ Below w.heap.size w w' := by
  have hc := Tryd.strconv_Atoi_ok (bs l) (by rw [bs_size]; omega) v (by rw [bs_list]; exact h) w
  refine hc.mono ?_
  rintro e w' ⟨rfl, rfl | ⟨t, rfl⟩⟩
  · exact ⟨rfl, Below.refl _ _⟩
  · exact ⟨rfl, Lib.bytesWorld_below _ _ _⟩
theorem cAtoi_no (l : List UInt8) (hl : l.length ≤ 140737488355328) (h : ∀ v, Lib.atoiAll l ≠ .ok v) (w : World) (hS : Std w) :
    Calls Tryd.prog 22 #[.string (bs l)] w fun e w' => (∃ (v : Int) (t : TypeId) (p : Value), e = .returned (.tuple #[.int .i64 v, .iface t p])) ∧ Below w.heap.size w w' := by
  obtain ⟨t1, p1, h1⟩ := hS.syn
  obtain ⟨t2, p2, h2⟩ := hS.ran
  cases ha : Lib.atoiAll l with
  | ok v => exact absurd ha (h v)
  | «syntax» =>
    refine (Tryd.strconv_Atoi_syntax_var (bs l) (by rw [bs_size]; omega) (by rw [bs_list]; exact ha) t1 p1 w h1).mono ?_
    rintro e w' ⟨N, rfl, _, _, hb⟩
    exact ⟨⟨_, _, _, rfl⟩, hb⟩
  | range =>
    refine (Tryd.strconv_Atoi_range_var (bs l) (by rw [bs_size]; omega) (by rw [bs_list]; exact ha) t2 p2 w h2).mono ?_
    rintro e w' ⟨N, rfl, _, _, hb⟩
    exact ⟨⟨_, _, _, rfl⟩, hb⟩

set_option maxHeartbeats 2000000 in
theorem number (l : List UInt8) (hl : l.length ≤ 140737488355328) (w : World) (hS : Std w) :
    Calls Tryd.prog 15 #[.string (bs l)] w fun e w' => e = .returned (.int .i64 (numOf l : Nat)) ∧ Below w.heap.size w w' := by
  by_cases h : ∃ v, Lib.atoiAll l = .ok v
  · obtain ⟨v, hv⟩ := h
    have HA := Lib.hid (cAtoi_ok l hl v hv w)
    obtain ⟨b1, b2⟩ := Lib.atoiAll_bounds hv
    by_cases h0 : v < 0
    · have hn : Hid (numOf l = 0) := Lib.hid (by unfold numOf; rw [hv]; simp only; rw [if_neg (by omega)])
      clear hv
      go_enter Tryd.func15, Tryd.ntmps15
      go_wp2_with fail
      refine HA.out.mono ?_; rintro e w1 ⟨rfl, hb1⟩
      go_wp2
      go_ret
      exact ⟨by rw [hn.out]; rfl, hb1⟩
    · by_cases h1 : v > 65536
      · have hn : Hid (numOf l = 0) := Lib.hid (by unfold numOf; rw [hv]; simp only; rw [if_neg (by omega)])
        clear hv
        go_enter Tryd.func15, Tryd.ntmps15
        go_wp2_with fail
        refine HA.out.mono ?_; rintro e w1 ⟨rfl, hb1⟩
        go_wp2
        go_ret
        exact ⟨by rw [hn.out]; rfl, hb1⟩
      · have hn : Hid (((numOf l : Nat) : Int) = v) := Lib.hid (by unfold numOf; rw [hv]; simp only; rw [if_pos (by omega)]; omega)
        clear hv
        go_enter Tryd.func15, Tryd.ntmps15
        go_wp2_with fail
        refine HA.out.mono ?_; rintro e w1 ⟨rfl, hb1⟩
        go_wp2
        go_ret
        exact ⟨by rw [hn.out]; rfl, hb1⟩
  · have HA := Lib.hid (cAtoi_no l hl (fun v hv => h ⟨v, hv⟩) w hS)
    have hn : Hid (numOf l = 0) := Lib.hid (by
      unfold numOf
      split
      · next v hv => exact absurd ⟨v, hv⟩ h
      · rfl)
    clear h
    go_enter Tryd.func15, Tryd.ntmps15
    go_wp2_with fail
    refine HA.out.mono ?_; rintro e w1 ⟨⟨v, t, p, rfl⟩, hb1⟩
    go_wp2
    go_ret
    exact ⟨by rw [hn.out]; rfl, hb1⟩

end Go.Proofs.YtfbgalmndciiiaaDoor.W
