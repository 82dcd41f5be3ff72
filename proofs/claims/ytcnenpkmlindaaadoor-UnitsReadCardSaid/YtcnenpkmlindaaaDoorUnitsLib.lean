/-
  What the functions of layer 3 call besides: drayageref01.Digits, the library's own (cut, index, join, a number's digits) in this layer's words, units.Words.
-/
import Derived.Test.YtcnenpkmlindaaaDoorUnitsNum
import Derived.Test.YtcnenpkmlindaaaDoorShelf
import Derived.Lib.ItoaMem
namespace Go.Proofs.YtcnenpkmlindaaaDoor.W
set_option linter.unusedVariables false
set_option linter.unusedSimpArgs false
open Go.ChangeShapes Go.WideShapes Go.ChangeAt Go.RowKit

/-- what the library's functions ask of the world: its own variables hold what they hold from the start -/
structure Std (w : World) : Prop where
  max : ∃ m, w.cell? ⟨0, 0, none⟩ = some (.int .i64 m)
  tab : Lib.TabIs Tryd.prog w "internal/strconv.uint64pow10" .u64 Lib.pow10Tab
  size : 4 ≤ w.heap.size

theorem gTab : Tryd.prog.globalNamed "internal/strconv.uint64pow10" = some 1 := by kernel_rfl

theorem digits_size (a b : List UInt8) : (bs a ++ bs b).size = a.length + b.length := by rw [bs_app, bs_size, List.length_append]

/-- where the loop stands: acc is written, m is left -/
def DigSt (n0 m : Nat) (acc : List UInt8) : Prop := (acc = [] ∧ m = n0) ∨ (acc ≠ [] ∧ (m = 0 → Lib.decDigits n0 = acc) ∧ (0 < m → Lib.decDigits n0 = Lib.decDigits m ++ acc))
theorem DigSt.step {n0 m : Nat} {acc : List UInt8} (h : DigSt n0 m acc) (hm : acc = [] ∨ 0 < m) : DigSt n0 (m / 10) (UInt8.ofNat (48 + m % 10) :: acc) := by
  have key : Lib.decDigits n0 = Lib.decDigits m ++ acc := by
    rcases h with ⟨h1, h2⟩ | ⟨h1, h2, h3⟩
    · rw [h1, h2, List.append_nil]
    · rcases hm with hm | hm
      · exact absurd hm h1
      · exact h3 hm
  refine Or.inr ⟨by simp, ?_, ?_⟩
  · intro hz
    have hlt : m < 10 := by omega
    rw [key, Lib.decDigits_one hlt, show m % 10 = m by omega]
    rfl
  · intro hp
    rw [key]
    conv => lhs; rw [Lib.decDigits, dif_neg (by omega)]
    simp
theorem DigSt.fin {n0 m : Nat} {acc : List UInt8} (h : DigSt n0 m acc) (h1 : acc ≠ []) (hm : m = 0) : Lib.decDigits n0 = acc := by
  rcases h with ⟨h2, _⟩ | ⟨_, h2, _⟩
  · exact absurd h2 h1
  · exact h2 hm

theorem conv_byte (w : World) (d : UInt8) (v : Int) (hv : v = (d.toNat : Int)) : (convert 50 9 (.slice (some ⟨w.heap.size, 0, none⟩) 1 1)).run Tryd.prog (w.alloc (.cells #[.int .u8 v] 5)) = .ok (.string (bs [d])) (w.alloc (.cells #[.int .u8 v] 5)) := by
  subst hv
  refine run_convert_bytes_back (P := Tryd.prog) (w.alloc (.cells #[.int .u8 (d.toNat : Int)] 5)) 50 9 5 ⟨w.heap.size, 0, none⟩ 1 [d] Tryd.underlying50 Tryd.underlying5 Tryd.underlying9 ?_
  intro j hj
  have : j = 0 := by simpa using hj
  subst this
  have e : (⟨w.heap.size, 0, none⟩ : Addr).add 0 = ⟨w.heap.size, 0, none⟩ := by simp [Addr.add]
  rw [e]
  simp [World.cell?_alloc_new]
theorem add_bs (w : World) (a b : List UInt8) (h : a.length + b.length ≤ 9223372036854775807) : (Op.stringOp .add (bs a) (bs b)).run Tryd.prog w = .ok (.string (bs (a ++ b))) w := by
  rw [run_string_add_sum w _ _ (by rw [bs_size, bs_size]; omega), bs_app]
theorem empty_nil : (bs []).toList.isEmpty = true := by rw [Lib.toList_data, bs_list]; rfl
theorem empty_cons (c : UInt8) (t : List UInt8) : (bs (c :: t)).toList.isEmpty = false := by rw [Lib.toList_data, bs_list]; rfl

set_option maxHeartbeats 2000000 in
set_option maxRecDepth 100000 in
theorem digits (n0 : Nat) (hn0 : n0 ≤ 1048576) (w : World) :
    Calls Tryd.prog 19 #[.int .i64 n0] w fun e w' => e = .returned (.string (bs (Lib.decDigits n0))) ∧ Below w.heap.size w w' := by
  go_enter Tryd.func19, Tryd.ntmps19
  go_wp2
  go_loopw [0, 3] (fun v0 v3 wr => ∃ (m : Nat) (acc : List UInt8), v0 = .int .i64 m ∧ v3 = .string (bs acc) ∧ m ≤ 1048576 ∧ acc.length ≤ 4294967280 - 8 * m ∧ Hid (DigSt n0 m acc) ∧ Below w.heap.size w wr) (fun v0 v3 wr => 2 * (intOf v0).toNat + (match v3 with | .string s => if s.toList.isEmpty then 1 else 0 | _ => 0))
  case atStart => exact ⟨n0, [], rfl, rfl, hn0, by simp, Lib.hid (Or.inl ⟨rfl, rfl⟩), Below.refl _ _⟩
  case round =>
    obtain ⟨m, acc, rfl, rfl, hm, hacc, HS, hbw⟩ := hrel
    obtain ⟨d, hd⟩ : ∃ d, d = UInt8.ofNat (48 + m % 10) := ⟨_, rfl⟩
    have hx : (48 : Int) + (m : Int) % 10 = (d.toNat : Int) := by rw [hd, dig_toNat (by omega)]; omega
    have hcv : ∀ w' : World, _ := fun w' => conv_byte w' _ _ hx
    have hadd : ∀ w' : World, _ := fun w' => add_bs w' [d] acc (by simp; omega)
    simp only [List.singleton_append] at hadd
    have hem := empty_cons d acc
    have hst : (acc = [] ∨ 0 < m) → DigSt n0 (m / 10) (d :: acc) := fun h => by rw [hd]; exact HS.out.step h
    have hfin := fun h h' => HS.out.fin (acc := acc) h h'
    clear hx hd HS
    cases acc with
    | nil =>
      have HS2 := Lib.hid (hst (Or.inl rfl))
      have he := empty_nil
      clear hst hfin
      by_cases h0 : 0 < m
      · go_wp2
        go_roundw
        case rel => exact ⟨m / 10, _, by go_num, rfl, by omega, by simp; omega, HS2, hbw.alloc hbw.size _⟩
        case measure => simp [intOf, hem, he]; omega
      · go_wp2
        go_roundw
        case rel => exact ⟨m / 10, _, by go_num, rfl, by omega, by simp; omega, HS2, hbw.alloc hbw.size _⟩
        case measure => simp [intOf, hem, he]; omega
    | cons c t =>
      have he := empty_cons c t
      by_cases h0 : 0 < m
      · have HS2 := Lib.hid (hst (Or.inr h0))
        clear hst hfin
        go_wp2
        go_roundw
        case rel => exact ⟨m / 10, _, by go_num, rfl, by omega, by simp at hacc ⊢; omega, HS2, hbw.alloc hbw.size _⟩
        case measure => simp [intOf, hem, he]; omega
      · have HF := Lib.hid (hfin (by simp) (by omega))
        clear hst hfin
        go_wp2
        go_ret
        exact ⟨by rw [HF.out]; rfl, hbw⟩


/-! what the world's own variables hold stays so -/
theorem tab_below {w w' : World} {B : Nat} (h : Lib.TabIs Tryd.prog w "internal/strconv.uint64pow10" .u64 Lib.pow10Tab) (hb : Below B w w') (hB : 4 ≤ B) : Lib.TabIs Tryd.prog w' "internal/strconv.uint64pow10" .u64 Lib.pow10Tab := by
  unfold Lib.TabIs World.var? at h ⊢
  rw [gTab] at h ⊢
  simp only [Option.bind_some] at h ⊢
  rw [hb.block 1 (by omega)]
  exact h
theorem Std.below {w w' : World} {B : Nat} (h : Std w) (hb : Below B w w') (hB : 4 ≤ B) (hs : w.heap.size ≤ w'.heap.size) : Std w' :=
  ⟨by obtain ⟨m, hm⟩ := h.max; exact ⟨m, (hb.cell (p := ⟨0, 0, none⟩) (by show 0 < B; omega)).trans hm⟩, tab_below h.tab hb hB, by have := h.size; omega⟩
/-- behind a call -/
theorem Std.on {w w' : World} (h : Std w) (hb : Below w.heap.size w w') : Std w' := h.below hb h.size hb.size
/-- in a world that has grown since -/
theorem Std.since {v w w' : World} (h : Std v) (hv : Std w) (hb : Below v.heap.size w w') (hs : w.heap.size ≤ w'.heap.size) : Std w' := hv.below hb h.size hs

theorem cCut (l : List UInt8) (c : UInt8) (w : World) (hS : Std w) (hl : l.length ≤ 4294967280) :
    Calls Tryd.prog 16 #[.string (bs l), .string ⟨#[c]⟩] w fun e w' => e = .returned (.tuple #[.string (bs (cutAt c l).1), .string (bs (cutAt c l).2.1), .bool (cutAt c l).2.2]) ∧ Below w.heap.size w w' := by
  obtain ⟨m, hm⟩ := hS.max
  have h := Tryd.strings_Cut (bs l) ⟨#[c]⟩ m w (by rw [bs_size]; omega) hm
  refine h.mono ?_
  rintro e w' ⟨rfl, n, rfl⟩
  refine ⟨?_, below_drewN (Below.refl _ _) n⟩
  rw [bs_list, show (⟨#[c]⟩ : ByteArray).data.toList = [c] from rfl, cut_one]
  rfl

theorem below_grown {B : Nat} {w : World} (k : Nat) (os : Array Obj) (hB : B ≤ w.heap.size) : Below B w (Go.Sort.grow (w.drewN k) os) :=
  ⟨rfl, rfl, rfl, by simp [Go.Sort.grow, World.drewN], fun i hi => by simp [Go.Sort.grow, World.drewN, Array.getElem?_append, show i < w.heap.size by omega]⟩
theorem cItoa (n : Nat) (w : World) (hS : Std w) (hn : n ≤ 1048576) :
    Calls Tryd.prog 13 #[.int .i64 n] w fun e w' => e = .returned (.string (bs (Lib.decDigits n))) ∧ Below w.heap.size w w' := by
  have h := Tryd.strconv_Itoa n (by omega) (by omega) w hS.tab
  refine h.mono ?_
  rintro e w' ⟨rfl, k, os, rfl⟩
  refine ⟨?_, below_grown k os (Nat.le_refl _)⟩
  rw [Lib.itoa_nonneg]
  rfl

theorem map_bs (ps : List (List UInt8)) : (ps.map bs).map (·.data.toList) = ps := by
  rw [List.map_map]
  conv => rhs; rw [← List.map_id ps]
  apply List.map_congr_left
  intro a _
  exact bs_list a
theorem cJoin (bk c : Nat) (ps : List (List UInt8)) (w : World) (hc : ∀ (j : Nat) x, ps[j]? = some x → w.cell? ⟨bk, j, none⟩ = some (.string (bs x))) (hbk : bk < w.heap.size) (hN : ps.length ≤ 4) (hcap : ps.length ≤ c)
    (hl : (ujoin ps).length ≤ 1000000) :
    Calls Tryd.prog 14 #[.slice (some ⟨bk, 0, none⟩) ps.length c, .string ⟨#[44]⟩] w fun e w' => e = .returned (.string (bs (ujoin ps))) ∧ Below w.heap.size w w' := by
  have h := Tryd.strings_Join bk 0 c (ps.map bs) ⟨#[44]⟩ w ?_ hbk (by simp; omega) (by simpa using hcap) ?_
  · rw [List.length_map] at h
    refine h.mono ?_
    rintro e w' ⟨rfl, hb⟩
    refine ⟨?_, hb⟩
    rw [map_bs, show (⟨#[44]⟩ : ByteArray).data.toList = [44] from rfl, ujoin_lib]
    rfl
  · intro j x hx
    rw [List.getElem?_map, Option.map_eq_some_iff] at hx
    obtain ⟨y, hy, rfl⟩ := hx
    rw [Nat.zero_add]
    exact hc j y hy
  · rw [map_bs, show (⟨#[44]⟩ : ByteArray).data.toList = [44] from rfl, ujoin_lib]
    omega

theorem words_len : uwords.length = 4 := rfl
def wordAt (j : Nat) : ByteArray := bs (uwords.getD j [])
theorem uWords (w : World) :
    Calls Tryd.prog 11 #[] w fun e w' => e = .returned (.slice (some ⟨w.heap.size, 0, none⟩) 4 4) ∧ Below w.heap.size w w' ∧ w.heap.size < w'.heap.size ∧ (∀ j, j < 4 → w'.cell? ⟨w.heap.size, j, none⟩ = some (.string (wordAt j))) := by
  go_enter Tryd.func11, Tryd.ntmps11
  go_wp2
  go_ret
  refine ⟨rfl, (Below.refl _ _).alloc (Nat.le_refl _) _, by simp, ?_⟩
  intro j hj
  rcases j with _ | _ | _ | _ | j
  · simp [World.cell?_alloc_new, wordAt, uwords, bs]
  · simp [World.cell?_alloc_new, wordAt, uwords, bs]
  · simp [World.cell?_alloc_new, wordAt, uwords, bs]
  · simp [World.cell?_alloc_new, wordAt, uwords, bs]
  · omega

theorem cIndex (b next : Nat) (x : List UInt8) (w : World) (hn : next < 4) (hc : ∀ j, j < 4 → w.cell? ⟨b, j, none⟩ = some (.string (wordAt j))) :
    Calls Tryd.prog 17 #[.slice (some ⟨b, next, none⟩) (4 - next) (4 - next), .string (bs x)] w fun e w' => e = .returned (.int .i64 (Lib.idxOfS ((uwords.drop next).map bs) (bs x))) ∧ w = w' := by
  have hl : ((uwords.drop next).map bs).length = 4 - next := by simp [uwords]
  have h := Tryd.slices_Index_string b next (4 - next) (4 - next) ((uwords.drop next).map bs) (bs x) w (by omega) (by omega) ?_
  · rw [List.take_of_length_le (by omega)] at h
    refine h.mono ?_
    rintro e w' ⟨rfl, rfl⟩
    exact ⟨rfl, rfl⟩
  · intro j hj
    rw [hl] at hj
    rw [hc (next + j) (by omega)]
    unfold wordAt
    rcases next with _ | _ | _ | _ | next
    all_goals first | omega | (rcases j with _ | _ | _ | _ | j; all_goals first | omega | rfl)
theorem cIndex4 (a : Option Addr) (c : Nat) (x : List UInt8) (w : World) :
    Calls Tryd.prog 17 #[.slice a 0 c, .string (bs x)] w fun e w' => e = .returned (.int .i64 (-1)) ∧ w = w' := by
  refine (Tryd.slices_Index_string_empty a c (bs x) w).mono ?_
  rintro e w' ⟨rfl, rfl⟩
  exact ⟨rfl, rfl⟩

end Go.Proofs.YtcnenpkmlindaaaDoor.W
