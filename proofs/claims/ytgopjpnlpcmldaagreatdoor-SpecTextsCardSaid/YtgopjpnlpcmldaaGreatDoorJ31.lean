/-
  Several texts in one: UnitsNum, UnitsLib, TextLib, RangeBox.
-/
import Derived.Test.YtgopjpnlpcmldaaGreatDoorJ30
import Derived.Test.YtgopjpnlpcmldaaGreatDoorVec
import Derived.Lib.OthersKept
import Derived.Test.YtgopjpnlpcmldaaGreatDoorShelf
import Derived.Lib.ItoaMem
import Derived.Test.YtgopjpnlpcmldaaGreatDoorSpecMem
import Derived.Lib.AppendIntMem
import Derived.Lib.BufferRead
import Derived.Test.YtgopjpnlpcmldaaGreatDoorRows
import Derived.RangeFuncBox
import Derived.RangeFuncBound
import Derived.RangeFuncCalls
import Derived.RangeFuncLeaves
import Derived.Below

/-
  Contracts of the functions that read and write a number's digits: units.number, drayageref03.number, drayageref01.Digits.
-/
namespace Go.Proofs.YtgopjpnlpcmldaaGreatDoor.W
set_option linter.unusedVariables false
set_option linter.unusedSimpArgs false
open Go.ChangeShapes Go.WideShapes Go.ChangeAt Go.RowKit

theorem iterPos_of {w : World} {k : Nat} {s : ByteArray} {p : Nat} (h : w.heap[k]? = some (.stringIter s p)) : w.iterPos k = p := by simp [World.iterPos, h]
theorem bs_at (l : List UInt8) (i : Nat) (h : i < l.length) (h' : i < (bs l).size) : (bs l)[i]'h' = l[i] := by
  simp [bs, ByteArray.getElem_eq_getElem_data]
  rfl
theorem drop_at' (l : List UInt8) (i : Nat) (h : i < l.length) : l.drop i = l[i] :: l.drop (i + 1) := List.drop_eq_getElem_cons h

set_option maxHeartbeats 2000000 in
set_option maxRecDepth 100000 in
theorem unumber (l : List UInt8) (hl : l.length ≤ 4294967280) (w : World) :
    Calls Tryz.prog 96 #[.string (bs l)] w fun e w' => e = .returned (.int .i64 (numL 0 l)) ∧ Below w.heap.size w w' := by
  have hz := bs_size l
  go_enter Tryz.func96, Tryz.ntmps96
  go_wp2
  go_loopw [3] (fun v wr => ∃ (pos n : Nat), v = .int .i64 n ∧ wr.heap[w.heap.size]? = some (.stringIter (bs l) pos) ∧ Below w.heap.size w wr ∧ pos ≤ l.length ∧ n ≤ 1048576 ∧ Hid (numL n (l.drop pos) = numL 0 l)) (fun _ wr => l.length - wr.iterPos w.heap.size)
  case atStart => exact ⟨0, 0, rfl, World.iter_heap w _ 0, (Below.refl _ _).alloc (Nat.le_refl _) _, by omega, by omega, Lib.hid rfl⟩
  case round =>
    obtain ⟨pos, n, rfl, hit, hbw, hp0, hn, HS⟩ := hrel
    have hpos0 := iterPos_of hit
    by_cases hp : pos < l.length
    · have hp' : pos < (bs l).size := by omega
      have hd := drop_at' l pos hp
      have hit2 := Lib.iterAt_heap wr w.heap.size (bs l) pos (pos + (Utf8.decode (bs l) pos).2) hit
      have hbw2 := Lib.below_iterAt hbw (k := w.heap.size) (Nat.le_refl _) (bs l) (pos + (Utf8.decode (bs l) pos).2)
      have hnx : ∀ ty, (Instr.next (.pointer (some ⟨w.heap.size, 0, none⟩)) true ty).run Tryz.prog wr = _ := fun ty => Lib.run_next_any_at wr w.heap.size (bs l) pos ty hit hp'
      obtain ⟨W1, hW1⟩ : ∃ W1, W1 = wr.iterAt w.heap.size (bs l) (pos + (Utf8.decode (bs l) pos).2) := ⟨_, rfl⟩
      rw [← hW1] at hnx hit2 hbw2
      have hle := decode_le (bs l) pos
      have hat := bs_at l pos hp hp'
      have hc256 : l[pos].toNat < 256 := l[pos].toNat_lt
      by_cases ha : l[pos].toNat < 128
      · have hdec := decode_ascii (bs l) pos hp' (by rw [hat]; exact ha)
        rw [hat] at hdec
        rw [hdec] at hnx hit2
        have HN : numL 0 l = numL n (l[pos] :: l.drop (pos + 1)) := by rw [← HS.out, hd]; rfl
        obtain ⟨x, hx⟩ : ∃ x : Nat, x = l[pos].toNat := ⟨_, rfl⟩
        simp only [numL] at HN
        simp only [← hx] at HN hnx ha
        clear hat hdec hit hbw hd HS hle hc256 hx hW1
        by_cases h1 : x < 48
        · rw [if_pos (Or.inl h1)] at HN
          replace HN := Lib.hid HN
          go_wp2
          go_ret
          exact ⟨by rw [HN.out]; rfl, hbw2⟩
        · by_cases h2 : 57 < x
          · rw [if_pos (Or.inr (Or.inl h2))] at HN
            replace HN := Lib.hid HN
            go_wp2
            go_ret
            exact ⟨by rw [HN.out]; rfl, hbw2⟩
          · by_cases h3 : x = 48
            · subst h3
              by_cases h4 : n = 0
              · subst h4
                rw [if_pos (Or.inr (Or.inr ⟨rfl, rfl⟩))] at HN
                replace HN := Lib.hid HN
                go_wp2
                go_ret
                exact ⟨by rw [HN.out]; rfl, hbw2⟩
              · rw [if_neg (by omega)] at HN
                by_cases h5 : 1048576 < 10 * n
                · rw [if_pos (by omega)] at HN
                  replace HN := Lib.hid HN
                  go_wp2
                  go_ret
                  exact ⟨by rw [HN.out]; rfl, hbw2⟩
                · rw [if_neg (by omega)] at HN
                  replace HN := Lib.hid HN
                  go_wp2
                  go_roundw
                  case rel => exact ⟨pos + 1, 10 * n, by go_num, hit2, hbw2, by omega, by omega, Lib.hid HN.out.symm⟩
                  case measure => rw [iterPos_of hit2, hpos0]; omega
            · rw [if_neg (by omega)] at HN
              by_cases h5 : 1048576 < 10 * n + (x - 48)
              · rw [if_pos (by omega)] at HN
                replace HN := Lib.hid HN
                go_wp2
                go_ret
                exact ⟨by rw [HN.out]; rfl, hbw2⟩
              · rw [if_neg (by omega)] at HN
                replace HN := Lib.hid HN
                go_wp2
                go_roundw
                case rel => exact ⟨pos + 1, 10 * n + (x - 48), by go_num, hit2, hbw2, by omega, by omega, Lib.hid HN.out.symm⟩
                case measure => rw [iterPos_of hit2, hpos0]; omega
      · have hhi := (decode_high (bs l) pos hp' (by rw [hat]; omega)).1
        have HN : numL 0 l = 0 := by
          rw [← HS.out, hd]
          simp only [numL]
          rw [if_pos (by omega)]
        replace HN := Lib.hid HN
        obtain ⟨x, hx⟩ : ∃ x : Nat, x = (Utf8.decode (bs l) pos).1 := ⟨_, rfl⟩
        rw [← hx] at hnx hle hhi
        clear hat hit hbw hd HS hc256 hx hW1 ha
        go_wp2
        go_ret
        exact ⟨by rw [HN.out]; rfl, hbw2⟩
    · have hnx : ∀ ty, (Instr.next (.pointer (some ⟨w.heap.size, 0, none⟩)) true ty).run Tryz.prog wr = _ := fun ty => Lib.run_next_end_at wr w.heap.size (bs l) pos ty hit (by omega)
      have HN : numL 0 l = n := by rw [← HS.out, List.drop_of_length_le (by omega)]; rfl
      replace HN := Lib.hid HN
      clear HS
      go_wp2
      go_ret
      exact ⟨by rw [HN.out]; rfl, hbw⟩

theorem pow_le8 {n k : Nat} (h : n < 10 ^ k) (hk : k ≤ 8) : n < 100000000 := by
  have := Nat.pow_le_pow_right (show 0 < 10 by decide) hk
  have e : (10 : Nat) ^ 8 = 100000000 := by decide
  omega
theorem pow_step {n k d : Nat} (h : n < 10 ^ k) (hd : d < 10) : 10 * n + d < 10 ^ (k + 1) := by
  rw [Nat.pow_succ]
  omega
theorem num8_cons (c : UInt8) (t : List UInt8) : num8 (c :: t) = if isDig c then ((numR 8 0 (c :: t) : Nat) : Int) else -1 := rfl
theorem numR_nil (k n : Nat) : numR k n [] = n := by cases k <;> rfl
theorem numR_out (n : Nat) (l : List UInt8) : numR 0 n l = n := by cases l <;> rfl
theorem numR_no (k n : Nat) (c : UInt8) (t : List UInt8) (h : ¬ isDig c) : numR k n (c :: t) = n := by
  cases k with
  | zero => rfl
  | succ k => simp only [numR]; rw [if_neg h]
theorem numR_yes (k n : Nat) (c : UInt8) (t : List UInt8) (h : isDig c) : numR (k + 1) n (c :: t) = numR k (10 * n + (c.toNat - 48)) t := by
  simp only [numR]; rw [if_pos h]

end Go.Proofs.YtgopjpnlpcmldaaGreatDoor.W

/-
  What the functions of layer 3 call besides: drayageref01.Digits, the library's own (cut, index, join, a number's digits) in this layer's words, units.Words.
-/
namespace Go.Proofs.YtgopjpnlpcmldaaGreatDoor.W
set_option linter.unusedVariables false
set_option linter.unusedSimpArgs false
open Go.ChangeShapes Go.WideShapes Go.ChangeAt Go.RowKit

/-- what the library's functions ask of the world: its own variables hold what they hold from the start -/
structure Std (w : World) : Prop where
  max : ∃ m, w.cell? ⟨0, 0, none⟩ = some (.int .i64 m)
  tab : Lib.TabIs Tryz.prog w "internal/strconv.uint64pow10" .u64 Lib.pow10Tab
  size : 4 ≤ w.heap.size

theorem gTab : Tryz.prog.globalNamed "internal/strconv.uint64pow10" = some 3 := by kernel_rfl

theorem digits_size (a b : List UInt8) : (bs a ++ bs b).size = a.length + b.length := by rw [bs_app, bs_size, List.length_append]

/-- where the loop stands: acc is written, m is left -/
def DigSt (n0 m : Nat) (acc : List UInt8) : Prop := (acc = [] ∧ m = n0) ∨ (acc ≠ [] ∧ (m = 0 → Lib.decDigits n0 = acc) ∧ (0 < m → Lib.decDigits n0 = Lib.decDigits m ++ acc))
theorem DigSt.step {n0 m : Nat} {acc : List UInt8} (h : DigSt n0 m acc) (hm : acc = [] ∨ 0 < m) : DigSt n0 (m / 10) (UInt8.ofNat (48 + m % 10) :: acc) := by
  have key : Lib.decDigits n0 = Lib.decDigits m ++ acc := by
    rcases h with ⟨h1, h2⟩ | ⟨h1, h2, h3⟩
    · rw [h1, h2, List.append_nil]
    · rcases hm with hm | hm
      · exact absurd hm h1
      · exact h3 hm
  refine Or.inr ⟨by simp, ?_, ?_⟩
  · intro hz
    have hlt : m < 10 := by omega
    rw [key, Lib.decDigits_one hlt, show m % 10 = m by omega]
    rfl
  · intro hp
    rw [key]
    conv => lhs; rw [Lib.decDigits, dif_neg (by omega)]
    simp
theorem DigSt.fin {n0 m : Nat} {acc : List UInt8} (h : DigSt n0 m acc) (h1 : acc ≠ []) (hm : m = 0) : Lib.decDigits n0 = acc := by
  rcases h with ⟨h2, _⟩ | ⟨_, h2, _⟩
  · exact absurd h2 h1
  · exact h2 hm

theorem conv_byte (w : World) (d : UInt8) (v : Int) (hv : v = (d.toNat : Int)) : (convert 47 9 (.slice (some ⟨w.heap.size, 0, none⟩) 1 1)).run Tryz.prog (w.alloc (.cells #[.int .u8 v] 5)) = .ok (.string (bs [d])) (w.alloc (.cells #[.int .u8 v] 5)) := by
  subst hv
  refine run_convert_bytes_back (P := Tryz.prog) (w.alloc (.cells #[.int .u8 (d.toNat : Int)] 5)) 47 9 5 ⟨w.heap.size, 0, none⟩ 1 [d] Tryz.underlying47 Tryz.underlying5 Tryz.underlying9 ?_
  intro j hj
  have : j = 0 := by simpa using hj
  subst this
  have e : (⟨w.heap.size, 0, none⟩ : Addr).add 0 = ⟨w.heap.size, 0, none⟩ := by simp [Addr.add]
  rw [e]
  simp [World.cell?_alloc_new]
theorem add_bs (w : World) (a b : List UInt8) (h : a.length + b.length ≤ 9223372036854775807) : (Op.stringOp .add (bs a) (bs b)).run Tryz.prog w = .ok (.string (bs (a ++ b))) w := by
  rw [run_string_add_sum w _ _ (by rw [bs_size, bs_size]; omega), bs_app]
theorem empty_nil : (bs []).toList.isEmpty = true := by rw [Lib.toList_data, bs_list]; rfl
theorem empty_cons (c : UInt8) (t : List UInt8) : (bs (c :: t)).toList.isEmpty = false := by rw [Lib.toList_data, bs_list]; rfl

set_option maxHeartbeats 2000000 in
set_option maxRecDepth 100000 in
theorem digits (n0 : Nat) (hn0 : n0 ≤ 1048576) (w : World) :
    Calls Tryz.prog 58 #[.int .i64 n0] w fun e w' => e = .returned (.string (bs (Lib.decDigits n0))) ∧ Below w.heap.size w w' := by
  go_enter Tryz.func58, Tryz.ntmps58
  go_wp2
  go_loopw [0, 3] (fun v0 v3 wr => ∃ (m : Nat) (acc : List UInt8), v0 = .int .i64 m ∧ v3 = .string (bs acc) ∧ m ≤ 1048576 ∧ acc.length ≤ 4294967280 - 8 * m ∧ Hid (DigSt n0 m acc) ∧ Below w.heap.size w wr) (fun v0 v3 wr => 2 * (intOf v0).toNat + (match v3 with | .string s => if s.toList.isEmpty then 1 else 0 | _ => 0))
  case atStart => exact ⟨n0, [], rfl, rfl, hn0, by simp, Lib.hid (Or.inl ⟨rfl, rfl⟩), Below.refl _ _⟩
  case round =>
    obtain ⟨m, acc, rfl, rfl, hm, hacc, HS, hbw⟩ := hrel
    obtain ⟨d, hd⟩ : ∃ d, d = UInt8.ofNat (48 + m % 10) := ⟨_, rfl⟩
    have hx : (48 : Int) + (m : Int) % 10 = (d.toNat : Int) := by rw [hd, dig_toNat (by omega)]; omega
    have hcv : ∀ w' : World, _ := fun w' => conv_byte w' _ _ hx
    have hadd : ∀ w' : World, _ := fun w' => add_bs w' [d] acc (by simp; omega)
    simp only [List.singleton_append] at hadd
    have hem := empty_cons d acc
    have hst : (acc = [] ∨ 0 < m) → DigSt n0 (m / 10) (d :: acc) := fun h => by rw [hd]; exact HS.out.step h
    have hfin := fun h h' => HS.out.fin (acc := acc) h h'
    clear hx hd HS
    cases acc with
    | nil =>
      have HS2 := Lib.hid (hst (Or.inl rfl))
      have he := empty_nil
      clear hst hfin
      by_cases h0 : 0 < m
      · go_wp2
        go_roundw
        case rel => exact ⟨m / 10, _, by go_num, rfl, by omega, by simp; omega, HS2, hbw.alloc hbw.size _⟩
        case measure => simp [intOf, hem, he]; omega
      · go_wp2
        go_roundw
        case rel => exact ⟨m / 10, _, by go_num, rfl, by omega, by simp; omega, HS2, hbw.alloc hbw.size _⟩
        case measure => simp [intOf, hem, he]; omega
    | cons c t =>
      have he := empty_cons c t
      by_cases h0 : 0 < m
      · have HS2 := Lib.hid (hst (Or.inr h0))
        clear hst hfin
        go_wp2
        go_roundw
        case rel => exact ⟨m / 10, _, by go_num, rfl, by omega, by simp at hacc ⊢; omega, HS2, hbw.alloc hbw.size _⟩
        case measure => simp [intOf, hem, he]; omega
      · have HF := Lib.hid (hfin (by simp) (by omega))
        clear hst hfin
        go_wp2
        go_ret
        exact ⟨by rw [HF.out]; rfl, hbw⟩


/-! what the world's own variables hold stays so -/
theorem tab_below {w w' : World} {B : Nat} (h : Lib.TabIs Tryz.prog w "internal/strconv.uint64pow10" .u64 Lib.pow10Tab) (hb : Below B w w') (hB : 4 ≤ B) : Lib.TabIs Tryz.prog w' "internal/strconv.uint64pow10" .u64 Lib.pow10Tab := by
  unfold Lib.TabIs World.var? at h ⊢
  rw [gTab] at h ⊢
  simp only [Option.bind_some] at h ⊢
  rw [hb.block 3 (by omega)]
  exact h
theorem Std.below {w w' : World} {B : Nat} (h : Std w) (hb : Below B w w') (hB : 4 ≤ B) (hs : w.heap.size ≤ w'.heap.size) : Std w' :=
  ⟨by obtain ⟨m, hm⟩ := h.max; exact ⟨m, (hb.cell (p := ⟨0, 0, none⟩) (by show 0 < B; omega)).trans hm⟩, tab_below h.tab hb hB, by have := h.size; omega⟩
/-- behind a call -/
theorem Std.on {w w' : World} (h : Std w) (hb : Below w.heap.size w w') : Std w' := h.below hb h.size hb.size
/-- in a world that has grown since -/
theorem Std.since {v w w' : World} (h : Std v) (hv : Std w) (hb : Below v.heap.size w w') (hs : w.heap.size ≤ w'.heap.size) : Std w' := hv.below hb h.size hs

theorem cCut (l : List UInt8) (c : UInt8) (w : World) (hS : Std w) (hl : l.length ≤ 4294967280) :
    Calls Tryz.prog 56 #[.string (bs l), .string ⟨#[c]⟩] w fun e w' => e = .returned (.tuple #[.string (bs (cutAt c l).1), .string (bs (cutAt c l).2.1), .bool (cutAt c l).2.2]) ∧ Below w.heap.size w w' := by
  obtain ⟨m, hm⟩ := hS.max
  have h := Tryz.strings_Cut (bs l) ⟨#[c]⟩ m w (by rw [bs_size]; omega) hm
  refine h.mono ?_
  rintro e w' ⟨rfl, n, rfl⟩
  refine ⟨?_, below_drewN (Below.refl _ _) n⟩
  rw [bs_list, show (⟨#[c]⟩ : ByteArray).data.toList = [c] from rfl, cut_one]
  rfl

theorem below_grown {B : Nat} {w : World} (k : Nat) (os : Array Obj) (hB : B ≤ w.heap.size) : Below B w (Go.Sort.grow (w.drewN k) os) :=
  ⟨rfl, rfl, rfl, by simp [Go.Sort.grow, World.drewN], fun i hi => by simp [Go.Sort.grow, World.drewN, Array.getElem?_append, show i < w.heap.size by omega]⟩
theorem cItoa (n : Nat) (w : World) (hS : Std w) (hn : n ≤ 1048576) :
    Calls Tryz.prog 93 #[.int .i64 n] w fun e w' => e = .returned (.string (bs (Lib.decDigits n))) ∧ Below w.heap.size w w' := by
  have h := Tryz.strconv_Itoa n (by omega) (by omega) w hS.tab
  refine h.mono ?_
  rintro e w' ⟨rfl, k, os, rfl⟩
  refine ⟨?_, below_grown k os (Nat.le_refl _)⟩
  rw [Lib.itoa_nonneg]
  rfl

theorem map_bs (ps : List (List UInt8)) : (ps.map bs).map (·.data.toList) = ps := by
  rw [List.map_map]
  conv => rhs; rw [← List.map_id ps]
  apply List.map_congr_left
  intro a _
  exact bs_list a
theorem cJoin (bk c : Nat) (ps : List (List UInt8)) (w : World) (hc : ∀ (j : Nat) x, ps[j]? = some x → w.cell? ⟨bk, j, none⟩ = some (.string (bs x))) (hbk : bk < w.heap.size) (hN : ps.length ≤ 4) (hcap : ps.length ≤ c)
    (hl : (ujoin ps).length ≤ 1000000) :
    Calls Tryz.prog 94 #[.slice (some ⟨bk, 0, none⟩) ps.length c, .string ⟨#[44]⟩] w fun e w' => e = .returned (.string (bs (ujoin ps))) ∧ Below w.heap.size w w' := by
  have h := Tryz.strings_Join bk 0 c (ps.map bs) ⟨#[44]⟩ w ?_ hbk (by simp; omega) (by simpa using hcap) ?_
  · rw [List.length_map] at h
    refine h.mono ?_
    rintro e w' ⟨rfl, hb⟩
    refine ⟨?_, hb⟩
    rw [map_bs, show (⟨#[44]⟩ : ByteArray).data.toList = [44] from rfl, ujoin_lib]
    rfl
  · intro j x hx
    rw [List.getElem?_map, Option.map_eq_some_iff] at hx
    obtain ⟨y, hy, rfl⟩ := hx
    rw [Nat.zero_add]
    exact hc j y hy
  · rw [map_bs, show (⟨#[44]⟩ : ByteArray).data.toList = [44] from rfl, ujoin_lib]
    omega

theorem words_len : uwords.length = 4 := rfl
def wordAt (j : Nat) : ByteArray := bs (uwords.getD j [])
theorem uWords (w : World) :
    Calls Tryz.prog 92 #[] w fun e w' => e = .returned (.slice (some ⟨w.heap.size, 0, none⟩) 4 4) ∧ Below w.heap.size w w' ∧ w.heap.size < w'.heap.size ∧ (∀ j, j < 4 → w'.cell? ⟨w.heap.size, j, none⟩ = some (.string (wordAt j))) := by
  go_enter Tryz.func92, Tryz.ntmps92
  go_wp2
  go_ret
  refine ⟨rfl, (Below.refl _ _).alloc (Nat.le_refl _) _, by simp, ?_⟩
  intro j hj
  rcases j with _ | _ | _ | _ | j
  · simp [World.cell?_alloc_new, wordAt, uwords, bs]
  · simp [World.cell?_alloc_new, wordAt, uwords, bs]
  · simp [World.cell?_alloc_new, wordAt, uwords, bs]
  · simp [World.cell?_alloc_new, wordAt, uwords, bs]
  · omega

theorem cIndex (b next : Nat) (x : List UInt8) (w : World) (hn : next < 4) (hc : ∀ j, j < 4 → w.cell? ⟨b, j, none⟩ = some (.string (wordAt j))) :
    Calls Tryz.prog 95 #[.slice (some ⟨b, next, none⟩) (4 - next) (4 - next), .string (bs x)] w fun e w' => e = .returned (.int .i64 (Lib.idxOfS ((uwords.drop next).map bs) (bs x))) ∧ w = w' := by
  have hl : ((uwords.drop next).map bs).length = 4 - next := by simp [uwords]
  have h := Tryz.slices_Index_string b next (4 - next) (4 - next) ((uwords.drop next).map bs) (bs x) w (by omega) (by omega) ?_
  · rw [List.take_of_length_le (by omega)] at h
    refine h.mono ?_
    rintro e w' ⟨rfl, rfl⟩
    exact ⟨rfl, rfl⟩
  · intro j hj
    rw [hl] at hj
    rw [hc (next + j) (by omega)]
    unfold wordAt
    rcases next with _ | _ | _ | _ | next
    all_goals first | omega | (rcases j with _ | _ | _ | _ | j; all_goals first | omega | rfl)
theorem cIndex4 (a : Option Addr) (c : Nat) (x : List UInt8) (w : World) :
    Calls Tryz.prog 95 #[.slice a 0 c, .string (bs x)] w fun e w' => e = .returned (.int .i64 (-1)) ∧ w = w' := by
  refine (Tryz.slices_Index_string_empty a c (bs x) w).mono ?_
  rintro e w' ⟨rfl, rfl⟩
  exact ⟨rfl, rfl⟩

end Go.Proofs.YtgopjpnlpcmldaaGreatDoor.W


/-
  What set-ups' texts ask of the library, in this layer's words: a number behind bytes, bytes as a string.
-/
namespace Go.Proofs.YtgopjpnlpcmldaaGreatDoor.W
set_option linter.unusedVariables false
set_option linter.unusedSimpArgs false
open Go.ChangeShapes Go.WideShapes Go.ChangeAt Go.RowKit

theorem decI_itoa (n : Int) : decI n = Lib.itoa n := by
  unfold decI Lib.itoa
  by_cases h : n < 0
  · rw [if_pos h, if_pos h, show (-n).toNat = n.natAbs by omega]
  · rw [if_neg h, if_neg h]
theorem cells_bytes (l : List UInt8) : Lib.byteCells l = bytesV l := rfl
theorem Std.tabBelow {w : World} (h : Std w) {B : Nat} (hB : 4 ≤ B) : Lib.TabBelow Tryz.prog B w "internal/strconv.uint64pow10" .u64 Lib.pow10Tab :=
  fun w' hb => tab_below h.tab hb hB
/-- a number behind bytes of the call's own -/
theorem appendInt (B : Nat) (i : Int) (h0 : -9223372036854775808 ≤ i) (h1 : i ≤ 9223372036854775807) (v : Value) (l : List UInt8) (w : World) (hS : Std w) (hB : 4 ≤ B) (hBw : B ≤ w.heap.size) (hl : l.length ≤ 1000000)
    (hown : w.ownsRow B 5 1 v l.length (bytesV l)) :
    Calls Tryz.prog 97 #[v, .int .i64 i, .int .i64 10] w fun e w' => ∃ v', e = .returned v' ∧ w'.ownsRow B 5 1 v' (l ++ decI i).length (bytesV (l ++ decI i)) ∧ Below B w w' := by
  refine (Tryz.strconv_AppendInt_10 B l.length i h0 h1 v (bytesV l) w hown hBw (by omega) (hS.tabBelow hB)).mono ?_
  rintro e w' ⟨v', rfl, ho, hb, _⟩
  refine ⟨v', rfl, ?_, hb⟩
  rw [decI_itoa, List.length_append, bytesV_app]
  exact ho
/-- bytes of the call's own as a string -/
theorem own_string {w : World} {B : Nat} {v : Value} {l : List UInt8} (h : w.ownsRow B 5 1 v l.length (bytesV l)) :
    (convert 47 9 v).run Tryz.prog w = .ok (.string (bs l)) w := by
  obtain ⟨a, cap, rfl, hn, hr, h'⟩ := own_form h
  rcases h' with ⟨rfl, h0, rfl⟩ | ⟨g, rfl, _, cur, hg⟩
  · have : l = [] := List.length_eq_zero_iff.mp h0
    subst this
    exact Lib.run_convert_nil_bytes w _ _ 5 0 Tryz.underlying47 Tryz.underlying5 Tryz.underlying9
  · refine run_convert_bytes_back w _ _ 5 _ cap l Tryz.underlying47 Tryz.underlying5 Tryz.underlying9 ?_
    intro j hj
    rcases hr with h0 | ⟨b, off, e, _, hc⟩
    · have : l = [] := by simpa [bytesV] using h0
      subst this; simp at hj
    · injection e with e
      injection e with e1 e2
      subst e1 e2
      rw [add_plain]
      have := hc j _ (bytesV_at l j hj)
      rwa [Nat.zero_add] at this ⊢

/-! numbers joined, one by one -/
theorem join_snoc : ∀ (l : List Int) (n : Int), joinN (l ++ [n]) = if l = [] then decI n else joinN l ++ 32 :: decI n
  | [], n => by simp [joinN]
  | [m], n => by simp [joinN]
  | m :: k :: r, n => by
    have ih := join_snoc (k :: r) n
    simp only [List.cons_append, reduceCtorEq, ↓reduceIte] at ih
    rw [List.cons_append, joinN, joinN]
    simp only [List.cons_append, reduceCtorEq, ↓reduceIte, ih, List.append_assoc]
theorem join_take {l : List Int} {k : Nat} (hk : k < l.length) : joinN (l.take (k + 1)) = if k = 0 then decI (l.getD k 0) else joinN (l.take k) ++ 32 :: decI (l.getD k 0) := by
  have e : l.take (k + 1) = l.take k ++ [l.getD k 0] := by
    rw [List.take_add_one]
    simp [hk]
  rw [e, join_snoc]
  by_cases h : k = 0
  · subst h; simp
  · have : l.take k ≠ [] := by
      intro h'
      have := congrArg List.length h'
      simp at this
      rcases this with h1 | h1
      · exact h h1
      · subst h1; simp at hk
    rw [if_neg this, if_neg h]
theorem take_len {l : List Int} (h : ∀ n ∈ l, Num n) (k : Nat) : (joinN (l.take k)).length ≤ l.length * 8 := by
  have := join_len (l.take k) 7 (fun n hn => by
    have := h n (List.mem_of_mem_take hn)
    unfold Num at this
    exact decI_len 6 this.1 (by omega))
  have h2 : (l.take k).length ≤ l.length := by simp; omega
  omega
end Go.Proofs.YtgopjpnlpcmldaaGreatDoor.W


/-
  A range over a function that keeps in a cell of its own what is left of what it gives: the rounds, by an invariant that abides whatever that cell's block becomes.
-/
namespace Go.Proofs.YtgopjpnlpcmldaaGreatDoor.W
set_option linter.unusedVariables false
set_option linter.unusedSimpArgs false
open Go.RowKit
variable {F : Fence} {n : Nat} {P : Program}

/-- what the giver is told of a round: it goes on, and the giver's own blocks are as they were; or it has left -/
def RoundOf {α : Type} (J Jx : List α → World → Prop) (Kb : Nat → Prop) (xs : List α) (W : World) (e : Ending) (W' : World) : Prop :=
  (e = .returned (.bool true) ∧ J xs W' ∧ ∀ k, Kb k → W'.heap[k]? = W.heap[k]?) ∨ (e = .returned (.bool false) ∧ Jx xs W')
/-- a giver: what it gives one behind the other (G: what may come behind what came), S: all has come, Sp: a part has; Bs: the block that it turns; Kb: those that it reads -/
def Gives {α : Type} (F : Fence) (n : Nat) (P : Program) (gf : Nat) (lb : Array Value) (encs : α → Array Value) (Bs : Nat) (Kb : Nat → Prop) (G : List α → α → Prop) (S Sp : List α → Prop) (w : World) : Prop :=
  ∀ (l : Nat) (J Jx : List α → World → Prop) (W : World), Below w.heap.size w W → (∀ s A B, J s A → A.grownBy B (some Bs) → J s B) →
    (∀ pre x W1, J pre W1 → G pre x → YieldAt F (n - 1) P l (encs x) W1 (RoundOf J Jx Kb (pre ++ [x]) W1)) → J [] W →
    CallsIn F n P gf (#[.func (.yield l) #[] #[]] ++ lb) W fun e W' => (∃ v, e = .returned v) ∧ ((∃ xs, S xs ∧ J xs W') ∨ ∃ pre, Sp pre ∧ Jx pre W')
/-- how a round's body may be left: the loop's own two blocks as they were -/
def bodyLeft {α : Type} (B : Nat) (I : List α → World → Prop) (Ix : Code → List α → World → Prop) (Kb : Nat → Prop) (xs : List α) (W : World) : Exit → Act → World → Prop
  | .normal, _, W' => (W'.heap[B]? = W.heap[B]? ∧ W'.heap[B + 1]? = W.heap[B + 1]?) ∧ (∀ k, Kb k → W'.heap[k]? = W.heap[k]?) ∧ I xs W'
  | .ret, _, W' => (W'.heap[B]? = W.heap[B]? ∧ W'.heap[B + 1]? = W.heap[B + 1]?) ∧ Ix .ret xs W'
  | _, _, _ => False
theorem lt_of_at {W : World} {k : Nat} {o : Obj} (h : W.heap[k]? = some o) : k < W.heap.size := (Array.getElem?_eq_some_iff.1 h).1
theorem range_box {α : Type} {g : Operand} {ps : Array Tmp} {assign body : Code} {Q : Exit → Act → World → Prop} {a : Act} {w : World}
    (hro : F.round = none) (h1 : 1 ≤ n) {gf : Nat} {lb : Array Value} (hg : a.eval g = .func (.func gf) #[] lb) (hFg : F.fn gf) (eg : ∀ args w, (callFunc gf args).run P w = .ok (.enter gf args) w)
    {encs : α → Array Value} {Bs : Nat} {Kb : Nat → Prop} {G : List α → α → Prop} {S Sp : List α → Prop} (hseq : Gives F (n - 1) P gf lb encs Bs Kb G S Sp w) (hps : ∀ x, (encs x).size = ps.size) (hBs : Bs < w.heap.size) (hKb : ∀ k, Kb k → k < w.heap.size)
    (I : List α → World → Prop) (Ix : Code → List α → World → Prop) (hI : OwnFrom w.heap.size I) (hIx : OwnFrom w.heap.size (Ix .ret)) (hIs : ∀ s A B, I s A → A.grownBy B (some Bs) → I s B) (h0 : I [] w) (a₁ : α → Act)
    (hassign : ∀ (l : Nat) (x : α) (W : World) (K : Act → World → Prop), K (a₁ x) W →
      assign.wpIn (F.inRound l) (n - 1 - 1) P (Exit.then K (fun _ _ _ => False)) { tmps := (ps.zip (encs x)).foldl (fun t (p, v) => t.setIfInBounds p v) a.tmps, defers := [] } W)
    (hbody : ∀ (l : Nat) (pre : List α) (x : α) (W : World), I pre W → G pre x → (∃ o : Obj, W.heap[w.heap.size]? = some o ∧ o.isCells = false) → (∃ o : Obj, W.heap[w.heap.size + 1]? = some o ∧ o.isCells = false) → body.wpIn (F.inRound l) (n - 1 - 1) P (bodyLeft w.heap.size I Ix Kb (pre ++ [x]) W) (a₁ x) W)
    (hdone : ∀ (xs : List α) (W : World), S xs → I xs W → W.heap[w.heap.size]? = some (.deferred (some [])) → Q .normal { a with defers := { target := .collected w.heap.size, args := #[] } :: a.defers } W)
    (hstop : ∀ (pre : List α) (W : World), Sp pre → Ix .ret pre W → W.heap[w.heap.size]? = some (.deferred (some [])) → Code.ret.wpIn F n P Q { a with defers := { target := .collected w.heap.size, args := #[] } :: a.defers } W) :
    (Code.rangeFunc g ps assign body).wpIn F n P Q a w := by
  obtain ⟨D, hD⟩ : ∃ D, D = w.heap.size := ⟨_, rfl⟩
  rw [← hD] at hI hIx hbody hdone hstop hBs hKb
  refine wpIn_rangeFunc fun fn hfn => ?_
  rw [hro]
  let rec_ : LoopState → Option Code → Loop := fun st pe => { state := st, pending := pe, fn := fn, tmps := a.tmps, params := ps, assign := assign, body := body, defers := D }
  have ent := run_enterLoop_outer (P := P) (w := w) fn a.tmps ps assign body
  rw [← hD] at ent
  generalize hA : (w.alloc (.deferred (some []))).alloc _ = A at ent
  have aL : A.heap[D + 1]? = some (.loop (rec_ .ready none)) := by
    have := World.alloc_heap_new (w.alloc (.deferred (some []))) (.loop (rec_ .ready none))
    rw [World.size_alloc, ← hD] at this
    rw [← hA]; exact this
  have aD : A.heap[D]? = some (.deferred (some [])) := by
    rw [← hA, hD]
    exact (Below.heap_alloc _ _ _ (by simp)).trans (World.alloc_heap_new w _)
  have aI : I [] A := by rw [← hA]; exact hI.alloc _ (hI.alloc _ h0)
  have aB : Below w.heap.size w A := by rw [← hA]; exact ((Below.refl _ w).alloc (Nat.le_refl _) _).alloc (by simp) _
  clear hA
  refine ⟨D + 1, _, A, { target := .fn (.func gf) lb, args := #[.func (.yield (D + 1)) #[] #[]] }, A, gf, #[.func (.yield (D + 1)) #[] #[]] ++ lb, A, ent, ?_, ?_, ?_, fun _ => h1, ?_⟩
  · simp only [resolve, hg]
    simp [go_sem]
  · intro f' hf'
    simp [Target.leads] at hf'
    rw [← hf']; exact hFg
  · simp [invoke, go_sem, eg]
  · have turn : ∀ {s : List α} {X : World} {o o' : Obj}, I s X → X.heap[D + 1]? = some o → o.isCells = false → I s (X.putObj (D + 1) o') := fun hs hx ho => hI.putObj _ hs (by omega) hx ho
    have turnx : ∀ {s : List α} {X : World} {o o' : Obj}, Ix .ret s X → X.heap[D + 1]? = some o → o.isCells = false → Ix .ret s (X.putObj (D + 1) o') := fun hs hx ho => hIx.putObj _ hs (by omega) hx ho
    have other : ∀ {X : World} {o' : Obj} {k : Nat}, k ≠ D + 1 → (X.putObj (D + 1) o').heap[k]? = X.heap[k]? := fun hk => World.putObj_heap_other hk
    have mine : ∀ {X : World} {o o' : Obj}, X.heap[D + 1]? = some o → (X.putObj (D + 1) o').heap[D + 1]? = some o' := fun hx => World.putObj_heap_same (lt_of_at hx)
    refine (hseq (D + 1) (fun s X => I s X ∧ X.heap[D + 1]? = some (.loop (rec_ .ready none)) ∧ X.heap[D]? = some (.deferred (some [])))
      (fun s X => Ix .ret s X ∧ X.heap[D + 1]? = some (.loop (rec_ .done (some .ret))) ∧ X.heap[D]? = some (.deferred (some []))) A aB ?_ ?_ ⟨aI, aL, aD⟩).mono ?_
    · rintro s X Y ⟨i, hl, hd⟩ hgr
      exact ⟨hIs s X Y i hgr, (hgr.block _ (lt_of_at hl) (fun e => by injection e with e; omega)).trans hl, (hgr.block _ (lt_of_at hd) (fun e => by injection e with e; omega)).trans hd⟩
    · rintro s x X ⟨i, hl, hd⟩ hG
      refine ⟨fn, _, assign, body, run_yield (P := P) (args := encs x) hl (hps x), roundIn_of_wpIn hfn (hassign _ x X _ ⟨_, run_beginRound hl rfl, ?_⟩)⟩
      have i2 := turn (o' := .loop { rec_ .ready none with state := .busy }) i hl rfl
      have l2 := mine (o' := .loop { rec_ .ready none with state := .busy }) hl
      have d2 := (other (X := X) (o' := .loop { rec_ .ready none with state := .busy }) (k := D) (by omega)).trans hd
      have k2 : ∀ k, Kb k → (X.putObj (D + 1) (.loop { rec_ .ready none with state := .busy })).heap[k]? = X.heap[k]? := fun k hk => other (by have := hKb k hk; omega)
      generalize X.putObj (D + 1) (.loop { rec_ .ready none with state := .busy }) = Y at i2 l2 d2 k2
      refine wpIn_mono (hbody _ s x Y i2 hG ⟨_, d2, rfl⟩ ⟨_, l2, rfl⟩) ?_
      intro e a3 Z hz
      cases e with
      | normal =>
        obtain ⟨⟨z1, z2⟩, zk, zi⟩ := hz
        have zl := z2.trans l2
        refine ⟨_, _, run_endRound (P := P) none zl, .inl ⟨rfl, ⟨turn zi zl rfl, mine zl, (other (by omega)).trans (z1.trans d2)⟩, fun k hk => (other (by have := hKb k hk; omega)).trans ((zk k hk).trans (k2 k hk))⟩⟩
      | ret =>
        obtain ⟨⟨z1, z2⟩, zi⟩ := hz
        have zl := z2.trans l2
        exact ⟨_, _, run_endRound (P := P) (some .ret) zl, .inr ⟨rfl, turnx zi zl rfl, mine zl, (other (by omega)).trans (z1.trans d2)⟩⟩
      | exit id => exact hz.elim
      | goto t => exact hz.elim
      | panic ch => exact hz.elim
      | outgrown => exact hz.elim
    · rintro e Z ⟨⟨v, rfl⟩, h⟩
      rcases h with ⟨xs, hS, zi, zl, zd⟩ | ⟨xs, hSp, zi, zl, zd⟩
      · exact ⟨none, _, run_endLoop (P := P) zl (by simp [rec_]), hdone xs _ hS (turn zi zl rfl) ((other (by omega)).trans zd)⟩
      · exact ⟨some .ret, _, run_endLoop (P := P) zl (by simp [rec_]), hstop xs _ hSp (turnx zi zl rfl) ((other (by omega)).trans zd)⟩
end Go.Proofs.YtgopjpnlpcmldaaGreatDoor.W
