/-
  The walk of CodecOnce.
-/
import Derived.Test.YtokidoadggfaeaaCodecAwake
import Derived.Test.YtokidoadggfaeaaFrameB
namespace Go.Proofs.Ytokidoadggfaeaa.W
set_option linter.unusedVariables false
set_option linter.unusedSimpArgs false
open Go.ChangeShapes Go.WideShapes Go.ChangeAt Go.RowKit

/-- how many bytes a reader has left -/
def leftAt (w : World) (g : Nat) : Nat := match w.cell? ⟨g, 0, none⟩ with | some (.slice _ n _) => n | _ => 0
theorem Rd.leftAt {w : World} {g : Nat} {l : List UInt8} {e : Int} (h : Rd w g l e) : leftAt w g = l.length := by
  obtain ⟨a, cap, h1, _⟩ := h
  unfold W.leftAt
  rw [h1.cell 0]
  rfl
theorem Rd.row {w : World} {g : Nat} {l : List UInt8} {e : Int} (h : Rd w g l e) : ∃ cs, Row w g 41 cs := by
  obtain ⟨a, cap, h1, _⟩ := h
  exact ⟨_, h1⟩
/-- a list of integers of the call's own, where the reader was turned -/
theorem own_read_on {w w' : World} {B g n : Nat} {v : Value} {xs : List Value} {l : List UInt8} {e : Int} (h : w.ownsRow B 3 1 v n xs) (hd : Rd w g l e) (hg : w.grownBy w' (some g)) : w'.ownsRow B 3 1 v n xs := by
  obtain ⟨cs, hr⟩ := hd.row
  exact h.kept hg (.inr (own_row_ne h hr (by decide)))
/-- a reader, where a list of integers of the call's own was -/
theorem Rd.pushed {w w' : World} {B g n : Nat} {v : Value} {xs : List Value} {l : List UInt8} {e : Int} (hd : Rd w g l e) (h : w.ownsRow B 3 1 v n xs) (hg : w.grownBy w' v.ownBlock) : Rd w' g l e :=
  hd.grown hg fun k hk => by
    obtain ⟨cs, hr⟩ := own_row h k hk
    exact ⟨_, cs, hr, by decide, by decide⟩
theorem info64 : (Try.prog.info? 3).map (fun i => (i.zero, i.size, i.bytes)) = some (some (.int .i64 0), 1, 8) := by kernel_rfl

set_option maxHeartbeats 4000000 in
set_option maxRecDepth 100000 in
theorem once (a : Option Addr) (cap : Nat) (l : List UInt8) (hl : l.length ≤ 200) (w : World) (hcap : a = none → cap = 0) (ha : RowAt w a (bytesV l)) :
    Calls Try.prog 4 #[.slice a l.length cap] w fun e w' => e = .returned (.bool true) ∧ Below w.heap.size w w' := by
  obtain ⟨i0, hi, hz0, hz1, hz2⟩ := info_parts info64
  have HA := Lib.hid ha
  have HW := Lib.hid awake
  have HN := Lib.hid (fun w h => new a cap l w (by omega) hcap h)
  clear ha
  go_enter Try.func4, Try.ntmps4
  go_wp2_with fail
  refine (HW.out _).mono ?_; rintro e w1 ⟨rfl, hb1⟩
  have hy1 := hb1.size
  go_wp2_with fail
  refine (HN.out _ (HA.out.later hb1)).mono ?_; rintro e w2 ⟨g, rfl, hg, hrd, hb2⟩
  have HD2 := Lib.hid hrd
  have hgB : w.heap.size ≤ g := by omega
  have hbel2 : Below w.heap.size w w2 := after hb2 hy1 hb1
  clear hrd
  go_wp2_with fail
  go_loopw [4] (fun v4 wr => ∃ (ns : List Int) (rest : List UInt8) (e : Int), Hid (wr.ownsRow w.heap.size 3 1 v4 ns.length (vals ns)) ∧ Hid (Rd wr g rest e) ∧ Below w.heap.size w wr ∧ ns.length + rest.length ≤ l.length ∧
    Hid (e = 0 → l = putL ns ++ rest ∧ okL ns = true) ∧ Hid (e ≠ 0 → rest = []) ∧ 0 ≤ e ∧ e ≤ 11)
    (fun _ wr => leftAt wr g)
  case atStart => exact ⟨[], l, 0, Lib.hid (World.ownsRow_nil _ _ _ _), HD2, hbel2, by simp, Lib.hid (fun _ => ⟨rfl, rfl⟩), Lib.hid (fun h => absurd rfl h), by omega, by omega⟩
  case round =>
    obtain ⟨ns, rest, e, HO, HD, hbw, hlen, HE, HF, he0, he1⟩ := hrel
    clear HD2 hbel2 hb2
    have hz := hbw.size
    have HL := Lib.hid (left g rest e wr HD.out)
    by_cases hr : rest = []
    · subst hr
      have HX := Lib.hid (errOf g [] e wr HD.out)
      by_cases h0 : e = 0
      · subst h0
        obtain ⟨hle, hok⟩ := HE.out rfl
        rw [List.append_nil] at hle
        obtain ⟨A, c, rfl, hcc, hrow, hAn⟩ := own_read HO.out
        have HP := Lib.hid (put_yes none A 0 c [] ns (by simp at hlen; omega) (by simp) hok wr (fun _ => rfl) (.inl rfl) hrow)
        rw [List.nil_append, ← hle] at HP
        have HS := Lib.hid (fun b cb w h1 h2 => same a b cap cb l (by omega) w h1 h2)
        have HAr := Lib.hid (HA.out.later hbw)
        clear HO hrow hle hok HD HE HF
        go_wp2_with fail
        refine HL.out.mono ?_; rintro x w3 ⟨rfl, rfl⟩
        go_wp2_with fail
        refine HX.out.mono ?_; rintro x w4 ⟨rfl, rfl⟩
        go_wp2_with fail
        refine HP.out.mono ?_; rintro x w5 ⟨v5, rfl, hown5, hb5⟩
        obtain ⟨A5, c5, rfl, _, hrow5, _⟩ := own_read hown5
        have hy5 := hb5.size
        have K := HS.out A5 c5 w5 (HAr.out.later hb5) hrow5
        clear hown5
        go_wp2_with fail
        refine K.mono ?_; rintro x w6 ⟨rfl, hb6⟩
        go_wp2
        go_ret
        exact ⟨rfl, after hb6 (by omega) (after hb5 hz hbw)⟩
      · clear HE HF HO
        go_wp2_with fail
        refine HL.out.mono ?_; rintro x w3 ⟨rfl, rfl⟩
        go_wp2_with fail
        refine HX.out.mono ?_; rintro x w4 ⟨rfl, rfl⟩
        go_wp2
        go_ret
        exact ⟨rfl, hbw⟩
    · have hrl : 0 < rest.length := List.length_pos_iff.2 hr
      have h0 : e = 0 := by
        by_cases x : e = 0
        · exact x
        · exact absurd (HF.out x) hr
      subst h0
      obtain ⟨hle, hok⟩ := HE.out rfl
      obtain ⟨N, S, E, hfs⟩ : ∃ N S E, firstS rest = (N, S, E) := ⟨_, _, _, rfl⟩
      obtain ⟨x, rest', e', hx0, hx1, hrl', he0', he1', HNum, HE', HF'⟩ : ∃ (x : Int) (rest' : List UInt8) (e' : Int), 0 ≤ x ∧ x ≤ 281474976710656 ∧ rest'.length < rest.length ∧ 0 ≤ e' ∧ e' ≤ 11 ∧
          Hid (Calls Try.prog 11 #[.pointer (some ⟨g, 0, none⟩)] wr fun y w' => y = .returned (.int .i64 x) ∧ Rd w' g rest' e' ∧ wr.grownBy w' (some g)) ∧
          Hid (e' = 0 → l = putL (ns ++ [x]) ++ rest' ∧ okL (ns ++ [x]) = true) ∧ Hid (e' ≠ 0 → rest' = []) := by
        by_cases hE : E = 0
        · subst hE
          obtain ⟨hN, hS, t, ht⟩ := first_back hfs
          have hS0 := enc_len1 N
          have hdr : rest.drop S = t := by rw [ht, hS]; exact List.drop_left
          have hlt : S ≤ rest.length := by rw [ht, hS, List.length_append]; omega
          refine ⟨(N : Int), t, 0, by omega, by omega, ?_, by omega, by omega, Lib.hid ?_, Lib.hid fun _ => ⟨?_, ?_⟩, Lib.hid fun h => absurd rfl h⟩
          · rw [ht, List.length_append]; omega
          · have := number_ok g rest (by omega) N S (by omega) hlt hfs wr HD.out
            rw [hdr] at this
            exact this
          · rw [putL_snoc, Int.toNat_natCast, List.append_assoc, ← ht]; exact hle
          · unfold okL
            unfold okL at hok
            rw [List.all_append, hok]
            simp [okN]
            omega
        · obtain ⟨hN, hS, hE2⟩ := first_wrong hfs hE
          subst hN
          subst hS
          refine ⟨0, [], (E : Int), by omega, by omega, hrl, by omega, by omega, Lib.hid (number_no g rest (by omega) E hE hE2 hfs wr HD.out), Lib.hid fun h => absurd h (by omega), Lib.hid fun _ => rfl⟩
      clear hfs hle hok HE HF
      go_wp2_with fail
      refine HL.out.mono ?_; rintro y w3 ⟨rfl, rfl⟩
      go_wp2_with fail
      refine HL.out.mono ?_; rintro y w4 ⟨rfl, rfl⟩
      go_wp2_with fail
      refine HNum.out.mono ?_; rintro y w5 ⟨rfl, hrd5, hgr5⟩
      have HO5 := Lib.hid (own_read_on HO.out HD.out hgr5)
      have HD5 := Lib.hid hrd5
      have hbel5 : Below w.heap.size w w5 := hbw.grown hgr5 hz (fun k hk => by injection hk with hk; omega)
      have hy5 := hgr5.size
      clear hrd5 hgr5
      go_wp2_with (at_builtin; refine pushG _ _ 23 3 8 (.int .i64 0) i0 Try.underlying23 hi hz0 hz1 hz2 rfl w.heap.size ns.length (vals ns) _ _ 3 w5 rfl rfl rfl rfl HO5.out (by omega) rfl (by omega) (by omega) ?_)
      intro v6 w6 hown6 hgr6
      have HD6 := Lib.hid ((HD5.out.alloc _).pushed (HO5.out.alloc _) hgr6)
      have HO6 : Hid (w6.ownsRow w.heap.size 3 1 v6 (ns ++ [x]).length (vals (ns ++ [x]))) := Lib.hid (by
        rw [vals_snoc, List.length_append]
        exact hown6)
      have hbel6 : Below w.heap.size w w6 := (hbel5.alloc (by omega) _).grown hgr6 (by simp; omega) (fun k hk => (HO5.out.lt k hk).1)
      have HL6 := Lib.hid (left g rest' e' w6 HD6.out)
      clear hown6 hgr6
      go_wp2_with fail
      refine HL6.out.mono ?_; rintro y w7 ⟨rfl, rfl⟩
      go_wp2
      go_roundw
      case rel => exact ⟨ns ++ [x], rest', e', HO6, HD6, hbel6, by rw [List.length_append]; simp; omega, HE', HF', he0', he1'⟩
      case measure => rw [HD6.out.leftAt, HD.out.leftAt]; exact hrl'
set_option maxHeartbeats 4000000 in
theorem once_long (a : Option Addr) (cap : Nat) (l : List UInt8) (hl : 200 < l.length) (w : World) :
    Calls Try.prog 4 #[.slice a l.length cap] w fun e w' => e = .returned (.bool true) ∧ Below w.heap.size w w' := by
  have HW := Lib.hid awake
  go_enter Try.func4, Try.ntmps4
  go_wp2_with fail
  refine (HW.out _).mono ?_; rintro e w1 ⟨rfl, hb1⟩
  go_wp2
  go_ret
  exact ⟨rfl, hb1⟩
theorem codecOnce_walk (v0 : Value) (w : World) (F0 : FRow .u8 w v0) :
    Calls Try.prog 4 #[v0] w fun e w' => e = .returned (.bool true) ∧ Below w.heap.size w w' := by
  obtain ⟨a, cap, l, rfl, hc, _, hr⟩ := F0.bytes
  by_cases h : l.length ≤ 200
  · exact once a cap l h w hc hr
  · exact once_long a cap l (by omega) w
end Go.Proofs.Ytokidoadggfaeaa.W
