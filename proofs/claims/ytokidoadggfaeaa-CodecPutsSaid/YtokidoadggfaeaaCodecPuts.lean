/-
  The walk of CodecPuts.
-/
import Derived.Test.YtokidoadggfaeaaCodecAwake
import Derived.Test.YtokidoadggfaeaaFrameB
namespace Go.Proofs.Ytokidoadggfaeaa.W
set_option linter.unusedVariables false
set_option linter.unusedSimpArgs false
open Go.ChangeShapes Go.WideShapes Go.ChangeAt Go.RowKit

/-- what stands behind the first of them -/
theorem RowAt.cut {w : World} {A : Option Addr} {l r : List UInt8} (h : RowAt w A (bytesV (l ++ r))) : RowAt w (A.map (fun p => p.add l.length)) (bytesV r) := by
  have hb : bytesV r = (bytesV (l ++ r)).drop l.length := by rw [← bytesV_drop, List.drop_left]
  rcases h with h | ⟨b, off, rfl, hl, hc⟩
  · exact .inl (by rw [hb, h]; simp)
  · rw [hb]
    have := RowAt.drop (w := w) (b := b) (off := off) (xs := bytesV (l ++ r)) (.inr ⟨b, off, rfl, hl, hc⟩) l.length
    rw [Option.map_some, add_plain]
    exact this

set_option maxHeartbeats 4000000 in
theorem puts_long (a A : Option Addr) (cap c : Nat) (l : List UInt8) (xs : List Int) (h : 100 < l.length ∨ 50 < xs.length) (w : World) :
    Calls Try.prog 3 #[.slice a l.length cap, .slice A xs.length c] w fun e w' => e = .returned (.bool true) ∧ Below w.heap.size w w' := by
  have HW := Lib.hid awake
  by_cases h0 : 100 < l.length
  · clear h
    go_enter Try.func3, Try.ntmps3
    go_wp2_with fail
    refine (HW.out _).mono ?_; rintro e w1 ⟨rfl, hb1⟩
    go_wp2
    go_ret
    exact ⟨rfl, hb1⟩
  · have h1 : 50 < xs.length := by omega
    clear h
    go_enter Try.func3, Try.ntmps3
    go_wp2_with fail
    refine (HW.out _).mono ?_; rintro e w1 ⟨rfl, hb1⟩
    go_wp2
    go_ret
    exact ⟨rfl, hb1⟩

set_option maxHeartbeats 4000000 in
set_option maxRecDepth 100000 in
theorem puts_no (a A : Option Addr) (cap c : Nat) (l : List UInt8) (xs : List Int) (hl : l.length ≤ 100) (hx : xs.length ≤ 50) (hin : ∀ i (h : i < xs.length), -9223372036854775808 ≤ xs[i] ∧ xs[i] ≤ 9223372036854775807)
    (hno : okL xs = false) (w : World) (hA : RowAt w A (vals xs)) :
    Calls Try.prog 3 #[.slice a l.length cap, .slice A xs.length c] w fun e w' => e = .returned (.bool true) ∧ Below w.heap.size w w' := by
  have HW := Lib.hid awake
  have HA := Lib.hid hA
  have HP := Lib.hid (fun w h => put_no a A cap c l xs (by omega) hin hno w h)
  have HY := Lib.hid rright_yes
  have HN := Lib.hid rright_no
  have HO := Lib.hid hno
  have HI := Lib.hid hin
  clear hA hin hno
  go_enter Try.func3, Try.ntmps3
  go_wp2_with fail
  refine (HW.out _).mono ?_; rintro e w1 ⟨rfl, hb1⟩
  have HA1 := Lib.hid (HA.out.later hb1)
  have hy1 := hb1.size
  go_wp2_with fail
  refine (HP.out _ HA1.out).mono ?_; rintro e w2 ⟨rfl, hb2⟩
  have HA2 := Lib.hid (HA1.out.later hb2)
  have hbel : Below w.heap.size w w2 := after hb2 hy1 hb1
  clear HA HA1
  go_wp2_with fail
  go_loop [31] (fun i => ∃ k : Nat, k ≤ xs.length ∧ i = .int .i64 (k : Int) ∧ Hid (okL (xs.take k) = true)) (fun i => xs.length - (intOf i).toNat)
  case atStart => exact ⟨0, Nat.zero_le _, rfl, Lib.hid rfl⟩
  case round =>
    obtain ⟨k, hk, rfl, HK⟩ := hrel
    by_cases hlt : k < xs.length
    · obtain ⟨b, off, ha, hbw, hcs⟩ := HA2.out.row (by rw [vals_len]; omega)
      have hc := hcs k _ (vals_at xs k hlt)
      have hxi := HI.out k hlt
      have hsn := okL_snoc xs k hlt
      obtain ⟨x, hxe⟩ : ∃ x, x = xs[k] := ⟨_, rfl⟩
      rw [← hxe] at hc hxi hsn
      have Ha := Lib.hid ha
      clear ha hcs hxe
      obtain rfl := Ha.out
      by_cases h0 : 0 ≤ x ∧ x ≤ 281474976710656
      · have HK2 : Hid (okL (xs.take (k + 1)) = true) := Lib.hid (by rw [hsn, HK.out]; simp [okN]; omega)
        have K := HY.out x h0 w2
        clear hsn
        go_wp2_with fail
        refine K.mono ?_; rintro e w3 ⟨rfl, rfl⟩
        go_wp2_with fail
        go_round
        case rel => exact ⟨k + 1, by omega, by go_num, HK2⟩
        case measure => simp [intOf]; omega
      · have K := HN.out x h0 w2
        clear hsn h0
        go_wp2_with fail
        refine K.mono ?_; rintro e w3 ⟨rfl, rfl⟩
        go_wp2
        go_ret
        exact ⟨rfl, hbel⟩
    · have hkk : k = xs.length := by omega
      subst hkk
      exact absurd trivial (fun _ => okL_take_all HO.out HK.out)

set_option maxHeartbeats 4000000 in
set_option maxRecDepth 100000 in
theorem puts_yes (a A : Option Addr) (cap c : Nat) (l : List UInt8) (xs : List Int) (hl : l.length ≤ 100) (hx : xs.length ≤ 50)
    (hyes : okL xs = true) (w : World) (hcap : a = none → cap = 0) (ha : RowAt w a (bytesV l)) (hA : RowAt w A (vals xs)) :
    Calls Try.prog 3 #[.slice a l.length cap, .slice A xs.length c] w fun e w' => e = .returned (.bool true) ∧ Below w.heap.size w w' := by
  obtain ⟨i0, hi, hz0, hz1, hz2⟩ := info_parts info8
  have HW := Lib.hid awake
  have HA := Lib.hid hA
  have Ha := Lib.hid ha
  have HP := Lib.hid (fun w h1 h2 => put_yes a A cap c l xs (by omega) (by omega) hyes w hcap h1 h2)
  have HR := Lib.hid (fun w h => rput A c xs (by omega) hyes w h)
  have HY := Lib.hid rright_yes
  have HO := Lib.hid hyes
  have hlen := putL_len hyes
  have HL := Lib.hid (fun (k : Nat) => show (putL (xs.drop k)).length ≤ 7 * xs.length from Nat.le_trans (putL_len (xs := xs.drop k) (okL_yes fun i hi => by
    rw [List.getElem_drop]
    exact okL_at hyes _ (by simp at hi; omega))) (by rw [List.length_drop]; omega))
  clear hA ha hyes
  go_enter Try.func3, Try.ntmps3
  go_wp2_with fail
  refine (HW.out _).mono ?_; rintro e w1 ⟨rfl, hb1⟩
  have HA1 := Lib.hid (HA.out.later hb1)
  have Ha1 := Lib.hid (Ha.out.later hb1)
  have hy1 := hb1.size
  go_wp2_with fail
  refine (HP.out _ Ha1.out HA1.out).mono ?_; rintro e w2 ⟨v2, rfl, hown2, hb2⟩
  obtain ⟨A2, c2, rfl, hc2, hrow2, hn2⟩ := own_read hown2
  have HR2 := Lib.hid hrow2
  have hl2 : (l ++ putL xs).length = l.length + (putL xs).length := List.length_append
  rw [hl2] at hc2
  rw [hl2]
  have HA2 := Lib.hid (HA1.out.later hb2)
  have Ha2 := Lib.hid (Ha1.out.later hb2)
  have hbel2 : Below w.heap.size w w2 := after hb2 hy1 hb1
  have hy2 := hbel2.size
  clear HA1 Ha1 hown2 hrow2 HP HW hb1 hb2 hl2
  go_wp2_with fail
  go_loop [31] (fun i => ∃ k : Nat, k ≤ xs.length ∧ i = .int .i64 (k : Int)) (fun i => xs.length - (intOf i).toNat)
  case atStart => exact ⟨0, Nat.zero_le _, rfl⟩
  case round =>
    obtain ⟨k, hk, rfl⟩ := hrel
    by_cases hlt : k < xs.length
    · obtain ⟨b, off, ha, hbw, hcs⟩ := HA2.out.row (by rw [vals_len]; omega)
      have hc := hcs k _ (vals_at xs k hlt)
      have hxi := okL_at HO.out k hlt
      obtain ⟨x, hxe⟩ : ∃ x, x = xs[k] := ⟨_, rfl⟩
      rw [← hxe] at hc hxi
      have He := Lib.hid ha
      clear ha hcs hxe
      obtain rfl := He.out
      have K := HY.out x hxi w2
      go_wp2_with fail
      refine K.mono ?_; rintro e w3 ⟨rfl, rfl⟩
      go_wp2_with fail
      go_round
      case rel => exact ⟨k + 1, by omega, by go_num⟩
      case measure => simp [intOf]; omega
    · have hkk : k = xs.length := by omega
      subst hkk
      go_wp2_with (at_builtin; refine pushAny _ _ 22 5 (.int .u8 0) i0 Try.underlying22 hi hz0 hz1 hz2 rfl w2.heap.size w2.heap.size 0 l.length cap [] (bytesV l) _ a w2 _ rfl rfl rfl rfl (bytesV_len l).symm hcap (World.ownsRow_lit w2 #[] 0 (Nat.le_refl _) (by decide) rfl) (Ha2.out.alloc _) ((Below.refl _ _).alloc (Nat.le_refl _) _) (Nat.le_refl _) (by simp) (bytesV_one l) (by omega) ?_)
      intro v3 w3 hown3 hb3
      have HO3 : Hid (w3.ownsRow w2.heap.size 5 1 v3 l.length (bytesV l)) := Lib.hid (by simpa using hown3)
      have hy3 := hb3.size
      have K := HR.out w3 (HA2.out.later hb3)
      clear hown3
      go_wp2_with fail
      refine K.mono ?_; rintro e w4 ⟨v4, rfl, hown4, hb4⟩
      clear K
      obtain ⟨A4, c4, rfl, hc4, hrow4, hn4⟩ := own_read hown4
      have HR4 := Lib.hid hrow4
      have HO4 := Lib.hid (own_later HO3.out hb4)
      have hy4 := hb4.size
      have hb24 : Below w2.heap.size w2 w4 := after hb4 hy3 hb3
      clear hown4 hrow4 HO3 hb3 hb4
      go_wp2_with (at_builtin; refine pushAny _ _ 22 5 (.int .u8 0) i0 Try.underlying22 hi hz0 hz1 hz2 rfl w2.heap.size w2.heap.size l.length (putL xs).length c4 (bytesV l) (bytesV (putL xs)) _ A4 w2 w4 rfl rfl rfl rfl (bytesV_len _).symm hn4 HO4.out HR4.out hb24 (Nat.le_refl _) (by omega) (bytesV_one _) (by omega) ?_)
      intro v5 w5 hown5 hb25
      have hown5' : w5.ownsRow w2.heap.size 5 1 v5 (l ++ putL xs).length (bytesV (l ++ putL xs)) := by
        rw [bytesV_app, List.length_append]
        simpa using hown5
      obtain ⟨A5, c5, rfl, hc5, hrow5, hn5⟩ := own_read hown5'
      have hl5 : (l ++ putL xs).length = l.length + (putL xs).length := List.length_append
      have K := same A2 A5 c2 c5 (l ++ putL xs) (by omega) w5 (HR2.out.later hb25) hrow5
      rw [hl5] at K hc5 ⊢
      have hy5 := hb25.size
      clear hown5 hown5' hrow5 HO4 HR4 hl5
      go_wp2_with fail
      refine K.mono ?_; rintro e w6 ⟨rfl, hb6⟩
      clear K
      have hy6 := hb6.size
      have hb26 : Below w2.heap.size w2 w6 := after hb6 hy5 hb25
      have HR6 := Lib.hid (HR2.out.later hb26)
      have hi1 : (0 : Int) ≤ (l.length : Int) := by omega
      have hi2 : (l.length : Int) ≤ (l.length : Int) + ((putL xs).length : Int) := by omega
      have hi3 : (l.length : Int) + ((putL xs).length : Int) ≤ (c2 : Int) := by omega
      have hi4 : l.length + (putL xs).length ≤ c2 := by omega
      clear hb6 hb25
      by_cases hq : c2 = l.length
      · have hp0 : (putL xs).length = 0 := by omega
        have K := new A2 0 (putL xs) w6 (by omega) (fun _ => rfl) (.inl (by rw [List.eq_nil_of_length_eq_zero hp0]; rfl))
        clear hp0
        go_wp2_with fail
        refine K.mono ?_; rintro e w7 ⟨g, rfl, hg, hrd, hb7⟩
        clear K
        have HD7 := Lib.hid hrd
        have hgB : w.heap.size ≤ g := by omega
        have hbel7 : Below w.heap.size w w7 := after hb7 (by omega) (after hb26 hy2 hbel2)
        clear hrd HY
        go_wp2_with fail
        go_loopw [67] (fun i wr => ∃ k : Nat, k ≤ xs.length ∧ i = .int .i64 (k : Int) ∧ Hid (Rd wr g (putL (xs.drop k)) 0) ∧ Below w.heap.size w wr) (fun i _ => xs.length - (intOf i).toNat)
        case atStart => exact ⟨0, Nat.zero_le _, rfl, HD7, hbel7⟩
        case round =>
          obtain ⟨k, hk, rfl, HD, hbw⟩ := hrel
          have hz := hbw.size
          clear HD7 hbel7 hb7
          by_cases hlt : k < xs.length
          · obtain ⟨b, off, ha, hbw', hcs⟩ := (HA.out.later hbw).row (by rw [vals_len]; omega)
            have hc := hcs k _ (vals_at xs k hlt)
            have hxi := okL_at HO.out k hlt
            have hdr := putL_drop xs k hlt
            have hld := HL.out k
            obtain ⟨x, hxe⟩ : ∃ x, x = xs[k] := ⟨_, rfl⟩
            rw [← hxe] at hc hxi hdr
            obtain ⟨n, rfl⟩ : ∃ n : Nat, x = (n : Int) := ⟨x.toNat, by omega⟩
            rw [Int.toNat_natCast] at hdr
            have hfs := first_put n (by omega) (putL (xs.drop (k + 1)))
            rw [← hdr] at hfs
            have K := number_ok g (putL (xs.drop k)) (by omega) n (enc n).length (enc_len1 n) (by rw [hdr, List.length_append]; omega) hfs wr HD.out
            rw [show (putL (xs.drop k)).drop (enc n).length = putL (xs.drop (k + 1)) by rw [hdr]; exact List.drop_left] at K
            have He := Lib.hid ha
            clear ha hcs hxe hfs hdr
            obtain rfl := He.out
            go_wp2_with fail
            refine K.mono ?_; rintro e w8 ⟨rfl, hrd8, hgr8⟩
            clear K
            have HD8 := Lib.hid hrd8
            have hbel8 : Below w.heap.size w w8 := hbw.grown hgr8 hz (fun j hj => by injection hj with hj; omega)
            clear hrd8 hgr8
            go_wp2
            go_roundw
            case rel => exact ⟨k + 1, by omega, by go_num, HD8, hbel8⟩
            case measure => simp [intOf]; omega
          · have hkk : k = xs.length := by omega
            subst hkk
            have hd0 : Rd wr g [] 0 := by
              have := HD.out
              rw [List.drop_length] at this
              exact this
            have K1 := end_ok g wr hd0
            have K2 := left g [] 0 wr hd0
            clear hd0
            go_wp2_with fail
            refine K1.mono ?_; rintro e w8 ⟨rfl, rfl⟩
            go_wp2_with fail
            refine K2.mono ?_; rintro e w9 ⟨rfl, rfl⟩
            go_wp2
            go_ret
            exact ⟨rfl, hbw⟩
      · have hcn : A2.map (fun p => p.add l.length) = none → c2 - l.length = 0 := fun h => by
          have := hn2 (by simpa using h)
          omega
        have K := new (A2.map (fun p => p.add l.length)) (c2 - l.length) (putL xs) w6 (by omega) hcn HR6.out.cut
        clear hcn
        go_wp2_with fail
        refine K.mono ?_; rintro e w7 ⟨g, rfl, hg, hrd, hb7⟩
        clear K
        have HD7 := Lib.hid hrd
        have hgB : w.heap.size ≤ g := by omega
        have hbel7 : Below w.heap.size w w7 := after hb7 (by omega) (after hb26 hy2 hbel2)
        clear hrd HY
        go_wp2_with fail
        go_loopw [67] (fun i wr => ∃ k : Nat, k ≤ xs.length ∧ i = .int .i64 (k : Int) ∧ Hid (Rd wr g (putL (xs.drop k)) 0) ∧ Below w.heap.size w wr) (fun i _ => xs.length - (intOf i).toNat)
        case atStart => exact ⟨0, Nat.zero_le _, rfl, HD7, hbel7⟩
        case round =>
          obtain ⟨k, hk, rfl, HD, hbw⟩ := hrel
          have hz := hbw.size
          clear HD7 hbel7 hb7
          by_cases hlt : k < xs.length
          · obtain ⟨b, off, ha, hbw', hcs⟩ := (HA.out.later hbw).row (by rw [vals_len]; omega)
            have hc := hcs k _ (vals_at xs k hlt)
            have hxi := okL_at HO.out k hlt
            have hdr := putL_drop xs k hlt
            have hld := HL.out k
            obtain ⟨x, hxe⟩ : ∃ x, x = xs[k] := ⟨_, rfl⟩
            rw [← hxe] at hc hxi hdr
            obtain ⟨n, rfl⟩ : ∃ n : Nat, x = (n : Int) := ⟨x.toNat, by omega⟩
            rw [Int.toNat_natCast] at hdr
            have hfs := first_put n (by omega) (putL (xs.drop (k + 1)))
            rw [← hdr] at hfs
            have K := number_ok g (putL (xs.drop k)) (by omega) n (enc n).length (enc_len1 n) (by rw [hdr, List.length_append]; omega) hfs wr HD.out
            rw [show (putL (xs.drop k)).drop (enc n).length = putL (xs.drop (k + 1)) by rw [hdr]; exact List.drop_left] at K
            have He := Lib.hid ha
            clear ha hcs hxe hfs hdr
            obtain rfl := He.out
            go_wp2_with fail
            refine K.mono ?_; rintro e w8 ⟨rfl, hrd8, hgr8⟩
            clear K
            have HD8 := Lib.hid hrd8
            have hbel8 : Below w.heap.size w w8 := hbw.grown hgr8 hz (fun j hj => by injection hj with hj; omega)
            clear hrd8 hgr8
            go_wp2
            go_roundw
            case rel => exact ⟨k + 1, by omega, by go_num, HD8, hbel8⟩
            case measure => simp [intOf]; omega
          · have hkk : k = xs.length := by omega
            subst hkk
            have hd0 : Rd wr g [] 0 := by
              have := HD.out
              rw [List.drop_length] at this
              exact this
            have K1 := end_ok g wr hd0
            have K2 := left g [] 0 wr hd0
            clear hd0
            go_wp2_with fail
            refine K1.mono ?_; rintro e w8 ⟨rfl, rfl⟩
            go_wp2_with fail
            refine K2.mono ?_; rintro e w9 ⟨rfl, rfl⟩
            go_wp2
            go_ret
            exact ⟨rfl, hbw⟩
theorem codecPuts_walk (v0 v1 : Value) (w : World) (F0 : FRow .u8 w v0) (F1 : FRow .i64 w v1) :
    Calls Try.prog 3 #[v0, v1] w fun e w' => e = .returned (.bool true) ∧ Below w.heap.size w w' := by
  obtain ⟨a, cap, l, rfl, hc, _, hr⟩ := F0.bytes
  obtain ⟨A, c, xs, rfl, _, _, hA, hin⟩ := F1.ints
  by_cases h : 100 < l.length ∨ 50 < xs.length
  · exact puts_long a A cap c l xs h w
  · cases ho : okL xs with
    | true => exact puts_yes a A cap c l xs (by omega) (by omega) ho w hc hr hA
    | false => exact puts_no a A cap c l xs (by omega) (by omega) hin ho w hA
end Go.Proofs.Ytokidoadggfaeaa.W
