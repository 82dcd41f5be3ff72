/-
  Contract of codec.first: the number with whose bytes a list begins.
-/
import Derived.Test.YtbnlchbklpgejaaDoorCodecPut
import Derived.ScopeJumps
import Derived.WalkMore
namespace Go.Proofs.YtbnlchbklpgejaaDoor.W
set_option linter.unusedVariables false
set_option linter.unusedSimpArgs false
open Go.ChangeShapes Go.WideShapes Go.ChangeAt Go.RowKit

theorem wp_more {P : Program} {c : Code} {Q Q' : Exit → Act → World → Prop} {a : Act} {w : World} (h : c.wp P Q a w) (hq : ∀ e a w, Q e a w → Q' e a w) : c.wp P Q' a w := by
  intro b k cs
  obtain ⟨e, a1, w1, h1, h2⟩ := h b k cs
  exact ⟨e, a1, w1, hq _ _ _ h1, h2⟩
/-- a scope with one label, come to from ahead and by jumps: one pass for both -/
theorem wp_scope_once {P : Program} {a : Act} {w : World} {Q : Exit → Act → World → Prop} {c body : Code} (l : Nat) (J : Act → World → Prop) (μ : Act → World → Nat) (hf : findLabel c l = some (Code.skip.seq body))
    (first : ∀ Q', (∀ a w, J a w → body.wp P Q' a w) → c.wp P Q' a w)
    (pass : ∀ a w, J a w → body.wp P (Exit.jump l (fun a' w' => J a' w' ∧ μ a' w' < μ a w) Q) a w) : (Code.scope c).wp P Q a w := by
  refine wp_scope_jumps l J μ hf (first _ fun a w hJ => wp_more (pass a w hJ) ?_) (fun a w hJ => wp_seq (wp_skip (pass a w hJ)))
  intro e a' w' h
  cases e <;> first | exact h | exact ⟨h.1, h.2.1⟩

set_option maxHeartbeats 4000000 in
set_option maxRecDepth 100000 in
theorem first0 (a : Option Addr) (cap : Nat) (l : List UInt8) (hl : l.length ≤ 100000) (w : World) (ha : RowAt w a (bytesV l)) :
    Calls Tryd.prog 39 #[.slice a l.length cap] w fun e w' => e = .returned (.tuple #[.int .i64 ((firstS l).1 : Nat), .int .i64 ((firstS l).2.1 : Nat), .int .i64 ((firstS l).2.2 : Nat)]) ∧ w' = w := by
  have HA := Lib.hid ha
  clear ha
  go_enter Tryd.func39, Tryd.ntmps39
  go_wp2
  refine wp_scope_once 0 (fun a' w' => w' = w ∧ ∃ (k n : Nat) (u1 u4 u5 u6 u7 u8 u9 u10 u11 u12 u13 u14 u15 u16 u17 u18 u19 u20 u21 u22 u23 u24 u25 u26 u27 u28 u29 u30 u31 u32 u33 u34 u35 u36 u37 u38 u39 : Value), a' = { tmps := #[.slice a l.length cap, u1, .int .i64 (n : Int), .int .i64 (k : Int), u4, u5, u6, u7, u8, u9, u10, u11, u12, u13, u14, u15, u16, u17, u18, u19, u20, u21, u22, u23, u24, u25, u26, u27, u28, u29, u30, u31, u32, u33, u34, u35, u36, u37, u38, u39], defers := [] } ∧ k ≤ 8 ∧ k ≤ l.length ∧ n < 128 ^ k ∧ Hid (goF k n (l.drop k) = firstS l)) (fun a' _ => 8 - (intOf (a'.tmps.getD 3 undef)).toNat) rfl ?_ ?_
  · intro Q' hQ
    go_wp2
    go_step3
    rename_i hK
    exact hK _ _ <| hQ _ _ ⟨rfl, 0, 0, _, _, _, _, _, _, _, _, _, _, _, _, _, _, _, _, _, _, _, _, _, _, _, _, _, _, _, _, _, _, _, _, _, _, _, _, _, rfl, by omega, by omega, by decide, Lib.hid rfl⟩
  · rintro a' w' ⟨rfl, k, n, u1, u4, u5, u6, u7, u8, u9, u10, u11, u12, u13, u14, u15, u16, u17, u18, u19, u20, u21, u22, u23, u24, u25, u26, u27, u28, u29, u30, u31, u32, u33, u34, u35, u36, u37, u38, u39, rfl, hk8, hkl, hn, HG⟩
    by_cases h8 : k = 8
    · subst h8
      rw [goF_eight] at HG
      go_wp2
      simp only [Exit.jump]
      go_ret3
      exact ⟨by rw [← HG.out]; rfl, rfl⟩
    · by_cases he : k = l.length
      · have hd : l.drop k = [] := List.drop_of_length_le (by omega)
        rw [hd, goF_end n h8] at HG
        clear hd
        go_wp2
        simp only [Exit.jump]
        go_ret3
        exact ⟨by rw [← HG.out]; rfl, rfl⟩
      · have hlt : k < l.length := by omega
        obtain ⟨b, off, ha, hbw, hcs⟩ := HA.out.row (by rw [bytesV_len]; omega)
        have hc := hcs k _ (bytesV_at l k hlt)
        have hdr := List.drop_eq_getElem_cons hlt
        have hd2 : (l[k]'hlt).toNat < 256 := (l[k]'hlt).toNat_lt
        obtain ⟨d, hde⟩ : ∃ d, d = l[k]'hlt := ⟨_, rfl⟩
        rw [← hde] at hc hdr hd2
        rw [hdr] at HG
        have Ha := Lib.hid ha
        clear ha hcs hdr hde
        obtain rfl := Ha.out
        have hp7 : 128 ^ k ≤ 562949953421312 := Nat.le_trans (Nat.pow_le_pow_right (by omega) (show k ≤ 7 by omega)) (by decide)
        have hp1 : 128 ^ (k + 1) = 128 * 128 ^ k := by rw [Nat.pow_succ, Nat.mul_comm]
        have hxm : d.toNat % 128 * 128 ^ k ≤ 127 * 128 ^ k := Nat.mul_le_mul_right _ (by omega)
        have hy : ∃ y, y = d.toNat % 128 * 128 ^ k := ⟨_, rfl⟩
        obtain ⟨y, hy⟩ := hy
        have hy56 : y ≤ 71494644084506624 := by omega
        have hyn : n + y < 128 ^ (k + 1) := by omega
        have hyn2 : n + y ≤ 72057594037927936 := by omega
        have hsh : wrap64 ((d.toNat : Int) % 128 * 2 ^ (7 * k)) = (y : Int) := by
          have e2 : ((d.toNat : Int) % 128 * 2 ^ (7 * k)) = (y : Int) := by
            rw [hy]
            have : (2 : Int) ^ (7 * k) = ((128 ^ k : Nat) : Int) := by rw [Int.pow_mul]; simp
            rw [this]
            simp
          rw [e2]
          unfold wrap64
          omega
        clear hp7 hp1 hxm
        by_cases g : 128 ≤ d.toNat
        · rw [goF_more n h8 _ (by omega), ← hy] at HG
          clear hy
          generalize d.toNat = x at hc hd2 hsh g
          go_wp2
          go_step3
          refine ⟨rfl, ⟨rfl, k + 1, n + y, _, _, _, _, _, _, _, _, _, _, _, _, _, _, _, _, _, _, _, _, _, _, _, _, _, _, _, _, _, _, _, _, _, _, _, _, _, rfl, by omega, by omega, hyn, HG⟩, ?_⟩
          simp [intOf]
          omega
        · by_cases hb : 281474976710656 < n + y
          · rw [goF_bad n h8 _ (by omega) (by rw [← hy]; omega)] at HG
            clear hy
            generalize d.toNat = x at hc hd2 hsh g
            go_wp2
            simp only [Exit.jump]
            go_ret3
            exact ⟨by rw [← HG.out]; rfl, rfl⟩
          · by_cases h0 : d.toNat = 0
            · by_cases hk0 : k = 0
              · rw [goF_good n h8 _ (by omega) (by rw [← hy]; omega), ← hy] at HG
                have hy0 : Hid (y = 0) := Lib.hid (by rw [hy, h0]; simp)
                clear hy
                generalize d.toNat = x at hc hd2 hsh g h0
                subst h0
                subst hk0
                rw [Nat.add_zero] at hc
                go_wp2
                simp only [Exit.jump]
                go_ret3
                exact ⟨by rw [← HG.out]; simp [hy0.out], rfl⟩
              · rw [goF_bad n h8 _ (by omega) (by rw [← hy]; omega)] at HG
                clear hy
                generalize d.toNat = x at hc hd2 hsh g h0
                subst h0
                go_wp2
                simp only [Exit.jump]
                go_ret3
                exact ⟨by rw [← HG.out]; rfl, rfl⟩
            · rw [goF_good n h8 _ (by omega) (by rw [← hy]; omega), ← hy] at HG
              clear hy
              generalize d.toNat = x at hc hd2 hsh g h0
              go_wp2
              simp only [Exit.jump]
              go_ret3
              exact ⟨by rw [← HG.out]; simp, rfl⟩
end Go.Proofs.YtbnlchbklpgejaaDoor.W
