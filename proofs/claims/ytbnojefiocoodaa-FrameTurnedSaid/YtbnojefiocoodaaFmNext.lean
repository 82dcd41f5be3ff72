/-
  Contracts of frame.Next and frame.Open.
-/
import Derived.Test.YtbnojefiocoodaaFmMake
import Derived.Deep.QuietTactic
import Derived.BigQuiet
namespace Go.Proofs.Ytbnojefiocoodaa.W
set_option linter.unusedVariables false
set_option linter.unusedSimpArgs false
open Go.ChangeShapes Go.WideShapes Go.ChangeAt Go.RowKit

theorem bytesV_take (l : List UInt8) (k : Nat) : bytesV (l.take k) = (bytesV l).take k := by simp [bytesV]
theorem RowAt.take {w : World} {a : Option Addr} {l : List UInt8} (h : RowAt w a (bytesV l)) (k : Nat) : RowAt w a (bytesV (l.take k)) := by
  rcases h with h | ⟨b, off, rfl, hl, hc⟩
  · exact .inl (by rw [bytesV_take, h]; simp)
  · refine .inr ⟨b, off, rfl, hl, fun i u hu => hc i u ?_⟩
    rw [bytesV_take, List.getElem?_take] at hu
    split at hu
    · exact hu
    · cases hu
theorem RowAt.mid {w : World} {b off : Nat} {l : List UInt8} (h : RowAt w (some ⟨b, off, none⟩) (bytesV l)) (k n : Nat) : RowAt w (some ⟨b, off + k, none⟩) (bytesV ((l.drop k).take n)) := by
  have h2 := h.drop k
  rw [← bytesV_drop] at h2
  exact h2.take n
theorem below_drew {B : Nat} {a w : World} (h : Below B a w) (n : Nat) : Below B a (w.drewN n) := ⟨h.os, h.tape, h.output, h.size, h.block⟩
/-- the two bytes ahead, and where a list with two stands -/
theorem two_at {w : World} {a : Option Addr} {l : List UInt8} (h : RowAt w a (bytesV l)) (hl : ¬ l.length < 2) :
    ∃ (b off x y : Nat), a = some ⟨b, off, none⟩ ∧ x < 256 ∧ y < 256 ∧ lenOf l = 256 * x + y ∧ w.cell? ⟨b, off, none⟩ = some (.int .u8 (x : Int)) ∧ w.cell? ⟨b, off + 1, none⟩ = some (.int .u8 (y : Int)) := by
  obtain ⟨b, off, rfl, _, hc⟩ := h.row (by rw [bytesV_len]; omega)
  match l, hl with
  | [], hl => simp at hl
  | [_], hl => simp at hl
  | x :: y :: r, _ => exact ⟨b, off, x.toNat, y.toNat, rfl, x.toNat_lt, y.toNat_lt, rfl, hc 0 _ rfl, hc 1 _ rfl⟩

set_option maxHeartbeats 400000 in
theorem nx_few (a : Option Addr) (cap : Nat) (l : List UInt8) (h : l.length < 2) (w : World) :
    Calls Try.prog 9 #[.slice a l.length cap] w fun e w' => e = .returned (.tuple #[.slice none 0 0, .int .i64 0, .int .i64 10]) ∧ Below w.heap.size w w' := by
  go_enter Try.func9, Try.ntmps9
  go_wp2
  go_ret3
  exact ⟨rfl, Below.refl _ _⟩
set_option maxHeartbeats 400000 in
theorem nx_size (a : Option Addr) (cap : Nat) (l : List UInt8) (h : ¬ l.length < 2) (hn : lenOf l = 0 ∨ 240 < lenOf l) (w : World) (ha : RowAt w a (bytesV l)) :
    Calls Try.prog 9 #[.slice a l.length cap] w fun e w' => e = .returned (.tuple #[.slice none 0 0, .int .i64 0, .int .i64 12]) ∧ Below w.heap.size w w' := by
  have H := Lib.hid (isLoad_no (lenOf l) hn)
  obtain ⟨b, off, x, y, hab, hx, hy, hxy, c0, c1⟩ := two_at ha h
  subst hab
  clear ha hn
  generalize lenOf l = n at H hxy
  have hs : (x : Int) * 256 + (y : Int) = (n : Int) := by omega
  clear hxy
  go_enter Try.func9, Try.ntmps9
  go_wp2_with fail
  go_quiet (fail)
  go_wp2_with fail
  refine (H.out _).mono ?_; rintro e w1 ⟨rfl, rfl⟩
  go_wp2
  go_ret3
  exact ⟨rfl, (by repeat' (first | exact Below.refl _ _ | assumption | exact And.left (by assumption) | refine Below.drew ?_ | refine below_drewN ?_ _ | refine Below.setCell ?_ (by first | (simp; done) | (simp; omega) | omega) _ | refine Below.alloc ?_ (by first | (simp; done) | (simp; omega) | omega) _ | refine after (by assumption) (by first | (simp; done) | (simp; omega) | omega) ?_))⟩
set_option maxHeartbeats 400000 in
theorem nx_short (a : Option Addr) (cap : Nat) (l : List UInt8) (h : ¬ l.length < 2) (hn1 : 1 ≤ lenOf l) (hn2 : lenOf l ≤ 240) (hk : l.length < lenOf l + 3) (w : World) (ha : RowAt w a (bytesV l)) :
    Calls Try.prog 9 #[.slice a l.length cap] w fun e w' => e = .returned (.tuple #[.slice none 0 0, .int .i64 0, .int .i64 10]) ∧ Below w.heap.size w w' := by
  have H := Lib.hid (isLoad_yes (lenOf l) hn1 hn2)
  obtain ⟨b, off, x, y, hab, hx, hy, hxy, c0, c1⟩ := two_at ha h
  subst hab
  clear ha
  generalize lenOf l = n at H hxy hn1 hn2 hk
  have hs : (x : Int) * 256 + (y : Int) = (n : Int) := by omega
  clear hxy
  go_enter Try.func9, Try.ntmps9
  go_wp2_with fail
  go_quiet (fail)
  go_wp2_with fail
  refine (H.out _).mono ?_; rintro e w1 ⟨rfl, rfl⟩
  go_wp2
  go_ret3
  exact ⟨rfl, (by repeat' (first | exact Below.refl _ _ | assumption | exact And.left (by assumption) | refine Below.drew ?_ | refine below_drewN ?_ _ | refine Below.setCell ?_ (by first | (simp; done) | (simp; omega) | omega) _ | refine Below.alloc ?_ (by first | (simp; done) | (simp; omega) | omega) _ | refine after (by assumption) (by first | (simp; done) | (simp; omega) | omega) ?_))⟩
set_option maxHeartbeats 400000 in
theorem nx_form (a : Option Addr) (cap : Nat) (l : List UInt8) (h : ¬ l.length < 2) (hn1 : 1 ≤ lenOf l) (hn2 : lenOf l ≤ 240) (hk : ¬ l.length < lenOf l + 3) (hcap : l.length ≤ cap)
    (hd : l[lenOf l + 2]?.getD 0 ≠ chk (l.take (lenOf l + 2))) (w : World) (ha : RowAt w a (bytesV l)) :
    Calls Try.prog 9 #[.slice a l.length cap] w fun e w' => e = .returned (.tuple #[.slice none 0 0, .int .i64 0, .int .i64 11]) ∧ Below w.heap.size w w' := by
  have H := Lib.hid (isLoad_yes (lenOf l) hn1 hn2)
  have HK := Lib.hid (fun (w : World) (g : RowAt w a (bytesV l)) => check a cap (l.take (lenOf l + 2)) (by rw [List.length_take]; omega) w (g.take _))
  have HA := Lib.hid ha
  rw [List.length_take, Nat.min_eq_left (show lenOf l + 2 ≤ l.length by omega)] at HK
  obtain ⟨b, off, x, y, hab, hx, hy, hxy, c0, c1⟩ := two_at ha h
  subst hab
  obtain ⟨b', off', hab, _, hcs⟩ := ha.row (by rw [bytesV_len]; omega)
  injection hab with hab
  injection hab with hab1 hab2
  subst hab1 hab2
  have c2 := hcs (lenOf l + 2) _ (bytesV_at l _ (by omega))
  rw [List.getElem?_eq_getElem (show lenOf l + 2 < l.length by omega), Option.getD_some] at hd
  have hne : ¬ (((l[lenOf l + 2]'(by omega)).toNat : Int) = ((chk (l.take (lenOf l + 2))).toNat : Int)) := fun e => hd (UInt8.toNat_inj.1 (by omega))
  clear ha hd hcs
  generalize (l[lenOf l + 2]'(by omega)).toNat = d at c2 hne
  generalize (chk (l.take (lenOf l + 2))).toNat = c at HK hne
  generalize lenOf l = n at H HK hxy hn1 hn2 hk c2
  have hs : (x : Int) * 256 + (y : Int) = (n : Int) := by omega
  have h2n : n + 2 = (2 + (n : Int)).toNat := by omega
  rw [h2n] at c2 HK
  clear h2n
  have hi0 : (0 : Int) ≤ 2 + (n : Int) := by omega
  have hi1 : 2 + (n : Int) < (l.length : Int) := by omega
  have hi2 : 2 + (n : Int) ≤ (cap : Int) := by omega
  clear hxy
  go_enter Try.func9, Try.ntmps9
  go_wp2_with fail
  go_quiet (fail)
  go_wp2_with fail
  refine (H.out _).mono ?_; rintro e w1 ⟨rfl, rfl⟩
  go_wp2_with fail
  go_quiet (exact (HK.out (w.drewN _) HA.out).mono fun _ _ h => ⟨h.1, _, h.2⟩)
  go_wp2
  go_ret3
  exact ⟨rfl, (by repeat' (first | exact Below.refl _ _ | assumption | exact And.left (by assumption) | refine Below.drew ?_ | refine below_drewN ?_ _ | refine Below.setCell ?_ (by first | (simp; done) | (simp; omega) | omega) _ | refine Below.alloc ?_ (by first | (simp; done) | (simp; omega) | omega) _ | refine after (by assumption) (by first | (simp; done) | (simp; omega) | omega) ?_))⟩
set_option maxHeartbeats 400000 in
theorem nx_good (a : Option Addr) (cap : Nat) (l : List UInt8) (h : ¬ l.length < 2) (hn1 : 1 ≤ lenOf l) (hn2 : lenOf l ≤ 240) (hk : ¬ l.length < lenOf l + 3) (hcap : l.length ≤ cap)
    (hd : l[lenOf l + 2]?.getD 0 = chk (l.take (lenOf l + 2))) (w : World) (ha : RowAt w a (bytesV l)) :
    Calls Try.prog 9 #[.slice a l.length cap] w fun e w' => ∃ v, e = .returned (.tuple #[v, .int .i64 ((lenOf l + 3 : Nat) : Int), .int .i64 0]) ∧ w'.ownsRow w.heap.size 5 1 v (lenOf l) (bytesV ((l.drop 2).take (lenOf l))) ∧ Below w.heap.size w w' := by
  have H := Lib.hid (isLoad_yes (lenOf l) hn1 hn2)
  have HK := Lib.hid (fun (w : World) (g : RowAt w a (bytesV l)) => check a cap (l.take (lenOf l + 2)) (by rw [List.length_take]; omega) w (g.take _))
  have HA := Lib.hid ha
  rw [List.length_take, Nat.min_eq_left (show lenOf l + 2 ≤ l.length by omega)] at HK
  obtain ⟨b, off, x, y, hab, hx, hy, hxy, c0, c1⟩ := two_at ha h
  subst hab
  obtain ⟨b', off', hab, _, hcs⟩ := ha.row (by rw [bytesV_len]; omega)
  injection hab with hab
  injection hab with hab1 hab2
  subst hab1 hab2
  have c2 := hcs (lenOf l + 2) _ (bytesV_at l _ (by omega))
  rw [List.getElem?_eq_getElem (show lenOf l + 2 < l.length by omega), Option.getD_some] at hd
  rw [hd] at c2
  have hll := load_len hk
  have HC := Lib.hid (fun (w : World) (g : RowAt w (some ⟨b, off, none⟩) (bytesV l)) => clone (some ⟨b, off + 2, none⟩) (cap - 2) ((l.drop 2).take (lenOf l)) w (by omega) (fun h => by cases h) (g.mid 2 _))
  rw [hll] at HC
  generalize (l.drop 2).take (lenOf l) = m at HC hll ⊢
  clear ha hd hcs
  generalize (chk (l.take (lenOf l + 2))).toNat = c at HK c2
  generalize lenOf l = n at H HK HC hll ⊢ hxy hn1 hn2 hk c2
  have hs : (x : Int) * 256 + (y : Int) = (n : Int) := by omega
  have h2n : n + 2 = (2 + (n : Int)).toNat := by omega
  rw [h2n] at c2 HK
  clear h2n
  have hi0 : (0 : Int) ≤ 2 + (n : Int) := by omega
  have hi1 : 2 + (n : Int) < (l.length : Int) := by omega
  have hi2 : 2 + (n : Int) ≤ (cap : Int) := by omega
  clear hxy
  go_enter Try.func9, Try.ntmps9
  go_wp2_with fail
  go_quiet (fail)
  go_wp2_with fail
  refine (H.out _).mono ?_; rintro e w1 ⟨rfl, rfl⟩
  go_wp2_with fail
  go_quiet (exact (HK.out (w.drewN _) HA.out).mono fun _ _ h => ⟨h.1, _, h.2⟩)
  go_wp2_with fail
  refine (HC.out (w.drewN _) HA.out).mono ?_; rintro e w2 ⟨v2, rfl, hown2, hb2⟩
  have HO2 : Hid (w2.ownsRow w.heap.size 5 1 v2 n (bytesV m)) := Lib.hid hown2
  have hbel : Below w.heap.size w w2 := (below_drew (Below.refl _ _) _).trans hb2
  clear hown2 hb2
  go_wp2
  go_ret3
  exact ⟨_, rfl, HO2.out, hbel⟩
/-- what Next answers of any list -/
theorem next (a : Option Addr) (cap : Nat) (l : List UInt8) (hcap : l.length ≤ cap) (w : World) (ha : RowAt w a (bytesV l)) (N : List UInt8) (S E : Nat) (hx : nextS l = (N, S, E)) :
    Calls Try.prog 9 #[.slice a l.length cap] w fun e w' => ∃ v, e = .returned (.tuple #[v, .int .i64 (S : Int), .int .i64 (E : Int)]) ∧ w'.ownsRow w.heap.size 5 1 v N.length (bytesV N) ∧ Below w.heap.size w w' := by
  by_cases h : l.length < 2
  · rw [next_few h] at hx
    cases hx
    exact (nx_few a cap l h w).mono fun _ _ x => ⟨_, x.1, World.ownsRow_nil _ _ _ _, x.2⟩
  by_cases hn : lenOf l = 0 ∨ 240 < lenOf l
  · rw [next_size h hn] at hx
    cases hx
    exact (nx_size a cap l h hn w ha).mono fun _ _ x => ⟨_, x.1, World.ownsRow_nil _ _ _ _, x.2⟩
  by_cases hk : l.length < lenOf l + 3
  · rw [next_short h hn hk] at hx
    cases hx
    exact (nx_short a cap l h (by omega) (by omega) hk w ha).mono fun _ _ x => ⟨_, x.1, World.ownsRow_nil _ _ _ _, x.2⟩
  by_cases hd : l[lenOf l + 2]?.getD 0 = chk (l.take (lenOf l + 2))
  · rw [next_good h hn hk hd] at hx
    cases hx
    refine (nx_good a cap l h (by omega) (by omega) hk hcap hd w ha).mono fun _ _ x => ?_
    obtain ⟨v, x1, x2, x3⟩ := x
    exact ⟨v, x1, by rw [load_len hk]; exact x2, x3⟩
  · rw [next_form h hn hk hd] at hx
    cases hx
    exact (nx_form a cap l h (by omega) (by omega) hk hcap hd w ha).mono fun _ _ x => ⟨_, x.1, World.ownsRow_nil _ _ _ _, x.2⟩

set_option maxHeartbeats 400000 in
theorem open0 (a : Option Addr) (cap : Nat) (l : List UInt8) (hcap : l.length ≤ cap) (w : World) (ha : RowAt w a (bytesV l)) (N : List UInt8) (E : Nat) (hx : openS l = (N, E)) :
    Calls Try.prog 8 #[.slice a l.length cap] w fun e w' => ∃ v, e = .returned (.tuple #[v, .int .i64 (E : Int)]) ∧ w'.ownsRow w.heap.size 5 1 v N.length (bytesV N) ∧ Below w.heap.size w w' := by
  obtain ⟨L, S, F, hn⟩ : ∃ L S F, nextS l = (L, S, F) := ⟨_, _, _, rfl⟩
  have H := Lib.hid (next a cap l hcap w ha L S F hn)
  by_cases hF : F = 0
  · subst hF
    by_cases hS : S < l.length
    · rw [open_more hn hS] at hx
      cases hx
      clear hn ha
      go_enter Try.func8, Try.ntmps8
      go_wp2_with fail
      refine H.out.mono ?_; rintro e w2 ⟨v2, rfl, hown2, hb2⟩
      go_wp2
      go_ret2
      exact ⟨_, rfl, World.ownsRow_nil _ _ _ _, hb2⟩
    · rw [open_all hn hS] at hx
      cases hx
      clear hn ha
      go_enter Try.func8, Try.ntmps8
      go_wp2_with fail
      refine H.out.mono ?_; rintro e w2 ⟨v2, rfl, hown2, hb2⟩
      have HO := Lib.hid hown2
      clear hown2
      go_wp2
      go_ret2
      exact ⟨_, rfl, HO.out, hb2⟩
  · rw [open_wrong hn hF] at hx
    cases hx
    clear hn ha
    have hF1 : ¬ ((E : Int) = 0) := by omega
    go_enter Try.func8, Try.ntmps8
    go_wp2_with fail
    refine H.out.mono ?_; rintro e w2 ⟨v2, rfl, hown2, hb2⟩
    have HO := Lib.hid hown2
    clear hown2
    go_wp2
    go_ret2
    exact ⟨_, rfl, HO.out, hb2⟩
end Go.Proofs.Ytbnojefiocoodaa.W
