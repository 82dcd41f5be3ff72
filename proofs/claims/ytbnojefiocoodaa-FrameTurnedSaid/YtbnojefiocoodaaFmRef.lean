/-
  Contracts of the document's own Next and Open.
-/
import Derived.Test.YtbnojefiocoodaaFmNext
namespace Go.Proofs.Ytbnojefiocoodaa.W
set_option linter.unusedVariables false
set_option linter.unusedSimpArgs false
open Go.ChangeShapes Go.WideShapes Go.ChangeAt Go.RowKit

/-- what a call made, as its caller reads it -/
theorem own_reads {w : World} {base : Nat} {e : TypeId} {n : Nat} {v : Value} {xs : List Value} (h : w.ownsRow base e 1 v n xs) :
    ∃ a cap, v = .slice a n cap ∧ n ≤ cap ∧ RowAt w a xs ∧ (a = none → cap = 0) := by
  obtain ⟨a, cap, h1, h2, h3, h4⟩ := own_form h
  refine ⟨a, cap, h1, h2, h3, fun ha => ?_⟩
  rcases h4 with ⟨_, _, h⟩ | ⟨g, h, _⟩
  · exact h
  · rw [ha] at h; cases h

set_option maxHeartbeats 400000 in
theorem rx_few (a : Option Addr) (cap : Nat) (l : List UInt8) (h : l.length < 2) (w : World) :
    Calls Try.prog 13 #[.slice a l.length cap] w fun e w' => e = .returned (.tuple #[.slice none 0 0, .int .i64 0, .int .i64 10]) ∧ Below w.heap.size w w' := by
  go_enter Try.func13, Try.ntmps13
  go_wp2
  go_ret3
  exact ⟨rfl, Below.refl _ _⟩
set_option maxHeartbeats 400000 in
theorem rx_size (a : Option Addr) (cap : Nat) (l : List UInt8) (h : ¬ l.length < 2) (hn : lenOf l = 0 ∨ 240 < lenOf l) (w : World) (ha : RowAt w a (bytesV l)) :
    Calls Try.prog 13 #[.slice a l.length cap] w fun e w' => e = .returned (.tuple #[.slice none 0 0, .int .i64 0, .int .i64 12]) ∧ Below w.heap.size w w' := by
  obtain ⟨b, off, x, y, hab, hx, hy, hxy, c0, c1⟩ := two_at ha h
  subst hab
  clear ha
  generalize lenOf l = n at hn hxy
  by_cases h0 : n = 0
  · subst h0
    have hs : (256 : Int) * (x : Int) + (y : Int) = 0 := by omega
    clear hxy hn
    go_enter Try.func13, Try.ntmps13
    go_wp2_with fail
    go_quiet (fail)
    go_wp2
    go_ret3
    exact ⟨rfl, below_drew (Below.refl _ _) _⟩
  · have hs : (256 : Int) * (x : Int) + (y : Int) = (n : Int) := by omega
    have h1 : ¬ ((n : Int) = 0) := by omega
    have h2 : (240 : Int) < (n : Int) := by omega
    clear hxy hn h0
    go_enter Try.func13, Try.ntmps13
    go_wp2_with fail
    go_quiet (fail)
    go_wp2
    go_ret3
    exact ⟨rfl, below_drew (Below.refl _ _) _⟩
set_option maxHeartbeats 400000 in
theorem rx_short (a : Option Addr) (cap : Nat) (l : List UInt8) (h : ¬ l.length < 2) (hn1 : 1 ≤ lenOf l) (hn2 : lenOf l ≤ 240) (hk : l.length < lenOf l + 3) (w : World) (ha : RowAt w a (bytesV l)) :
    Calls Try.prog 13 #[.slice a l.length cap] w fun e w' => e = .returned (.tuple #[.slice none 0 0, .int .i64 0, .int .i64 10]) ∧ Below w.heap.size w w' := by
  obtain ⟨b, off, x, y, hab, hx, hy, hxy, c0, c1⟩ := two_at ha h
  subst hab
  clear ha
  generalize lenOf l = n at hxy hn1 hn2 hk
  have hs : (256 : Int) * (x : Int) + (y : Int) = (n : Int) := by omega
  have h1 : ((n : Int) == 0) = false := by simp; omega
  have h2 : decide ((240 : Int) < (n : Int)) = false := decide_eq_false (by omega)
  clear hxy
  go_enter Try.func13, Try.ntmps13
  go_wp2_with fail
  go_quiet (fail)
  go_wp2
  go_ret3
  exact ⟨rfl, below_drew (Below.refl _ _) _⟩
set_option maxHeartbeats 400000 in
theorem rx_whole (a : Option Addr) (cap : Nat) (l : List UInt8) (h : ¬ l.length < 2) (hn1 : 1 ≤ lenOf l) (hn2 : lenOf l ≤ 240) (hk : ¬ l.length < lenOf l + 3) (hcap : l.length ≤ cap)
    (q : Bool) (hq : decide (l[lenOf l + 2]?.getD 0 = chk (l.take (lenOf l + 2))) = q) (w : World) (ha : RowAt w a (bytesV l)) :
    Calls Try.prog 13 #[.slice a l.length cap] w fun e w' => Below w.heap.size w w' ∧ (q = false → e = .returned (.tuple #[.slice none 0 0, .int .i64 0, .int .i64 11])) ∧
      (q = true → ∃ A, e = .returned (.tuple #[.slice A (lenOf l) (cap - 2), .int .i64 ((lenOf l + 3 : Nat) : Int), .int .i64 0]) ∧ RowAt w' A (bytesV ((l.drop 2).take (lenOf l)))) := by
  have HA := Lib.hid ha
  have hi : lenOf l + 2 < l.length := by omega
  obtain ⟨b, off, x, y, hab, hx, hy, hxy, c0, c1⟩ := two_at ha h
  subst hab
  obtain ⟨b', off', hab, hbl, hcs⟩ := ha.row (by rw [bytesV_len]; omega)
  injection hab with hab
  injection hab with hab1 hab2
  subst hab1 hab2
  have c2 := hcs (lenOf l + 2) _ (bytesV_at l _ hi)
  rw [List.getElem?_eq_getElem hi, Option.getD_some] at hq
  have hm := (mk_len ((l.drop 2).take (lenOf l)))
  have hll := load_len hk
  rw [hll] at hm
  have HM := Lib.hid (fun (w : World) (g : RowAt w (some ⟨b, off, none⟩) (bytesV l)) => rmake (some ⟨b, off + 2, none⟩) (cap - 2) ((l.drop 2).take (lenOf l)) (by omega) w (fun h => by cases h) (g.mid 2 _))
  have HR := Lib.hid (fun (w : World) (g : RowAt w (some ⟨b, off, none⟩) (bytesV l)) => g.mid 2 (lenOf l))
  rw [hll, hm] at HM
  have hch : (bytesV (mk ((l.drop 2).take (lenOf l))))[lenOf l + 2]? = some (.int .u8 ((chk (l.take (lenOf l + 2))).toNat : Int)) := by
    rw [ahead h]
    unfold mk
    rw [hll, bytesV_app, List.getElem?_append_right (by rw [bytesV_len, List.length_append, hll, hd_len]; omega), bytesV_len, List.length_append, hll, hd_len, show lenOf l + 2 - (2 + lenOf l) = 0 by omega]
    rfl
  have hqd : q = false → ¬ (((chk (l.take (lenOf l + 2))).toNat : Int) = ((l[lenOf l + 2]'hi).toNat : Int)) := fun e1 e => by
    rw [e1] at hq
    exact of_decide_eq_false hq (UInt8.toNat_inj.1 (by omega))
  have hqt : q = true → (chk (l.take (lenOf l + 2))).toNat = (l[lenOf l + 2]'hi).toNat := fun e1 => by
    rw [e1] at hq
    rw [of_decide_eq_true hq]
  have hmp : 0 < (bytesV (mk ((l.drop 2).take (lenOf l)))).length := by rw [bytesV_len, mk_len]; omega
  clear ha hq hcs hm
  generalize (l[lenOf l + 2]'hi).toNat = d at c2 hqd hqt
  generalize (chk (l.take (lenOf l + 2))).toNat = c at hch hqd hqt
  generalize bytesV (mk ((l.drop 2).take (lenOf l))) = M at HM hch hmp
  generalize bytesV ((l.drop 2).take (lenOf l)) = L at HR ⊢
  generalize lenOf l = n at HM HR hll ⊢ hxy hn1 hn2 hk c2 hch
  have hs : (256 : Int) * (x : Int) + (y : Int) = (n : Int) := by omega
  have h2n : n + 2 = ((n : Int) + 2).toNat := by omega
  rw [h2n] at c2 hch
  clear h2n hll
  have hwr : IntKind.i64.wrap ((n : Int) + 2) = (n : Int) + 2 := by rw [IntKind.wrap_i64]; omega
  have hi0 : (0 : Int) ≤ (n : Int) + 2 := by omega
  have hi1 : (n : Int) + 2 < (l.length : Int) := by omega
  have hi2 : (n : Int) + 2 ≤ (cap : Int) := by omega
  have hi3 : (2 : Int) ≤ (n : Int) + 2 := by omega
  have hi4 : (n : Int) + 2 < ((n + 3 : Nat) : Int) := by omega
  have h1 : ((n : Int) == 0) = false := by simp; omega
  have h2 : decide ((240 : Int) < (n : Int)) = false := decide_eq_false (by omega)
  clear hxy
  go_enter Try.func13, Try.ntmps13
  go_wp2_with fail
  go_quiet (fail)
  go_wp2_with fail
  refine (HM.out (w.drewN _) HA.out).mono ?_; rintro e w2 ⟨v2, rfl, hown2, hb2⟩
  have hbel : Below w.heap.size w w2 := (below_drew (Below.refl _ _) _).trans hb2
  obtain ⟨A2, k2, rfl, hk2, hr2, _⟩ := own_reads hown2
  obtain ⟨b2, o2, rfl, hbl2, hcs2⟩ := hr2.row hmp
  have c3 := hcs2 _ _ hch
  have c4 : w2.cell? ⟨b, off + ((n : Int) + 2).toNat, none⟩ = some (.int .u8 (d : Int)) := (hbel.cell (p := ⟨b, off + ((n : Int) + 2).toNat, none⟩) hbl).trans c2
  have HR2 := Lib.hid (HR.out w2 (HA.out.later hbel))
  clear hown2 hb2 hr2 hcs2 HM HA HR c2 c0 c1 hch
  cases q with
  | false =>
    have hne := hqd rfl
    clear hqd hqt
    go_wp2_with fail
    go_quiet (fail)
    go_wp2
    go_ret3
    exact ⟨below_drew hbel _, rfl⟩
  | true =>
    have hee := hqt rfl
    subst hee
    clear hqd hqt
    go_wp2_with fail
    go_quiet (fail)
    go_wp2
    go_ret3
    exact ⟨below_drew hbel _, _, rfl, HR2.out⟩
/-- what the document's Next answers of any list -/
theorem rnext (a : Option Addr) (cap : Nat) (l : List UInt8) (hcap : l.length ≤ cap) (w : World) (ha : RowAt w a (bytesV l)) (N : List UInt8) (S E : Nat) (hx : nextS l = (N, S, E)) :
    Calls Try.prog 13 #[.slice a l.length cap] w fun e w' => ∃ A c, e = .returned (.tuple #[.slice A N.length c, .int .i64 (S : Int), .int .i64 (E : Int)]) ∧ RowAt w' A (bytesV N) ∧ Below w.heap.size w w' := by
  by_cases h : l.length < 2
  · rw [next_few h] at hx
    cases hx
    exact (rx_few a cap l h w).mono fun _ _ x => ⟨none, 0, x.1, .inl rfl, x.2⟩
  by_cases hn : lenOf l = 0 ∨ 240 < lenOf l
  · rw [next_size h hn] at hx
    cases hx
    exact (rx_size a cap l h hn w ha).mono fun _ _ x => ⟨none, 0, x.1, .inl rfl, x.2⟩
  by_cases hk : l.length < lenOf l + 3
  · rw [next_short h hn hk] at hx
    cases hx
    exact (rx_short a cap l h (by omega) (by omega) hk w ha).mono fun _ _ x => ⟨none, 0, x.1, .inl rfl, x.2⟩
  by_cases hd : l[lenOf l + 2]?.getD 0 = chk (l.take (lenOf l + 2))
  · rw [next_good h hn hk hd] at hx
    cases hx
    refine (rx_whole a cap l h (by omega) (by omega) hk hcap true (decide_eq_true hd) w ha).mono fun _ _ x => ?_
    obtain ⟨A, x1, x2⟩ := x.2.2 rfl
    exact ⟨A, _, by rw [load_len hk]; exact x1, x2, x.1⟩
  · rw [next_form h hn hk hd] at hx
    cases hx
    exact (rx_whole a cap l h (by omega) (by omega) hk hcap false (decide_eq_false hd) w ha).mono fun _ _ x => ⟨none, 0, x.2.1 rfl, .inl rfl, x.1⟩

set_option maxHeartbeats 400000 in
theorem ropen (a : Option Addr) (cap : Nat) (l : List UInt8) (hcap : l.length ≤ cap) (w : World) (ha : RowAt w a (bytesV l)) (N : List UInt8) (E : Nat) (hx : openS l = (N, E)) :
    Calls Try.prog 12 #[.slice a l.length cap] w fun e w' => ∃ A c, e = .returned (.tuple #[.slice A N.length c, .int .i64 (E : Int)]) ∧ RowAt w' A (bytesV N) ∧ Below w.heap.size w w' := by
  obtain ⟨L, S, F, hn⟩ : ∃ L S F, nextS l = (L, S, F) := ⟨_, _, _, rfl⟩
  have H := Lib.hid (rnext a cap l hcap w ha L S F hn)
  by_cases hF : F = 0
  · subst hF
    by_cases hS : S < l.length
    · rw [open_more hn hS] at hx
      cases hx
      clear hn ha
      go_enter Try.func12, Try.ntmps12
      go_wp2_with fail
      refine H.out.mono ?_; rintro e w2 ⟨A2, c2, rfl, hr2, hb2⟩
      go_wp2
      go_ret2
      exact ⟨_, _, rfl, .inl rfl, hb2⟩
    · rw [open_all hn hS] at hx
      cases hx
      clear hn ha
      go_enter Try.func12, Try.ntmps12
      go_wp2_with fail
      refine H.out.mono ?_; rintro e w2 ⟨A2, c2, rfl, hr2, hb2⟩
      have HR := Lib.hid hr2
      clear hr2
      go_wp2
      go_ret2
      exact ⟨_, _, rfl, HR.out, hb2⟩
  · rw [open_wrong hn hF] at hx
    cases hx
    clear hn ha
    have hF1 : ((E : Int) == 0) = false := by simp; omega
    go_enter Try.func12, Try.ntmps12
    go_wp2_with fail
    refine H.out.mono ?_; rintro e w2 ⟨A2, c2, rfl, hr2, hb2⟩
    have HR := Lib.hid hr2
    clear hr2
    go_wp2
    go_ret2
    exact ⟨_, _, rfl, HR.out, hb2⟩
end Go.Proofs.Ytbnojefiocoodaa.W
