/-
  Contracts of frame.Make, and of the document's own answer to it.
-/
import Derived.Test.YtbnojefiocoodaaFmCheck
import Derived.Laws.MakeOwn
import Derived.Laws.Entries
namespace Go.Proofs.Ytbnojefiocoodaa.W
set_option linter.unusedVariables false
set_option linter.unusedSimpArgs false
open Go.ChangeShapes Go.WideShapes Go.ChangeAt Go.RowKit

set_option maxHeartbeats 400000 in
set_option maxRecDepth 100000 in
theorem make (a : Option Addr) (cap : Nat) (l : List UInt8) (h1 : 1 ≤ l.length) (h2 : l.length ≤ 240) (w : World) (hcap : a = none → cap = 0) (ha : RowAt w a (bytesV l)) :
    Calls Try.prog 7 #[.slice a l.length cap] w fun e w' => ∃ v, e = .returned (.tuple #[v, .int .i64 0]) ∧ w'.ownsRow w.heap.size 5 1 v (mk l).length (bytesV (mk l)) ∧ Below w.heap.size w w' := by
  obtain ⟨i0, hi, hz0, hz1, hz2⟩ := info_parts info8
  have H := Lib.hid (isLoad_yes l.length h1 h2)
  have HA := Lib.hid ha
  have HC := Lib.hid check
  have hmk := fun W => run_make (P := Try.prog) W 22 5 i0 _ Try.underlying22 hi hz0 .i64 .i64 0 ((l.length : Int) + 3) (by omega) (by omega) (by rw [hz2]; omega) (by omega)
  clear ha
  go_enter Try.func7, Try.ntmps7
  go_wp2_with fail
  refine (H.out w).mono ?_; rintro e w1 ⟨rfl, rfl⟩
  go_wp2_with (at_builtin; refine pushAll _ _ 22 5 (.int .u8 0) i0 Try.underlying22 hi hz0 hz1 hz2 rfl w1.heap.size w1.heap.size 0 2 2 [] (bytesV (hd l.length)) _ ⟨w1.heap.size + 1, 0, none⟩ w1 _ rfl rfl rfl rfl rfl ((World.ownsRow_made w1 _ (l.length + 3) (Nat.le_refl _) (by unfold maxLen; omega) (made_size _)).alloc _) (row_hd' l.length (by omega) _ _ (by simp)) (((Below.refl _ _).alloc (Nat.le_refl _) _).alloc (by simp) _) (Nat.le_refl _) (by simp; omega) (bytesV_one _) (by omega) ?_)
  intro v2 w2 hown2 hb2
  have HO2 := Lib.hid hown2
  have HA2 := Lib.hid (HA.out.later hb2)
  have hy2 := hb2.size
  clear hown2
  go_wp2_with (at_builtin; refine pushAny _ _ 22 5 (.int .u8 0) i0 Try.underlying22 hi hz0 hz1 hz2 rfl w1.heap.size w1.heap.size 2 l.length cap (bytesV (hd l.length)) (bytesV l) _ a w1 w2 rfl rfl rfl rfl (bytesV_len l).symm hcap HO2.out HA2.out hb2 (Nat.le_refl _) (by omega) (bytesV_one _) (by omega) ?_)
  intro v3 w3 hown3 hb3
  obtain ⟨m, hm⟩ : ∃ m, m = hd l.length ++ l := ⟨_, rfl⟩
  have hml : m.length = 2 + l.length := by rw [hm, List.length_append, hd_len]
  rw [← bytesV_app, ← hm, ← hml] at hown3
  have hm1 : m.length ≤ 2 + l.length := by omega
  have hm2 : 2 + l.length ≤ m.length := by omega
  have HO3 := Lib.hid hown3
  obtain ⟨A3, c3, rfl, hc3, hrow3, _⟩ := own_form hown3
  have hy3 := hb3.size
  have K := HC.out A3 c3 m (by omega) w3 hrow3
  have hmk2 : Hid (bytesV m ++ [.int .u8 ((chk m).toNat : Int)] = bytesV (mk l)) := Lib.hid (by rw [hm]; exact mk_snoc l)
  clear hown3 hrow3 HO2 HA2 HA H hm hml
  go_wp2_with fail
  refine K.mono ?_; rintro e w4 ⟨rfl, rfl⟩
  clear K HC
  go_wp2_with (at_builtin; refine push _ _ 22 5 1 (.int .u8 0) i0 Try.underlying22 hi hz0 hz1 hz2 rfl w1.heap.size w1.heap.size m.length (bytesV m) _ _ _ w1 _ rfl rfl rfl rfl HO3.out hb3 (Nat.le_refl _) (by omega) rfl (by omega) (by omega) ?_)
  intro v5 w5 hown5 hb5
  rw [hmk2.out] at hown5
  have HO5 : Hid (w5.ownsRow w1.heap.size 5 1 v5 (mk l).length (bytesV (mk l))) := Lib.hid (by rw [mk_len, show l.length + 3 = m.length + 1 by omega]; exact hown5)
  clear hown5 hmk2 HO3
  go_wp2
  go_ret2
  exact ⟨_, rfl, HO5.out, hb5⟩

set_option maxHeartbeats 400000 in
set_option maxRecDepth 100000 in
theorem rmake (a : Option Addr) (cap : Nat) (l : List UInt8) (h2 : l.length ≤ 240) (w : World) (hcap : a = none → cap = 0) (ha : RowAt w a (bytesV l)) :
    Calls Try.prog 11 #[.slice a l.length cap] w fun e w' => ∃ v, e = .returned v ∧ w'.ownsRow w.heap.size 5 1 v (mk l).length (bytesV (mk l)) ∧ Below w.heap.size w w' := by
  obtain ⟨i0, hi, hz0, hz1, hz2⟩ := info_parts info8
  have HA := Lib.hid ha
  have HC := Lib.hid rcheck
  have HV := Lib.hid (hd_vals l.length (by omega))
  have HO0 : Hid (∀ w : World, (w.alloc (.cells #[.int .u8 ((l.length : Int) / 256), .int .u8 ((l.length : Int) % 256)] 5)).ownsRow w.heap.size 5 1 (.slice (some ⟨w.heap.size, 0, none⟩) 2 2) 2 (bytesV (hd l.length))) := Lib.hid fun w => by
    rw [← HV.out]
    exact World.ownsRow_lit (base := w.heap.size) (e := 5) (size := 1) w #[.int .u8 ((l.length : Int) / 256), .int .u8 ((l.length : Int) % 256)] 2 (Nat.le_refl _) (by decide) rfl
  clear ha
  go_enter Try.func11, Try.ntmps11
  go_wp2_with (at_builtin; refine pushAny _ _ 22 5 (.int .u8 0) i0 Try.underlying22 hi hz0 hz1 hz2 rfl w.heap.size w.heap.size 2 l.length cap (bytesV (hd l.length)) (bytesV l) _ a w _ rfl rfl rfl rfl (bytesV_len l).symm hcap (HO0.out w) (HA.out.alloc _) ((Below.refl _ _).alloc (Nat.le_refl _) _) (Nat.le_refl _) (by simp) (bytesV_one _) (by omega) ?_)
  intro v3 w3 hown3 hb3
  obtain ⟨m, hm⟩ : ∃ m, m = hd l.length ++ l := ⟨_, rfl⟩
  have hml : m.length = 2 + l.length := by rw [hm, List.length_append, hd_len]
  rw [← bytesV_app, ← hm, ← hml] at hown3
  have hm1 : m.length ≤ 2 + l.length := by omega
  have hm2 : 2 + l.length ≤ m.length := by omega
  have HO3 := Lib.hid hown3
  obtain ⟨A3, c3, rfl, hc3, hrow3, _⟩ := own_form hown3
  have hy3 := hb3.size
  have K := HC.out A3 c3 m (by omega) w3 hrow3
  have hmk2 : Hid (bytesV m ++ [.int .u8 ((chk m).toNat : Int)] = bytesV (mk l)) := Lib.hid (by rw [hm]; exact mk_snoc l)
  clear hown3 hrow3 HO0 HV HA hm hml
  go_wp2_with fail
  refine K.mono ?_; rintro e w4 ⟨rfl, rfl⟩
  clear K HC
  go_wp2_with (at_builtin; refine push _ _ 22 5 1 (.int .u8 0) i0 Try.underlying22 hi hz0 hz1 hz2 rfl w.heap.size w.heap.size m.length (bytesV m) _ _ _ w _ rfl rfl rfl rfl HO3.out hb3 (Nat.le_refl _) (by omega) rfl (by omega) (by omega) ?_)
  intro v5 w5 hown5 hb5
  rw [hmk2.out] at hown5
  have HO5 : Hid (w5.ownsRow w.heap.size 5 1 v5 (mk l).length (bytesV (mk l))) := Lib.hid (by rw [mk_len, show l.length + 3 = m.length + 1 by omega]; exact hown5)
  clear hown5 hmk2 HO3
  go_wp2
  go_ret
  exact ⟨_, rfl, HO5.out, hb5⟩
end Go.Proofs.Ytbnojefiocoodaa.W
