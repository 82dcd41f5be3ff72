/-
  The walk of FrameOpens.
-/
import Derived.Test.YtbnojefiocoodaaFmAwake
import Derived.Test.YtbnojefiocoodaaFrameB
namespace Go.Proofs.Ytbnojefiocoodaa.W
set_option linter.unusedVariables false
set_option linter.unusedSimpArgs false
open Go.ChangeShapes Go.WideShapes Go.ChangeAt Go.RowKit

theorem open_short {l N : List UInt8} {E : Nat} (h : openS l = (N, E)) : N.length ≤ 240 := by
  by_cases g : E = 0
  · subst g; exact (open_ok h).2.1
  · rw [(open_bad h g).1]; simp
theorem next_less {l N : List UInt8} {S E : Nat} (h : nextS l = (N, S, E)) : N.length ≤ 240 := by
  by_cases g : E = 0
  · subst g; exact (next_ok h).2.1
  · rw [(next_wrong h g).1]; simp

set_option maxHeartbeats 400000 in
theorem opens_long (a : Option Addr) (cap : Nat) (l : List UInt8) (h : 500 < l.length) (w : World) :
    Calls Try.prog 4 #[.slice a l.length cap] w fun e w' => e = .returned (.bool true) ∧ Below w.heap.size w w' := by
  have HW := Lib.hid awake
  go_enter Try.func4, Try.ntmps4
  go_wp2_with fail
  refine (HW.out _).mono ?_; rintro e w1 ⟨rfl, hb1⟩
  go_wp2
  go_ret
  exact ⟨rfl, hb1⟩
set_option maxHeartbeats 400000 in
set_option maxRecDepth 100000 in
theorem opens (a : Option Addr) (cap : Nat) (l : List UInt8) (hl : l.length ≤ 500) (hcl : l.length ≤ cap) (w : World) (ha : RowAt w a (bytesV l)) :
    Calls Try.prog 4 #[.slice a l.length cap] w fun e w' => e = .returned (.bool true) ∧ Below w.heap.size w w' := by
  obtain ⟨N, E, ho⟩ : ∃ N E, openS l = (N, E) := ⟨_, _, rfl⟩
  obtain ⟨M, S, F, hn⟩ : ∃ M S F, nextS l = (M, S, F) := ⟨_, _, _, rfl⟩
  have HW := Lib.hid awake
  have HA := Lib.hid ha
  have HO := Lib.hid (fun w h => open0 a cap l hcl w h N E ho)
  have HN := Lib.hid (fun w h => next a cap l hcl w h M S F hn)
  have HRO := Lib.hid (fun w h => ropen a cap l hcl w h N E ho)
  have HRN := Lib.hid (fun w h => rnext a cap l hcl w h M S F hn)
  have HSN := Lib.hid (fun a b ca cb w => sameB a b ca cb N (by have := open_short ho; omega) w)
  have HSM := Lib.hid (fun a b ca cb w => sameB a b ca cb M (by have := next_less hn; omega) w)
  have HSL := Lib.hid (fun a b ca cb w => sameB a b ca cb l (by omega) w)
  have HOK := Lib.hid (fun (g : E = 0) => open_ok (by rw [ho, g] : openS l = (N, 0)))
  have HNO := Lib.hid (fun (g : E ≠ 0) => (open_bad ho g).1)
  have HM := Lib.hid (fun A c h1 h2 w => make A c N h1 h2 w)
  clear ha ho hn
  go_enter Try.func4, Try.ntmps4
  go_wp2_with fail
  refine (HW.out _).mono ?_; rintro e w1 ⟨rfl, hb1⟩
  have HA1 := Lib.hid (HA.out.later hb1)
  go_wp2_with fail
  refine (HO.out _ HA1.out).mono ?_; rintro e w2 ⟨v2, rfl, hown2, hb2⟩
  obtain ⟨A2, c2, rfl, hc2, hr2, hn2⟩ := own_reads hown2
  have hbel2 : Below w.heap.size w w2 := behind hb2 hb1.size hb1
  have HR2 := Lib.hid hr2
  have HA2 := Lib.hid (HA.out.later hbel2)
  clear hown2 hr2 HA1 hb1 hb2
  go_wp2_with fail
  refine (HN.out _ HA2.out).mono ?_; rintro e w3 ⟨v3, rfl, hown3, hb3⟩
  obtain ⟨A3, c3, rfl, hc3, hr3, hn3⟩ := own_reads hown3
  have hbel3 : Below w.heap.size w w3 := behind hb3 hbel2.size hbel2
  have HR2b := Lib.hid (HR2.out.later hb3)
  have HR3 := Lib.hid hr3
  have HA3 := Lib.hid (HA.out.later hbel3)
  clear hown3 hr3 hb3 HR2 HA2
  go_wp2_with fail
  refine (HRO.out _ HA3.out).mono ?_; rintro e w4 ⟨A4, c4, rfl, hr4, hb4⟩
  have hbel4 : Below w.heap.size w w4 := behind hb4 hbel3.size hbel3
  have HR2c := Lib.hid (HR2b.out.later hb4)
  have HR3b := Lib.hid (HR3.out.later hb4)
  have HR4 := Lib.hid hr4
  have HA4 := Lib.hid (HA.out.later hbel4)
  clear hr4 hb4 HR2b HR3 HA3
  go_wp2_with fail
  refine (HRN.out _ HA4.out).mono ?_; rintro e w5 ⟨A5, c5, rfl, hr5, hb5⟩
  have hbel5 : Below w.heap.size w w5 := behind hb5 hbel4.size hbel4
  have HR2d := Lib.hid (HR2c.out.later hb5)
  have HR3c := Lib.hid (HR3b.out.later hb5)
  have HR4b := Lib.hid (HR4.out.later hb5)
  have HR5 := Lib.hid hr5
  clear hr5 hb5 HR2c HR3b HR4 HA4
  have K := HSN.out A2 A4 c2 c4 w5 HR2d.out HR4b.out
  go_wp2_with fail
  refine K.mono ?_; rintro e w6 ⟨rfl, hb6⟩
  clear K
  have hbel6 : Below w.heap.size w w6 := behind hb6 hbel5.size hbel5
  have K := HSM.out A3 A5 c3 c5 w6 (HR3c.out.later hb6) (HR5.out.later hb6)
  have HR2e := Lib.hid (HR2d.out.later hb6)
  clear hb6 HR2d HR3c HR4b HR5
  go_wp2_with fail
  refine K.mono ?_; rintro e w7 ⟨rfl, hb7⟩
  clear K
  have hbel7 : Below w.heap.size w w7 := behind hb7 hbel6.size hbel6
  have HR2f := Lib.hid (HR2e.out.later hb7)
  have HA7 := Lib.hid (HA.out.later hbel7)
  clear hb7 HR2e
  by_cases g : E = 0
  · obtain ⟨k1, k2, k3⟩ := HOK.out g
    have hml := mk_len N
    have K := HM.out A2 c2 k1 k2 w7 hn2 HR2f.out
    subst g
    rw [← k3] at K hml
    clear k3 hml
    go_wp2_with fail
    refine K.mono ?_; rintro e w8 ⟨v8, rfl, hown8, hb8⟩
    clear K
    obtain ⟨A8, c8, rfl, hc8, hr8, _⟩ := own_reads hown8
    have hbel8 : Below w.heap.size w w8 := behind hb8 hbel7.size hbel7
    have K := HSL.out A8 a c8 cap w8 hr8 (HA.out.later hbel8)
    clear hown8 hr8
    go_wp2_with fail
    refine K.mono ?_; rintro e w9 ⟨rfl, hb9⟩
    have hbel9 : Below w.heap.size w w9 := behind hb9 hbel8.size hbel8
    go_wp2
    go_ret
    exact ⟨rfl, hbel9⟩
  · have hN := HNO.out g
    have hq : ((E : Int) == 0) = false := by simp; omega
    have hq2 : ¬ ((E : Int) = 0) := by omega
    subst hN
    go_wp2
    go_ret
    exact ⟨rfl, hbel7⟩
theorem frameOpens_walk (v0 : Value) (w : World) (F0 : FRow .u8 w v0) :
    Calls Try.prog 4 #[v0] w fun e w' => e = .returned (.bool true) ∧ Below w.heap.size w w' := by
  obtain ⟨a, cap, l, rfl, hc, hcl, hr⟩ := F0.bytes
  by_cases h : l.length ≤ 500
  · exact opens a cap l h hcl w hr
  · exact opens_long a cap l (by omega) w
end Go.Proofs.Ytbnojefiocoodaa.W
