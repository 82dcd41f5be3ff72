/-
  The walk of FrameMakes.
-/
import Derived.Test.YtbnojefiocoodaaFmAwake
import Derived.Test.YtbnojefiocoodaaFrameB
namespace Go.Proofs.Ytbnojefiocoodaa.W
set_option linter.unusedVariables false
set_option linter.unusedSimpArgs false
open Go.ChangeShapes Go.WideShapes Go.ChangeAt Go.RowKit

set_option maxHeartbeats 400000 in
theorem makes_long (a A : Option Addr) (cap c : Nat) (l r : List UInt8) (h : 2000 < l.length ∨ 500 < r.length) (w : World) :
    Calls Try.prog 3 #[.slice a l.length cap, .slice A r.length c] w fun e w' => e = .returned (.bool true) ∧ Below w.heap.size w w' := by
  have HW := Lib.hid awake
  by_cases h0 : 2000 < l.length
  · clear h
    go_enter Try.func3, Try.ntmps3
    go_wp2_with fail
    refine (HW.out _).mono ?_; rintro e w1 ⟨rfl, hb1⟩
    go_wp2
    go_ret
    exact ⟨rfl, hb1⟩
  · have h1 : 500 < r.length := by omega
    clear h
    go_enter Try.func3, Try.ntmps3
    go_wp2_with fail
    refine (HW.out _).mono ?_; rintro e w1 ⟨rfl, hb1⟩
    go_wp2
    go_ret
    exact ⟨rfl, hb1⟩
set_option maxHeartbeats 400000 in
theorem makes_no (a A : Option Addr) (cap c : Nat) (l r : List UInt8) (hl : l.length ≤ 2000) (hr : r.length ≤ 500) (h : l.length = 0 ∨ 240 < l.length) (w : World) :
    Calls Try.prog 3 #[.slice a l.length cap, .slice A r.length c] w fun e w' => e = .returned (.bool true) ∧ Below w.heap.size w w' := by
  have HW := Lib.hid awake
  have HM := Lib.hid (make_no a cap l h)
  by_cases h0 : l.length = 0
  · clear h
    go_enter Try.func3, Try.ntmps3
    go_wp2_with fail
    refine (HW.out _).mono ?_; rintro e w1 ⟨rfl, hb1⟩
    rw [h0] at HM
    go_wp2_with fail
    refine (HM.out _).mono ?_; rintro e w2 ⟨rfl, rfl⟩
    go_wp2
    go_ret
    exact ⟨rfl, hb1⟩
  · have h1 : 240 < l.length := by omega
    clear h
    go_enter Try.func3, Try.ntmps3
    go_wp2_with fail
    refine (HW.out _).mono ?_; rintro e w1 ⟨rfl, hb1⟩
    go_wp2_with fail
    refine (HM.out _).mono ?_; rintro e w2 ⟨rfl, rfl⟩
    go_wp2
    go_ret
    exact ⟨rfl, hb1⟩
set_option maxHeartbeats 400000 in
set_option maxRecDepth 100000 in
theorem makes (a A : Option Addr) (cap c : Nat) (l r : List UInt8) (h1 : 1 ≤ l.length) (h2 : l.length ≤ 240) (hr : r.length ≤ 500) (w : World) (hcap : a = none → cap = 0) (ha : RowAt w a (bytesV l)) (hc : A = none → c = 0) (hA : RowAt w A (bytesV r)) :
    Calls Try.prog 3 #[.slice a l.length cap, .slice A r.length c] w fun e w' => e = .returned (.bool true) ∧ Below w.heap.size w w' := by
  obtain ⟨i0, hi, hz0, hz1, hz2⟩ := info_parts info8
  have HW := Lib.hid awake
  have HL := Lib.hid ha
  have HR := Lib.hid hA
  have hml := mk_len l
  have hmr : (mk l ++ r).length = l.length + 3 + r.length := by rw [List.length_append, mk_len]
  have HM := Lib.hid (fun w h => make a cap l h1 h2 w hcap h)
  have HRM := Lib.hid (fun w h => rmake a cap l h2 w hcap h)
  have HO := Lib.hid (fun A2 c2 (g : (mk l).length ≤ c2) w h => open0 A2 c2 (mk l) g w h l 0 (open_mk l h1 h2))
  have HN := Lib.hid (fun A2 c2 (g : (mk l ++ r).length ≤ c2) w h => next A2 c2 (mk l ++ r) g w h l (l.length + 3) 0 (next_mk l r h1 h2))
  have HSM := Lib.hid (fun a b ca cb w => sameB a b ca cb (mk l) (by omega) w)
  have HSL := Lib.hid (fun a b ca cb w => sameB a b ca cb l (by omega) w)
  have HB := Lib.hid (bytesV_app (mk l) r)
  have hmv : (bytesV (mk l)).length = l.length + 3 := by rw [bytesV_len, hml]
  have HV1 := Lib.hid (bytesV_one (mk l))
  rw [hml] at HM HRM HO HSM
  rw [hmr] at HN
  generalize bytesV (mk l ++ r) = X at HN HB
  generalize bytesV (mk l) = M at HM HRM HO HSM HB hmv HV1
  have HMV := Lib.hid hmv.symm
  clear ha hA hml hmr hmv
  go_enter Try.func3, Try.ntmps3
  go_wp2_with fail
  refine (HW.out _).mono ?_; rintro e w1 ⟨rfl, hb1⟩
  have HL1 := Lib.hid (HL.out.later hb1)
  go_wp2_with fail
  refine (HM.out _ HL1.out).mono ?_; rintro e w2 ⟨v2, rfl, hown2, hb2⟩
  obtain ⟨A2, c2, rfl, hc2, hr2, hn2⟩ := own_reads hown2
  have hbel2 : Below w.heap.size w w2 := behind hb2 hb1.size hb1
  have HB2 := Lib.hid hr2
  have K := HO.out A2 c2 hc2 w2 hr2
  clear hown2 hr2 HL1 hb1 hb2 HO HM
  go_wp2_with fail
  refine K.mono ?_; rintro e w3 ⟨v3, rfl, hown3, hb3⟩
  clear K
  obtain ⟨A3, c3, rfl, hc3, hr3, hn3⟩ := own_reads hown3
  have hbel3 : Below w.heap.size w w3 := behind hb3 hbel2.size hbel2
  have HB3 := Lib.hid (HB2.out.later hb3)
  have HG3 := Lib.hid hr3
  have HR3 := Lib.hid (HR.out.later hbel3)
  clear hown3 hr3 hb3 HB2
  go_wp2_with (at_builtin; refine pushAny _ _ 22 5 (.int .u8 0) i0 Try.underlying22 hi hz0 hz1 hz2 rfl w3.heap.size w3.heap.size 0 (l.length + 3) c2 [] M _ A2 w3 _ rfl rfl rfl rfl HMV.out hn2 (World.ownsRow_lit w3 #[] 0 (Nat.le_refl _) (by decide) rfl) (HB3.out.alloc _) ((Below.refl _ _).alloc (Nat.le_refl _) _) (Nat.le_refl _) (by simp) HV1.out (by omega) ?_)
  intro v4 w4 hown4 hb4
  have HO4 : Hid (w4.ownsRow w3.heap.size 5 1 v4 (l.length + 3) M) := Lib.hid (by simpa using hown4)
  have HR4 := Lib.hid (HR3.out.later hb4)
  have hy4 := hb4.size
  clear hown4 HR3
  go_wp2_with (at_builtin; refine pushAny _ _ 22 5 (.int .u8 0) i0 Try.underlying22 hi hz0 hz1 hz2 rfl w3.heap.size w3.heap.size (l.length + 3) r.length c M (bytesV r) _ A w3 w4 rfl rfl rfl rfl (bytesV_len r).symm hc HO4.out HR4.out hb4 (Nat.le_refl _) (by omega) (bytesV_one r) (by omega) ?_)
  intro v5 w5 hown5 hb5
  rw [← HB.out] at hown5
  obtain ⟨A5, c5, rfl, hc5, hr5, hn5⟩ := own_reads hown5
  have hbel5 : Below w.heap.size w w5 := behind hb5 hbel3.size hbel3
  have HB5 := Lib.hid (HB3.out.later hb5)
  have HG5 := Lib.hid (HG3.out.later hb5)
  have K := HN.out A5 c5 hc5 w5 hr5
  clear hown5 hr5 hb4 hb5 HO4 HR4 HB3 HG3 HN HB HR
  go_wp2_with fail
  refine K.mono ?_; rintro e w6 ⟨v6, rfl, hown6, hb6⟩
  clear K
  obtain ⟨A6, c6, rfl, hc6, hr6, hn6⟩ := own_reads hown6
  have hbel6 : Below w.heap.size w w6 := behind hb6 hbel5.size hbel5
  have HB6 := Lib.hid (HB5.out.later hb6)
  have HG6 := Lib.hid (HG5.out.later hb6)
  have HX6 := Lib.hid hr6
  have HL6 := Lib.hid (HL.out.later hbel6)
  clear hown6 hr6 hb6 HB5 HG5
  go_wp2_with fail
  refine (HRM.out _ HL6.out).mono ?_; rintro e w7 ⟨v7, rfl, hown7, hb7⟩
  obtain ⟨A7, c7, rfl, hc7, hr7, hn7⟩ := own_reads hown7
  have hbel7 : Below w.heap.size w w7 := behind hb7 hbel6.size hbel6
  have HG7 := Lib.hid (HG6.out.later hb7)
  have HX7 := Lib.hid (HX6.out.later hb7)
  have K := HSM.out A2 A7 c2 c7 w7 (HB6.out.later hb7) hr7
  clear hown7 hr7 hb7 HB6 HG6 HX6 HL6
  go_wp2_with fail
  refine K.mono ?_; rintro e w8 ⟨rfl, hb8⟩
  clear K
  have hbel8 : Below w.heap.size w w8 := behind hb8 hbel7.size hbel7
  have HX8 := Lib.hid (HX7.out.later hb8)
  have K := HSL.out A3 a c3 cap w8 (HG7.out.later hb8) (HL.out.later hbel8)
  clear hb8 HG7 HX7
  go_wp2_with fail
  refine K.mono ?_; rintro e w9 ⟨rfl, hb9⟩
  clear K
  have hbel9 : Below w.heap.size w w9 := behind hb9 hbel8.size hbel8
  have K := HSL.out A6 a c6 cap w9 (HX8.out.later hb9) (HL.out.later hbel9)
  clear hb9 HX8
  go_wp2_with fail
  refine K.mono ?_; rintro e w10 ⟨rfl, hb10⟩
  have hbel10 : Below w.heap.size w w10 := behind hb10 hbel9.size hbel9
  go_wp2
  go_ret
  exact ⟨rfl, hbel10⟩
theorem frameMakes_walk (v0 v1 : Value) (w : World) (F0 : FRow .u8 w v0) (F1 : FRow .u8 w v1) :
    Calls Try.prog 3 #[v0, v1] w fun e w' => e = .returned (.bool true) ∧ Below w.heap.size w w' := by
  obtain ⟨a, cap, l, rfl, hcap, _, hl⟩ := F0.bytes
  obtain ⟨A, c, r, rfl, hc, _, hr⟩ := F1.bytes
  by_cases h : 2000 < l.length ∨ 500 < r.length
  · exact makes_long a A cap c l r h w
  · by_cases h2 : l.length = 0 ∨ 240 < l.length
    · exact makes_no a A cap c l r (by omega) (by omega) h2 w
    · exact makes a A cap c l r (by omega) (by omega) (by omega) w hcap hl hc hr
end Go.Proofs.Ytbnojefiocoodaa.W
