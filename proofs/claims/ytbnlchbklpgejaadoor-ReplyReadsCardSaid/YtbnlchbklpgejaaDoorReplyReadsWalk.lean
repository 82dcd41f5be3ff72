/-
  The walk of ReplyReads.
-/
import Derived.Test.YtbnlchbklpgejaaDoorReplyAwake
import Derived.Test.YtbnlchbklpgejaaDoorReplyRefRead
import Derived.Test.YtbnlchbklpgejaaDoorAskBytes
import Derived.Test.YtbnlchbklpgejaaDoorFrameRep
namespace Go.Proofs.YtbnlchbklpgejaaDoor.W
set_option linter.unusedVariables false
set_option linter.unusedSimpArgs false
open Go.ChangeShapes Go.WideShapes Go.ChangeAt Go.RowKit

theorem replyReads_long (a : Option Addr) (cap : Nat) (b : List UInt8) (h : 400 < b.length) (w : World) (hS : Std w) :
    Calls Tryd.prog 4 #[.slice a b.length cap] w fun e w' => e = .returned (.bool true) ∧ Below w.heap.size w w' := by
  have HW := Lib.hid awake9
  have HT := Lib.hid hS
  have d1 : decide ((400 : Int) < (b.length : Int)) = true := decide_eq_true (by omega)
  clear h hS
  go_enter Tryd.func4, Tryd.ntmps4
  go_wp2_with fail
  refine (HW.out _ HT.out).mono ?_; rintro e w1 ⟨rfl, hb1⟩
  go_wp2
  go_ret
  exact ⟨rfl, hb1⟩
set_option maxRecDepth 100000 in
set_option maxHeartbeats 3000000 in
theorem replyReads_few (a : Option Addr) (cap : Nat) (b : List UInt8) (hl : b.length ≤ 400) (hc : a = none → cap = 0) (w : World) (hS : Std w) (ha : RowAt w a (bytesV b)) :
    Calls Tryd.prog 4 #[.slice a b.length cap] w fun e w' => e = .returned (.bool true) ∧ Below w.heap.size w w' := by
  have HW := Lib.hid awake9
  have HRA := Lib.hid (fun w' hs h => replyRead a cap b (by omega) hc w' hs h)
  have HRR := Lib.hid (fun w' h => refReadP a cap b (by omega) w' h)
  have HA := Lib.hid ha
  have HT := Lib.hid hS
  have d1 : decide ((400 : Int) < (b.length : Int)) = false := decide_eq_false (by omega)
  have HL := Lib.hid (readP_len b)
  have HS := Lib.hid (readP_same b)
  have HWR := Lib.hid (fun (h : readPE b = 0) na nc => write_readP h na nc)
  have HBY := Lib.hid (fun A c w' h1 h2 => same A a c cap b (by omega) w' h1 h2)
  clear ha hc hS
  go_enter Tryd.func4, Tryd.ntmps4
  go_wp2_with fail
  refine (HW.out w HT.out).mono ?_; rintro e w1 ⟨rfl, hb1⟩
  have HA1 := Lib.hid (HA.out.later hb1)
  have hW1 := hb1
  clear HA hb1
  go_wp2_with fail
  refine (HRA.out w1 (HT.out.on hW1) HA1.out).mono ?_; rintro e w2 ⟨a1, c1, rfl, hrow2, hn2, hb2⟩
  have HA2 := Lib.hid (HA1.out.later hb2)
  have hW2 : Below w.heap.size w w2 := hW1.trans (hb2.mono hW1.size)
  have HQ2 := Lib.hid (HL.out a1 c1)
  have HQ3 := Lib.hid (fun a2 c2 => HS.out a1 a2 c1 c2)
  have HQ4 := Lib.hid (fun h => HWR.out h a1 c1)
  have HR2 := Lib.hid hrow2
  have HN2 := Lib.hid hn2
  clear HA1 hb2 hrow2 HWR hn2
  generalize readP b a1 c1 = p at HQ2 HQ3 HQ4 HR2 HN2 ⊢
  go_wp2_with (first
    | ((with_reducible refine wpList_store_row rfl 25 (.tmp 3) (.tmp 17) rfl w2.heap.size _ rfl rfl 25 #[.int .i64 0, .int .i64 0, .int .i64 0, .int .i64 0, .slice none 0 0] (by repeat (first | (refine heap_top (by first | omega | (simp only [World.size_alloc]; done) | (simp only [World.size_alloc]; omega))) | refine heap_up ?_)) (by kernel_rfl) (by simp) (by simp [Value.oneCell']) ?_)
       generalize hw3 : World.setRow _ _ _ = w3
       have hb3 : Below w2.heap.size w2 w3 := by rw [← hw3]; exact below_setRow ((by repeat' (first | exact Below.refl _ _ | assumption | exact And.left (by assumption) | refine Below.drew ?_ | refine below_drewN ?_ _ | refine Below.setCell ?_ (by first | (simp; done) | (simp; omega) | omega) _ | refine Below.alloc ?_ (by first | (simp; done) | (simp; omega) | omega) _ | refine after (by assumption) (by first | (simp; done) | (simp; omega) | omega) ?_))) (Nat.le_refl _) _
       have HX3 : Hid (BoxP w3 w2.heap.size p) := Lib.hid ⟨by rw [← hw3]; exact setRow_heap _ _ _ _ _ _ (by repeat (first | (refine heap_top (by first | omega | (simp only [World.size_alloc]; done) | (simp only [World.size_alloc]; omega))) | refine heap_up ?_))⟩
       clear hw3))
  have HA3 := Lib.hid (HA2.out.later hb3)
  have HR3 := Lib.hid (HR2.out.later hb3)
  have hW3 : Below w.heap.size w w3 := hW2.trans (hb3.mono hW2.size)
  clear HA2 HR2 hb3
  refine (HRR.out w3 HA3.out).mono ?_; rintro e w4 ⟨a2, c2, rfl, hrow4, hn4, hb4⟩
  have HA4 := Lib.hid (HA3.out.later hb4)
  have HR4 := Lib.hid (HR3.out.later hb4)
  have HX4 := Lib.hid (HX3.out.on hb4)
  have hW4 : Below w.heap.size w w4 := hW3.trans (hb4.mono hW3.size)
  have HP1 := Lib.hid (HQ3.out a2 c2)
  have HQ5 := Lib.hid (HL.out a2 c2)
  have HP2 := Lib.hid hrow4
  clear HA3 HR3 HX3 hb4 hrow4 hn4 HL
  generalize readP b a2 c2 = r at HP1 HP2 HQ5 ⊢
  have KS := Lib.hid (fun w' h1 h2 => refSameP p r (by have := HQ2.out; omega) (by have := HQ5.out; omega) w' h1 h2)
  rw [HP1.out] at KS
  have KW := Lib.hid (fun w' hs h => replyWrite p w' hs HN2.out h)
  have KR := Lib.hid (fun w' hs h => replyRight p w' hs h)
  obtain ⟨E, hE⟩ : ∃ E, E = readPE b := ⟨_, rfl⟩
  rw [← hE]
  have HE := Lib.hid hE
  clear hE
  have ee1 : ((E : Int) == (E : Int)) = true := by simp
  have ee2 : ((E : Int) != (E : Int)) = false := by simp
  go_wp2_with (first
    | ((with_reducible refine wpList_store_row rfl 25 (.tmp 5) (.tmp 22) rfl w4.heap.size _ rfl rfl 25 #[.int .i64 0, .int .i64 0, .int .i64 0, .int .i64 0, .slice none 0 0] (by repeat (first | (refine heap_top (by first | omega | (simp only [World.size_alloc]; done) | (simp only [World.size_alloc]; omega))) | refine heap_up ?_)) (by kernel_rfl) (by simp) (by simp [Value.oneCell']) ?_)
       generalize hw5 : World.setRow _ _ _ = w5
       have hb5 : Below w4.heap.size w4 w5 := by rw [← hw5]; exact below_setRow ((by repeat' (first | exact Below.refl _ _ | assumption | exact And.left (by assumption) | refine Below.drew ?_ | refine below_drewN ?_ _ | refine Below.setCell ?_ (by first | (simp; done) | (simp; omega) | omega) _ | refine Below.alloc ?_ (by first | (simp; done) | (simp; omega) | omega) _ | refine after (by assumption) (by first | (simp; done) | (simp; omega) | omega) ?_))) (Nat.le_refl _) _
       have HY5 : Hid (BoxP w5 w4.heap.size r) := Lib.hid ⟨by rw [← hw5]; exact setRow_heap _ _ _ _ _ _ (by repeat (first | (refine heap_top (by first | omega | (simp only [World.size_alloc]; done) | (simp only [World.size_alloc]; omega))) | refine heap_up ?_))⟩
       have HX5 := Lib.hid (HX4.out.on hb5)
       clear hw5)
    | refine wpList_load_p_g (r := p) (.tmp 3) rfl rfl HX5.out rfl ?_
    | refine wpList_load_p_g (r := r) (.tmp 5) rfl rfl HY5.out rfl ?_)
  have HA5 := Lib.hid (HA4.out.later hb5)
  have HR5 := Lib.hid (HR4.out.later hb5)
  have HP5 := Lib.hid (HP2.out.later hb5)
  have hW5 : Below w.heap.size w w5 := hW4.trans (hb5.mono hW4.size)
  clear HA4 HR4 HX4 HP2 hb5
  refine (KS.out w5 HR5.out HP5.out).mono ?_; rintro e w6 ⟨rfl, hb6⟩
  have HA6 := Lib.hid (HA5.out.later hb6)
  have HR6 := Lib.hid (HR5.out.later hb6)
  have HX6 := Lib.hid (HX5.out.on hb6)
  have hW6 : Below w.heap.size w w6 := hW5.trans (hb6.mono hW5.size)
  clear HA5 HR5 HX5 HP5 hb6 HY5 ee1 ee2
  by_cases h0 : E = 0
  · have hw := HQ4.out (by rw [← HE.out]; exact h0)
    have hrt : rightP p = true := rightP_of hw.1
    have HWB := Lib.hid hw.2
    have HRT := Lib.hid hrt
    rw [hrt] at KR
    subst h0
    clear hw hrt HQ4
    go_wp2_with (with_reducible refine wpList_load_p (r := p) rfl (.tmp 3) rfl rfl HX6.out ?_)
    refine (KW.out w6 (HT.out.on hW6) HR6.out).mono ?_; rintro e w7 ⟨hb7, hw7⟩
    have HA7 := Lib.hid (HA6.out.later hb7)
    have HR7 := Lib.hid (HR6.out.later hb7)
    have HX7 := Lib.hid (HX6.out.on hb7)
    have hW7 : Below w.heap.size w w7 := hW6.trans (hb7.mono hW6.size)
    clear HA6 HR6 HX6 hb7
    rcases hw7 with ⟨_, A7, c7, rfl, _, hrow7⟩ | ⟨hn, rfl⟩
    · rw [HWB.out] at hrow7 ⊢
      have HW7 := Lib.hid hrow7
      clear hrow7
      go_wp2_with (with_reducible refine wpList_load_p (r := p) rfl (.tmp 3) rfl rfl HX7.out ?_)
      refine (KR.out w7 (HT.out.on hW7) HR7.out).mono ?_; rintro e w8 ⟨rfl, hb8⟩
      have KB := HBY.out A7 c7 w8 (HW7.out.later hb8) (HA7.out.later hb8)
      have hW8 : Below w.heap.size w w8 := hW7.trans (hb8.mono hW7.size)
      clear HA7 HR7 HX7 HW7 hb8
      go_wp2_with fail
      refine KB.mono ?_; rintro e w9 ⟨rfl, hb9⟩
      go_wp2
      go_ret
      exact ⟨rfl, hW8.trans (hb9.mono hW8.size)⟩
    · exact absurd (HRT.out.symm.trans hn) (by decide)
  · have g0 : ¬ ((E : Int) = 0) := by omega
    have g1 : ((E : Int) == 0) = false := by simpa using g0
    have g2 : ((E : Int) != 0) = true := by simpa using g0
    clear g0 h0 HQ4
    go_wp2
    go_ret
    exact ⟨rfl, hW6⟩
theorem replyReads_walk (v0 : Value) (w : World) (F0 : FRow .u8 w v0) (hS : Std w) :
    Calls Tryd.prog 4 #[v0] w fun e w' => e = .returned (.bool true) ∧ Below w.heap.size w w' := by
  obtain ⟨a, cap, l, rfl, hc, _, hr⟩ := F0.bytes
  by_cases h : 400 < l.length
  · exact replyReads_long a cap l h w hS
  · exact replyReads_few a cap l (by omega) hc w hS hr
end Go.Proofs.YtbnlchbklpgejaaDoor.W
