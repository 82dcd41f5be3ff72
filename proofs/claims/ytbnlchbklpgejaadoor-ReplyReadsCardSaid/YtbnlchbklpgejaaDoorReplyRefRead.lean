/-
  Contract of the document's Read of replies.
-/
import Derived.Test.YtbnlchbklpgejaaDoorReplyRead
import Derived.Test.YtbnlchbklpgejaaDoorRefRead
import Derived.BigRegion
namespace Go.Proofs.YtbnlchbklpgejaaDoor.W
set_option linter.unusedVariables false
set_option linter.unusedSimpArgs false
open Go.ChangeShapes Go.WideShapes Go.ChangeAt Go.RowKit

theorem Row.put_same {w : World} {g : Nat} {t : TypeId} {cs : Array Value} (h : Row w g t cs) (i : Nat) {u : Value} (hi : cs[i]? = some u) : Row (w.setCell ⟨g, i, none⟩ u) g t cs := by
  refine (h.put i u).as (Array.ext_getElem? fun j => ?_)
  rw [Array.getElem?_setIfInBounds]
  split
  · rename_i e
    subst e
    rw [hi]
    split
    · rfl
    · rename_i hn
      rw [Array.getElem?_eq_none (Nat.le_of_not_lt hn)] at hi
      cases hi
  · rfl
theorem Row.drewn {w : World} {g : Nat} {t : TypeId} {cs : Array Value} (h : Row w g t cs) : Row w.drew g t cs := h
theorem Row.heap_ {w : World} {g : Nat} {t : TypeId} {cs : Array Value} (h : Row w g t cs) : w.heap[g]? = some (.cells cs t (0, 0)) := h
theorem own_kept {w w' : World} {B g n : Nat} {v : Value} {xs : List Value} {e t : TypeId} {cs : Array Value} (h : w.ownsRow B e 1 v n xs) (hr : Row w g t cs) (h1 : e ≠ t) (hg : w.grownBy w' (some g)) : w'.ownsRow B e 1 v n xs :=
  h.kept hg (.inr (own_row_ne h hr h1))
theorem RefS.row {w : World} {g : Nat} {A : Option Addr} {cap : Nat} {b : List UInt8} {s : St} (h : RefS w g A cap b s) : ∃ cs, Row w g 55 cs := by
  obtain ⟨at', h⟩ := h
  exact ⟨_, h.row⟩
abbrev RefTo (a : Option Addr) (cap : Nat) (b : List UInt8) (g : Nat) (w' : World) (n : Nat) (s : St) (x : Ending) (w'' : World) : Prop := x = .returned (.int .i64 (n : Int)) ∧ RefS w'' g a cap b s ∧ w'.grownBy w'' (some g)
set_option maxRecDepth 100000 in
set_option maxHeartbeats 6000000 in
theorem refReadP (a : Option Addr) (cap : Nat) (b : List UInt8) (hl : b.length ≤ 100000) (w : World) (ha : RowAt w a (bytesV b)) :
    Calls Tryd.prog 15 #[.slice a b.length cap] w (ReadToP b w) := by
  have HA := Lib.hid ha
  have HW0 : Hid (∀ g w', RefS w' g a cap b (b, 0) → Calls Tryd.prog 28 #[.pointer (some ⟨g, 0, none⟩), .int .i64 0, .int .i64 1073741824] w' (RefTo a cap b g w' (p1 b).1 (p1 b).2)) := Lib.hid (fun g w' h => by
    have := refWithin 0 1073741824 g a cap b (b, 0) w' h; rw [← p1_eq] at this; exact this)
  have HW1 : Hid (∀ g w', RefS w' g a cap b (p1 b).2 → Calls Tryd.prog 28 #[.pointer (some ⟨g, 0, none⟩), .int .i64 0, .int .i64 99] w' (RefTo a cap b g w' (p2 b).1 (p2 b).2)) := Lib.hid (fun g w' h => by
    have := refWithin 0 99 g a cap b (p1 b).2 w' h; rw [← p2_eq] at this; exact this)
  have HW2 : Hid (∀ g w', RefS w' g a cap b (p2 b).2 → Calls Tryd.prog 29 #[.pointer (some ⟨g, 0, none⟩)] w' (RefTo a cap b g w' (p3 b).1 (p3 b).2)) := Lib.hid (fun g w' h => by
    have := refNum g a cap b (p2 b).2 w' h; rw [← p3_eq] at this; exact this)
  have HW3 : Hid (∀ g w', RefS w' g a cap b (p3 b).2 → Calls Tryd.prog 29 #[.pointer (some ⟨g, 0, none⟩)] w' (RefTo a cap b g w' (p4 b).1 (p4 b).2)) := Lib.hid (fun g w' h => by
    have := refNum g a cap b (p3 b).2 w' h; rw [← p4_eq] at this; exact this)
  have HW4 : Hid (∀ g w', RefS w' g a cap b (p4 b).2 → Calls Tryd.prog 28 #[.pointer (some ⟨g, 0, none⟩), .int .i64 0, .int .i64 64] w' (RefTo a cap b g w' (p5 b).1 (p5 b).2)) := Lib.hid (fun g w' h => by
    have := refWithin 0 64 g a cap b (p4 b).2 w' h; rw [← p5_eq] at this; exact this)
  have HNUM := Lib.hid (fun s g w' (h : RefS w' g a cap b s) => refNum g a cap b s w' h)
  have HLEFT := Lib.hid (fun l g w' (h : RefS w' g a cap b (l, 0)) => refLeft g a cap b l w' h)
  have hm : (p5 b).1 ≤ 64 := by rw [p5_eq]; exact withinS_le
  have HM : Hid (manyS (p5 b).1 (p5 b).2 = p6 b) := Lib.hid (p6_eq b).symm
  have HE : Hid (readPE b = endS (p6 b).2) := Lib.hid rfl
  have HAB : Hid (∀ bl off, a = some ⟨bl, off, none⟩ → bytesV b ≠ [] → bl < w.heap.size) := Lib.hid (fun bl off e hne => by
    have hp : 0 < (bytesV b).length := List.length_pos_iff.2 hne
    obtain ⟨b2, o2, e2, hl2, _⟩ := ha.row hp
    rw [e] at e2
    injection e2 with e2
    injection e2 with e3 _
    omega)
  have HNO := Lib.hid (fun n hn h w' hb => readP_to_no (b := b) (w := w) (w' := w') n hn h hb)
  have HYES := Lib.hid (fun a c hc h w' hr hb => readP_to_yes (b := b) (w := w) (w' := w') a c hc h hr hb)
  have HV0 : Hid (valAt b 0 = (p1 b).1 ∧ valAt b 1 = (p2 b).1 ∧ valAt b 2 = (p3 b).1 ∧ valAt b 3 = (p4 b).1) := Lib.hid (by unfold valAt; exact ⟨rfl, rfl, rfl, rfl⟩)
  rw [HV0.out.1, HV0.out.2.1, HV0.out.2.2.1, HV0.out.2.2.2] at HYES
  clear ha HV0
  generalize p6 b = y6 at HM HE HYES
  generalize p5 b = y5 at HW4 HM HYES hm
  generalize p4 b = y4 at HW3 HW4 HYES
  generalize p3 b = y3 at HW2 HW3 HYES
  generalize p2 b = y2 at HW1 HW2 HYES
  generalize p1 b = y1 at HW0 HW1 HYES
  obtain ⟨x1, s1⟩ := y1
  obtain ⟨x2, s2⟩ := y2
  obtain ⟨x3, s3⟩ := y3
  obtain ⟨x4, s4⟩ := y4
  obtain ⟨m, s5⟩ := y5
  simp only at HW0 HW1 HW2 HW3 HW4 HM HYES hm
  generalize hE : readPE b = E at HE HNO HYES
  clear hE
  go_enter Tryd.func15, Tryd.ntmps15
  go_wp2_with fail
  have HB' : BoxP ((w.alloc (.cells #[.int .i64 0, .int .i64 0, .int .i64 0, .int .i64 0, .slice none 0 0] 25)).alloc (.cells #[.slice a b.length cap, .int .i64 0, .int .i64 0] 55)) w.heap.size zeroP := (BoxP.new w zeroP).alloc _
  have HR' : RefS ((w.alloc (.cells #[.int .i64 0, .int .i64 0, .int .i64 0, .int .i64 0, .slice none 0 0] 25)).alloc (.cells #[.slice a b.length cap, .int .i64 0, .int .i64 0] 55)) (w.heap.size + 1) a cap b (b, 0) :=
    ⟨0, Row.new (by simp) _ _, Nat.zero_le _, hl, fun _ => rfl, fun h => absurd rfl h, (HA.out.alloc _).alloc _, fun bl off e hne => by have := HAB.out bl off e hne; omega⟩
  obtain ⟨g2, hg2e⟩ : ∃ g, g = w.heap.size := ⟨_, rfl⟩
  obtain ⟨gr, hgre⟩ : ∃ g, g = w.heap.size + 1 := ⟨_, rfl⟩
  have hg2 : w.heap.size ≤ g2 := by omega
  have hgr : w.heap.size ≤ gr := by omega
  have hg2r : g2 < gr := by omega
  have hW0 : Below w.heap.size w ((w.alloc (.cells #[.int .i64 0, .int .i64 0, .int .i64 0, .int .i64 0, .slice none 0 0] 25)).alloc (.cells #[.slice a b.length cap, .int .i64 0, .int .i64 0] 55)) := (by repeat' (first | exact Below.refl _ _ | assumption | exact And.left (by assumption) | refine Below.drew ?_ | refine below_drewN ?_ _ | refine Below.setCell ?_ (by first | (simp; done) | (simp; omega) | omega) _ | refine Below.alloc ?_ (by first | (simp; done) | (simp; omega) | omega) _ | refine after (by assumption) (by first | (simp; done) | (simp; omega) | omega) ?_))
  rw [← hg2e] at HB' ⊢
  have hgre' := hgre
  rw [← hg2e] at hgre'
  rw [← hgre] at HR'
  try rw [← hgre']
  generalize hw0 : World.alloc (World.alloc w _) _ = w0 at HB' HR' hW0 ⊢
  have HG2 := Lib.hid hg2e
  have HGR := Lib.hid hgre
  clear hw0 hg2e hgre hgre' hl
  have K := HW0.out gr w0 HR'
  have HB0 := Lib.hid HB'
  clear HR' HB'
  refine K.mono ?_; rintro e w1 ⟨rfl, hr1, hk1⟩
  have HB1 := Lib.hid (HB0.out.grown hk1 (fun h => by injection h with h; omega))
  have hW1 : Below w.heap.size w w1 := hW0.grown hk1 hW0.size (fun j hj => by injection hj with hj; omega)
  have HR1 := Lib.hid hr1
  have hlt1 := hr1.lt
  clear K hr1 hk1 HB0 HW0 hW0
  have K : ∀ w', RefS w' gr a cap b s1 → _ := fun w' h => HW1.out gr w' h
  have HK1 := Lib.hid K
  clear K HW1
  go_wp2_with (first
    | (refine wpList_store_row rfl 25 (.tmp 5) (.tmp 13) rfl w1.heap.size _ rfl rfl 25 #[.int .i64 0, .int .i64 0, .int .i64 0, .int .i64 0, .slice none 0 0] (by repeat (first | (refine heap_top (by first | omega | (simp only [World.size_alloc]; done) | (simp only [World.size_alloc]; omega))) | refine heap_up ?_)) (by kernel_rfl) (by simp) (by simp [Value.oneCell']) ?_
       generalize hw2 : World.setRow _ _ _ = w2
       have hb2 : Below w1.heap.size w1 w2 := by rw [← hw2]; exact below_setRow ((by repeat' (first | exact Below.refl _ _ | assumption | exact And.left (by assumption) | refine Below.drew ?_ | refine below_drewN ?_ _ | refine Below.setCell ?_ (by first | (simp; done) | (simp; omega) | omega) _ | refine Below.alloc ?_ (by first | (simp; done) | (simp; omega) | omega) _ | refine after (by assumption) (by first | (simp; done) | (simp; omega) | omega) ?_))) (Nat.le_refl _) _
       have hg2x : w2.heap[w1.heap.size]? = some (.cells #[.int .i64 (x1 : Int), .int .i64 0, .int .i64 0, .int .i64 0, .slice none 0 0] 25 (0, 0)) := by rw [← hw2]; exact setRow_heap _ _ _ _ _ _ (by repeat (first | (refine heap_top (by first | omega | (simp only [World.size_alloc]; done) | (simp only [World.size_alloc]; omega))) | refine heap_up ?_))
       have HX2 : Hid (Row w2 w1.heap.size 25 #[.int .i64 (x1 : Int), .int .i64 0, .int .i64 0, .int .i64 0, .slice none 0 0]) := Lib.hid hg2x
       clear hw2 hg2x))
  obtain ⟨A5, hA5⟩ : ∃ A5, A5 = w1.heap.size := ⟨_, rfl⟩
  have hz1 := hW1.size
  have HB2 := Lib.hid (HB1.out.on hb2)
  have HR2 := Lib.hid (HR1.out.on hb2)
  have hW2 : Below w.heap.size w w2 := hW1.trans (hb2.mono hz1)
  rw [← hA5] at HX2 ⊢
  have hrA : gr < A5 := by omega
  have HAF : Hid (∀ bl off, a = some ⟨bl, off, none⟩ → bytesV b ≠ [] → bl < A5) := Lib.hid (fun bl off e hne => by have := HAB.out bl off e hne; omega)
  clear hA5 hb2 HB1 HR1 hlt1 hz1 hW1
  have K := HK1.out w2 HR2.out
  refine K.mono ?_; rintro e w3 ⟨rfl, hr3, hk3⟩
  have HX3 := Lib.hid (HX2.out.grown hk3 (fun h => by injection h with h; omega))
  have HB3 := Lib.hid (HB2.out.grown hk3 (fun h => by injection h with h; omega))
  have hW3 : Below w.heap.size w w3 := hW2.grown hk3 hW2.size (fun j hj => by injection hj with hj; omega)
  have d3 : w3.cell? ⟨A5, 1, none⟩ = some (.int .i64 0) := (HX3.out.cell 1).trans rfl
  have f3 := HX3.out.thaw 1
  have hlt3 := HX3.out.lt
  have HX4 : Hid (Row (w3.setCell ⟨A5, 1, none⟩ (.int .i64 (x2 : Int))) A5 25 #[.int .i64 (x1 : Int), .int .i64 (x2 : Int), .int .i64 0, .int .i64 0, .slice none 0 0]) := Lib.hid ((HX3.out.put 1 _).as rfl)
  have HR4 : Hid (RefS (w3.setCell ⟨A5, 1, none⟩ (.int .i64 (x2 : Int))) gr a cap b s2) := Lib.hid (hr3.grown (grown_put (g := A5) 1 _) (fun h => by injection h with h; omega) (fun bl off e hne h => by have := HAF.out bl off e hne; injection h with h; omega))
  have HB4 : Hid (BoxP (w3.setCell ⟨A5, 1, none⟩ (.int .i64 (x2 : Int))) g2 zeroP) := Lib.hid (HB3.out.grown (grown_put (g := A5) 1 _) (fun h => by injection h with h; omega))
  have hW4 : Below w.heap.size w (w3.setCell ⟨A5, 1, none⟩ (.int .i64 (x2 : Int))) := hW3.setCell (by simp; omega) _
  clear hr3 hk3 K HX2 HR2 HB2 HX3 HB3 hW2 HK1
  go_wp2_with fail
  clear d3 f3 hlt3
  generalize World.setCell w3 ⟨A5, 1, none⟩ (.int .i64 (x2 : Int)) = w4 at HX4 HR4 HB4 hW4 ⊢
  have K := HW2.out gr w4 HR4.out
  refine K.mono ?_; rintro e w5 ⟨rfl, hr5, hk5⟩
  have HX5 := Lib.hid (HX4.out.grown hk5 (fun h => by injection h with h; omega))
  have HB5 := Lib.hid (HB4.out.grown hk5 (fun h => by injection h with h; omega))
  have hW5 : Below w.heap.size w w5 := hW4.grown hk5 hW4.size (fun j hj => by injection hj with hj; omega)
  have d5 : w5.cell? ⟨A5, 2, none⟩ = some (.int .i64 0) := (HX5.out.cell 2).trans rfl
  have f5 := HX5.out.thaw 2
  have hlt5 := HX5.out.lt
  have HX6 : Hid (Row (w5.setCell ⟨A5, 2, none⟩ (.int .i64 (x3 : Int))) A5 25 #[.int .i64 (x1 : Int), .int .i64 (x2 : Int), .int .i64 (x3 : Int), .int .i64 0, .slice none 0 0]) := Lib.hid ((HX5.out.put 2 _).as rfl)
  have HR6 : Hid (RefS (w5.setCell ⟨A5, 2, none⟩ (.int .i64 (x3 : Int))) gr a cap b s3) := Lib.hid (hr5.grown (grown_put (g := A5) 2 _) (fun h => by injection h with h; omega) (fun bl off e hne h => by have := HAF.out bl off e hne; injection h with h; omega))
  have HB6 : Hid (BoxP (w5.setCell ⟨A5, 2, none⟩ (.int .i64 (x3 : Int))) g2 zeroP) := Lib.hid (HB5.out.grown (grown_put (g := A5) 2 _) (fun h => by injection h with h; omega))
  have hW6 : Below w.heap.size w (w5.setCell ⟨A5, 2, none⟩ (.int .i64 (x3 : Int))) := hW5.setCell (by simp; omega) _
  clear hr5 hk5 K HX4 HR4 HB4 HX5 HB5 hW4 HW2
  go_wp2_with fail
  clear d5 f5 hlt5
  generalize World.setCell w5 ⟨A5, 2, none⟩ (.int .i64 (x3 : Int)) = w6 at HX6 HR6 HB6 hW6 ⊢
  have K := HW3.out gr w6 HR6.out
  refine K.mono ?_; rintro e w7 ⟨rfl, hr7, hk7⟩
  have HX7 := Lib.hid (HX6.out.grown hk7 (fun h => by injection h with h; omega))
  have HB7 := Lib.hid (HB6.out.grown hk7 (fun h => by injection h with h; omega))
  have hW7 : Below w.heap.size w w7 := hW6.grown hk7 hW6.size (fun j hj => by injection hj with hj; omega)
  have d7 : w7.cell? ⟨A5, 3, none⟩ = some (.int .i64 0) := (HX7.out.cell 3).trans rfl
  have f7 := HX7.out.thaw 3
  have hlt7 := HX7.out.lt
  have HX8 : Hid (Row (w7.setCell ⟨A5, 3, none⟩ (.int .i64 (x4 : Int))) A5 25 #[.int .i64 (x1 : Int), .int .i64 (x2 : Int), .int .i64 (x3 : Int), .int .i64 (x4 : Int), .slice none 0 0]) := Lib.hid ((HX7.out.put 3 _).as rfl)
  have HR8 : Hid (RefS (w7.setCell ⟨A5, 3, none⟩ (.int .i64 (x4 : Int))) gr a cap b s4) := Lib.hid (hr7.grown (grown_put (g := A5) 3 _) (fun h => by injection h with h; omega) (fun bl off e hne h => by have := HAF.out bl off e hne; injection h with h; omega))
  have HB8 : Hid (BoxP (w7.setCell ⟨A5, 3, none⟩ (.int .i64 (x4 : Int))) g2 zeroP) := Lib.hid (HB7.out.grown (grown_put (g := A5) 3 _) (fun h => by injection h with h; omega))
  have hW8 : Below w.heap.size w (w7.setCell ⟨A5, 3, none⟩ (.int .i64 (x4 : Int))) := hW7.setCell (by simp; omega) _
  clear hr7 hk7 K HX6 HR6 HB6 HX7 HB7 hW6 HW3
  go_wp2_with fail
  clear d7 f7 hlt7
  generalize World.setCell w7 ⟨A5, 3, none⟩ (.int .i64 (x4 : Int)) = w8 at HX8 HR8 HB8 hW8 ⊢
  have K := HW4.out gr w8 HR8.out
  refine K.mono ?_; rintro e w9 ⟨rfl, hr9, hk9⟩
  have HX9 := Lib.hid (HX8.out.grown hk9 (fun h => by injection h with h; omega))
  have HB9 := Lib.hid (HB8.out.grown hk9 (fun h => by injection h with h; omega))
  have hW9 : Below w.heap.size w w9 := hW8.grown hk9 hW8.size (fun j hj => by injection hj with hj; omega)
  have HR9 := Lib.hid hr9
  clear hr9 hk9 K HX8 HR8 HB8 hW8 HW4
  obtain ⟨i0, hi, hz0, hz1, hz2⟩ := info_parts infoI
  go_wp2_with fail
  go_loopw [7] (fun v7 wr => ∃ k : Nat, k ≤ m ∧ v7 = .int .i64 (k : Int) ∧ ∃ na nc, Hid (Row wr A5 25 #[.int .i64 (x1 : Int), .int .i64 (x2 : Int), .int .i64 (x3 : Int), .int .i64 (x4 : Int), .slice na k nc]) ∧ Hid (wr.ownsRow w.heap.size 3 1 (.slice na k nc) k (vals (manyS k s5).1)) ∧ Hid (RefS wr gr a cap b (manyS k s5).2) ∧ Hid (BoxP wr g2 zeroP) ∧ Below w.heap.size w wr) (fun v7 _ => m - (intOf v7).toNat)
  case atStart => exact ⟨0, Nat.zero_le _, rfl, none, 0, HX9, Lib.hid (World.ownsRow_nil _ _ _ _), HR9, HB9, hW9⟩
  case round =>
    obtain ⟨k, hk, rfl, na, nc, HX, HO, HR, HB, hbw⟩ := hrel
    have hz := hbw.size
    clear HX9 HR9 HB9 hW9
    by_cases hlt : k < m
    · have HD : Hid (vals (manyS (k + 1) s5).1 = vals (manyS k s5).1 ++ [.int .i64 ((numS (manyS k s5).2).1 : Int)] ∧ (manyS (k + 1) s5).2 = (numS (manyS k s5).2).2) := Lib.hid ⟨vals_snoc _ _, rfl⟩
      have KN := HNUM.out (manyS k s5).2 gr wr.drew (HR.out.on (below_drew wr))
      have HRR := Lib.hid (HR.out.on (below_drew wr)).row
      generalize (manyS k s5).2 = s6 at KN HD HR
      generalize numS s6 = r7 at KN HD
      obtain ⟨n7, s7⟩ := r7
      simp only at KN HD
      have HXD : Hid (Row wr.drew A5 25 #[.int .i64 (x1 : Int), .int .i64 (x2 : Int), .int .i64 (x3 : Int), .int .i64 (x4 : Int), .slice na k nc]) := Lib.hid HX.out.drewn
      have HOD : Hid (wr.drew.ownsRow w.heap.size 3 1 (.slice na k nc) k (vals (manyS k s5).1)) := Lib.hid (own_later HO.out (below_drew wr))
      have HBD := Lib.hid (HB.out.on (below_drew wr))
      have hWD : Below w.heap.size w wr.drew := Below.drew hbw
      have cD : wr.drew.cell? ⟨A5, 4, none⟩ = some (.slice na k nc) := (HXD.out.cell 4).trans rfl
      have hltD := HXD.out.lt
      have KN2 := Lib.hid KN
      clear KN HX HO HR HB
      go_wp2_with fail
      go_region_law (first
        | (refine step_append_new _ _ 23 3 8 (.int .i64 0) i0 Tryd.underlying23 hi hz0 hz1 hz2 rfl (by decide) w.heap.size w.heap.size k 1 _ _ _ _ w w7 rfl rfl rfl rfl rfl HO7.out hW7 (Nat.le_refl _) hW7.size (by simp [Value.oneCell']) (by omega) ?_
           intro v8 w8 hown8 hb8 hg8
           have HX8 := Lib.hid ((HX7.out.alloc _).grown hg8 (fun h => own_row_ne HO7.out HX7.out (by decide) h.symm))
           have HB8 := Lib.hid ((HB7.out.alloc _).grown hg8 (fun h => own_row_ne HO7.out HB7.out.row (by decide) h.symm))
           have HR8 := Lib.hid ((HR7.out.on ((Below.refl _ w7).alloc (Nat.le_refl _) _)).grown hg8 (fun h => by obtain ⟨cs, hr⟩ := HR7.out.row; exact own_row_ne HO7.out hr (by decide) h.symm) (fun bl off e hne h => by have := HAB.out bl off e hne; have := (HO7.out.lt bl h.symm).1; omega))
           obtain ⟨na8, nc8, rfl, _, _, _⟩ := own_form hown8
           have HO8 := Lib.hid hown8
           have c8 : w8.cell? ⟨A5, 4, none⟩ = some (.slice na k nc) := (HX8.out.cell 4).trans rfl
           have f8 := HX8.out.thaw 4
           have hlt8 := HX8.out.lt)
        | (go_simp
           go_wp2_with (refine KN2.out.mono ?_
                        rintro e w7 ⟨rfl, hr7, hk7⟩
                        have HX7 := Lib.hid (HXD.out.grown hk7 (fun h => by injection h with h; omega))
                        have HB7 := Lib.hid (HBD.out.grown hk7 (fun h => by injection h with h; omega))
                        have HO7 := Lib.hid (by obtain ⟨cs, hr⟩ := HRR.out; exact own_kept HOD.out hr (by decide) hk7)
                        have HR7 := Lib.hid hr7
                        have hW7 : Below w.heap.size w w7 := hWD.grown hk7 hWD.size (fun j hj => by injection hj with hj; omega)
                        have c7 : w7.cell? ⟨A5, 4, none⟩ = some (.slice na k nc) := (HX7.out.cell 4).trans rfl
                        have hlt7 := HX7.out.lt)))
      all_goals
        have HX9 : Hid (Row (w8.setCell ⟨A5, 4, none⟩ (.slice na8 (k + 1) nc8)) A5 25 #[.int .i64 (x1 : Int), .int .i64 (x2 : Int), .int .i64 (x3 : Int), .int .i64 (x4 : Int), .slice na8 (k + 1) nc8]) := Lib.hid ((HX8.out.put 4 _).as rfl)
        have HO9 : Hid ((w8.setCell ⟨A5, 4, none⟩ (.slice na8 (k + 1) nc8)).ownsRow w.heap.size 3 1 (.slice na8 (k + 1) nc8) (k + 1) (vals (manyS (k + 1) s5).1)) := Lib.hid (by rw [HD.out.1]; exact own_kept HO8.out HX8.out (by decide) (grown_put (g := A5) 4 _))
        have HR9 : Hid (RefS (w8.setCell ⟨A5, 4, none⟩ (.slice na8 (k + 1) nc8)) gr a cap b (manyS (k + 1) s5).2) := Lib.hid (by
          rw [HD.out.2]
          exact HR8.out.grown (grown_put (g := A5) 4 _) (fun h => by injection h with h; omega) (fun bl off e hne h => by have := HAF.out bl off e hne; injection h with h; omega))
        have HB9 : Hid (BoxP (w8.setCell ⟨A5, 4, none⟩ (.slice na8 (k + 1) nc8)) g2 zeroP) := Lib.hid (HB8.out.grown (grown_put (g := A5) 4 _) (fun h => by injection h with h; omega))
        have hW9 : Below w.heap.size w (w8.setCell ⟨A5, 4, none⟩ (.slice na8 (k + 1) nc8)) := hb8.setCell (by simp; omega) _
        clear HX8 HB8 HR8 HO8 HX7 HB7 HR7 HO7 HXD HBD HOD
        go_wp2
        go_roundw
        case rel => exact ⟨k + 1, by omega, by go_num, na8, nc8, HX9, HO9, HR9, HB9, hW9⟩
        case measure => simp [intOf]; omega
    · have hkl : k = m := by omega
      subst hkl
      rw [HM.out] at HO HR
      clear HM HNUM
      obtain ⟨l6, rl, er⟩ := y6
      have yE := HR.out.err
      by_cases her : er = 0
      · subst her
        have KL := HLEFT.out rl gr wr HR.out
        by_cases hrl : 0 < rl.length
        · have HEE : Hid (E = 11) := Lib.hid (by rw [HE.out]; exact if_pos ⟨rfl, hrl⟩)
          have hrl' : (0 : Int) < (rl.length : Int) := by omega
          go_wp2_with fail
          refine KL.mono ?_; rintro e w10 ⟨rfl, nd, rfl⟩
          clear KL
          have HR10 := Lib.hid (HR.out.on (below_drewN (Below.refl _ wr) nd))
          have HB10 := Lib.hid (HB.out.on (below_drewN (Below.refl _ wr) nd))
          have hW10 : Below w.heap.size w (wr.drewN nd) := below_drewN hbw nd
          clear HX HO HR HB yE
          generalize wr.drewN nd = w10 at HR10 HB10 hW10 ⊢
          have y10 : w10.cell? ⟨gr, 2, none⟩ = some (.int .i64 ((0 : Nat) : Int)) := HR10.out.err
          have f10 : w10.frozen? ⟨gr, 2, none⟩ = false := by obtain ⟨x, h⟩ := HR10.out; exact h.row.thaw 2
          have hlt10 := HR10.out.lt
          have HR11 := Lib.hid (HR10.out.fail 11 (by decide))
          have y11 : (w10.setCell ⟨gr, 2, none⟩ (.int .i64 11)).cell? ⟨gr, 2, none⟩ = some (.int .i64 11) := HR11.out.err
          have HB11 : Hid (BoxP (w10.setCell ⟨gr, 2, none⟩ (.int .i64 11)) g2 zeroP) := Lib.hid (HB10.out.grown (grown_put (g := gr) 2 _) (fun h => by injection h with h; omega))
          have hW11 : Below w.heap.size w (w10.setCell ⟨gr, 2, none⟩ (.int .i64 11)) := hW10.setCell (by simp; omega) _
          clear HR11
          go_wp2_with fail
          clear y10 f10 hlt10 HR10 HB10 hW10
          generalize World.setCell w10 ⟨gr, 2, none⟩ (.int .i64 11) = W11 at y11 HB11 hW11 ⊢
          have hgt := HB11.out.lt
          have f1 := HB11.out.thaw
          have z0 : W11.cell? ⟨g2, 0, none⟩ = some (.int .i64 0) := HB11.out.c0
          have z1 : W11.cell? ⟨g2, 1, none⟩ = some (.int .i64 0) := HB11.out.c1
          have z2 : W11.cell? ⟨g2, 2, none⟩ = some (.int .i64 0) := HB11.out.c2
          have z3 : W11.cell? ⟨g2, 3, none⟩ = some (.int .i64 0) := HB11.out.c3
          have z4 : W11.cell? ⟨g2, 4, none⟩ = some (.slice none 0 0) := HB11.out.c4
          have HZ : Hid (Row (((((W11.setCell ⟨g2, 0, none⟩ (.int .i64 0)).setCell ⟨g2, 1, none⟩ (.int .i64 0)).setCell ⟨g2, 2, none⟩ (.int .i64 0)).setCell ⟨g2, 3, none⟩ (.int .i64 0)).setCell ⟨g2, 4, none⟩ (.slice none 0 0)) g2 25 #[.int .i64 0, .int .i64 0, .int .i64 0, .int .i64 0, .slice none 0 0]) := Lib.hid (((((HB11.out.row.put_same 0 rfl).put_same 1 rfl).put_same 2 rfl).put_same 3 rfl).put_same 4 rfl)
          have hbz : Below w.heap.size w (World.drew (((((W11.setCell ⟨g2, 0, none⟩ (.int .i64 0)).setCell ⟨g2, 1, none⟩ (.int .i64 0)).setCell ⟨g2, 2, none⟩ (.int .i64 0)).setCell ⟨g2, 3, none⟩ (.int .i64 0)).setCell ⟨g2, 4, none⟩ (.slice none 0 0))) := Below.drew (((((hW11.setCell hg2 _).setCell hg2 _).setCell hg2 _).setCell hg2 _).setCell hg2 _)
          have HGZ := Lib.hid HZ.out.drewn.heap_
          clear HZ
          go_region
          go_wp2
          generalize World.drew (((((W11.setCell ⟨g2, 0, none⟩ (.int .i64 0)).setCell ⟨g2, 1, none⟩ (.int .i64 0)).setCell ⟨g2, 2, none⟩ (.int .i64 0)).setCell ⟨g2, 3, none⟩ (.int .i64 0)).setCell ⟨g2, 4, none⟩ (.slice none 0 0)) = wz at HGZ hbz ⊢
          refine bodyPost_ret (results_cell_tmp_row Tryd.results15 _ _ g2 25 #[.int .i64 0, .int .i64 0, .int .i64 0, .int .i64 0, .slice none 0 0] (0, 0) _ rfl HGZ.out Tryd.underlying25 rfl (by kernel_rfl)) rfl ?_
          exact HNO.out 11 (by decide) HEE.out wz hbz
        · have HEE : Hid (E = 0) := Lib.hid (by rw [HE.out]; exact if_neg (fun x => hrl x.2))
          have hrl' : ¬ (0 : Int) < (rl.length : Int) := by omega
          go_wp2_with fail
          refine KL.mono ?_; rintro e w10 ⟨rfl, nd, rfl⟩
          clear KL
          have hbd := below_drewN (Below.refl wr.heap.size wr) nd
          have HR10 := Lib.hid (HR.out.on hbd)
          have HB10 := Lib.hid (HB.out.on hbd)
          have HX10 := Lib.hid (HX.out.on hbd)
          obtain ⟨na1, nc1, e1, hrow1, hn1, hs1⟩ := own_form2 HO.out
          have HW10 := Lib.hid (hrow1.later hbd)
          have E1 := Lib.hid e1
          have HN1 := Lib.hid hn1
          have HS1 : Hid (∀ bl off, na1 = some ⟨bl, off, none⟩ → bl ≠ g2) := Lib.hid (fun bl off e => by
            have h1 := (HO.out.lt bl (by rw [e1, e]; rfl)).2
            intro h2
            subst h2
            have h3 := own_row_ne HO.out HB.out.row (by decide)
            apply h3
            rw [e1, e]
            rfl)
          have hW10 : Below w.heap.size w (wr.drewN nd) := below_drewN hbw nd
          clear HX HO HR HB yE hbd hrow1 hn1 hs1 e1
          have e2 := E1.out
          injection e2 with e3 e4 e5
          subst e3 e5
          clear E1
          generalize wr.drewN nd = w10 at HR10 HB10 HX10 HW10 hW10 ⊢
          have y10 : w10.cell? ⟨gr, 2, none⟩ = some (.int .i64 ((0 : Nat) : Int)) := HR10.out.err
          have HBh : Hid (w10.heap[g2]? = some (.cells #[.int .i64 0, .int .i64 0, .int .i64 0, .int .i64 0, .slice none 0 0] 25 (0, 0))) := Lib.hid HB10.out.row
          have q0 : w10.cell? ⟨A5, 0, none⟩ = some (.int .i64 (x1 : Int)) := (HX10.out.cell 0).trans rfl
          have q1 : w10.cell? ⟨A5, 1, none⟩ = some (.int .i64 (x2 : Int)) := (HX10.out.cell 1).trans rfl
          have q2 : w10.cell? ⟨A5, 2, none⟩ = some (.int .i64 (x3 : Int)) := (HX10.out.cell 2).trans rfl
          have q3 : w10.cell? ⟨A5, 3, none⟩ = some (.int .i64 (x4 : Int)) := (HX10.out.cell 3).trans rfl
          have q4 : w10.cell? ⟨A5, 4, none⟩ = some (.slice na k nc) := (HX10.out.cell 4).trans rfl
          go_wp2_with (first
            | (refine wpList_store_row rfl 25 (.tmp 2) (.tmp 60) rfl g2 _ rfl rfl 25 _ HBh.out (by kernel_rfl) (by simp) (by simp [Value.oneCell']) ?_
               generalize hwz : World.setRow _ _ _ = wz
               have hbz : Below w.heap.size w wz := by rw [← hwz]; exact below_setRow hW10 hg2 _
               have hgz9 : wz.heap[g2]? = some (.cells #[.int .i64 (x1 : Int), .int .i64 (x2 : Int), .int .i64 (x3 : Int), .int .i64 (x4 : Int), .slice na k nc] 25 (0, 0)) := by rw [← hwz]; exact setRow_heap _ _ _ _ _ _ HBh.out
               have HRZ : Hid (RowAt wz na (vals l6)) := Lib.hid (by rw [← hwz]; exact row_setRow HW10.out (fun b off e _ => HS1.out b off e) _)
               clear hwz)
            | refine wpList_load_mid rfl 25 (.tmp 5) rfl A5 0 rfl [.int .i64 (x1 : Int), .int .i64 (x2 : Int), .int .i64 (x3 : Int), .int .i64 (x4 : Int), .slice na k nc] _ (fun j v hv => by rw [Nat.zero_add, HX10.out.cell]; simpa using hv) Tryd.underlying25 rfl (by kernel_rfl) ?_)
          refine bodyPost_ret (results_cell_tmp_row Tryd.results15 _ _ g2 _ _ _ _ rfl hgz9 Tryd.underlying25 rfl (by kernel_rfl)) rfl ?_
          exact HYES.out na nc HN1.out HEE.out wz HRZ.out hbz
      · have HEE : Hid (E = er) := Lib.hid (by rw [HE.out]; exact if_neg (fun x => her x.1))
        have q0 : ¬ ((er : Int) = 0) := by omega
        have q1 : ((er : Int) == 0) = false := by simpa using q0
        have q2 : ((er : Int) != 0) = true := by simpa using q0
        clear q0 HX HO
        go_wp2_with fail
        have hgt := HB.out.lt
        have f1 := HB.out.thaw
        have z0 : wr.cell? ⟨g2, 0, none⟩ = some (.int .i64 0) := HB.out.c0
        have z1 : wr.cell? ⟨g2, 1, none⟩ = some (.int .i64 0) := HB.out.c1
        have z2 : wr.cell? ⟨g2, 2, none⟩ = some (.int .i64 0) := HB.out.c2
        have z3 : wr.cell? ⟨g2, 3, none⟩ = some (.int .i64 0) := HB.out.c3
        have z4 : wr.cell? ⟨g2, 4, none⟩ = some (.slice none 0 0) := HB.out.c4
        have HZ : Hid (Row (((((wr.setCell ⟨g2, 0, none⟩ (.int .i64 0)).setCell ⟨g2, 1, none⟩ (.int .i64 0)).setCell ⟨g2, 2, none⟩ (.int .i64 0)).setCell ⟨g2, 3, none⟩ (.int .i64 0)).setCell ⟨g2, 4, none⟩ (.slice none 0 0)) g2 25 #[.int .i64 0, .int .i64 0, .int .i64 0, .int .i64 0, .slice none 0 0]) := Lib.hid (((((HB.out.row.put_same 0 rfl).put_same 1 rfl).put_same 2 rfl).put_same 3 rfl).put_same 4 rfl)
        have hbz : Below w.heap.size w (World.drew (((((wr.setCell ⟨g2, 0, none⟩ (.int .i64 0)).setCell ⟨g2, 1, none⟩ (.int .i64 0)).setCell ⟨g2, 2, none⟩ (.int .i64 0)).setCell ⟨g2, 3, none⟩ (.int .i64 0)).setCell ⟨g2, 4, none⟩ (.slice none 0 0))) := Below.drew (((((hbw.setCell hg2 _).setCell hg2 _).setCell hg2 _).setCell hg2 _).setCell hg2 _)
        have HGZ := Lib.hid HZ.out.drewn.heap_
        clear HZ
        go_region
        go_wp2
        generalize World.drew (((((wr.setCell ⟨g2, 0, none⟩ (.int .i64 0)).setCell ⟨g2, 1, none⟩ (.int .i64 0)).setCell ⟨g2, 2, none⟩ (.int .i64 0)).setCell ⟨g2, 3, none⟩ (.int .i64 0)).setCell ⟨g2, 4, none⟩ (.slice none 0 0)) = wz at HGZ hbz ⊢
        refine bodyPost_ret (results_cell_tmp_row Tryd.results15 _ _ g2 25 #[.int .i64 0, .int .i64 0, .int .i64 0, .int .i64 0, .slice none 0 0] (0, 0) _ rfl HGZ.out Tryd.underlying25 rfl (by kernel_rfl)) rfl ?_
        exact HNO.out er her HEE.out wz hbz
end Go.Proofs.YtbnlchbklpgejaaDoor.W
