/-
  Contract of the document's own Read (layer 8).
-/
import Derived.Test.YtkeboafejebanaaRefOf
import Derived.Test.YtkeboafejebanaaRefRead
import Derived.Test.YtkeboafejebanaaAskRead
import Derived.Test.YtkeboafejebanaaRefWrite
import Derived.Deep.RegionWith
import Derived.BigRegion
import Derived.Laws.MakeOwn
import Derived.Laws.Entries
namespace Go.Proofs.Ytkeboafejebanaa.W
set_option linter.unusedVariables false
set_option linter.unusedSimpArgs false
open Go.ChangeShapes Go.WideShapes Go.ChangeAt Go.RowKit

theorem Row.drewn {w : World} {g : Nat} {t : TypeId} {cs : Array Value} (h : Row w g t cs) : Row w.drew g t cs := h
theorem Row.heap_ {w : World} {g : Nat} {t : TypeId} {cs : Array Value} (h : Row w g t cs) : w.heap[g]? = some (.cells cs t (0, 0)) := h
theorem Row.put_same {w : World} {g : Nat} {t : TypeId} {cs : Array Value} (h : Row w g t cs) (i : Nat) {u : Value} (hi : cs[i]? = some u) : Row (w.setCell ⟨g, i, none⟩ u) g t cs := by
  refine (h.put i u).as (Array.ext_getElem? fun j => ?_)
  rw [Array.getElem?_setIfInBounds]
  split
  · rename_i e
    subst e
    rw [hi]
    split
    · rfl
    · rename_i hn
      rw [Array.getElem?_eq_none (Nat.le_of_not_lt hn)] at hi
      cases hi
  · rfl
set_option maxRecDepth 100000 in
set_option maxHeartbeats 4000000 in
theorem rread_bad (a : Option Addr) (cap : Nat) (b : List UInt8) (hl : b.length ≤ 100000) (w : World) (ha : RowAt w a (bytesV b)) (h : (rKind b).2.2 ≠ 0) :
    Calls Try.prog 15 #[.slice a b.length cap] w (ReadTo b w) := by
  have HA := Lib.hid ha
  have HK := Lib.hid (fun g w' (hr : RefS w' g a cap b (b, 0)) => refNum g a cap b (b, 0) w' hr)
  have e1 : numS (b, 0) = rKind b := rfl
  rw [e1] at HK
  have HE : Hid (readE b = (rKind b).2.2) := Lib.hid (by rw [readE_end (.inl h), read_bad_end h])
  have HAB : Hid (∀ bl off, a = some ⟨bl, off, none⟩ → bytesV b ≠ [] → bl < w.heap.size) := Lib.hid (fun bl off e hne => by
    have hp : 0 < (bytesV b).length := List.length_pos_iff.2 hne
    obtain ⟨b2, o2, e2, hl2, _⟩ := ha.row hp
    rw [e] at e2
    injection e2 with e2
    injection e2 with e3 _
    omega)
  clear ha e1
  generalize rKind b = r at HK HE h
  obtain ⟨kk, l0, er⟩ := r
  simp only at HK HE h
  have her : er ≠ 0 := h
  have g1 : ¬ ((er : Int) = 0) := by omega
  have g3 : ((er : Int) == 0) = false := by simpa using g1
  have g4 : ((er : Int) != 0) = true := by simpa using g1
  clear h g1
  go_enter Try.func15, Try.ntmps15
  go_wp2_with fail
  have HB' : BoxQ ((w.alloc (.cells #[.int .i64 0, .int .i64 0, .int .i64 0, .int .i64 0, .int .i64 0, .int .i64 0, .int .i64 0, .int .i64 0, .int .i64 0, .int .i64 0, .int .i64 0, .int .i64 0, .slice none 0 0, .int .i64 0, .int .i64 0, .int .i64 0, .int .i64 0] 26)).alloc (.cells #[.slice a b.length cap, .int .i64 0, .int .i64 0] 63)) w.heap.size (bareQ 0 0) := (BoxQ.new w (bareQ 0 0)).alloc _
  have HR' : RefS ((w.alloc (.cells #[.int .i64 0, .int .i64 0, .int .i64 0, .int .i64 0, .int .i64 0, .int .i64 0, .int .i64 0, .int .i64 0, .int .i64 0, .int .i64 0, .int .i64 0, .int .i64 0, .slice none 0 0, .int .i64 0, .int .i64 0, .int .i64 0, .int .i64 0] 26)).alloc (.cells #[.slice a b.length cap, .int .i64 0, .int .i64 0] 63)) (w.heap.size + 1) a cap b (b, 0) :=
    ⟨0, Row.new (by simp) _ _, Nat.zero_le _, hl, fun _ => rfl, fun h => absurd rfl h, (HA.out.alloc _).alloc _, fun bl off e hne => by
      have hp : 0 < (bytesV b).length := List.length_pos_iff.2 hne
      obtain ⟨b2, o2, e2, hl2, _⟩ := HA.out.row hp
      rw [e] at e2
      injection e2 with e2
      injection e2 with e3 _
      omega⟩
  obtain ⟨g2, hg2e⟩ : ∃ g, g = w.heap.size := ⟨_, rfl⟩
  obtain ⟨gr, hgre⟩ : ∃ g, g = w.heap.size + 1 := ⟨_, rfl⟩
  have hg2 : w.heap.size ≤ g2 := by omega
  have hgr : w.heap.size ≤ gr := by omega
  have hg2r : g2 < gr := by omega
  have hW0 : Below w.heap.size w ((w.alloc (.cells #[.int .i64 0, .int .i64 0, .int .i64 0, .int .i64 0, .int .i64 0, .int .i64 0, .int .i64 0, .int .i64 0, .int .i64 0, .int .i64 0, .int .i64 0, .int .i64 0, .slice none 0 0, .int .i64 0, .int .i64 0, .int .i64 0, .int .i64 0] 26)).alloc (.cells #[.slice a b.length cap, .int .i64 0, .int .i64 0] 63)) := (by repeat' (first | exact Below.refl _ _ | assumption | exact And.left (by assumption) | refine Below.drew ?_ | refine below_drewN ?_ _ | refine Below.setCell ?_ (by first | (simp; done) | (simp; omega) | omega) _ | refine Below.alloc ?_ (by first | (simp; done) | (simp; omega) | omega) _ | refine after (by assumption) (by first | (simp; done) | (simp; omega) | omega) ?_))
  rw [← hg2e] at HB' ⊢
  have hgre' := hgre
  rw [← hg2e] at hgre'
  rw [← hgre] at HR'
  try rw [← hgre']
  generalize hw0 : World.alloc (World.alloc w _) _ = w0 at HB' HR' hW0 ⊢
  have HG2 := Lib.hid hg2e
  have HGR := Lib.hid hgre
  clear hw0 hg2e hgre hgre' hl
  have K := HK.out gr w0 HR'
  have HB0 := Lib.hid HB'
  clear HR' HB'
  refine K.mono ?_; rintro e w1 ⟨rfl, hr1, hk1⟩
  have HB1 := Lib.hid (HB0.out.grown hk1 (fun h => by injection h with h; omega))
  have hW1 : Below w.heap.size w w1 := hW0.grown hk1 hW0.size (fun j hj => by injection hj with hj; omega)
  have HR1 := Lib.hid hr1
  have y2 := hr1.err
  have hlt1 := hr1.lt
  clear K hr1 hk1 HB0 HK hW0
  go_wp2_with fail
  have hgt := HB1.out.lt
  have f1 := HB1.out.thaw
  have z0 : w1.cell? ⟨g2, 0, none⟩ = some (.int .i64 0) := HB1.out.c0
  have z1 : w1.cell? ⟨g2, 1, none⟩ = some (.int .i64 0) := HB1.out.c1
  have z2 : w1.cell? ⟨g2, 2, none⟩ = some (.int .i64 0) := HB1.out.c2
  have z3 : w1.cell? ⟨g2, 3, none⟩ = some (.int .i64 0) := HB1.out.c3
  have z4 : w1.cell? ⟨g2, 4, none⟩ = some (.int .i64 0) := HB1.out.c4
  have z5 : w1.cell? ⟨g2, 5, none⟩ = some (.int .i64 0) := HB1.out.c5
  have z6 : w1.cell? ⟨g2, 6, none⟩ = some (.int .i64 0) := HB1.out.c6
  have z7 : w1.cell? ⟨g2, 7, none⟩ = some (.int .i64 0) := HB1.out.c7
  have z8 : w1.cell? ⟨g2, 8, none⟩ = some (.int .i64 0) := HB1.out.c8
  have z9 : w1.cell? ⟨g2, 9, none⟩ = some (.int .i64 0) := HB1.out.c9
  have z10 : w1.cell? ⟨g2, 10, none⟩ = some (.int .i64 0) := HB1.out.c10
  have z11 : w1.cell? ⟨g2, 11, none⟩ = some (.int .i64 0) := HB1.out.c11
  have z12 : w1.cell? ⟨g2, 12, none⟩ = some (.slice none 0 0) := HB1.out.c12
  have z13 : w1.cell? ⟨g2, 13, none⟩ = some (.int .i64 0) := HB1.out.c13
  have z14 : w1.cell? ⟨g2, 14, none⟩ = some (.int .i64 0) := HB1.out.c14
  have z15 : w1.cell? ⟨g2, 15, none⟩ = some (.int .i64 0) := HB1.out.c15
  have z16 : w1.cell? ⟨g2, 16, none⟩ = some (.int .i64 0) := HB1.out.c16
  have HZ : Hid (Row (((((((((((((((((w1.setCell ⟨g2, 0, none⟩ (.int .i64 0)).setCell ⟨g2, 1, none⟩ (.int .i64 0)).setCell ⟨g2, 2, none⟩ (.int .i64 0)).setCell ⟨g2, 3, none⟩ (.int .i64 0)).setCell ⟨g2, 4, none⟩ (.int .i64 0)).setCell ⟨g2, 5, none⟩ (.int .i64 0)).setCell ⟨g2, 6, none⟩ (.int .i64 0)).setCell ⟨g2, 7, none⟩ (.int .i64 0)).setCell ⟨g2, 8, none⟩ (.int .i64 0)).setCell ⟨g2, 9, none⟩ (.int .i64 0)).setCell ⟨g2, 10, none⟩ (.int .i64 0)).setCell ⟨g2, 11, none⟩ (.int .i64 0)).setCell ⟨g2, 12, none⟩ (.slice none 0 0)).setCell ⟨g2, 13, none⟩ (.int .i64 0)).setCell ⟨g2, 14, none⟩ (.int .i64 0)).setCell ⟨g2, 15, none⟩ (.int .i64 0)).setCell ⟨g2, 16, none⟩ (.int .i64 0)) g2 26 #[.int .i64 0, .int .i64 0, .int .i64 0, .int .i64 0, .int .i64 0, .int .i64 0, .int .i64 0, .int .i64 0, .int .i64 0, .int .i64 0, .int .i64 0, .int .i64 0, .slice none 0 0, .int .i64 0, .int .i64 0, .int .i64 0, .int .i64 0]) := Lib.hid (((((((((((((((((HB1.out.row.put_same 0 rfl).put_same 1 rfl).put_same 2 rfl).put_same 3 rfl).put_same 4 rfl).put_same 5 rfl).put_same 6 rfl).put_same 7 rfl).put_same 8 rfl).put_same 9 rfl).put_same 10 rfl).put_same 11 rfl).put_same 12 rfl).put_same 13 rfl).put_same 14 rfl).put_same 15 rfl).put_same 16 rfl)
  have hbz : Below w.heap.size w (World.drew (((((((((((((((((w1.setCell ⟨g2, 0, none⟩ (.int .i64 0)).setCell ⟨g2, 1, none⟩ (.int .i64 0)).setCell ⟨g2, 2, none⟩ (.int .i64 0)).setCell ⟨g2, 3, none⟩ (.int .i64 0)).setCell ⟨g2, 4, none⟩ (.int .i64 0)).setCell ⟨g2, 5, none⟩ (.int .i64 0)).setCell ⟨g2, 6, none⟩ (.int .i64 0)).setCell ⟨g2, 7, none⟩ (.int .i64 0)).setCell ⟨g2, 8, none⟩ (.int .i64 0)).setCell ⟨g2, 9, none⟩ (.int .i64 0)).setCell ⟨g2, 10, none⟩ (.int .i64 0)).setCell ⟨g2, 11, none⟩ (.int .i64 0)).setCell ⟨g2, 12, none⟩ (.slice none 0 0)).setCell ⟨g2, 13, none⟩ (.int .i64 0)).setCell ⟨g2, 14, none⟩ (.int .i64 0)).setCell ⟨g2, 15, none⟩ (.int .i64 0)).setCell ⟨g2, 16, none⟩ (.int .i64 0))) := Below.drew (((((((((((((((((hW1.setCell hg2 _).setCell hg2 _).setCell hg2 _).setCell hg2 _).setCell hg2 _).setCell hg2 _).setCell hg2 _).setCell hg2 _).setCell hg2 _).setCell hg2 _).setCell hg2 _).setCell hg2 _).setCell hg2 _).setCell hg2 _).setCell hg2 _).setCell hg2 _).setCell hg2 _)
  have HGZ := Lib.hid HZ.out.drewn.heap_
  clear HZ
  go_region
  go_wp2
  generalize World.drew (((((((((((((((((w1.setCell ⟨g2, 0, none⟩ (.int .i64 0)).setCell ⟨g2, 1, none⟩ (.int .i64 0)).setCell ⟨g2, 2, none⟩ (.int .i64 0)).setCell ⟨g2, 3, none⟩ (.int .i64 0)).setCell ⟨g2, 4, none⟩ (.int .i64 0)).setCell ⟨g2, 5, none⟩ (.int .i64 0)).setCell ⟨g2, 6, none⟩ (.int .i64 0)).setCell ⟨g2, 7, none⟩ (.int .i64 0)).setCell ⟨g2, 8, none⟩ (.int .i64 0)).setCell ⟨g2, 9, none⟩ (.int .i64 0)).setCell ⟨g2, 10, none⟩ (.int .i64 0)).setCell ⟨g2, 11, none⟩ (.int .i64 0)).setCell ⟨g2, 12, none⟩ (.slice none 0 0)).setCell ⟨g2, 13, none⟩ (.int .i64 0)).setCell ⟨g2, 14, none⟩ (.int .i64 0)).setCell ⟨g2, 15, none⟩ (.int .i64 0)).setCell ⟨g2, 16, none⟩ (.int .i64 0)) = wz at HGZ hbz ⊢
  refine bodyPost_ret (results_cell_tmp_row Try.results15 _ _ g2 26 #[.int .i64 0, .int .i64 0, .int .i64 0, .int .i64 0, .int .i64 0, .int .i64 0, .int .i64 0, .int .i64 0, .int .i64 0, .int .i64 0, .int .i64 0, .int .i64 0, .slice none 0 0, .int .i64 0, .int .i64 0, .int .i64 0, .int .i64 0] (0, 0) _ rfl HGZ.out Try.underlying26 rfl (by kernel_rfl)) rfl ?_
  exact read_to_no er her HE.out hbz
set_option maxRecDepth 100000 in
set_option maxHeartbeats 4000000 in
theorem rread_kind (a : Option Addr) (cap : Nat) (b : List UInt8) (hl : b.length ≤ 100000) (w : World) (ha : RowAt w a (bytesV b)) (h : (rKind b).2.2 = 0) (h2 : kindB (rKind b).1 = false) :
    Calls Try.prog 15 #[.slice a b.length cap] w (ReadTo b w) := by
  have HA := Lib.hid ha
  have HK := Lib.hid (fun g w' (hr : RefS w' g a cap b (b, 0)) => refNum g a cap b (b, 0) w' hr)
  have e1 : numS (b, 0) = rKind b := rfl
  rw [e1] at HK
  have HE := Lib.hid (readE_kind h h2)
  have hk3 := of_decide_eq_false h2
  have HAB : Hid (∀ bl off, a = some ⟨bl, off, none⟩ → bytesV b ≠ [] → bl < w.heap.size) := Lib.hid (fun bl off e hne => by
    have hp : 0 < (bytesV b).length := List.length_pos_iff.2 hne
    obtain ⟨b2, o2, e2, hl2, _⟩ := ha.row hp
    rw [e] at e2
    injection e2 with e2
    injection e2 with e3 _
    omega)
  clear ha e1
  generalize rKind b = r at HK h hk3
  obtain ⟨kk, l0, er⟩ := r
  simp only at HK h hk3
  subst h
  have hk4 : kk = 0 ∨ 12 < kk := by omega
  have HK4 := Lib.hid hk4
  clear h2 hk3 hk4
  go_enter Try.func15, Try.ntmps15
  go_wp2_with fail
  have HB' : BoxQ ((w.alloc (.cells #[.int .i64 0, .int .i64 0, .int .i64 0, .int .i64 0, .int .i64 0, .int .i64 0, .int .i64 0, .int .i64 0, .int .i64 0, .int .i64 0, .int .i64 0, .int .i64 0, .slice none 0 0, .int .i64 0, .int .i64 0, .int .i64 0, .int .i64 0] 26)).alloc (.cells #[.slice a b.length cap, .int .i64 0, .int .i64 0] 63)) w.heap.size (bareQ 0 0) := (BoxQ.new w (bareQ 0 0)).alloc _
  have HR' : RefS ((w.alloc (.cells #[.int .i64 0, .int .i64 0, .int .i64 0, .int .i64 0, .int .i64 0, .int .i64 0, .int .i64 0, .int .i64 0, .int .i64 0, .int .i64 0, .int .i64 0, .int .i64 0, .slice none 0 0, .int .i64 0, .int .i64 0, .int .i64 0, .int .i64 0] 26)).alloc (.cells #[.slice a b.length cap, .int .i64 0, .int .i64 0] 63)) (w.heap.size + 1) a cap b (b, 0) :=
    ⟨0, Row.new (by simp) _ _, Nat.zero_le _, hl, fun _ => rfl, fun h => absurd rfl h, (HA.out.alloc _).alloc _, fun bl off e hne => by
      have hp : 0 < (bytesV b).length := List.length_pos_iff.2 hne
      obtain ⟨b2, o2, e2, hl2, _⟩ := HA.out.row hp
      rw [e] at e2
      injection e2 with e2
      injection e2 with e3 _
      omega⟩
  obtain ⟨g2, hg2e⟩ : ∃ g, g = w.heap.size := ⟨_, rfl⟩
  obtain ⟨gr, hgre⟩ : ∃ g, g = w.heap.size + 1 := ⟨_, rfl⟩
  have hg2 : w.heap.size ≤ g2 := by omega
  have hgr : w.heap.size ≤ gr := by omega
  have hg2r : g2 < gr := by omega
  have hW0 : Below w.heap.size w ((w.alloc (.cells #[.int .i64 0, .int .i64 0, .int .i64 0, .int .i64 0, .int .i64 0, .int .i64 0, .int .i64 0, .int .i64 0, .int .i64 0, .int .i64 0, .int .i64 0, .int .i64 0, .slice none 0 0, .int .i64 0, .int .i64 0, .int .i64 0, .int .i64 0] 26)).alloc (.cells #[.slice a b.length cap, .int .i64 0, .int .i64 0] 63)) := (by repeat' (first | exact Below.refl _ _ | assumption | exact And.left (by assumption) | refine Below.drew ?_ | refine below_drewN ?_ _ | refine Below.setCell ?_ (by first | (simp; done) | (simp; omega) | omega) _ | refine Below.alloc ?_ (by first | (simp; done) | (simp; omega) | omega) _ | refine after (by assumption) (by first | (simp; done) | (simp; omega) | omega) ?_))
  rw [← hg2e] at HB' ⊢
  have hgre' := hgre
  rw [← hg2e] at hgre'
  rw [← hgre] at HR'
  try rw [← hgre']
  generalize hw0 : World.alloc (World.alloc w _) _ = w0 at HB' HR' hW0 ⊢
  have HG2 := Lib.hid hg2e
  have HGR := Lib.hid hgre
  clear hw0 hg2e hgre hgre' hl
  have K := HK.out gr w0 HR'
  have HB0 := Lib.hid HB'
  clear HR' HB'
  refine K.mono ?_; rintro e w1 ⟨rfl, hr1, hk1⟩
  have HB1 := Lib.hid (HB0.out.grown hk1 (fun h => by injection h with h; omega))
  have hW1 : Below w.heap.size w w1 := hW0.grown hk1 hW0.size (fun j hj => by injection hj with hj; omega)
  have HR1 := Lib.hid hr1
  have y2 := hr1.err
  have hlt1 := hr1.lt
  clear K hr1 hk1 HB0 HK hW0
  have HBh : Hid (w1.heap[g2]? = some (.cells #[.int .i64 0, .int .i64 0, .int .i64 0, .int .i64 0, .int .i64 0, .int .i64 0, .int .i64 0, .int .i64 0, .int .i64 0, .int .i64 0, .int .i64 0, .int .i64 0, .slice none 0 0, .int .i64 0, .int .i64 0, .int .i64 0, .int .i64 0] 26 (0, 0))) := Lib.hid HB1.out.row
  rcases HK4.out with hk5 | hk5
  all_goals
    go_wp2_with (first
      | ((with_reducible refine wpList_store_row rfl 26 (.tmp 2) (.tmp 35) rfl g2 _ rfl rfl 26 _ HBh.out (by kernel_rfl) (by simp) (by simp [Value.oneCell']) ?_)
         generalize hwz : World.setRow _ _ _ = wz
         have hbz : Below w.heap.size w wz := by rw [← hwz]; exact below_setRow hW1 hg2 _
         have hgz9 : wz.heap[g2]? = some (.cells #[.int .i64 0, .int .i64 0, .int .i64 0, .int .i64 0, .int .i64 0, .int .i64 0, .int .i64 0, .int .i64 0, .int .i64 0, .int .i64 0, .int .i64 0, .int .i64 0, .slice none 0 0, .int .i64 0, .int .i64 0, .int .i64 0, .int .i64 0] 26 (0, 0)) := by rw [← hwz]; exact setRow_heap _ _ _ _ _ _ HBh.out
         clear hwz))
    refine bodyPost_ret (results_cell_tmp_row Try.results15 _ _ g2 _ _ _ _ rfl hgz9 Try.underlying26 rfl (by kernel_rfl)) rfl ?_
    exact read_to_no 13 (by decide) HE.out hbz
end Go.Proofs.Ytkeboafejebanaa.W
