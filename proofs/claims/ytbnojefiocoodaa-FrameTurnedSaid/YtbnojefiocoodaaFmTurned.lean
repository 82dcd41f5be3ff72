/-
  The walk of FrameTurned.
-/
import Derived.Test.YtbnojefiocoodaaFmAwake
import Derived.Test.YtbnojefiocoodaaFrameB
namespace Go.Proofs.Ytbnojefiocoodaa.W
set_option linter.unusedVariables false
set_option linter.unusedSimpArgs false
open Go.ChangeShapes Go.WideShapes Go.ChangeAt Go.RowKit

/-- where one of them was turned -/
theorem RowAt.put {w : World} {b off : Nat} {xs : List Value} (h : RowAt w (some ⟨b, off, none⟩) xs) (j : Nat) (hj : j < xs.length) (u : Value) : RowAt (w.setCell ⟨b, off + j, none⟩ u) (some ⟨b, off, none⟩) (xs.set j u) := by
  obtain ⟨b', off', e, hl, hc⟩ := h.row (by omega)
  injection e with e
  injection e with e1 e2
  subst e1 e2
  refine .inr ⟨_, _, rfl, by simpa using hl, fun i v hv => ?_⟩
  rw [List.getElem?_set] at hv
  by_cases hij : j = i
  · subst hij
    rw [if_pos rfl, if_pos hj] at hv
    cases hv
    exact World.cell?_setCell_same _ _ _ (hc j _ (List.getElem?_eq_getElem hj))
  · rw [if_neg hij] at hv
    rw [World.cell?_setCell_other (h := fun e => hij (by injection e; omega))]
    exact hc i v hv
theorem bytesV_set (l : List UInt8) (i : Nat) (c : UInt8) : (bytesV l).set i (.int .u8 (c.toNat : Int)) = bytesV (l.set i c) := by
  unfold bytesV; rw [List.map_set]

set_option maxHeartbeats 400000 in
theorem turned_none (a : Option Addr) (cap : Nat) (l : List UInt8) (h : l.length = 0 ∨ 240 < l.length) (p c : Int) (w : World) :
    Calls Try.prog 5 #[.slice a l.length cap, .int .u8 p, .int .u8 c] w fun e w' => e = .returned (.bool true) ∧ Below w.heap.size w w' := by
  have HW := Lib.hid awake
  by_cases h0 : l.length = 0
  · clear h
    go_enter Try.func5, Try.ntmps5
    go_wp2_with fail
    refine (HW.out _).mono ?_; rintro e w1 ⟨rfl, hb1⟩
    go_wp2
    go_ret
    exact ⟨rfl, hb1⟩
  · have h1 : 240 < l.length := by omega
    clear h
    go_enter Try.func5, Try.ntmps5
    go_wp2_with fail
    refine (HW.out _).mono ?_; rintro e w1 ⟨rfl, hb1⟩
    go_wp2
    go_ret
    exact ⟨rfl, hb1⟩
set_option maxHeartbeats 400000 in
set_option maxRecDepth 100000 in
theorem turned_some (a : Option Addr) (cap : Nat) (l : List UInt8) (h1 : 1 ≤ l.length) (h2 : l.length ≤ 240) (p : Nat) (hp : p < 256) (c : UInt8) (w : World) (hcap : a = none → cap = 0) (ha : RowAt w a (bytesV l)) :
    Calls Try.prog 5 #[.slice a l.length cap, .int .u8 (p : Int), .int .u8 (c.toNat : Int)] w fun e w' => e = .returned (.bool true) ∧ Below w.heap.size w w' := by
  have HW := Lib.hid awake
  have HA := Lib.hid ha
  have HM := Lib.hid (fun (w : World) (h : RowAt w a (bytesV l)) => make a cap l h1 h2 w hcap h)
  obtain ⟨k, hk⟩ : ∃ k, k = p % l.length := ⟨_, rfl⟩
  have hkl : k < l.length := by rw [hk]; exact Nat.mod_lt _ (by omega)
  have hkp : (p : Int) % (l.length : Int) = (k : Int) := by rw [hk]; simp
  have HT := Lib.hid (fun h => turned h1 h2 k hkl c h)
  obtain ⟨b, off, hab, hbl, hcs⟩ := ha.row (by rw [bytesV_len]; omega)
  subst hab
  have hc0 := hcs k _ (bytesV_at l k hkl)
  have hd := (l[k]'hkl).toNat_lt
  have hc256 := c.toNat_lt
  rw [mk_len] at HM
  clear ha hcs hk
  generalize (l[k]'hkl).toNat = d at hc0 hd HT
  have hz : ¬ ((l.length : Int) = 0) := by omega
  by_cases hq : d % 251 = c.toNat % 251
  · have hqi : ((d : Int) % 251 == (c.toNat : Int) % 251) = true := by simp; omega
    clear HT
    generalize c.toNat = cn at hq hqi hc256 ⊢
    go_enter Try.func5, Try.ntmps5
    go_wp2_with fail
    refine (HW.out _).mono ?_; rintro e w1 ⟨rfl, hb1⟩
    go_wp2_with fail
    refine (HM.out _ (HA.out.later hb1)).mono ?_; rintro e w2 ⟨v2, rfl, hown2, hb2⟩
    obtain ⟨A2, c2, rfl, hc2, hr2, _⟩ := own_reads hown2
    have hbel : Below w.heap.size w w2 := behind hb2 hb1.size hb1
    have hc3 := (hbel.cell (p := ⟨b, off + k, none⟩) hbl).trans hc0
    clear hown2 hr2
    go_wp2
    go_ret
    exact ⟨rfl, hbel⟩
  · have hqi : ((d : Int) % 251 == (c.toNat : Int) % 251) = false := by simp; omega
    have HT2 := Lib.hid (HT.out hq)
    have HO := Lib.hid (fun A2 c2 (g : l.length + 3 ≤ c2) w (h : RowAt w A2 (bytesV ((mk l).set (k + 2) c))) => open0 A2 c2 ((mk l).set (k + 2) c) (by rw [List.length_set, mk_len]; exact g) w h [] 11 HT2.out)
    rw [List.length_set, mk_len] at HO
    have HB := Lib.hid (bytesV_set (mk l) (k + 2) c)
    clear HT HT2
    generalize (mk l).set (k + 2) c = m at HO HB
    have hml : (bytesV (mk l)).length = l.length + 3 := by rw [bytesV_len, mk_len]
    generalize bytesV (mk l) = M at HM HB hml
    generalize c.toNat = cn at hq hqi hc256 HB ⊢
    clear hml
    go_enter Try.func5, Try.ntmps5
    go_wp2_with fail
    refine (HW.out _).mono ?_; rintro e w1 ⟨rfl, hb1⟩
    go_wp2_with fail
    refine (HM.out _ (HA.out.later hb1)).mono ?_; rintro e w2 ⟨v2, rfl, hown2, hb2⟩
    have hy1 := hb1.size
    have hml := hown2.1
    obtain ⟨A2, c2, rfl, hc2, hr2, hg2⟩ := own_form hown2
    obtain ⟨g, rfl, hgb, cur, hcur⟩ := hg2.resolve_left (fun x => by have := x.2.1; omega)
    have hfz := hown2.frozenAt (k + 2)
    have hbel : Below w.heap.size w w2 := behind hb2 hb1.size hb1
    have hc3 := (hbel.cell (p := ⟨b, off + k, none⟩) hbl).trans hc0
    have hcu := hown2.cellAt (k + 2) (by omega)
    have HP := Lib.hid (hr2.put (k + 2) (by omega) (.int .u8 (cn : Int)))
    rw [HB.out, Nat.zero_add] at HP
    rw [List.getElem?_eq_getElem (show k + 2 < M.length by omega)] at hcu
    have hbel3 : Below w.heap.size w (w2.setCell ⟨g, k + 2, none⟩ (.int .u8 (cn : Int))) := hbel.setCell (by show w.heap.size ≤ g; omega) _
    have K := HO.out (some ⟨g, 0, none⟩) c2 hc2 _ HP.out
    clear hown2 hr2 hcur HM HA HO
    go_wp2_with fail
    refine K.mono ?_; rintro e w4 ⟨v4, rfl, _, hb4⟩
    have hbel4 : Below w.heap.size w w4 := behind hb4 hbel3.size hbel3
    clear K
    go_wp2
    go_ret
    exact ⟨rfl, hbel4⟩
theorem frameTurned_walk (v0 v1 v2 : Value) (w : World) (F0 : FRow .u8 w v0) (F1 : FInt .u8 v1) (F2 : FInt .u8 v2) :
    Calls Try.prog 5 #[v0, v1, v2] w fun e w' => e = .returned (.bool true) ∧ Below w.heap.size w w' := by
  obtain ⟨a, cap, l, rfl, hc, _, hr⟩ := F0.bytes
  obtain ⟨p, rfl, hp⟩ := F1
  obtain ⟨c, rfl, hc2⟩ := F2
  have hp := bounds_u8 hp
  have hc2 := bounds_u8 hc2
  by_cases h : l.length = 0 ∨ 240 < l.length
  · exact turned_none a cap l h p c w
  · obtain ⟨p, rfl⟩ : ∃ n : Nat, p = (n : Int) := ⟨p.toNat, by omega⟩
    obtain ⟨c, rfl⟩ : ∃ n : UInt8, c = (n.toNat : Int) := ⟨UInt8.ofNat c.toNat, by rw [of_nat (by omega)]; omega⟩
    exact turned_some a cap l (by omega) (by omega) p (by omega) c w hc hr
end Go.Proofs.Ytbnojefiocoodaa.W
