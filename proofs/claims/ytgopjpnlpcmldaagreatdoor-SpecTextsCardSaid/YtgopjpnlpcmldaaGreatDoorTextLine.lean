/-
  Contract of spec.take: what a line puts into a set-up.
-/
import Derived.Test.YtgopjpnlpcmldaaGreatDoorJ38
namespace Go.Proofs.YtgopjpnlpcmldaaGreatDoor.W
set_option linter.unusedVariables false
set_option linter.unusedSimpArgs false
open Go.ChangeShapes Go.WideShapes Go.ChangeAt Go.RowKit

theorem cutAt_lens (c : UInt8) : ∀ (l : List UInt8), (cutAt c l).1.length ≤ l.length ∧ (cutAt c l).2.1.length ≤ l.length
  | [] => by simp [cutAt]
  | b :: l => by
    obtain ⟨h1, h2⟩ := cutAt_lens c l
    rw [cutAt]
    split <;> simp <;> omega
theorem eq_bsT (a b : List UInt8) : ((bs a).toList == (bs b).toList) = decide (a = b) := by
  rw [Lib.toList_data, Lib.toList_data, bs_list, bs_list]
  by_cases h : a = b <;> simp [h]
theorem Took.after {E D g : Nat} {w w1 w' : World} {r : Option T} {e : Ending} (hb : Below w.heap.size w w1) (hD : D ≤ w.heap.size) (h : Took E D g w1 r e w') : Took E D g w r e w' :=
  ⟨(hb.mono hD).trans h.1, (Far.of_below hb).trans h.2.1, h.2.2⟩
set_option maxHeartbeats 4000000 in
set_option maxRecDepth 100000 in
theorem take_ (E D g : Nat) (s : S) (hN : s.nodes.length ≤ 5000) (hP : s.parts.length ≤ 5000) (hU : s.queues.length ≤ 5000) (l : List UInt8) (hl : l.length ≤ 100000) (w : World) (hS : Std w) (hE : StdE w) (hM : Built E D g s w) :
    Calls Tryz.prog 20 #[.pointer (some ⟨g, 0, none⟩), .string (bs l)] w (Took E D g w (takeL (tOf s) l)) := by
  obtain ⟨kw, hkw⟩ : ∃ kw, kw = (cutAt 32 l).1 := ⟨_, rfl⟩
  obtain ⟨sd, hsd⟩ : ∃ sd, sd = (cutAt 32 l).2.1 := ⟨_, rfl⟩
  have hsl : sd.length ≤ 100000 := by have := (cutAt_lens 32 l).2; rw [hsd]; omega
  have HR : Hid (takeL (tOf s) l = match kindOf kw 0 15 with | none => none | some k => takeS (tOf s) sd k) := Lib.hid (by rw [hkw, hsd]; rfl)
  have HC := Lib.hid (cCut l 32 w hS (by omega))
  rw [← hkw, ← hsd] at HC
  generalize (cutAt 32 l).2.2 = fd at HC
  have HT := Lib.hid (fun (k : Nat) (hk : k < 15) (B : Nat → Nat) (w' : World) (hb : Below w.heap.size w w') (hBk : ∀ k, numKind k → w'.heap[B k]? = some (.cells #[.func (.func (placeF k)) #[] #[]] 79 (0, 0))) =>
    (taken E D g s hN hP hU sd hsl w' (hS.on hb) (hE.below hb hS.size) (hM.on hb) B hBk k hk).mono fun e w2 h => Took.after hb (Nat.le_of_lt hM.lt) h)
  have HM := Lib.hid hM
  have HIN := Lib.hid take_in
  have HLa := Lib.hid (fun (n : Nat) (B : Nat → Nat) (W : World) h (k : Nat) (hk : k < 15) => line_at (W := W) (n := n) (B := B) h hk)
  clear hkw hsd hS hE hM hN hP hU hsl
  go_enter Tryz.func20, Tryz.ntmps20
  go_wp2_with fail
  refine HC.out.mono ?_; rintro e w1 ⟨rfl, hb1⟩
  go_wp2_with fail
  refine (lines w1).mono ?_; rintro e w3 ⟨n, B, rfl, hn3, hrow3, hbk3, hb3⟩
  have HL3 := Lib.hid hrow3
  have HK3 := Lib.hid (fun k hk => (hbk3 k hk).2.2)
  have hW3 : Below w.heap.size w w3 := hb1.trans (hb3.mono hb1.size)
  clear hrow3 hbk3 hb3 hb1 hn3
  go_wp2_with fail
  go_loopw [18] (fun v18 wr => ∃ k : Nat, k ≤ 15 ∧ v18 = .int .i64 (k : Int) ∧ Hid (kindOf kw k (15 - k) = kindOf kw 0 15) ∧ Hid (wr.heap[n]? = some (.cells (linesV B).toArray 55 (0, 0))) ∧ Hid (∀ k, numKind k → wr.heap[B k]? = some (.cells #[.func (.func (placeF k)) #[] #[]] 79 (0, 0))) ∧ Below w.heap.size w wr) (fun v18 _ => 15 - (intOf v18).toNat)
  case atStart => exact ⟨0, Nat.zero_le _, rfl, Lib.hid rfl, HL3, HK3, hW3⟩
  case round =>
    obtain ⟨k, hk, rfl, HKO, HL, HK, hbw⟩ := hrel
    have hz := hbw.size
    clear HL3 HK3 hW3
    by_cases hlt : k < 15
    · have HLK := HLa.out n B wr HL.out k hlt
      have l0 : wr.cell? ⟨n, k * 3, none⟩ = some (.string (bs (kindW k))) := HLK 0 _ rfl
      have l1 : wr.cell? ⟨n, k * 3 + 1, none⟩ = some (.func (.func (sayF k)) #[] (sayC B k)) := HLK 1 _ rfl
      have l2 : wr.cell? ⟨n, k * 3 + 2, none⟩ = some (.func (.func (takeF k)) #[] (sayC B k)) := HLK 2 _ rfl
      have hin := fun args w => HIN.out args w k hlt
      have HTk := Lib.hid (fun w' hb hBk => HT.out k hlt B w' hb hBk)
      have hst : kindOf kw k (15 - k) = if kindW k = kw then some k else kindOf kw (k + 1) (15 - (k + 1)) := by
        rw [show 15 - k = (15 - (k + 1)) + 1 by omega]; rfl
      have HST := Lib.hid (hst ▸ HKO.out : (if kindW k = kw then some k else kindOf kw (k + 1) (15 - (k + 1))) = kindOf kw 0 15)
      have heq := eq_bsT (kindW k) kw
      by_cases hw : kindW k = kw
      · have hres : takeL (tOf s) l = takeS (tOf s) sd k := by
          rw [HR.out, ← HST.out, if_pos hw]
        have HRES := Lib.hid hres
        rw [decide_eq_true hw] at heq
        clear hst hw hres HST HKO HLK
        rw [HRES.out]
        generalize takeS (tOf s) sd k = res at HTk ⊢
        clear HRES
        generalize sayF k = f at l1
        generalize sayC B k = C at l1 l2 HTk
        generalize takeF k = f2 at l2 HTk hin
        generalize kindW k = kk at l0 heq
        go_wp2_with fail
        refine (HTk.out _ ((by repeat' (first | exact Below.refl _ _ | assumption | exact And.left (by assumption) | refine Below.drew ?_ | refine below_drewN ?_ _ | refine Below.setCell ?_ (by first | (simp; done) | (simp; omega) | omega) _ | refine Below.alloc ?_ (by first | (simp; done) | (simp; omega) | omega) _ | refine after (by assumption) (by first | (simp; done) | (simp; omega) | omega) ?_))) (fun k hk => hcarry ((by repeat' (first | exact Below.refl _ _ | assumption | exact And.left (by assumption) | refine Below.drew ?_ | refine below_drewN ?_ _ | refine Below.setCell ?_ (by first | (simp; done) | (simp; omega) | omega) _ | refine Below.alloc ?_ (by first | (simp; done) | (simp; omega) | omega) _ | refine after (by assumption) (by first | (simp; done) | (simp; omega) | omega) ?_))) (HK.out k hk))).mono ?_
        rintro e w7 ⟨hb7, hf7, ⟨s', hr7, rfl, hM7⟩ | ⟨hr7, rfl⟩⟩
        · have HX := Lib.hid (show Took E D g w res (.returned (.bool true)) w7 from ⟨hb7, hf7, .inl ⟨s', hr7, rfl, hM7⟩⟩)
          clear hb7 hf7 hr7 hM7
          go_wp2
          go_ret
          exact HX.out
        · have HX := Lib.hid (show Took E D g w res (.returned (.bool false)) w7 from ⟨hb7, hf7, .inr ⟨hr7, rfl⟩⟩)
          clear hb7 hf7 hr7
          go_wp2
          go_ret
          exact HX.out
      · have HKO2 : Hid (kindOf kw (k + 1) (15 - (k + 1)) = kindOf kw 0 15) := Lib.hid (by have := HST.out; rwa [if_neg hw] at this)
        rw [decide_eq_false hw] at heq
        clear hst hw HST HKO HLK HTk hin
        generalize sayF k = f at l1
        generalize sayC B k = C at l1 l2
        generalize takeF k = f2 at l2
        generalize kindW k = kk at l0 heq
        go_wp2
        go_roundw
        case rel => exact ⟨k + 1, by omega, by go_num, HKO2, Lib.hid (hcarry ((by repeat' (first | exact Below.refl _ _ | assumption | exact And.left (by assumption) | refine Below.drew ?_ | refine below_drewN ?_ _ | refine Below.setCell ?_ (by first | (simp; done) | (simp; omega) | omega) _ | refine Below.alloc ?_ (by first | (simp; done) | (simp; omega) | omega) _ | refine after (by assumption) (by first | (simp; done) | (simp; omega) | omega) ?_))) HL.out), Lib.hid (fun k hk => hcarry ((by repeat' (first | exact Below.refl _ _ | assumption | exact And.left (by assumption) | refine Below.drew ?_ | refine below_drewN ?_ _ | refine Below.setCell ?_ (by first | (simp; done) | (simp; omega) | omega) _ | refine Below.alloc ?_ (by first | (simp; done) | (simp; omega) | omega) _ | refine after (by assumption) (by first | (simp; done) | (simp; omega) | omega) ?_))) (HK.out k hk)), (by repeat' (first | exact Below.refl _ _ | assumption | exact And.left (by assumption) | refine Below.drew ?_ | refine below_drewN ?_ _ | refine Below.setCell ?_ (by first | (simp; done) | (simp; omega) | omega) _ | refine Below.alloc ?_ (by first | (simp; done) | (simp; omega) | omega) _ | refine after (by assumption) (by first | (simp; done) | (simp; omega) | omega) ?_))⟩
        case measure => simp [intOf]; omega
    · obtain rfl : k = 15 := by omega
      have HX := Lib.hid (show Took E D g w (takeL (tOf s) l) (.returned (.bool false)) wr from ⟨hbw.mono (Nat.le_of_lt HM.out.lt), Far.of_below hbw, .inr ⟨by rw [HR.out, ← HKO.out]; rfl, rfl⟩⟩)
      clear HR HKO
      go_wp2
      go_ret
      exact HX.out
end Go.Proofs.YtgopjpnlpcmldaaGreatDoor.W
