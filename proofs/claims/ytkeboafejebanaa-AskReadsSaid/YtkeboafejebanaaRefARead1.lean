/-
  The document's own Read (layer 8), where it is a Submit.
-/
import Derived.Test.YtkeboafejebanaaRefARead
namespace Go.Proofs.Ytkeboafejebanaa.W
set_option linter.unusedVariables false
set_option linter.unusedSimpArgs false
open Go.ChangeShapes Go.WideShapes Go.ChangeAt Go.RowKit

set_option maxRecDepth 100000 in
set_option maxHeartbeats 9000000 in
theorem rread_gen1 (a : Option Addr) (cap : Nat) (b : List UInt8) (hl : b.length ≤ 100000) (w : World) (ha : RowAt w a (bytesV b)) (h : (rKind b).2.2 = 0) (h2 : kindB (rKind b).1 = true) (hne : (rKind b).1 = 1) :
    Calls Try.prog 15 #[.slice a b.length cap] w (ReadTo b w) := by
  have HA := Lib.hid ha
  have HK := Lib.hid (fun g w' (hr : RefS w' g a cap b (b, 0)) => refNum g a cap b (b, 0) w' hr)
  have e1 : numS (b, 0) = rKind b := rfl
  rw [e1] at HK
  have HE : Hid (readE b = endS (rDeps b).2) := Lib.hid (readE_end (.inr h2))
  have hk3 := of_decide_eq_true h2
  have HKEY : Hid (∀ g w', RefS w' g a cap b (rKind b).2 → Calls Try.prog 34 #[.pointer (some ⟨g, 0, none⟩), .int .i64 1, .int .i64 1073741824] w' fun x w'' => x = .returned (.int .i64 ((rKey b).1 : Int)) ∧ RefS w'' g a cap b (rKey b).2 ∧ w'.grownBy w'' (some g)) := Lib.hid (fun g w' h => refWithin 1 1073741824 g a cap b _ w' h)
  have HMANY : Hid (∀ s g w', RefS w' g a cap b s → Calls Try.prog 34 #[.pointer (some ⟨g, 0, none⟩), .int .i64 0, .int .i64 4] w' fun x w'' => x = .returned (.int .i64 ((withinS 0 4 s).1 : Int)) ∧ RefS w'' g a cap b (withinS 0 4 s).2 ∧ w'.grownBy w'' (some g)) := Lib.hid (fun s g w' h => refWithin 0 4 g a cap b s w' h)
  have HOK : Hid (∀ s g w', RefS w' g a cap b s → Calls Try.prog 34 #[.pointer (some ⟨g, 0, none⟩), .int .i64 0, .int .i64 1] w' fun x w'' => x = .returned (.int .i64 ((withinS 0 1 s).1 : Int)) ∧ RefS w'' g a cap b (withinS 0 1 s).2 ∧ w'.grownBy w'' (some g)) := Lib.hid (fun s g w' h => refWithin 0 1 g a cap b s w' h)
  have HNUM := Lib.hid (fun s g w' (h : RefS w' g a cap b s) => refNum g a cap b s w' h)
  have HLEFT := Lib.hid (fun l g w' (h : RefS w' g a cap b (l, 0)) => refLeft g a cap b l w' h)
  have HFI : Hid (rFill b = fillS (fieldsN ((rKind b).1 : Int)) zeroL (rKey b).2) := Lib.hid rfl
  have HDE : Hid (rDeps b = if (rKind b).1 = 1 then depsS (withinS 0 4 (rFill b).2).1 (withinS 0 4 (rFill b).2).2 else ([], (rFill b).2)) := Lib.hid rfl
  have HRQ : Hid (∀ aa ac, readE b = 0 → readQ b aa ac = ⟨(rKind b).1, (rKey b).1, (rFill b).1, aa, ac, (rDeps b).1⟩) := Lib.hid (fun aa ac h => by unfold readQ; rw [if_pos h])
  have HRF := Lib.hid (fun w' => rfields ((rKind b).1 : Int) w')
  have HIX := Lib.hid (idx_at ((rKind b).1 : Int))
  have HAB : Hid (∀ bl off, a = some ⟨bl, off, none⟩ → bytesV b ≠ [] → bl < w.heap.size) := Lib.hid (fun bl off e hne => by
    have hp : 0 < (bytesV b).length := List.length_pos_iff.2 hne
    obtain ⟨b2, o2, e2, hl2, _⟩ := ha.row hp
    rw [e] at e2
    injection e2 with e2
    injection e2 with e3 _
    omega)
  clear ha e1
  generalize rDeps b = rd at HDE HRQ HE
  generalize rFill b = rf at HFI HDE HRQ
  generalize rKey b = rk at HKEY HFI HRQ
  generalize rKind b = r at HK HKEY HFI HDE HRQ h hk3 HRF HIX hne
  obtain ⟨kk, s0⟩ := r
  obtain ⟨key, s1⟩ := rk
  simp only at HK HKEY HFI HDE HRQ h hk3 HRF HIX hne
  obtain ⟨l0, er⟩ := s0
  simp only at h HK HKEY
  subst h
  obtain ⟨hk3, hk4⟩ := hk3
  have hk1 : Hid (((kk : Int) == 1) = true) := Lib.hid (by simp; omega)
  have HNE := Lib.hid hne
  clear hne
  obtain ⟨fs, hfs⟩ : ∃ fs, fs = fieldsN (kk : Int) := ⟨_, rfl⟩
  rw [← hfs] at HRF HFI
  have HIX2 : Hid (∀ j (h : j < fs.length), (vals (idxL (kk : Int)))[j]? = some (.int .i64 ((fs[j] : Nat) : Int))) := Lib.hid (by subst hfs; exact HIX.out)
  have hfl : fs.length ≤ 8 := by rw [hfs]; exact fields_len _
  have HIN : Hid (∀ i ∈ fs, 1 ≤ i ∧ i ≤ 14) := Lib.hid (by rw [hfs]; exact fields_in _)
  clear h2 hfs HIX
  generalize idxL (kk : Int) = ix at HRF HIX2
  go_enter Try.func15, Try.ntmps15
  go_wp2_with fail
  have HB' : BoxQ ((w.alloc (.cells #[.int .i64 0, .int .i64 0, .int .i64 0, .int .i64 0, .int .i64 0, .int .i64 0, .int .i64 0, .int .i64 0, .int .i64 0, .int .i64 0, .int .i64 0, .int .i64 0, .slice none 0 0, .int .i64 0, .int .i64 0, .int .i64 0, .int .i64 0] 26)).alloc (.cells #[.slice a b.length cap, .int .i64 0, .int .i64 0] 63)) w.heap.size (bareQ 0 0) := (BoxQ.new w (bareQ 0 0)).alloc _
  have HR' : RefS ((w.alloc (.cells #[.int .i64 0, .int .i64 0, .int .i64 0, .int .i64 0, .int .i64 0, .int .i64 0, .int .i64 0, .int .i64 0, .int .i64 0, .int .i64 0, .int .i64 0, .int .i64 0, .slice none 0 0, .int .i64 0, .int .i64 0, .int .i64 0, .int .i64 0] 26)).alloc (.cells #[.slice a b.length cap, .int .i64 0, .int .i64 0] 63)) (w.heap.size + 1) a cap b (b, 0) :=
    ⟨0, Row.new (by simp) _ _, Nat.zero_le _, hl, fun _ => rfl, fun h => absurd rfl h, (HA.out.alloc _).alloc _, fun bl off e hne => by
      have hp : 0 < (bytesV b).length := List.length_pos_iff.2 hne
      obtain ⟨b2, o2, e2, hl2, _⟩ := HA.out.row hp
      rw [e] at e2
      injection e2 with e2
      injection e2 with e3 _
      omega⟩
  obtain ⟨g2, hg2e⟩ : ∃ g, g = w.heap.size := ⟨_, rfl⟩
  obtain ⟨gr, hgre⟩ : ∃ g, g = w.heap.size + 1 := ⟨_, rfl⟩
  have hg2 : w.heap.size ≤ g2 := by omega
  have hgr : w.heap.size ≤ gr := by omega
  have hg2r : g2 < gr := by omega
  have hW0 : Below w.heap.size w ((w.alloc (.cells #[.int .i64 0, .int .i64 0, .int .i64 0, .int .i64 0, .int .i64 0, .int .i64 0, .int .i64 0, .int .i64 0, .int .i64 0, .int .i64 0, .int .i64 0, .int .i64 0, .slice none 0 0, .int .i64 0, .int .i64 0, .int .i64 0, .int .i64 0] 26)).alloc (.cells #[.slice a b.length cap, .int .i64 0, .int .i64 0] 63)) := (by repeat' (first | exact Below.refl _ _ | assumption | exact And.left (by assumption) | refine Below.drew ?_ | refine below_drewN ?_ _ | refine Below.setCell ?_ (by first | (simp; done) | (simp; omega) | omega) _ | refine Below.alloc ?_ (by first | (simp; done) | (simp; omega) | omega) _ | refine after (by assumption) (by first | (simp; done) | (simp; omega) | omega) ?_))
  rw [← hg2e] at HB' ⊢
  have hgre' := hgre
  rw [← hg2e] at hgre'
  rw [← hgre] at HR'
  try rw [← hgre']
  generalize hw0 : World.alloc (World.alloc w _) _ = w0 at HB' HR' hW0 ⊢
  have HG2 := Lib.hid hg2e
  have HGR := Lib.hid hgre
  clear hw0 hg2e hgre hgre' hl
  have K := HK.out gr w0 HR'
  have HB0 := Lib.hid HB'
  clear HR' HB'
  refine K.mono ?_; rintro e w1 ⟨rfl, hr1, hk1⟩
  have HB1 := Lib.hid (HB0.out.grown hk1 (fun h => by injection h with h; omega))
  have hW1 : Below w.heap.size w w1 := hW0.grown hk1 hW0.size (fun j hj => by injection hj with hj; omega)
  have HR1 := Lib.hid hr1
  have y2 := hr1.err
  have hlt1 := hr1.lt
  clear K hr1 hk1 HB0 HK hW0
  go_wp2_with fail
  clear y2
  obtain ⟨i0, hi, hz0, hz1, hzb⟩ := info_parts infoI
  have hmk : ∀ W : World, (Instr.makeSlice 42 (.int .i64 15) (.int .i64 15)).run Try.prog W = .ok (.slice (some ⟨W.heap.size, 0, none⟩) 15 15) (W.alloc (.cells #[.int .i64 0, .int .i64 0, .int .i64 0, .int .i64 0, .int .i64 0, .int .i64 0, .int .i64 0, .int .i64 0, .int .i64 0, .int .i64 0, .int .i64 0, .int .i64 0, .int .i64 0, .int .i64 0, .int .i64 0] 3)) := fun W => by
    have h := run_make (P := Try.prog) W 42 3 i0 _ Try.underlying42 hi hz0 .i64 .i64 15 15 (by omega) (by omega) (by rw [hzb]; omega) (by omega)
    rw [hz1] at h
    have e : madeCells (Value.cells (.int .i64 0)) ((15 : Int).toNat * 1) = #[.int .i64 0, .int .i64 0, .int .i64 0, .int .i64 0, .int .i64 0, .int .i64 0, .int .i64 0, .int .i64 0, .int .i64 0, .int .i64 0, .int .i64 0, .int .i64 0, .int .i64 0, .int .i64 0, .int .i64 0] := by kernel_rfl
    rw [e] at h
    exact h
  refine (HKEY.out gr w1 HR1.out).mono ?_; rintro e w2 ⟨rfl, hr2, hk2⟩
  have HB2 := Lib.hid (HB1.out.grown hk2 (fun h => by injection h with h; omega))
  have hW2 : Below w.heap.size w w2 := hW1.grown hk2 hW1.size (fun j hj => by injection hj with hj; omega)
  have HR2 := Lib.hid hr2
  have hz2 := hk2.size
  clear hr2 hk2 HB1 HR1 HKEY
  go_wp2_with fail
  clear hmk
  have HL' : Row (w2.alloc (.cells #[.int .i64 0, .int .i64 0, .int .i64 0, .int .i64 0, .int .i64 0, .int .i64 0, .int .i64 0, .int .i64 0, .int .i64 0, .int .i64 0, .int .i64 0, .int .i64 0, .int .i64 0, .int .i64 0, .int .i64 0] 3)) w2.heap.size 3 (vals zeroL).toArray := (Row.new rfl _ _).as rfl
  obtain ⟨gl, hgl⟩ : ∃ g, g = w2.heap.size := ⟨_, rfl⟩
  rw [← hgl] at HL' ⊢
  have hgl2 : gr < gl := by omega
  generalize hw3 : World.alloc w2 _ = w3 at HL' ⊢
  have hb3 : Below w2.heap.size w2 w3 := by rw [← hw3]; exact (by repeat' (first | exact Below.refl _ _ | assumption | exact And.left (by assumption) | refine Below.drew ?_ | refine below_drewN ?_ _ | refine Below.setCell ?_ (by first | (simp; done) | (simp; omega) | omega) _ | refine Below.alloc ?_ (by first | (simp; done) | (simp; omega) | omega) _ | refine after (by assumption) (by first | (simp; done) | (simp; omega) | omega) ?_))
  have HB3 := Lib.hid (HB2.out.on hb3)
  have HR3 := Lib.hid (HR2.out.on hb3)
  have HL3 := Lib.hid HL'
  have hW3 : Below w.heap.size w w3 := hW2.trans (hb3.mono hW2.size)
  have HGL := Lib.hid hgl
  clear hw3 HB2 HR2 HL' hb3 hgl
  refine (HRF.out w3).mono ?_; rintro e w4 ⟨v4, rfl, hown4, hb4⟩
  obtain ⟨A4, c4, rfl, _, hrow4, hs4⟩ := own_form hown4
  have HS4 : Hid (∀ bl off, A4 = some ⟨bl, off, none⟩ → w3.heap.size ≤ bl) := Lib.hid (fun bl off e => by
    rcases hs4 with ⟨h, _⟩ | ⟨g, h, hg, _⟩
    · rw [h] at e; cases e
    · rw [h] at e; injection e with e; injection e with e1 _; omega)
  have hz3 := HL3.out.lt
  have HB4 := Lib.hid (HB3.out.on hb4)
  have HR4 := Lib.hid (HR3.out.on hb4)
  have HL4 := Lib.hid (HL3.out.on hb4)
  have HF4 := Lib.hid hrow4
  have hW4 : Below w.heap.size w w4 := hW3.trans (hb4.mono hW3.size)
  clear hown4 hrow4 hs4 hb4 HB3 HR3 HL3 HRF
  go_wp2_with fail
  go_loopw [9] (fun v9 wr => ∃ i : Nat, i ≤ fs.length ∧ v9 = .int .i64 (i : Int) ∧ Hid (Row wr gl 3 (vals (fillS (fs.take i) zeroL s1).1).toArray) ∧ Hid (RefS wr gr a cap b (fillS (fs.take i) zeroL s1).2) ∧ Hid (RowAt wr A4 (vals ix)) ∧ Hid (BoxQ wr g2 (bareQ 0 0)) ∧ Below w.heap.size w wr) (fun v9 _ => fs.length - (intOf v9).toNat)
  case atStart => exact ⟨0, Nat.zero_le _, rfl, HL4, HR4, HF4, HB4, hW4⟩
  case round =>
    obtain ⟨i, hi, rfl, HL, HR, HF, HB, hbw⟩ := hrel
    have hz := hbw.size
    have hgz := HL.out.lt
    clear HL4 HR4 HF4 HB4
    by_cases hlt : i < fs.length
    · have hin := HIN.out fs[i] (List.getElem_mem hlt)
      have HFT := Lib.hid (fill_take fs zeroL s1 i hlt)
      have hfl2 := fillS_len (fs.take i) zeroL s1
      have HFL := Lib.hid hfl2
      obtain ⟨b1, o1, e1, hbl1, cy⟩ := row_pos HF.out (HIX2.out i hlt)
      have hfar := HS4.out b1 o1 e1
      have HY7 : Hid (∀ w', wr.drew.grownBy w' (some gr) → w'.cell? ⟨b1, o1 + i, none⟩ = some (.int .i64 ((fs[i] : Nat) : Int))) := Lib.hid (fun w' hg => by
        have := ((HF.out.later (below_drew wr)).grown hg (fun bl off e _ x => by have := HS4.out bl off e; injection x with x; omega))
        obtain ⟨b3, o3, e3, _, cy3⟩ := row_pos this (HIX2.out i hlt)
        rw [e1] at e3
        injection e3 with e3
        injection e3 with e4 e5
        subst e4 e5
        exact cy3)
      clear hfl2
      generalize fs[i] = f at cy hin HFT HY7
      obtain ⟨hin1, hin2⟩ := hin
      generalize fillS (fs.take i) zeroL s1 = F at HL HR HFT HFL
      obtain ⟨L, s2⟩ := F
      simp only at HL HR HFT HFL
      have KN := HNUM.out s2 gr wr.drew (HR.out.on (below_drew wr))
      generalize numS s2 = r2 at KN HFT
      obtain ⟨n2, s3⟩ := r2
      simp only at KN HFT
      have hL15 : L.length = 15 := HFL.out
      have HLD : Hid (Row wr.drew gl 3 (vals L).toArray) := Lib.hid HL.out.drewn
      have HLX : Hid (∀ w', Row w' gl 3 (vals L).toArray → w'.cell? ⟨gl, f, none⟩ = some (.int .i64 (L.getD f 0))) := Lib.hid (fun w' h => by
        rw [h.cell f]
        simp [vals, show f < L.length by omega])
      have HLY : Hid ((vals L).toArray.setIfInBounds f (.int .i64 (n2 : Int)) = (vals (fillS (fs.take (i + 1)) zeroL s1).1).toArray) := Lib.hid (by
        rw [HFT.out]
        simp [vals, List.map_set])
      have HFS2 : Hid ((fillS (fs.take (i + 1)) zeroL s1).2 = s3) := Lib.hid (by rw [HFT.out])
      have HA4 := Lib.hid e1
      clear e1 hL15
      obtain rfl := HA4.out
      have KN2 := Lib.hid KN
      clear KN
      have hf0 : (0 : Int) ≤ (f : Int) := by omega
      have hf15 : (f : Int) < 15 := by omega
      go_wp2_with fail
      go_region_with (refine KN2.out.mono ?_; rintro e w7 ⟨rfl, hr7, hk7⟩; have cy7 := HY7.out w7 hk7; have hl7 := HLD.out.grown hk7 (fun h => by injection h with h; omega); have cx7 := HLX.out w7 hl7; have fx7 := hl7.thaw f)
      all_goals
        have HL8 : Hid (Row (w7.setCell ⟨gl, f, none⟩ (.int .i64 (n2 : Int))) gl 3 (vals (fillS (fs.take (i + 1)) zeroL s1).1).toArray) := Lib.hid ((hl7.put f _).as HLY.out)
        have HR8 : Hid (RefS (w7.setCell ⟨gl, f, none⟩ (.int .i64 (n2 : Int))) gr a cap b (fillS (fs.take (i + 1)) zeroL s1).2) := Lib.hid (by
          rw [HFS2.out]
          exact hr7.grown (grown_put (g := gl) f _) (fun h => by injection h with h; omega) (fun bl off e hne h => by have := HAB.out bl off e hne; injection h with h; have := HGL.out; omega))
        have HF8 : Hid (RowAt (w7.setCell ⟨gl, f, none⟩ (.int .i64 (n2 : Int))) (some ⟨b1, o1, none⟩) (vals ix)) := Lib.hid ((((HF.out.later (below_drew wr)).grown hk7 (fun bl off e _ x => by have := HS4.out bl off e; injection x with x; omega))).grown (grown_put (g := gl) f _) (fun bl off e _ x => by have := HS4.out bl off e; injection x with x; omega))
        have HB8 : Hid (BoxQ (w7.setCell ⟨gl, f, none⟩ (.int .i64 (n2 : Int))) g2 (bareQ 0 0)) := Lib.hid (((HB.out.on (below_drew wr)).grown hk7 (fun h => by injection h with h; omega)).grown (grown_put (g := gl) f _) (fun h => by injection h with h; omega))
        have hW8 : Below w.heap.size w (w7.setCell ⟨gl, f, none⟩ (.int .i64 (n2 : Int))) := ((Below.drew hbw).grown hk7 (by simpa using hz) (fun j hj => by injection hj with hj; omega)).setCell (by have := HGL.out; simp; omega) _
        clear hr7 hk7 cy7 hl7 cx7 fx7 HL HR HF HB HFT HLX HLY HLD KN2 HY7 cy
        go_wp2
        go_roundw
        case rel => exact ⟨i + 1, by omega, by go_num, HL8, HR8, HF8, HB8, hW8⟩
        case measure => simp [intOf]; omega
    · have hil : i = fs.length := by omega
      subst hil
      have HF2 : Hid (fillS (fs.take fs.length) zeroL s1 = rf) := Lib.hid (by rw [List.take_length, HFI.out])
      have hrl : rf.1.length = 15 := by rw [HFI.out, fillS_len]; rfl
      rw [HF2.out] at HL HR
      obtain ⟨qq, hqq⟩ : ∃ qq, qq = (⟨kk, key, rf.1, none, 0, []⟩ : Rq) := ⟨_, rfl⟩
      have hkq : ((kk : Nat) : Int) = qq.kind := by rw [hqq]
      have hyq : ((key : Nat) : Int) = qq.key := by rw [hqq]
      have K := rof qq gl 0 15 wr hgz (by rw [hqq]) (by rw [hqq]) (by rw [hqq]) (fun i h1 h2 => by
        rw [Nat.zero_add, HL.out.cell i, hqq]
        simp [vals, Rq.n, show i < rf.1.length by omega])
      have HQQ := Lib.hid hqq
      have HKQ := Lib.hid hkq
      clear HFI HF HIN HF2 HL hqq hrl
      go_wp2_with fail
      rw [hkq, hyq]
      clear hkq hyq
      refine K.mono ?_; rintro e w5 ⟨rfl, hb5⟩
      clear K
      have HB5 := Lib.hid (HB.out.on hb5)
      have HR5 := Lib.hid (HR.out.on hb5)
      have hW5 : Below w.heap.size w w5 := hbw.trans (hb5.mono hz)
      have hz5 := hb5.size
      clear HB HR hb5
      rw [HKQ.out] at hk1
      go_upto_region 15 with (first
        | ((with_reducible refine wpList_store_row rfl 26 (.tmp 10) (.tmp 58) rfl w5.heap.size _ rfl rfl 26 #[.int .i64 0, .int .i64 0, .int .i64 0, .int .i64 0, .int .i64 0, .int .i64 0, .int .i64 0, .int .i64 0, .int .i64 0, .int .i64 0, .int .i64 0, .int .i64 0, .slice none 0 0, .int .i64 0, .int .i64 0, .int .i64 0, .int .i64 0] (by repeat (first | (refine heap_top (by first | omega | (simp only [World.size_alloc]; done) | (simp only [World.size_alloc]; omega))) | refine heap_up ?_)) (by kernel_rfl) (by simp) (by simp [Value.oneCell']) ?_)
           generalize hw6 : World.setRow _ _ _ = w6
           have hb6 : Below w5.heap.size w5 w6 := by rw [← hw6]; exact below_setRow ((by repeat' (first | exact Below.refl _ _ | assumption | exact And.left (by assumption) | refine Below.drew ?_ | refine below_drewN ?_ _ | refine Below.setCell ?_ (by first | (simp; done) | (simp; omega) | omega) _ | refine Below.alloc ?_ (by first | (simp; done) | (simp; omega) | omega) _ | refine after (by assumption) (by first | (simp; done) | (simp; omega) | omega) ?_))) (Nat.le_refl _) _
           have hg6 : w6.heap[w5.heap.size]? = some (.cells #[.int .i64 qq.kind, .int .i64 qq.key, .int .i64 (qq.n 1), .int .i64 (qq.n 2), .int .i64 (qq.n 3), .int .i64 (qq.n 4), .int .i64 (qq.n 5), .int .i64 (qq.n 6), .int .i64 (qq.n 7), .int .i64 (qq.n 8), .int .i64 (qq.n 9), .int .i64 (qq.n 10), .slice qq.aa qq.af.length qq.ac, .int .i64 (qq.n 11), .int .i64 (qq.n 12), .int .i64 (qq.n 13), .int .i64 (qq.n 14)] 26 (0, 0)) := by rw [← hw6]; exact setRow_heap _ _ _ _ _ _ (by repeat (first | (refine heap_top (by first | omega | (simp only [World.size_alloc]; done) | (simp only [World.size_alloc]; omega))) | refine heap_up ?_))
           clear hw6))
      obtain ⟨g10, hg10⟩ : ∃ g, g = w5.heap.size := ⟨_, rfl⟩
      rw [← hg10] at hg6 ⊢
      have HX6 : Hid (BoxQ w6 g10 qq) := Lib.hid ⟨hg6⟩
      have HB6 := Lib.hid (HB5.out.on hb6)
      have HR6 := Lib.hid (HR5.out.on hb6)
      have hW6 : Below w.heap.size w w6 := hW5.trans (hb6.mono hW5.size)
      have hz6 := HX6.out.lt
      have hgl10 : gl < g10 := by omega
      have HG10 := Lib.hid hg10
      clear HB5 HR5 hb6 hg6 hg10
      have HQ0 : Hid (BoxQ w6 g10 { qq with aa := none, ac := 0, af := (depsS 0 (withinS 0 4 rf.2).2).1 }) := Lib.hid (by rw [HQQ.out] at HX6 ⊢; exact HX6.out)
      have hm4 := withinS_le (lo := 0) (hi := 4) (s := rf.2)
      have hdl := depsS_len (withinS 0 4 rf.2).1 (withinS 0 4 rf.2).2
      have HRD : Hid (rd = depsS (withinS 0 4 rf.2).1 (withinS 0 4 rf.2).2) := Lib.hid (by rw [HDE.out, if_pos HNE.out])
      have KM := HMANY.out rf.2 gr w6 HR6.out
      clear HX6 HMANY
      generalize withinS 0 4 rf.2 = wm at KM HQ0 hm4 HRD hdl
      obtain ⟨m, s5⟩ := wm
      simp only at KM HQ0 hm4 HRD hdl
      have hk1' := hk1.out
      go_wp2_with fail
      clear hk1'
      refine KM.mono ?_; rintro e w7 ⟨rfl, hr7, hk7⟩
      have HX7 := Lib.hid (HQ0.out.grown hk7 (fun h => by injection h with h; omega))
      have HB7 := Lib.hid (HB6.out.grown hk7 (fun h => by injection h with h; omega))
      have HR7 := Lib.hid hr7
      have hW7 : Below w.heap.size w w7 := hW6.grown hk7 hW6.size (fun j hj => by injection hj with hj; omega)
      have hz7 := hk7.size
      have HDL := Lib.hid hdl
      clear KM hr7 hk7 HQ0 HB6 HR6 hdl
      obtain ⟨B, hB⟩ : ∃ B, B = w7.heap.size := ⟨_, rfl⟩
      have hBg : g10 < B := by omega
      have hBw : B ≤ w7.heap.size := by omega
      have hBW : w.heap.size ≤ B := by have := hW7.size; omega
      have HBB := Lib.hid hB
      clear hB
      go_wp2_with fail
      go_loopw [12] (fun v12 wr => ∃ (k : Nat) (A : Option Addr) (c : Nat), k ≤ m ∧ v12 = .int .i64 (k : Int) ∧ Hid (BoxQ wr g10 { qq with aa := A, ac := c, af := (depsS k s5).1 }) ∧ Hid (wr.ownsRow B 53 2 (.slice A k c) k (depsV (depsS k s5).1)) ∧ Hid (RefS wr gr a cap b (depsS k s5).2) ∧ Hid (BoxQ wr g2 (bareQ 0 0)) ∧ Below w.heap.size w wr ∧ B ≤ wr.heap.size) (fun v12 _ => m - (intOf v12).toNat)
      case atStart => exact ⟨0, none, 0, Nat.zero_le _, rfl, HX7, Lib.hid (World.ownsRow_nil _ _ _ _), HR7, HB7, hW7, hBw⟩
      case round =>
        obtain ⟨k, A, c, hk, rfl, HX, HO, HR, HB, hbw, hBr⟩ := hrel
        have hz := hbw.size
        clear HX7 HR7 HB7 hW7 hBw
        by_cases hlt : k < m
        · have HDK : Hid ((depsS (k + 1) s5).1 = (depsS k s5).1 ++ [(((numS (depsS k s5).2).1 : Int), decide ((withinS 0 1 (numS (depsS k s5).2).2).1 = 1))] ∧ (depsS (k + 1) s5).2 = (withinS 0 1 (numS (depsS k s5).2).2).2) := Lib.hid ⟨rfl, rfl⟩
          have HDN := Lib.hid (depsS_len (k + 1) s5)
          have hdk := depsS_len k s5
          have HDK0 := Lib.hid hdk
          clear hdk
          have KN := HNUM.out (depsS k s5).2 gr wr HR.out
          generalize depsS k s5 = D at HX HO HR HDK KN HDK0
          obtain ⟨da, s6⟩ := D
          simp only at HX HO HR HDK KN HDK0
          have KO := Lib.hid (fun w' h => HOK.out (numS s6).2 gr w' h)
          generalize numS s6 = r2 at KN KO HDK
          obtain ⟨n2, s7⟩ := r2
          simp only at KN KO HDK
          generalize withinS 0 1 s7 = r3 at KO HDK
          obtain ⟨n3, s8⟩ := r3
          simp only at KO HDK
          go_wp2_with fail
          refine KN.mono ?_; rintro e w8 ⟨rfl, hr8, hk8⟩
          have HX8 := Lib.hid (HX.out.grown hk8 (fun h => by injection h with h; omega))
          have HB8 := Lib.hid (HB.out.grown hk8 (fun h => by injection h with h; omega))
          have HO8 := Lib.hid (HO.out.kept hk8 (.inr (fun e => by have := (HO.out.lt _ e).1; omega)))
          have HR8 := Lib.hid hr8
          have hW8 : Below w.heap.size w w8 := hbw.grown hk8 hz (fun j hj => by injection hj with hj; omega)
          have hz8 := hk8.size
          clear KN hr8 hk8 HX HB HO HR
          go_wp2_with fail
          have HD9 : Row (w8.alloc (.cells #[.int .i64 (n2 : Int), .bool false] 53)) w8.heap.size 53 #[.int .i64 (n2 : Int), .bool false] := Row.new rfl _ _
          obtain ⟨g13, hg13⟩ : ∃ g, g = w8.heap.size := ⟨_, rfl⟩
          rw [← hg13] at HD9 ⊢
          generalize hw9 : World.alloc w8 _ = w9 at HD9 ⊢
          have hb9 : Below w8.heap.size w8 w9 := by rw [← hw9]; exact (by repeat' (first | exact Below.refl _ _ | assumption | exact And.left (by assumption) | refine Below.drew ?_ | refine below_drewN ?_ _ | refine Below.setCell ?_ (by first | (simp; done) | (simp; omega) | omega) _ | refine Below.alloc ?_ (by first | (simp; done) | (simp; omega) | omega) _ | refine after (by assumption) (by first | (simp; done) | (simp; omega) | omega) ?_))
          have HX9 := Lib.hid (HX8.out.on hb9)
          have HB9 := Lib.hid (HB8.out.on hb9)
          have HO9 := Lib.hid (own_later HO8.out hb9)
          have HR9 := Lib.hid (HR8.out.on hb9)
          have HDr9 := Lib.hid HD9
          have hW9 : Below w.heap.size w w9 := hW8.trans (hb9.mono hW8.size)
          have hO13 : Hid (∀ j, (Value.slice A k c).ownBlock = some j → j < g13 ∧ B ≤ j) := Lib.hid (fun j hj => by have := HO8.out.lt j hj; omega)
          have hz9 := hb9.size
          have hlt13 := HD9.lt
          have h13a : w8.heap.size ≤ g13 := by omega
          have HG13 := Lib.hid hg13
          clear hw9 HD9 hb9 HX8 HB8 HO8 HR8 hg13
          refine (KO.out w9 HR9.out).mono ?_; rintro e w10 ⟨rfl, hr10, hk10⟩
          have HX10 := Lib.hid (HX9.out.grown hk10 (fun h => by injection h with h; omega))
          have HB10 := Lib.hid (HB9.out.grown hk10 (fun h => by injection h with h; omega))
          have HO10 := Lib.hid (HO9.out.kept hk10 (.inr (fun e => by have := (hO13.out _ e).2; omega)))
          have HDr10 := Lib.hid (HDr9.out.grown hk10 (fun h => by injection h with h; omega))
          have hW10 : Below w.heap.size w w10 := hW9.grown hk10 hW9.size (fun j hj => by injection hj with hj; omega)
          have hz10 := hk10.size
          have e0 : w10.cell? ⟨g13, 0, none⟩ = some (.int .i64 (n2 : Int)) := (HDr10.out.cell 0).trans rfl
          have e1 : w10.cell? ⟨g13, 1, none⟩ = some (.bool false) := (HDr10.out.cell 1).trans rfl
          have ef := HDr10.out.thaw
          have hb3 : Hid (((n3 : Int) == 1) = decide (n3 = 1)) := Lib.hid (by rw [Bool.eq_iff_iff]; simp; omega)
          have hb4 := hb3.out
          generalize decide (n3 = 1) = ok at hb4 HDK
          have HX11 : Hid (BoxQ (w10.setCell ⟨g13, 1, none⟩ (.bool ok)) g10 { qq with aa := A, ac := c, af := da }) := Lib.hid (HX10.out.grown (grown_put (g := g13) 1 _) (fun h => by injection h with h; omega))
          have HB11 : Hid (BoxQ (w10.setCell ⟨g13, 1, none⟩ (.bool ok)) g2 (bareQ 0 0)) := Lib.hid (HB10.out.grown (grown_put (g := g13) 1 _) (fun h => by injection h with h; omega))
          have HO11 : Hid ((w10.setCell ⟨g13, 1, none⟩ (.bool ok)).ownsRow B 53 2 (.slice A k c) k (depsV da)) := Lib.hid (HO10.out.kept (grown_put (g := g13) 1 _) (.inr (fun e => by have := (hO13.out _ e).1; omega)))
          have HR11 : Hid (RefS (w10.setCell ⟨g13, 1, none⟩ (.bool ok)) gr a cap b s8) := Lib.hid (hr10.grown (grown_put (g := g13) 1 _) (fun h => by injection h with h; omega) (fun bl off e hne h => by have := HAB.out bl off e hne; injection h with h; omega))
          have hW11 : Below w.heap.size w (w10.setCell ⟨g13, 1, none⟩ (.bool ok)) := hW10.setCell (by simp; omega) _
          have hx12 : (w10.setCell ⟨g13, 1, none⟩ (.bool ok)).cell? ⟨g10, 12, none⟩ = some (.slice A k c) := by
            have := HX11.out.c12
            simp only at this
            rwa [HDK0.out] at this
          have hzB : B ≤ (w10.setCell ⟨g13, 1, none⟩ (.bool ok)).heap.size := by simp; omega
          have hzA : (w10.setCell ⟨g13, 1, none⟩ (.bool ok)).heap.size = w10.heap.size := by simp
          have HZA := Lib.hid hzA
          clear hr10 hk10 HX9 HB9 HO9 HR9 HDr9 HX10 HB10 HO10 KO hb3 hzA
          go_wp2_with (at_builtin; refine pushD _ _ B k _ ((n2 : Int), ok) _ _ (w10.setCell ⟨g13, 1, none⟩ (.bool ok)) _ rfl rfl rfl rfl (by simp) HO11.out hzB (by omega) ?_)
          intro v12 w12 hown12 hg12
          have hg12' : (w10.setCell ⟨g13, 1, none⟩ (.bool ok)).grownBy w12 (Value.slice A k c).ownBlock := grown_own (below_grown (grown_refl _ _) ((Below.refl _ _).alloc (Nat.le_refl _) _)) hg12 (fun j hj => .inr hj)
          have HX12 := Lib.hid (HX11.out.grown hg12' (fun h => by have := (hO13.out _ h.symm).2; omega))
          have HB12 := Lib.hid (HB11.out.grown hg12' (fun h => by have := (hO13.out _ h.symm).2; omega))
          have HR12 := Lib.hid (HR11.out.grown hg12' (fun h => by have := (hO13.out _ h.symm).2; omega) (fun bl off e hne h => by have := HAB.out bl off e hne; have := (hO13.out _ h.symm).2; omega))
          have hW12 : Below w.heap.size w w12 := hW11.grown hg12' hW11.size (fun j hj => by have := (hO13.out _ hj).2; omega)
          obtain ⟨A12, c12, rfl, hrow12, hs12⟩ := own_formS hown12
          have HO12 := Lib.hid hown12
          have hz12 := hg12'.size
          have u12 := HX12.out.c12
          have uf := HX12.out.thaw 12
          have hlt12 := HX12.out.lt
          have HX14 : Hid (BoxQ (w12.setCell ⟨g10, 12, none⟩ (.slice A12 (k + 1) c12)) g10 { qq with aa := A12, ac := c12, af := (depsS (k + 1) s5).1 }) := Lib.hid (by
            have := HX12.out.putA A12 c12 (depsS (k + 1) s5).1
            rw [HDN.out] at this
            exact this)
          have HB14 : Hid (BoxQ (w12.setCell ⟨g10, 12, none⟩ (.slice A12 (k + 1) c12)) g2 (bareQ 0 0)) := Lib.hid (HB12.out.grown (grown_put (g := g10) 12 _) (fun h => by injection h with h; omega))
          have HO14 : Hid ((w12.setCell ⟨g10, 12, none⟩ (.slice A12 (k + 1) c12)).ownsRow B 53 2 (.slice A12 (k + 1) c12) (k + 1) (depsV (depsS (k + 1) s5).1)) := Lib.hid (by
            rw [HDK.out.1]
            exact HO12.out.kept (grown_put (g := g10) 12 _) (.inr (fun e => by have := (HO12.out.lt _ e).1; omega)))
          have HR14 : Hid (RefS (w12.setCell ⟨g10, 12, none⟩ (.slice A12 (k + 1) c12)) gr a cap b (depsS (k + 1) s5).2) := Lib.hid (by
            rw [HDK.out.2]
            exact HR12.out.grown (grown_put (g := g10) 12 _) (fun h => by injection h with h; omega) (fun bl off e hne h => by have := HAB.out bl off e hne; injection h with h; omega))
          have hW14 : Below w.heap.size w (w12.setCell ⟨g10, 12, none⟩ (.slice A12 (k + 1) c12)) := hW12.setCell (by simp; omega) _
          have hB14 : B ≤ (w12.setCell ⟨g10, 12, none⟩ (.slice A12 (k + 1) c12)).heap.size := by have := HZA.out; simp; omega
          clear hown12 hrow12 hs12 hg12 hg12' HX11 HB11 HO11 HR11 HX12 HB12 HR12 HO12 hx12 e0 e1 ef hb4 HDK HDr10
          go_wp2
          go_roundw
          case rel => exact ⟨k + 1, A12, c12, by omega, by go_num, HX14, HO14, HR14, HB14, hW14, hB14⟩
          case measure => simp [intOf]; omega
        · have hkm : k = m := by omega
          subst hkm
          obtain ⟨A8, c8, hv8, hrow8, hs8⟩ := own_formS HO.out
          injection hv8 with hv1 hv2 hv3
          subst hv1 hv3
          obtain ⟨q9, hq9⟩ : ∃ q9, q9 = ({ qq with aa := A, ac := c, af := (depsS k s5).1 } : Rq) := ⟨_, rfl⟩
          rw [← hq9] at HX
          have HTO0 : Hid (∀ w', readE b = 0 → Below w.heap.size w w' → RowAt w' q9.aa (depsV q9.af) → ReadTo b w (.returned (.tuple #[.agg #[.int .i64 q9.kind, .int .i64 q9.key, .int .i64 (q9.n 1), .int .i64 (q9.n 2), .int .i64 (q9.n 3), .int .i64 (q9.n 4), .int .i64 (q9.n 5), .int .i64 (q9.n 6), .int .i64 (q9.n 7), .int .i64 (q9.n 8), .int .i64 (q9.n 9), .int .i64 (q9.n 10), .slice q9.aa q9.af.length q9.ac, .int .i64 (q9.n 11), .int .i64 (q9.n 12), .int .i64 (q9.n 13), .int .i64 (q9.n 14)], .int .i64 0])) w') := Lib.hid (fun w' he h1 h2 => by
            have hq := HRQ.out A c he
            have h9 : q9 = ⟨kk, key, rf.1, A, c, rd.1⟩ := by rw [hq9, HQQ.out, HRD.out]
            rw [← h9] at hq
            refine ⟨A, c, ?_, ?_, h1⟩
            · rw [hq, he]; rfl
            · rw [hq]; exact h2)
          have HSQ : Hid (∀ b off, q9.aa = some ⟨b, off, none⟩ → b ≠ g2) := Lib.hid (fun b off e => by
            rw [hq9] at e
            have e' : A = some ⟨b, off, none⟩ := e
            have := (HO.out.lt b (by rw [e']; rfl)).1
            omega)
          have HROW : Hid (RowAt wr q9.aa (depsV q9.af)) := Lib.hid (by rw [hq9]; exact hrow8)
          rw [HRD.out] at HE
          have HE : Hid (readE b = endS (depsS k s5).2) := HE
          clear HRD HRQ HDE HO hrow8 hs8 hv2 hq9
          generalize (depsS k s5).2 = rf9 at HR HE
          go_upto_region 23 with fail
          have yE := HR.out.err
          obtain ⟨rl, er⟩ := rf9
          by_cases her : er = 0
          · subst her
            have KL := HLEFT.out rl gr wr HR.out
            by_cases hrl : 0 < rl.length
            · have HEE : Hid (readE b = 11) := Lib.hid (by rw [HE.out]; exact if_pos ⟨rfl, hrl⟩)
              have hrl' : (0 : Int) < (rl.length : Int) := by omega
              go_wp2_with fail
              refine KL.mono ?_; rintro e w10 ⟨rfl, nd, rfl⟩
              clear KL
              have HR10 := Lib.hid (HR.out.on (below_drewN (Below.refl _ wr) nd))
              have HB10 := Lib.hid (HB.out.on (below_drewN (Below.refl _ wr) nd))
              have hW10 : Below w.heap.size w (wr.drewN nd) := below_drewN hbw nd
              generalize wr.drewN nd = w10 at HR10 HB10 hW10 ⊢
              have y10 : w10.cell? ⟨gr, 2, none⟩ = some (.int .i64 ((0 : Nat) : Int)) := HR10.out.err
              have f10 : w10.frozen? ⟨gr, 2, none⟩ = false := by obtain ⟨x, h⟩ := HR10.out; exact h.row.thaw 2
              have hlt10 := HR10.out.lt
              have HR11 := Lib.hid (HR10.out.fail 11 (by decide))
              have y11 : (w10.setCell ⟨gr, 2, none⟩ (.int .i64 11)).cell? ⟨gr, 2, none⟩ = some (.int .i64 11) := HR11.out.err
              have HB11 : Hid (BoxQ (w10.setCell ⟨gr, 2, none⟩ (.int .i64 11)) g2 (bareQ 0 0)) := Lib.hid (HB10.out.grown (grown_put (g := gr) 2 _) (fun h => by injection h with h; omega))
              have hW11 : Below w.heap.size w (w10.setCell ⟨gr, 2, none⟩ (.int .i64 11)) := hW10.setCell (by simp; omega) _
              clear yE HR11
              go_wp2_with fail
              clear y10 f10 hlt10 HR10 HB10 hW10
              generalize World.setCell w10 ⟨gr, 2, none⟩ (.int .i64 11) = W11 at y11 HB11 hW11 ⊢
              have hgt := HB11.out.lt
              have f1 := HB11.out.thaw
              have z0 : W11.cell? ⟨g2, 0, none⟩ = some (.int .i64 0) := HB11.out.c0
              have z1 : W11.cell? ⟨g2, 1, none⟩ = some (.int .i64 0) := HB11.out.c1
              have z2 : W11.cell? ⟨g2, 2, none⟩ = some (.int .i64 0) := HB11.out.c2
              have z3 : W11.cell? ⟨g2, 3, none⟩ = some (.int .i64 0) := HB11.out.c3
              have z4 : W11.cell? ⟨g2, 4, none⟩ = some (.int .i64 0) := HB11.out.c4
              have z5 : W11.cell? ⟨g2, 5, none⟩ = some (.int .i64 0) := HB11.out.c5
              have z6 : W11.cell? ⟨g2, 6, none⟩ = some (.int .i64 0) := HB11.out.c6
              have z7 : W11.cell? ⟨g2, 7, none⟩ = some (.int .i64 0) := HB11.out.c7
              have z8 : W11.cell? ⟨g2, 8, none⟩ = some (.int .i64 0) := HB11.out.c8
              have z9 : W11.cell? ⟨g2, 9, none⟩ = some (.int .i64 0) := HB11.out.c9
              have z10 : W11.cell? ⟨g2, 10, none⟩ = some (.int .i64 0) := HB11.out.c10
              have z11 : W11.cell? ⟨g2, 11, none⟩ = some (.int .i64 0) := HB11.out.c11
              have z12 : W11.cell? ⟨g2, 12, none⟩ = some (.slice none 0 0) := HB11.out.c12
              have z13 : W11.cell? ⟨g2, 13, none⟩ = some (.int .i64 0) := HB11.out.c13
              have z14 : W11.cell? ⟨g2, 14, none⟩ = some (.int .i64 0) := HB11.out.c14
              have z15 : W11.cell? ⟨g2, 15, none⟩ = some (.int .i64 0) := HB11.out.c15
              have z16 : W11.cell? ⟨g2, 16, none⟩ = some (.int .i64 0) := HB11.out.c16
              have HZ : Hid (Row (((((((((((((((((W11.setCell ⟨g2, 0, none⟩ (.int .i64 0)).setCell ⟨g2, 1, none⟩ (.int .i64 0)).setCell ⟨g2, 2, none⟩ (.int .i64 0)).setCell ⟨g2, 3, none⟩ (.int .i64 0)).setCell ⟨g2, 4, none⟩ (.int .i64 0)).setCell ⟨g2, 5, none⟩ (.int .i64 0)).setCell ⟨g2, 6, none⟩ (.int .i64 0)).setCell ⟨g2, 7, none⟩ (.int .i64 0)).setCell ⟨g2, 8, none⟩ (.int .i64 0)).setCell ⟨g2, 9, none⟩ (.int .i64 0)).setCell ⟨g2, 10, none⟩ (.int .i64 0)).setCell ⟨g2, 11, none⟩ (.int .i64 0)).setCell ⟨g2, 12, none⟩ (.slice none 0 0)).setCell ⟨g2, 13, none⟩ (.int .i64 0)).setCell ⟨g2, 14, none⟩ (.int .i64 0)).setCell ⟨g2, 15, none⟩ (.int .i64 0)).setCell ⟨g2, 16, none⟩ (.int .i64 0)) g2 26 #[.int .i64 0, .int .i64 0, .int .i64 0, .int .i64 0, .int .i64 0, .int .i64 0, .int .i64 0, .int .i64 0, .int .i64 0, .int .i64 0, .int .i64 0, .int .i64 0, .slice none 0 0, .int .i64 0, .int .i64 0, .int .i64 0, .int .i64 0]) := Lib.hid (((((((((((((((((HB11.out.row.put_same 0 rfl).put_same 1 rfl).put_same 2 rfl).put_same 3 rfl).put_same 4 rfl).put_same 5 rfl).put_same 6 rfl).put_same 7 rfl).put_same 8 rfl).put_same 9 rfl).put_same 10 rfl).put_same 11 rfl).put_same 12 rfl).put_same 13 rfl).put_same 14 rfl).put_same 15 rfl).put_same 16 rfl)
              have hbz : Below w.heap.size w (World.drew (((((((((((((((((W11.setCell ⟨g2, 0, none⟩ (.int .i64 0)).setCell ⟨g2, 1, none⟩ (.int .i64 0)).setCell ⟨g2, 2, none⟩ (.int .i64 0)).setCell ⟨g2, 3, none⟩ (.int .i64 0)).setCell ⟨g2, 4, none⟩ (.int .i64 0)).setCell ⟨g2, 5, none⟩ (.int .i64 0)).setCell ⟨g2, 6, none⟩ (.int .i64 0)).setCell ⟨g2, 7, none⟩ (.int .i64 0)).setCell ⟨g2, 8, none⟩ (.int .i64 0)).setCell ⟨g2, 9, none⟩ (.int .i64 0)).setCell ⟨g2, 10, none⟩ (.int .i64 0)).setCell ⟨g2, 11, none⟩ (.int .i64 0)).setCell ⟨g2, 12, none⟩ (.slice none 0 0)).setCell ⟨g2, 13, none⟩ (.int .i64 0)).setCell ⟨g2, 14, none⟩ (.int .i64 0)).setCell ⟨g2, 15, none⟩ (.int .i64 0)).setCell ⟨g2, 16, none⟩ (.int .i64 0))) := Below.drew (((((((((((((((((hW11.setCell hg2 _).setCell hg2 _).setCell hg2 _).setCell hg2 _).setCell hg2 _).setCell hg2 _).setCell hg2 _).setCell hg2 _).setCell hg2 _).setCell hg2 _).setCell hg2 _).setCell hg2 _).setCell hg2 _).setCell hg2 _).setCell hg2 _).setCell hg2 _).setCell hg2 _)
              have HGZ := Lib.hid HZ.out.drewn.heap_
              clear HZ
              go_region
              go_wp2
              generalize World.drew (((((((((((((((((W11.setCell ⟨g2, 0, none⟩ (.int .i64 0)).setCell ⟨g2, 1, none⟩ (.int .i64 0)).setCell ⟨g2, 2, none⟩ (.int .i64 0)).setCell ⟨g2, 3, none⟩ (.int .i64 0)).setCell ⟨g2, 4, none⟩ (.int .i64 0)).setCell ⟨g2, 5, none⟩ (.int .i64 0)).setCell ⟨g2, 6, none⟩ (.int .i64 0)).setCell ⟨g2, 7, none⟩ (.int .i64 0)).setCell ⟨g2, 8, none⟩ (.int .i64 0)).setCell ⟨g2, 9, none⟩ (.int .i64 0)).setCell ⟨g2, 10, none⟩ (.int .i64 0)).setCell ⟨g2, 11, none⟩ (.int .i64 0)).setCell ⟨g2, 12, none⟩ (.slice none 0 0)).setCell ⟨g2, 13, none⟩ (.int .i64 0)).setCell ⟨g2, 14, none⟩ (.int .i64 0)).setCell ⟨g2, 15, none⟩ (.int .i64 0)).setCell ⟨g2, 16, none⟩ (.int .i64 0)) = wz at HGZ hbz ⊢
              refine bodyPost_ret (results_cell_tmp_row Try.results15 _ _ g2 26 #[.int .i64 0, .int .i64 0, .int .i64 0, .int .i64 0, .int .i64 0, .int .i64 0, .int .i64 0, .int .i64 0, .int .i64 0, .int .i64 0, .int .i64 0, .int .i64 0, .slice none 0 0, .int .i64 0, .int .i64 0, .int .i64 0, .int .i64 0] (0, 0) _ rfl HGZ.out Try.underlying26 rfl (by kernel_rfl)) rfl ?_
              exact read_to_no 11 (by decide) HEE.out hbz
            · have HEE : Hid (readE b = 0) := Lib.hid (by rw [HE.out]; exact if_neg (fun x => hrl x.2))
              have hrl' : ¬ (0 : Int) < (rl.length : Int) := by omega
              have HTO : Hid (∀ w', Below w.heap.size w w' → RowAt w' q9.aa (depsV q9.af) → ReadTo b w (.returned (.tuple #[.agg #[.int .i64 q9.kind, .int .i64 q9.key, .int .i64 (q9.n 1), .int .i64 (q9.n 2), .int .i64 (q9.n 3), .int .i64 (q9.n 4), .int .i64 (q9.n 5), .int .i64 (q9.n 6), .int .i64 (q9.n 7), .int .i64 (q9.n 8), .int .i64 (q9.n 9), .int .i64 (q9.n 10), .slice q9.aa q9.af.length q9.ac, .int .i64 (q9.n 11), .int .i64 (q9.n 12), .int .i64 (q9.n 13), .int .i64 (q9.n 14)], .int .i64 0])) w') := Lib.hid (fun w' h1 h2 => HTO0.out w' HEE.out h1 h2)
              go_wp2_with fail
              refine KL.mono ?_; rintro e w10 ⟨rfl, nd, rfl⟩
              clear KL
              have HR10 := Lib.hid (HR.out.on (below_drewN (Below.refl _ wr) nd))
              have HB10 := Lib.hid (HB.out.on (below_drewN (Below.refl _ wr) nd))
              have HX10 := Lib.hid (HX.out.on (below_drewN (Below.refl _ wr) nd))
              have HW10 := Lib.hid (HROW.out.later (below_drewN (Below.refl _ wr) nd))
              have hW10 : Below w.heap.size w (wr.drewN nd) := below_drewN hbw nd
              generalize wr.drewN nd = w10 at HR10 HB10 HX10 HW10 hW10 ⊢
              have y10 : w10.cell? ⟨gr, 2, none⟩ = some (.int .i64 ((0 : Nat) : Int)) := HR10.out.err
              have HBh : Hid (w10.heap[g2]? = some (.cells #[.int .i64 0, .int .i64 0, .int .i64 0, .int .i64 0, .int .i64 0, .int .i64 0, .int .i64 0, .int .i64 0, .int .i64 0, .int .i64 0, .int .i64 0, .int .i64 0, .slice none 0 0, .int .i64 0, .int .i64 0, .int .i64 0, .int .i64 0] 26 (0, 0))) := Lib.hid HB10.out.row
              clear yE
              go_wp2_with (first
                | (refine wpList_store_row rfl 26 (.tmp 2) (.tmp 104) rfl g2 _ rfl rfl 26 _ HBh.out (by kernel_rfl) (by simp) (by simp [Value.oneCell']) ?_
                   generalize hwz : World.setRow _ _ _ = wz
                   have hbz : Below w.heap.size w wz := by rw [← hwz]; exact below_setRow hW10 hg2 _
                   have hgz9 : wz.heap[g2]? = some (.cells #[.int .i64 q9.kind, .int .i64 q9.key, .int .i64 (q9.n 1), .int .i64 (q9.n 2), .int .i64 (q9.n 3), .int .i64 (q9.n 4), .int .i64 (q9.n 5), .int .i64 (q9.n 6), .int .i64 (q9.n 7), .int .i64 (q9.n 8), .int .i64 (q9.n 9), .int .i64 (q9.n 10), .slice q9.aa q9.af.length q9.ac, .int .i64 (q9.n 11), .int .i64 (q9.n 12), .int .i64 (q9.n 13), .int .i64 (q9.n 14)] 26 (0, 0)) := by rw [← hwz]; exact setRow_heap _ _ _ _ _ _ HBh.out
                   have HRZ : Hid (RowAt wz q9.aa (depsV q9.af)) := Lib.hid (by rw [← hwz]; exact row_setRow HW10.out (fun b off e _ => HSQ.out b off e) _)
                   clear hwz)
                | refine wpList_load_q (q := q9) rfl (.tmp 10) rfl rfl HX10.out ?_)
              refine bodyPost_ret (results_cell_tmp_row Try.results15 _ _ g2 _ _ _ _ rfl hgz9 Try.underlying26 rfl (by kernel_rfl)) rfl ?_
              exact HTO.out wz hbz HRZ.out
          · have HEE : Hid (readE b = er) := Lib.hid (by rw [HE.out]; exact if_neg (fun x => her x.1))
            have q0 : ¬ ((er : Int) = 0) := by omega
            have q1 : ((er : Int) == 0) = false := by simpa using q0
            have q2 : ((er : Int) != 0) = true := by simpa using q0
            clear q0
            go_wp2_with fail
            have hgt := HB.out.lt
            have f1 := HB.out.thaw
            have z0 : wr.cell? ⟨g2, 0, none⟩ = some (.int .i64 0) := HB.out.c0
            have z1 : wr.cell? ⟨g2, 1, none⟩ = some (.int .i64 0) := HB.out.c1
            have z2 : wr.cell? ⟨g2, 2, none⟩ = some (.int .i64 0) := HB.out.c2
            have z3 : wr.cell? ⟨g2, 3, none⟩ = some (.int .i64 0) := HB.out.c3
            have z4 : wr.cell? ⟨g2, 4, none⟩ = some (.int .i64 0) := HB.out.c4
            have z5 : wr.cell? ⟨g2, 5, none⟩ = some (.int .i64 0) := HB.out.c5
            have z6 : wr.cell? ⟨g2, 6, none⟩ = some (.int .i64 0) := HB.out.c6
            have z7 : wr.cell? ⟨g2, 7, none⟩ = some (.int .i64 0) := HB.out.c7
            have z8 : wr.cell? ⟨g2, 8, none⟩ = some (.int .i64 0) := HB.out.c8
            have z9 : wr.cell? ⟨g2, 9, none⟩ = some (.int .i64 0) := HB.out.c9
            have z10 : wr.cell? ⟨g2, 10, none⟩ = some (.int .i64 0) := HB.out.c10
            have z11 : wr.cell? ⟨g2, 11, none⟩ = some (.int .i64 0) := HB.out.c11
            have z12 : wr.cell? ⟨g2, 12, none⟩ = some (.slice none 0 0) := HB.out.c12
            have z13 : wr.cell? ⟨g2, 13, none⟩ = some (.int .i64 0) := HB.out.c13
            have z14 : wr.cell? ⟨g2, 14, none⟩ = some (.int .i64 0) := HB.out.c14
            have z15 : wr.cell? ⟨g2, 15, none⟩ = some (.int .i64 0) := HB.out.c15
            have z16 : wr.cell? ⟨g2, 16, none⟩ = some (.int .i64 0) := HB.out.c16
            have HZ : Hid (Row (((((((((((((((((wr.setCell ⟨g2, 0, none⟩ (.int .i64 0)).setCell ⟨g2, 1, none⟩ (.int .i64 0)).setCell ⟨g2, 2, none⟩ (.int .i64 0)).setCell ⟨g2, 3, none⟩ (.int .i64 0)).setCell ⟨g2, 4, none⟩ (.int .i64 0)).setCell ⟨g2, 5, none⟩ (.int .i64 0)).setCell ⟨g2, 6, none⟩ (.int .i64 0)).setCell ⟨g2, 7, none⟩ (.int .i64 0)).setCell ⟨g2, 8, none⟩ (.int .i64 0)).setCell ⟨g2, 9, none⟩ (.int .i64 0)).setCell ⟨g2, 10, none⟩ (.int .i64 0)).setCell ⟨g2, 11, none⟩ (.int .i64 0)).setCell ⟨g2, 12, none⟩ (.slice none 0 0)).setCell ⟨g2, 13, none⟩ (.int .i64 0)).setCell ⟨g2, 14, none⟩ (.int .i64 0)).setCell ⟨g2, 15, none⟩ (.int .i64 0)).setCell ⟨g2, 16, none⟩ (.int .i64 0)) g2 26 #[.int .i64 0, .int .i64 0, .int .i64 0, .int .i64 0, .int .i64 0, .int .i64 0, .int .i64 0, .int .i64 0, .int .i64 0, .int .i64 0, .int .i64 0, .int .i64 0, .slice none 0 0, .int .i64 0, .int .i64 0, .int .i64 0, .int .i64 0]) := Lib.hid (((((((((((((((((HB.out.row.put_same 0 rfl).put_same 1 rfl).put_same 2 rfl).put_same 3 rfl).put_same 4 rfl).put_same 5 rfl).put_same 6 rfl).put_same 7 rfl).put_same 8 rfl).put_same 9 rfl).put_same 10 rfl).put_same 11 rfl).put_same 12 rfl).put_same 13 rfl).put_same 14 rfl).put_same 15 rfl).put_same 16 rfl)
            have hbz : Below w.heap.size w (World.drew (((((((((((((((((wr.setCell ⟨g2, 0, none⟩ (.int .i64 0)).setCell ⟨g2, 1, none⟩ (.int .i64 0)).setCell ⟨g2, 2, none⟩ (.int .i64 0)).setCell ⟨g2, 3, none⟩ (.int .i64 0)).setCell ⟨g2, 4, none⟩ (.int .i64 0)).setCell ⟨g2, 5, none⟩ (.int .i64 0)).setCell ⟨g2, 6, none⟩ (.int .i64 0)).setCell ⟨g2, 7, none⟩ (.int .i64 0)).setCell ⟨g2, 8, none⟩ (.int .i64 0)).setCell ⟨g2, 9, none⟩ (.int .i64 0)).setCell ⟨g2, 10, none⟩ (.int .i64 0)).setCell ⟨g2, 11, none⟩ (.int .i64 0)).setCell ⟨g2, 12, none⟩ (.slice none 0 0)).setCell ⟨g2, 13, none⟩ (.int .i64 0)).setCell ⟨g2, 14, none⟩ (.int .i64 0)).setCell ⟨g2, 15, none⟩ (.int .i64 0)).setCell ⟨g2, 16, none⟩ (.int .i64 0))) := Below.drew (((((((((((((((((hbw.setCell hg2 _).setCell hg2 _).setCell hg2 _).setCell hg2 _).setCell hg2 _).setCell hg2 _).setCell hg2 _).setCell hg2 _).setCell hg2 _).setCell hg2 _).setCell hg2 _).setCell hg2 _).setCell hg2 _).setCell hg2 _).setCell hg2 _).setCell hg2 _).setCell hg2 _)
            have HGZ := Lib.hid HZ.out.drewn.heap_
            clear HZ
            go_region
            go_wp2
            generalize World.drew (((((((((((((((((wr.setCell ⟨g2, 0, none⟩ (.int .i64 0)).setCell ⟨g2, 1, none⟩ (.int .i64 0)).setCell ⟨g2, 2, none⟩ (.int .i64 0)).setCell ⟨g2, 3, none⟩ (.int .i64 0)).setCell ⟨g2, 4, none⟩ (.int .i64 0)).setCell ⟨g2, 5, none⟩ (.int .i64 0)).setCell ⟨g2, 6, none⟩ (.int .i64 0)).setCell ⟨g2, 7, none⟩ (.int .i64 0)).setCell ⟨g2, 8, none⟩ (.int .i64 0)).setCell ⟨g2, 9, none⟩ (.int .i64 0)).setCell ⟨g2, 10, none⟩ (.int .i64 0)).setCell ⟨g2, 11, none⟩ (.int .i64 0)).setCell ⟨g2, 12, none⟩ (.slice none 0 0)).setCell ⟨g2, 13, none⟩ (.int .i64 0)).setCell ⟨g2, 14, none⟩ (.int .i64 0)).setCell ⟨g2, 15, none⟩ (.int .i64 0)).setCell ⟨g2, 16, none⟩ (.int .i64 0)) = wz at HGZ hbz ⊢
            refine bodyPost_ret (results_cell_tmp_row Try.results15 _ _ g2 26 #[.int .i64 0, .int .i64 0, .int .i64 0, .int .i64 0, .int .i64 0, .int .i64 0, .int .i64 0, .int .i64 0, .int .i64 0, .int .i64 0, .int .i64 0, .int .i64 0, .slice none 0 0, .int .i64 0, .int .i64 0, .int .i64 0, .int .i64 0] (0, 0) _ rfl HGZ.out Try.underlying26 rfl (by kernel_rfl)) rfl ?_
            exact read_to_no er her HEE.out hbz
end Go.Proofs.Ytkeboafejebanaa.W
