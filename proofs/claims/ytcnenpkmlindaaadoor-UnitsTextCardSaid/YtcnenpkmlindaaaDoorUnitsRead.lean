/-
  Contract of units.Read: which vector a text is.
-/
import Derived.Test.YtcnenpkmlindaaaDoorUnitsText
namespace Go.Proofs.YtcnenpkmlindaaaDoor.W
set_option linter.unusedVariables false
set_option linter.unusedSimpArgs false
open Go.ChangeShapes Go.WideShapes Go.ChangeAt Go.RowKit

def readV (l : List UInt8) : V := match readU l with | some ns => vOf ns | none => V.zero
def readE (l : List UInt8) : Int := match readU l with | some _ => 0 | none => 11
theorem readV_some {l : List UInt8} {ns : List Nat} (h : readU l = some ns) : readV l = vOf ns ∧ readE l = 0 := by unfold readV readE; rw [h]; exact ⟨rfl, rfl⟩
theorem readV_none {l : List UInt8} (h : readU l = none) : readV l = V.zero ∧ readE l = 11 := by unfold readV readE; rw [h]; exact ⟨rfl, rfl⟩

/-- a block of the call's own: all that it holds -/
def Row (w : World) (g : Nat) (t : TypeId) (cs : Array Value) : Prop := w.heap[g]? = some (.cells cs t (0, 0))
theorem Row.lt {w : World} {g : Nat} {t : TypeId} {cs : Array Value} (h : Row w g t cs) : g < w.heap.size := (Array.getElem?_eq_some_iff.1 h).1
theorem Row.cell {w : World} {g : Nat} {t : TypeId} {cs : Array Value} (h : Row w g t cs) (i : Nat) : w.cell? ⟨g, i, none⟩ = cs[i]? := cell_of_row w g i cs t (0, 0) h
theorem Row.thaw {w : World} {g : Nat} {t : TypeId} {cs : Array Value} (h : Row w g t cs) (i : Nat) : w.frozen? ⟨g, i, none⟩ = false := by
  unfold Row at h
  simp [World.frozen?, h]
theorem Row.on {w w' : World} {g : Nat} {t : TypeId} {cs : Array Value} (h : Row w g t cs) (hb : Below w.heap.size w w') : Row w' g t cs := (hb.block g h.lt).trans h
theorem Row.put {w : World} {g : Nat} {t : TypeId} {cs : Array Value} (h : Row w g t cs) (i : Nat) (u : Value) : Row (w.setCell ⟨g, i, none⟩ u) g t (cs.setIfInBounds i u) := by
  unfold Row at h ⊢
  simp [World.setCell, Array.getElem?_modify, h]
theorem Row.far {w : World} {g : Nat} {t : TypeId} {cs : Array Value} (h : Row w g t cs) {p : Addr} (hp : g ≠ p.block) (u : Value) : Row (w.setCell p u) g t cs := (Below.heap_setCell w p u g hp).trans h

theorem Row.new {w : World} {g : Nat} (hg : g = w.heap.size) (t : TypeId) (cs : Array Value) : Row (w.alloc (.cells cs t)) g t cs := by subst hg; exact heap_alloc_new w _
theorem Row.alloc {w : World} {g : Nat} {t : TypeId} {cs : Array Value} (h : Row w g t cs) (o : Obj) : Row (w.alloc o) g t cs := (Below.heap_alloc w o g h.lt).trans h
/-- how far a loop over a text that goes on is from its end -/
def leftOf (v0 v6 : Value) : Nat := 2 * (match v0 with | .string s => s.size | _ => 0) + (match v6 with | .bool true => 1 | _ => 0)
theorem leftOf_yes (s : List UInt8) : leftOf (.string (bs s)) (.bool true) = 2 * s.length + 1 := by simp [leftOf, bs_size]
theorem leftOf_no (s : List UInt8) : leftOf (.string (bs s)) (.bool false) = 2 * s.length := by simp [leftOf, bs_size]
def cells4 (ns : List Nat) : Array Value := (ns.map (fun n : Nat => Value.int .i64 (n : Int))).toArray
theorem cells4_at (ns : List Nat) (k : Nat) : (cells4 ns)[k]? = (ns[k]?).map (fun n : Nat => Value.int .i64 (n : Int)) := by simp [cells4]
theorem cells4_set (ns : List Nat) (k n : Nat) : (cells4 ns).setIfInBounds k (.int .i64 (n : Int)) = cells4 (ns.set k n) := by
  apply Array.ext'
  simp [cells4, List.map_set]

set_option maxHeartbeats 4000000 in
set_option maxRecDepth 100000 in
theorem uRead_none (w : World) :
    Calls Tryd.prog 8 #[.string (bs unone)] w fun e w' => e = .returned (.tuple #[(.agg #[.int .i64 V.zero.cpu, .int .i64 V.zero.mem, .int .i64 V.zero.gpu, .int .i64 V.zero.lic]), .int .i64 0]) ∧ Below w.heap.size w w' := by
  have he : ((bs unone).toList == [110, 111, 110, 101]) = true := by rw [Lib.toList_data, bs_list]; rfl
  go_enter Tryd.func8, Tryd.ntmps8
  go_wp2
  refine bodyPost_ret (v := .tuple #[(.agg #[.int .i64 V.zero.cpu, .int .i64 V.zero.mem, .int .i64 V.zero.gpu, .int .i64 V.zero.lic]), .int .i64 0]) (by simp [results, Tryd.results8, go_sem, V.zero, *]) rfl ⟨rfl, (by repeat' (first | exact Below.refl _ _ | assumption | exact And.left (by assumption) | refine Below.drew ?_ | refine below_drewN ?_ _ | refine Below.setCell ?_ (by first | (simp; done) | (simp; omega) | omega) _ | refine Below.alloc ?_ (by first | (simp; done) | (simp; omega) | omega) _ | refine after (by assumption) (by first | (simp; done) | (simp; omega) | omega) ?_))⟩

set_option maxHeartbeats 4000000 in
set_option maxRecDepth 100000 in
theorem uRead_loop (l : List UInt8) (hl : l.length ≤ 1000000) (hne : l ≠ unone) (w : World) (hS : Std w) :
    Calls Tryd.prog 8 #[.string (bs l)] w fun e w' => e = .returned (.tuple #[(.agg #[.int .i64 (readV l).cpu, .int .i64 (readV l).mem, .int .i64 (readV l).gpu, .int .i64 (readV l).lic]), .int .i64 (readE l)]) ∧ Below w.heap.size w w' := by
  have he : ((bs l).toList == [110, 111, 110, 101]) = false := by
    rw [Lib.toList_data, bs_list]
    exact beq_eq_false_iff_ne.mpr hne
  have HL := Lib.hid (goU_start l hne)
  clear hne
  go_enter Tryd.func8, Tryd.ntmps8
  go_wp2
  generalize hw2 : World.alloc _ _ = w2
  have hbB : Below w.heap.size w w2 := by rw [← hw2]; exact (by repeat' (first | exact Below.refl _ _ | assumption | exact And.left (by assumption) | refine Below.drew ?_ | refine below_drewN ?_ _ | refine Below.setCell ?_ (by first | (simp; done) | (simp; omega) | omega) _ | refine Below.alloc ?_ (by first | (simp; done) | (simp; omega) | omega) _ | refine after (by assumption) (by first | (simp; done) | (simp; omega) | omega) ?_))
  have hlt2 : w.heap.size + 2 ≤ w2.heap.size := by rw [← hw2]; simp
  have hR2 : Row w2 w.heap.size 23 (cells4 [0, 0, 0, 0]) := by
    rw [← hw2]
    exact (Row.new rfl _ _).alloc _
  have hN2 : Row w2 (w.heap.size + 1) 37 (cells4 [0, 0, 0, 0]) := by
    rw [← hw2]
    exact Row.new (by simp) _ _
  clear hw2
  go_loopw [0, 5, 6] (fun v0 v5 v6 wr => ∃ (next : Nat) (ns : List Nat) (s : List UInt8) (more : Bool), v0 = .string (bs s) ∧ v5 = .int .i64 next ∧ v6 = .bool more ∧ s.length ≤ l.length ∧ Hid (late next ns) ∧
    Hid (Row wr w.heap.size 23 (cells4 [0, 0, 0, 0])) ∧ Hid (Row wr (w.heap.size + 1) 37 (cells4 ns)) ∧ Below w.heap.size w wr ∧ w.heap.size + 2 ≤ wr.heap.size ∧
    Hid ((more = true → goU next ns s = readU l) ∧ (more = false → readU l = some ns)))
    (fun v0 v5 v6 wr => leftOf v0 v6)
  case atStart => exact ⟨0, [0, 0, 0, 0], l, true, rfl, rfl, rfl, Nat.le_refl _, Lib.hid late_start, Lib.hid hR2, Lib.hid hN2, hbB, hlt2, Lib.hid ⟨fun _ => HL.out, fun h => by cases h⟩⟩
  case round =>
    obtain ⟨next, ns, s, more, rfl, rfl, rfl, hsl, HLate, HR, HN, hbw, hlt, HG⟩ := hrel
    clear hR2 hN2 hbB hlt2 HL
    have hSr : Std wr := hS.below hbw hS.size hbw.size
    cases more with
    | false =>
      have hout := HG.out.2 rfl
      have HE := Lib.hid (readV_some hout)
      match ns, HLate.out.1 with
      | [p, q, r, t], _ =>
      have g0 := HN.out.cell 0
      have g1 := HN.out.cell 1
      have g2 := HN.out.cell 2
      have g3 := HN.out.cell 3
      have q0 := HR.out.cell 0
      have q1 := HR.out.cell 1
      have q2 := HR.out.cell 2
      have q3 := HR.out.cell 3
      have qf := HR.out.thaw
      simp only [cells4, List.map_cons, List.map_nil, List.getElem?_toArray, List.getElem?_cons_zero, List.getElem?_cons_succ] at g0 g1 g2 g3 q0 q1 q2 q3
      clear HLate HR HN HG hout
      go_wp2
      refine bodyPost_ret (v := .tuple #[.agg #[.int .i64 p, .int .i64 q, .int .i64 r, .int .i64 t], .int .i64 0]) (by simp [results, Tryd.results8, go_sem, *]) rfl ⟨by rw [HE.out.1, HE.out.2]; rfl, (((hbw.setCell (Nat.le_refl _) _).setCell (Nat.le_refl _) _).setCell (Nat.le_refl _) _).setCell (Nat.le_refl _) _⟩
    | true =>
      have HGo := HG.out.1 rfl
      have hl44 := cutAt_len 44 s
      obtain ⟨pt, hpt⟩ : ∃ pt, pt = (cutAt 44 s).1 := ⟨_, rfl⟩
      obtain ⟨rs, hrs⟩ : ∃ rs, rs = (cutAt 44 s).2.1 := ⟨_, rfl⟩
      obtain ⟨mo, hmo⟩ : ∃ mo, mo = (cutAt 44 s).2.2 := ⟨_, rfl⟩
      have hl61 := cutAt_len 61 pt
      obtain ⟨wd, hwd⟩ : ∃ wd, wd = (cutAt 61 pt).1 := ⟨_, rfl⟩
      obtain ⟨dg, hdg⟩ : ∃ dg, dg = (cutAt 61 pt).2.1 := ⟨_, rfl⟩
      obtain ⟨fd, hfd⟩ : ∃ fd, fd = (cutAt 61 pt).2.2 := ⟨_, rfl⟩
      have HC1 := Lib.hid (cCut s 44 wr hSr (by omega))
      rw [← hpt, ← hrs, ← hmo] at HC1 hl44
      have HC2 := Lib.hid (fun w' h' => cCut pt 61 w' h' (by omega))
      rw [← hwd, ← hdg, ← hfd] at HC2
      rw [← hwd, ← hdg] at hl61
      have HNm := Lib.hid (fun w' => unumber dg (by omega) w')
      have HW := Lib.hid uWords
      have HRd := Lib.hid (goU_round next ns s HLate.out)
      rw [← hrs, ← hmo] at HRd
      have hidx : Hid (idxU next s = Lib.idxOfS ((uwords.drop next).map bs) (bs wd)) := Lib.hid (by unfold idxU; rw [← hpt, ← hwd])
      have hnum : Hid (numU s = numL 0 dg) := Lib.hid (by unfold numU; rw [← hpt, ← hdg])
      have hn4 := HLate.out.2.1
      clear hpt hrs hmo hwd hdg hfd HG
      rcases HRd.out with ⟨hi1, hi2⟩ | ⟨k, hk4, hi1, hi2, hi3⟩
      · have HE := Lib.hid (readV_none (HGo.symm.trans hi2))
        by_cases hnx : next < 4
        · have HI : Hid (∀ b w, (∀ j, j < 4 → w.cell? ⟨b, j, none⟩ = some (.string (wordAt j))) → Calls Tryd.prog 17 #[.slice (some ⟨b, next, none⟩) (4 - next) (4 - next), .string (bs wd)] w fun e w' => e = .returned (.int .i64 (-1)) ∧ w = w') := Lib.hid (fun b w hc => by
            have := cIndex b next wd w hnx hc
            rwa [← hidx.out, hi1] at this)
          clear hi1 hi2 HGo HRd hidx hnum
          go_wp2_with fail
          refine (HC1.out).mono ?_; rintro e wA ⟨rfl, hbA⟩
          have hSA := hSr.on hbA
          go_wp2_with fail
          refine (HC2.out _ hSA).mono ?_; rintro e wB ⟨rfl, hbB⟩
          go_wp2_with fail
          refine (HW.out _).mono ?_; rintro e wC ⟨rfl, hbC, hltC, hwC⟩
          have hwC' := Lib.hid hwC
          clear hwC
          go_wp2_with fail
          refine (HI.out _ _ hwC'.out).mono ?_; rintro e w' ⟨rfl, rfl⟩
          go_wp2_with fail
          refine (HNm.out _).mono ?_; rintro e wD ⟨rfl, hbD⟩
          have zA := hbA.size; have zB := hbB.size; have zC := hbC.size; have zD := hbD.size
          have hRD := (((HR.out.on hbA).on hbB).on hbC).on hbD
          have hND := Lib.hid ((((HN.out.on hbA).on hbB).on hbC).on hbD)
          have hbwD : Below w.heap.size w wD := after hbD (by omega) (after hbC (by omega) (after hbB (by omega) (after hbA (by omega) hbw)))
          have q0 := hRD.cell 0
          have q1 := hRD.cell 1
          have q2 := hRD.cell 2
          have q3 := hRD.cell 3
          have qf := hRD.thaw
          have HRD := Lib.hid hRD
          simp only [cells4, List.map_cons, List.map_nil, List.getElem?_toArray, List.getElem?_cons_zero, List.getElem?_cons_succ] at q0 q1 q2 q3
          clear hRD hbA hbB hbC hbD hwC' hSA
          clear hND HRD
          go_wp2
          refine bodyPost_ret (v := .tuple #[(.agg #[.int .i64 V.zero.cpu, .int .i64 V.zero.mem, .int .i64 V.zero.gpu, .int .i64 V.zero.lic]), .int .i64 11]) (by simp [results, Tryd.results8, go_sem, V.zero, *]) rfl ⟨by rw [HE.out.1, HE.out.2], (((hbwD.setCell (Nat.le_refl _) _).setCell (Nat.le_refl _) _).setCell (Nat.le_refl _) _).setCell (Nat.le_refl _) _⟩
        · have hnx4 : next = 4 := by omega
          subst hnx4
          have HI := Lib.hid (fun a c w => cIndex4 a c wd w)
          clear hi1 hi2 HGo HRd hidx hnum
          go_wp2_with fail
          refine (HC1.out).mono ?_; rintro e wA ⟨rfl, hbA⟩
          have hSA := hSr.on hbA
          go_wp2_with fail
          refine (HC2.out _ hSA).mono ?_; rintro e wB ⟨rfl, hbB⟩
          go_wp2_with fail
          refine (HW.out _).mono ?_; rintro e wC ⟨rfl, hbC, hltC, hwC⟩
          have hwC' := Lib.hid hwC
          clear hwC
          go_wp2_with fail
          refine (HI.out _ _ _).mono ?_; rintro e w' ⟨rfl, rfl⟩
          go_wp2_with fail
          refine (HNm.out _).mono ?_; rintro e wD ⟨rfl, hbD⟩
          have zA := hbA.size; have zB := hbB.size; have zC := hbC.size; have zD := hbD.size
          have hRD := (((HR.out.on hbA).on hbB).on hbC).on hbD
          have hND := Lib.hid ((((HN.out.on hbA).on hbB).on hbC).on hbD)
          have hbwD : Below w.heap.size w wD := after hbD (by omega) (after hbC (by omega) (after hbB (by omega) (after hbA (by omega) hbw)))
          have q0 := hRD.cell 0
          have q1 := hRD.cell 1
          have q2 := hRD.cell 2
          have q3 := hRD.cell 3
          have qf := hRD.thaw
          have HRD := Lib.hid hRD
          simp only [cells4, List.map_cons, List.map_nil, List.getElem?_toArray, List.getElem?_cons_zero, List.getElem?_cons_succ] at q0 q1 q2 q3
          clear hRD hbA hbB hbC hbD hwC' hSA
          clear hND HRD
          go_wp2
          refine bodyPost_ret (v := .tuple #[(.agg #[.int .i64 V.zero.cpu, .int .i64 V.zero.mem, .int .i64 V.zero.gpu, .int .i64 V.zero.lic]), .int .i64 11]) (by simp [results, Tryd.results8, go_sem, V.zero, *]) rfl ⟨by rw [HE.out.1, HE.out.2], (((hbwD.setCell (Nat.le_refl _) _).setCell (Nat.le_refl _) _).setCell (Nat.le_refl _) _).setCell (Nat.le_refl _) _⟩
      · have hnx : next < 4 := by omega
        have HI : Hid (∀ b w, (∀ j, j < 4 → w.cell? ⟨b, j, none⟩ = some (.string (wordAt j))) → Calls Tryd.prog 17 #[.slice (some ⟨b, next, none⟩) (4 - next) (4 - next), .string (bs wd)] w fun e w' => e = .returned (.int .i64 (k : Int)) ∧ w = w') := Lib.hid (fun b w hc => by
          have := cIndex b next wd w hnx hc
          rwa [← hidx.out, hi1] at this)
        obtain ⟨n, hn⟩ : ∃ n, n = numU s := ⟨_, rfl⟩
        rw [← hn] at hi2 hi3 hnum
        rw [← hnum.out] at HNm
        by_cases hn0 : n = 0
        · have HE := Lib.hid (readV_none (HGo.symm.trans (hi2 hn0)))
          subst hn0
          clear hi1 hi2 hi3 HGo HRd hidx hnum hn
          go_wp2_with fail
          refine (HC1.out).mono ?_; rintro e wA ⟨rfl, hbA⟩
          have hSA := hSr.on hbA
          go_wp2_with fail
          refine (HC2.out _ hSA).mono ?_; rintro e wB ⟨rfl, hbB⟩
          go_wp2_with fail
          refine (HW.out _).mono ?_; rintro e wC ⟨rfl, hbC, hltC, hwC⟩
          have hwC' := Lib.hid hwC
          clear hwC
          go_wp2_with fail
          refine (HI.out _ _ hwC'.out).mono ?_; rintro e w' ⟨rfl, rfl⟩
          go_wp2_with fail
          refine (HNm.out _).mono ?_; rintro e wD ⟨rfl, hbD⟩
          have zA := hbA.size; have zB := hbB.size; have zC := hbC.size; have zD := hbD.size
          have hRD := (((HR.out.on hbA).on hbB).on hbC).on hbD
          have hND := Lib.hid ((((HN.out.on hbA).on hbB).on hbC).on hbD)
          have hbwD : Below w.heap.size w wD := after hbD (by omega) (after hbC (by omega) (after hbB (by omega) (after hbA (by omega) hbw)))
          have q0 := hRD.cell 0
          have q1 := hRD.cell 1
          have q2 := hRD.cell 2
          have q3 := hRD.cell 3
          have qf := hRD.thaw
          have HRD := Lib.hid hRD
          simp only [cells4, List.map_cons, List.map_nil, List.getElem?_toArray, List.getElem?_cons_zero, List.getElem?_cons_succ] at q0 q1 q2 q3
          clear hRD hbA hbB hbC hbD hwC' hSA
          clear hND HRD
          go_wp2
          refine bodyPost_ret (v := .tuple #[(.agg #[.int .i64 V.zero.cpu, .int .i64 V.zero.mem, .int .i64 V.zero.gpu, .int .i64 V.zero.lic]), .int .i64 11]) (by simp [results, Tryd.results8, go_sem, V.zero, *]) rfl ⟨by rw [HE.out.1, HE.out.2], (((hbwD.setCell (Nat.le_refl _) _).setCell (Nat.le_refl _) _).setCell (Nat.le_refl _) _).setCell (Nat.le_refl _) _⟩
        · obtain ⟨hla, hyes, hno⟩ := hi3 hn0
          have HLa := Lib.hid hla
          have HY := Lib.hid (fun h => (hyes h).symm.trans HGo)
          have HNo := Lib.hid (fun h => HGo.symm.trans (hno h))
          have hns4 := HLate.out.1
          obtain ⟨old, hold⟩ : ∃ old, ns[next + k]? = some old := ⟨_, List.getElem?_eq_getElem (by omega)⟩
          clear hi1 hi2 hi3 HGo HRd hidx hnum hn hla hyes hno
          go_wp2_with fail
          refine (HC1.out).mono ?_; rintro e wA ⟨rfl, hbA⟩
          have hSA := hSr.on hbA
          go_wp2_with fail
          refine (HC2.out _ hSA).mono ?_; rintro e wB ⟨rfl, hbB⟩
          go_wp2_with fail
          refine (HW.out _).mono ?_; rintro e wC ⟨rfl, hbC, hltC, hwC⟩
          have hwC' := Lib.hid hwC
          clear hwC
          go_wp2_with fail
          refine (HI.out _ _ hwC'.out).mono ?_; rintro e w' ⟨rfl, rfl⟩
          go_wp2_with fail
          refine (HNm.out _).mono ?_; rintro e wD ⟨rfl, hbD⟩
          have zA := hbA.size; have zB := hbB.size; have zC := hbC.size; have zD := hbD.size
          have hRD := (((HR.out.on hbA).on hbB).on hbC).on hbD
          have hND := Lib.hid ((((HN.out.on hbA).on hbB).on hbC).on hbD)
          have hbwD : Below w.heap.size w wD := after hbD (by omega) (after hbC (by omega) (after hbB (by omega) (after hbA (by omega) hbw)))
          have q0 := hRD.cell 0
          have q1 := hRD.cell 1
          have q2 := hRD.cell 2
          have q3 := hRD.cell 3
          have qf := hRD.thaw
          have HRD := Lib.hid hRD
          simp only [cells4, List.map_cons, List.map_nil, List.getElem?_toArray, List.getElem?_cons_zero, List.getElem?_cons_succ] at q0 q1 q2 q3
          clear hRD hbA hbB hbC hbD hwC' hSA
          have gk := hND.out.cell (next + k)
          rw [cells4_at, hold] at gk
          simp only [Option.map_some] at gk
          have gf := hND.out.thaw
          have hk0 : decide ((k : Int) < 0) = false := decide_eq_false (by omega)
          have hnb : ((n : Int) == 0) = false := by rw [beq_eq_false_iff_ne]; omega
          go_wp2
          go_roundw
          case rel => exact ⟨next + k + 1, ns.set (next + k) n, rs, mo, rfl, by go_num, rfl, by omega, HLa, Lib.hid (HRD.out.far (by simp) _), Lib.hid (by rw [← cells4_set]; exact hND.out.put _ _), hbwD.setCell (by simp) _, by simp; omega, Lib.hid ⟨HY.out, HNo.out⟩⟩
          case measure =>
            cases mo with
            | true => rw [leftOf_yes, leftOf_yes]; have := hl44.2.2 rfl; omega
            | false => rw [leftOf_no, leftOf_yes]; have := hl44.2.1; omega

end Go.Proofs.YtcnenpkmlindaaaDoor.W
