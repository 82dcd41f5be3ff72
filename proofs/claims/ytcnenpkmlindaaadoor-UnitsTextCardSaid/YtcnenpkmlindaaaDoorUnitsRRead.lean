/-
  Contract of drayageref03.Read: which vector a text is, looked for by its words wherever they stand.
-/
import Derived.Test.YtcnenpkmlindaaaDoorUnitsRead
import Derived.Test.YtcnenpkmlindaaaDoorUnitsRText
import Derived.BigRegion
import Derived.BigQuiet
import Derived.Deep.QuietTactic
import Derived.Laws.DeepStrings4
namespace Go.Proofs.YtcnenpkmlindaaaDoor.W
set_option linter.unusedVariables false
set_option linter.unusedSimpArgs false
open Go.ChangeShapes Go.WideShapes Go.ChangeAt Go.RowKit

/-- what is found, each word by itself -/
def foundV (s : List UInt8) : V := ⟨scan1 (wkey 0) s 0, scan1 (wkey 1) s 0, scan1 (wkey 2) s 0, scan1 (wkey 3) s 0⟩
theorem found_text {ns : List Nat} (hl : ns.length = 4) (hb : ∀ n ∈ ns, n ≤ 1048576) : foundV (utext ns) = vOf ns := by
  unfold foundV vOf
  rw [scan_text hl hb (k := 0) (by omega), scan_text hl hb (k := 1) (by omega), scan_text hl hb (k := 2) (by omega), scan_text hl hb (k := 3) (by omega)]
theorem found_yes {s : List UInt8} (h : (foundV s).Ok) (ht : utext (foundV s).ns = s) : readV s = foundV s ∧ readE s = 0 := by
  have hc := readU_complete (ns := (foundV s).ns) rfl h.bounds
  rw [ht] at hc
  obtain ⟨e1, e2⟩ := readV_some hc
  exact ⟨e1.trans h.back, e2⟩
theorem found_no {s : List UInt8} (h : ¬ ((foundV s).Ok ∧ utext (foundV s).ns = s)) : readV s = V.zero ∧ readE s = 11 := by
  cases hr : readU s with
  | none => exact readV_none hr
  | some ns =>
    exfalso
    obtain ⟨h1, h2, h3⟩ := readU_sound hr
    have hf := found_text h1 h2
    rw [h3] at hf
    obtain ⟨o1, o2⟩ := vOf_ok h1 h2
    apply h
    rw [hf, o2]
    exact ⟨o1, h3⟩

/-! one place, looked at for each word -/
def hitAt (x : List UInt8) (k : Nat) (old : Int) : Int := if x.take 4 = wkey k then num8 (x.drop 4) else old
def hits (x : List UInt8) (f : List Int) : List Int := [hitAt x 0 (f.getD 0 0), hitAt x 1 (f.getD 1 0), hitAt x 2 (f.getD 2 0), hitAt x 3 (f.getD 3 0)]
theorem hits_at (x : List UInt8) (f : List Int) {k : Nat} (hk : k < 4) : (hits x f).getD k 0 = hitAt x k (f.getD k 0) := by
  rcases k with _ | _ | _ | _ | k
  · rfl
  · rfl
  · rfl
  · rfl
  · omega
def mid (x : List UInt8) (f : List Int) (k : Nat) : List Int := (hits x f).take k ++ f.drop k
theorem mid_zero (x : List UInt8) (f : List Int) : mid x f 0 = f := by simp [mid]
theorem mid_all (x : List UInt8) {f : List Int} (hf : f.length = 4) : mid x f 4 = hits x f := by
  unfold mid
  rw [List.drop_of_length_le (by omega)]
  simp [hits]
theorem mid_len (x : List UInt8) {f : List Int} (hf : f.length = 4) {k : Nat} (hk : k ≤ 4) : (mid x f k).length = 4 := by
  unfold mid
  rw [List.length_append, List.length_take, List.length_drop, hf]
  simp [hits]
  omega
theorem mid_succ (x : List UInt8) {f : List Int} (hf : f.length = 4) {k : Nat} (hk : k < 4) : mid x f (k + 1) = (mid x f k).set k (hitAt x k (f.getD k 0)) := by
  match f, hf with
  | [a, b, c, d], _ =>
    rcases k with _ | _ | _ | _ | k
    · simp [mid, hits]
    · simp [mid, hits]
    · simp [mid, hits]
    · simp [mid, hits]
    · omega
theorem mid_same (x : List UInt8) {f : List Int} (hf : f.length = 4) {k : Nat} (hk : k < 4) (h : ¬ x.take 4 = wkey k) : mid x f (k + 1) = mid x f k := by
  rw [mid_succ x hf hk]
  unfold hitAt
  rw [if_neg h]
  match f, hf with
  | [a, b, c, d], _ =>
    rcases k with _ | _ | _ | _ | k
    · simp [mid, hits]
    · simp [mid, hits]
    · simp [mid, hits]
    · simp [mid, hits]
    · omega
theorem scan_step (s : List UInt8) {i k : Nat} (hi : i < s.length) (v : Int) : scan1 (wkey k) (s.drop i) v = scan1 (wkey k) (s.drop (i + 1)) (hitAt (s.drop i) k v) := by
  rw [drop_at' s i hi]
  conv => lhs; unfold scan1
  rfl
def cellsI (f : List Int) : Array Value := (f.map (Value.int .i64)).toArray
theorem cellsI_at (f : List Int) (k : Nat) : (cellsI f)[k]? = (f[k]?).map (Value.int .i64) := by simp [cellsI]
theorem cellsI_set (f : List Int) (k : Nat) (n : Int) : (cellsI f).setIfInBounds k (.int .i64 n) = cellsI (f.set k n) := by
  apply Array.ext'
  simp [cellsI, List.map_set]
def keyAt (j : Nat) : ByteArray := bs (wkey j)
theorem extract_bs (s : List UInt8) (i : Nat) : (bs s).extract i (i + 4) = bs ((s.drop i).take 4) := by
  rw [Lib.extract_eq, bs_list, show i + 4 - i = 4 by omega]
  rfl
theorem eq_bs (a b : List UInt8) : ((bs a).toList == (bs b).toList) = decide (a = b) := by
  rw [Lib.toList_data, Lib.toList_data, bs_list, bs_list]
  by_cases h : a = b <;> simp [h]

theorem slice_at (s : List UInt8) (i : Nat) (h : i + 4 ≤ s.length) (w : World) : (Instr.slice 9 (.string (bs s)) (some (.int .i64 (i : Int))) (some (.int .i64 ((i : Int) + 4))) none).run Tryd.prog w = .ok (.string (bs ((s.drop i).take 4))) w := by
  have hz := bs_size s
  rw [run_slice_string_if _ _ _ _ _ _ _ Tryd.underlying9, if_pos ⟨by omega, by omega⟩, if_pos ⟨by omega, by omega⟩]
  rw [show ((i : Int)).toNat = i by omega, show ((i : Int) + 4).toNat = i + 4 by omega, extract_bs]
def keyCells : Array Value := #[.string (keyAt 0), .string (keyAt 1), .string (keyAt 2), .string (keyAt 3)]
theorem keyCells_at {k : Nat} (hk : k < 4) : keyCells[k]? = some (.string (bs (wkey k))) := by
  rcases k with _ | _ | _ | _ | k
  · rfl
  · rfl
  · rfl
  · rfl
  · omega
theorem Row.draws {w : World} {g : Nat} {t : TypeId} {cs : Array Value} (h : Row w g t cs) (n : Nat) : Row (w.drewN n) g t cs := h
/-- the outer loop's head -/
def Seen (s : List UInt8) (i : Nat) (f : List Int) : Prop := f.length = 4 ∧ ∀ k, k < 4 → scan1 (wkey k) (s.drop i) (f.getD k 0) = scan1 (wkey k) s 0
theorem Seen.step {s : List UInt8} {i : Nat} {f : List Int} (h : Seen s i f) (hi : i < s.length) : Seen s (i + 1) (mid (s.drop i) f 4) := by
  rw [mid_all _ h.1]
  refine ⟨rfl, ?_⟩
  intro k hk
  rw [hits_at _ _ hk, ← scan_step s hi, h.2 k hk]
theorem Seen.fin {s : List UInt8} {i : Nat} {f : List Int} (h : Seen s i f) (hi : s.length < i + 4) : f = [(foundV s).cpu, (foundV s).mem, (foundV s).gpu, (foundV s).lic] := by
  have e : ∀ k, k < 4 → f.getD k 0 = scan1 (wkey k) s 0 := fun k hk => by
    rw [← h.2 k hk, scan_short hk _ _ (by rw [List.length_drop]; omega)]
  have e0 := e 0 (by omega)
  have e1 := e 1 (by omega)
  have e2 := e 2 (by omega)
  have e3 := e 3 (by omega)
  match f, h.1 with
  | [a, b, c, d], _ =>
    simp only [List.getD_cons_zero, List.getD_cons_succ] at e0 e1 e2 e3
    rw [e0, e1, e2, e3]
    rfl

set_option maxHeartbeats 8000000 in
set_option maxRecDepth 100000 in
theorem rRead (s : List UInt8) (hl : s.length ≤ 1000000) (w : World) :
    Calls Tryd.prog 10 #[.string (bs s)] w fun e w' => e = .returned (.tuple #[(.agg #[.int .i64 (readV s).cpu, .int .i64 (readV s).mem, .int .i64 (readV s).gpu, .int .i64 (readV s).lic]), .int .i64 (readE s)]) ∧ Below w.heap.size w w' := by
  have hz := bs_size s
  go_enter Tryd.func10, Tryd.ntmps10
  go_wp2
  generalize hw2 : World.alloc _ _ = w2
  have hbB : Below w.heap.size w w2 := by rw [← hw2]; exact (by repeat' (first | exact Below.refl _ _ | assumption | exact And.left (by assumption) | refine Below.drew ?_ | refine below_drewN ?_ _ | refine Below.setCell ?_ (by first | (simp; done) | (simp; omega) | omega) _ | refine Below.alloc ?_ (by first | (simp; done) | (simp; omega) | omega) _ | refine after (by assumption) (by first | (simp; done) | (simp; omega) | omega) ?_))
  have hlt2 : w.heap.size + 1 + 1 + 1 ≤ w2.heap.size := by rw [← hw2]; simp
  have hR2 : Row w2 w.heap.size 23 (cells4 [0, 0, 0, 0]) := by
    rw [← hw2]
    exact ((Row.new rfl _ _).alloc _).alloc _
  have hK2 : Row w2 (w.heap.size + 1) 9 keyCells := by
    rw [← hw2]
    exact (Row.new (by simp) _ _).alloc _
  have hN2 : Row w2 (w.heap.size + 1 + 1) 3 (cellsI [0, 0, 0, 0]) := by
    rw [← hw2]
    exact Row.new (by simp) _ _
  clear hw2
  go_loopw [6] (fun v6 wr => ∃ (i : Nat) (f : List Int), v6 = .int .i64 i ∧ i ≤ s.length ∧ Hid (Seen s i f) ∧ Hid (Row wr w.heap.size 23 (cells4 [0, 0, 0, 0])) ∧ Hid (Row wr (w.heap.size + 1) 9 keyCells) ∧
    Hid (Row wr (w.heap.size + 1 + 1) 3 (cellsI f)) ∧ Below w.heap.size w wr ∧ w.heap.size + 1 + 1 + 1 ≤ wr.heap.size) (fun v6 wr => s.length - (intOf v6).toNat)
  case atStart => exact ⟨0, [0, 0, 0, 0], rfl, by omega, Lib.hid ⟨rfl, fun k hk => by rcases k with _ | _ | _ | _ | k <;> first | rfl | omega⟩, Lib.hid hR2, Lib.hid hK2, Lib.hid hN2, hbB, hlt2⟩
  case round =>
    obtain ⟨i, f, rfl, hi, HS, HR, HK, HN, hbw, hlt⟩ := hrel
    clear hR2 hN2 hK2 hbB hlt2
    by_cases h4 : i + 4 ≤ s.length
    · have hf4 := HS.out.1
      have g17 : (i : Int) + 4 ≤ (s.length : Int) := by omega
      go_wp2
      go_loopw [7] (fun v7 wk => ∃ (k : Nat), v7 = .int .i64 k ∧ k ≤ 4 ∧ Hid (Row wk w.heap.size 23 (cells4 [0, 0, 0, 0])) ∧ Hid (Row wk (w.heap.size + 1) 9 keyCells) ∧
        Hid (Row wk (w.heap.size + 1 + 1) 3 (cellsI (mid (s.drop i) f k))) ∧ Below w.heap.size w wk ∧ w.heap.size + 1 + 1 + 1 ≤ wk.heap.size) (fun v7 wk => 4 - (intOf v7).toNat)
      case atStart => exact ⟨0, rfl, by omega, HR, HK, by rw [mid_zero]; exact HN, hbw, hlt⟩
      case round =>
        obtain ⟨k, rfl, hk, HR1, HK1, HN1, hbk, hltk⟩ := hrel
        by_cases hk4 : k < 4
        · have ck := HK1.out.cell k
          rw [keyCells_at hk4] at ck
          obtain ⟨old, hold⟩ : ∃ old, (mid (s.drop i) f k)[k]? = some old := ⟨_, List.getElem?_eq_getElem (by rw [mid_len _ hf4 hk]; omega)⟩
          have cn := HN1.out.cell k
          rw [cellsI_at, hold] at cn
          simp only [Option.map_some] at cn
          have fn := HN1.out.thaw
          have hsl := fun w' => slice_at s i h4 w'
          have hmid := mid_succ (s.drop i) hf4 hk4
          have hsame := mid_same (s.drop i) hf4 hk4
          have hcmp := eq_bs ((s.drop i).take 4) (wkey k)
          have hat : (s.drop i).take 4 = wkey k → hitAt (s.drop i) k (f.getD k 0) = num8 (s.drop (i + 4)) := fun h => by
            unfold hitAt
            rw [if_pos h, List.drop_drop]
          obtain ⟨x4, hx4⟩ : ∃ x4, x4 = (s.drop i).take 4 := ⟨_, rfl⟩
          obtain ⟨kw, hkw⟩ : ∃ kw, kw = wkey k := ⟨_, rfl⟩
          rw [← hx4] at hcmp hat hsame
          rw [← hkw] at hcmp hat hsame ck
          simp only [← hx4] at hsl
          by_cases hit : x4 = kw
          · have HM : Hid (mid (s.drop i) f (k + 1) = (mid (s.drop i) f k).set k (num8 (s.drop (i + 4)))) := Lib.hid (by rw [hmid, hat hit])
            rw [decide_eq_true hit] at hcmp
            have HNum : Hid (∀ w', Calls Tryd.prog 20 #[.string (bs s), .int .i64 ((i : Int) + 4)] w' fun e w'' => (∃ j : Nat, e = .returned (.tuple #[.int .i64 (num8 (s.drop (i + 4))), .int .i64 j])) ∧ w' = w'') := Lib.hid (fun w' => by
              have h := rnumber s (i + 4) (by omega) h4 w'
              have e : ((i + 4 : Nat) : Int) = (i : Int) + 4 := by omega
              rwa [e] at h)
            obtain ⟨nn, hnn⟩ : ∃ nn, nn = num8 (s.drop (i + 4)) := ⟨_, rfl⟩
            rw [← hnn] at HM HNum
            clear hmid hsame hat hx4 hkw hit hold hnn
            go_wp2
            go_quiet (fail)
            go_wp2_with fail
            refine (HNum.out _).mono ?_; rintro e w' ⟨⟨j, rfl⟩, rfl⟩
            go_wp2
            go_roundw
            case rel => exact ⟨k + 1, by go_num, by omega, Lib.hid ((HR1.out.draws _).far (by simp; omega) _), Lib.hid ((HK1.out.draws _).far (by simp) _), Lib.hid (by rw [HM.out, ← cellsI_set]; exact (HN1.out.draws _).put _ _), (below_drewN hbk _).setCell (by simp; omega) _, by simpa using hltk⟩
            case measure => simp [intOf]; omega
          · have HM : Hid (mid (s.drop i) f (k + 1) = mid (s.drop i) f k) := Lib.hid (hsame hit)
            rw [decide_eq_false hit] at hcmp
            clear hmid hsame hat hx4 hkw hit hold
            go_wp2
            go_quiet (fail)
            go_wp2
            go_roundw
            case rel => exact ⟨k + 1, by go_num, by omega, Lib.hid (HR1.out.draws _), Lib.hid (HK1.out.draws _), Lib.hid (by rw [HM.out]; exact HN1.out.draws _), below_drewN hbk _, by simpa using hltk⟩
            case measure => simp [intOf]; omega
        · have hk4' : k = 4 := by omega
          subst hk4'
          have HS2 := Lib.hid (HS.out.step (by omega))
          go_wp2
          go_roundw
          case rel => exact ⟨i + 1, _, by go_num, by omega, HS2, HR1, HK1, HN1, hbk, hltk⟩
          case measure => simp [intOf]; omega
    · have HF := HS.out.fin (by omega)
      have HNf := HN.out
      rw [HF] at HNf
      have g0 := HNf.cell 0
      have g1 := HNf.cell 1
      have g2 := HNf.cell 2
      have g3 := HNf.cell 3
      obtain ⟨a, ha⟩ : ∃ a, a = foundV s := ⟨_, rfl⟩
      rw [← ha] at g0 g1 g2 g3
      simp only [cellsI, List.map_cons, List.map_nil, List.getElem?_toArray, List.getElem?_cons_zero, List.getElem?_cons_succ] at g0 g1 g2 g3
      have hYes := Lib.hid (fun h1 h2 => found_yes (s := s) h1 h2)
      have hNo := Lib.hid (fun h => found_no (s := s) h)
      rw [← ha] at hYes hNo
      have hlt' : w.heap.size + 1 + 1 < wr.heap.size := by omega
      clear HF HNf HS HN HK ha
      go_wp2
      go_region
      have hbw2 : Below w.heap.size w (wr.alloc (.cells #[.int .i64 a.cpu, .int .i64 a.mem, .int .i64 a.gpu, .int .i64 a.lic] 23)).drew := (by repeat' (first | exact Below.refl _ _ | assumption | exact And.left (by assumption) | refine Below.drew ?_ | refine below_drewN ?_ _ | refine Below.setCell ?_ (by first | (simp; done) | (simp; omega) | omega) _ | refine Below.alloc ?_ (by first | (simp; done) | (simp; omega) | omega) _ | refine after (by assumption) (by first | (simp; done) | (simp; omega) | omega) ?_))
      have hR5 : Row (wr.alloc (.cells #[.int .i64 a.cpu, .int .i64 a.mem, .int .i64 a.gpu, .int .i64 a.lic] 23)).drew w.heap.size 23 (cells4 [0, 0, 0, 0]) := HR.out.alloc _
      have hA5 : Row (wr.alloc (.cells #[.int .i64 a.cpu, .int .i64 a.mem, .int .i64 a.gpu, .int .i64 a.lic] 23)).drew wr.heap.size 23 #[.int .i64 a.cpu, .int .i64 a.mem, .int .i64 a.gpu, .int .i64 a.lic] := Row.new rfl _ _
      generalize (wr.alloc (.cells #[.int .i64 a.cpu, .int .i64 a.mem, .int .i64 a.gpu, .int .i64 a.lic] 23)).drew = w5 at hbw2 hR5 hA5 ⊢
      clear HR hbw g0 g1 g2 g3 hlt'
      have a0 := hA5.cell 0
      have a1 := hA5.cell 1
      have a2 := hA5.cell 2
      have a3 := hA5.cell 3
      simp only [List.getElem?_toArray, List.getElem?_cons_zero, List.getElem?_cons_succ] at a0 a1 a2 a3
      have r0 := hR5.cell 0
      have r1 := hR5.cell 1
      have r2 := hR5.cell 2
      have r3 := hR5.cell 3
      simp only [cells4, List.map_cons, List.map_nil, List.getElem?_toArray, List.getElem?_cons_zero, List.getElem?_cons_succ] at r0 r1 r2 r3
      have rf := hR5.thaw
      have hz5 := hR5.lt
      have hzA := hA5.lt
      clear hR5 hA5
      have HV := Lib.hid (fun w => rright a w)
      by_cases hok : a.Ok
      · rw [right_yes hok] at HV
        have HT := Lib.hid (fun w => rText a hok w)
        have hcmp := eq_bs (utext a.ns) s
        obtain ⟨tx, htx⟩ : ∃ tx, tx = utext a.ns := ⟨_, rfl⟩
        rw [← htx] at hcmp HT hYes hNo
        by_cases htt : tx = s
        · have HE := Lib.hid (hYes.out hok htt)
          rw [decide_eq_true htt] at hcmp
          clear hYes hNo htx htt
          go_wp2_with fail
          refine (HV.out _).mono ?_; rintro e w6 ⟨rfl, hb6⟩
          replace a0 := carry hb6 a0; replace a1 := carry hb6 a1; replace a2 := carry hb6 a2; replace a3 := carry hb6 a3
          replace r0 := carry hb6 r0; replace r1 := carry hb6 r1; replace r2 := carry hb6 r2; replace r3 := carry hb6 r3
          have rf6 : ∀ j, w6.frozen? ⟨w.heap.size, j, none⟩ = false := fun j => ((bcell hb6).2 _ _ hz5).trans (rf j)
          have hz6 := hb6.size
          go_wp2_with fail
          refine (HT.out _).mono ?_; rintro e w7 ⟨rfl, hb7⟩
          replace a0 := carry hb7 a0; replace a1 := carry hb7 a1; replace a2 := carry hb7 a2; replace a3 := carry hb7 a3
          replace r0 := carry hb7 r0; replace r1 := carry hb7 r1; replace r2 := carry hb7 r2; replace r3 := carry hb7 r3
          have rf7 : ∀ j, w7.frozen? ⟨w.heap.size, j, none⟩ = false := fun j => ((bcell hb7).2 _ _ (by omega)).trans (rf6 j)
          have hz7 := hb7.size
          have hbw7 : Below w.heap.size w w7 := after hb7 (by omega) (after hb6 (by omega) hbw2)
          clear hb6 hb7 rf rf6
          go_wp2
          refine bodyPost_ret (v := .tuple #[(.agg #[.int .i64 a.cpu, .int .i64 a.mem, .int .i64 a.gpu, .int .i64 a.lic]), .int .i64 0]) (by simp [results, Tryd.results10, go_sem, V.zero, *]) rfl ⟨by rw [HE.out.1, HE.out.2], (((hbw7.setCell (Nat.le_refl _) _).setCell (Nat.le_refl _) _).setCell (Nat.le_refl _) _).setCell (Nat.le_refl _) _⟩
        · have HE := Lib.hid (hNo.out (fun h => htt h.2))
          rw [decide_eq_false htt] at hcmp
          clear hYes hNo htx htt
          go_wp2_with fail
          refine (HV.out _).mono ?_; rintro e w6 ⟨rfl, hb6⟩
          replace a0 := carry hb6 a0; replace a1 := carry hb6 a1; replace a2 := carry hb6 a2; replace a3 := carry hb6 a3
          replace r0 := carry hb6 r0; replace r1 := carry hb6 r1; replace r2 := carry hb6 r2; replace r3 := carry hb6 r3
          have rf6 : ∀ j, w6.frozen? ⟨w.heap.size, j, none⟩ = false := fun j => ((bcell hb6).2 _ _ hz5).trans (rf j)
          have hz6 := hb6.size
          go_wp2_with fail
          refine (HT.out _).mono ?_; rintro e w7 ⟨rfl, hb7⟩
          replace a0 := carry hb7 a0; replace a1 := carry hb7 a1; replace a2 := carry hb7 a2; replace a3 := carry hb7 a3
          replace r0 := carry hb7 r0; replace r1 := carry hb7 r1; replace r2 := carry hb7 r2; replace r3 := carry hb7 r3
          have rf7 : ∀ j, w7.frozen? ⟨w.heap.size, j, none⟩ = false := fun j => ((bcell hb7).2 _ _ (by omega)).trans (rf6 j)
          have hz7 := hb7.size
          have hbw7 : Below w.heap.size w w7 := after hb7 (by omega) (after hb6 (by omega) hbw2)
          clear hb6 hb7 rf rf6
          go_wp2
          refine bodyPost_ret (v := .tuple #[(.agg #[.int .i64 V.zero.cpu, .int .i64 V.zero.mem, .int .i64 V.zero.gpu, .int .i64 V.zero.lic]), .int .i64 11]) (by simp [results, Tryd.results10, go_sem, V.zero, *]) rfl ⟨by rw [HE.out.1, HE.out.2], (((hbw7.setCell (Nat.le_refl _) _).setCell (Nat.le_refl _) _).setCell (Nat.le_refl _) _).setCell (Nat.le_refl _) _⟩
      · rw [right_no hok] at HV
        have HE := Lib.hid (hNo.out (fun h => hok h.1))
        clear hYes hNo hok
        go_wp2_with fail
        refine (HV.out _).mono ?_; rintro e w6 ⟨rfl, hb6⟩
        replace a0 := carry hb6 a0; replace a1 := carry hb6 a1; replace a2 := carry hb6 a2; replace a3 := carry hb6 a3
        replace r0 := carry hb6 r0; replace r1 := carry hb6 r1; replace r2 := carry hb6 r2; replace r3 := carry hb6 r3
        have rf6 : ∀ j, w6.frozen? ⟨w.heap.size, j, none⟩ = false := fun j => ((bcell hb6).2 _ _ hz5).trans (rf j)
        have hz6 := hb6.size
        have hbw6 : Below w.heap.size w w6 := after hb6 (by omega) hbw2
        clear hb6 rf
        go_wp2
        refine bodyPost_ret (v := .tuple #[(.agg #[.int .i64 V.zero.cpu, .int .i64 V.zero.mem, .int .i64 V.zero.gpu, .int .i64 V.zero.lic]), .int .i64 11]) (by simp [results, Tryd.results10, go_sem, V.zero, *]) rfl ⟨by rw [HE.out.1, HE.out.2], (((hbw6.setCell (Nat.le_refl _) _).setCell (Nat.le_refl _) _).setCell (Nat.le_refl _) _).setCell (Nat.le_refl _) _⟩

end Go.Proofs.YtcnenpkmlindaaaDoor.W
