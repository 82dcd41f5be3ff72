/-
  Contract of ask.Read: which request bytes are.
-/
import Derived.Test.YtkeboafejebanaaAskAft
namespace Go.Proofs.Ytkeboafejebanaa.W
set_option linter.unusedVariables false
set_option linter.unusedSimpArgs false
open Go.ChangeShapes Go.WideShapes Go.ChangeAt Go.RowKit

theorem results_cell_tmp_row {P : Program} {fn : Func} {p u : Tmp} {ty : TypeId} (h : fn.results = #[.cell p ty, .tmp u]) (tmps : Array Value) (w : World) (g : Nat) (t : TypeId) (cs : Array Value) (fr : Nat × Nat) (d : TypeDesc)
    (hp : tmps.getD p undef = .pointer (some ⟨g, 0, none⟩)) (hg : w.heap[g]? = some (.cells cs t fr))
    (hu : P.underlying ty = some d) (hd : (match d with | .struct _ | .array _ _ => true | _ => false) = true) (hi : (P.info? ty).map (·.size) = some cs.size) :
    (results fn tmps).run P w = .ok (.tuple #[.agg cs, tmps.getD u undef]) w := by
  rw [results_cell_tmp h, hp]
  simp [asAddr, Result.andThen, run_loadVar_row w g t ty cs fr d hg hu hd hi]
theorem fill_take (fs : List Nat) (l : List Int) (s : St) (k : Nat) (h : k < fs.length) : fillS (fs.take (k + 1)) l s = ((fillS (fs.take k) l s).1.set fs[k] ((numS (fillS (fs.take k) l s).2).1 : Int), (numS (fillS (fs.take k) l s).2).2) := by
  rw [take_snoc fs k h, fillS_snoc]
theorem kind_le (b : List UInt8) : (rKind b).2.2 ≠ 0 → (rKind b).1 = 0 := fun h => by
  unfold rKind numS at h ⊢
  split
  · rename_i h0
    rw [if_pos h0] at h
    split
    · rename_i h1; rw [if_pos h1] at h; exact absurd rfl h
    · rfl
  · rfl
theorem fill_bad (fs : List Nat) : ∀ (l : List Int) (s : St), s.2 ≠ 0 → s.1 = [] → (fillS fs l s).2 = s := by
  induction fs with
  | nil => intro l s _ _; rfl
  | cons i fs ih =>
    intro l s h h1
    have e : (numS s).2 = s := by rw [numS_bad h, ← h1]
    show (fillS fs _ (numS s).2).2 = s
    rw [e]
    exact ih _ s h h1
theorem read_bad_end {b : List UInt8} (h : (rKind b).2.2 ≠ 0) : endS (rDeps b).2 = (rKind b).2.2 := by
  have h1 : (rKind b).2 = ([], (rKind b).2.2) := by rw [← numS_none (s := (b, 0)) h]; rfl
  have h2 : (rKey b).2 = ([], (rKind b).2.2) := by unfold rKey; rw [withinS_bad _ _ h]
  have h3 : (rFill b).2 = ([], (rKind b).2.2) := by
    unfold rFill
    rw [fill_bad _ _ _ (by rw [h2]; exact h) (by rw [h2]), h2]
  have h4 : (rDeps b).2 = ([], (rKind b).2.2) := by
    unfold rDeps
    rw [kind_le b h, if_neg (by decide), h3]
  rw [h4]
  unfold endS
  simp
theorem readE_kind {b : List UInt8} (h : (rKind b).2.2 = 0) (h2 : kindB (rKind b).1 = false) : readE b = 13 := by
  unfold readE
  rw [if_neg (fun x => x h), if_pos h2]
theorem readE_end {b : List UInt8} (h : (rKind b).2.2 ≠ 0 ∨ kindB (rKind b).1 = true) : readE b = endS (rDeps b).2 := by
  unfold readE
  by_cases h1 : (rKind b).2.2 = 0
  · have h2 := h.resolve_left (fun x => x h1)
    rw [if_neg (fun x => x h1), h2, if_neg (by simp)]
  · rw [if_pos h1, read_bad_end h1]
theorem readQ_no {b : List UInt8} (h : readE b ≠ 0) (aa : Option Addr) (ac : Nat) : readQ b aa ac = bareQ 0 0 := by unfold readQ; rw [if_neg h]

/-- what a call of Read comes to -/
def ReadTo (b : List UInt8) (w : World) (e : Ending) (w' : World) : Prop :=
  ∃ aa ac, e = .returned (.tuple #[.agg #[.int .i64 (readQ b aa ac).kind, .int .i64 (readQ b aa ac).key, .int .i64 ((readQ b aa ac).n 1), .int .i64 ((readQ b aa ac).n 2), .int .i64 ((readQ b aa ac).n 3), .int .i64 ((readQ b aa ac).n 4), .int .i64 ((readQ b aa ac).n 5), .int .i64 ((readQ b aa ac).n 6), .int .i64 ((readQ b aa ac).n 7), .int .i64 ((readQ b aa ac).n 8), .int .i64 ((readQ b aa ac).n 9), .int .i64 ((readQ b aa ac).n 10), .slice (readQ b aa ac).aa (readQ b aa ac).af.length (readQ b aa ac).ac, .int .i64 ((readQ b aa ac).n 11), .int .i64 ((readQ b aa ac).n 12), .int .i64 ((readQ b aa ac).n 13), .int .i64 ((readQ b aa ac).n 14)], .int .i64 (readE b : Int)]) ∧ RowAt w' (readQ b aa ac).aa (depsV (readQ b aa ac).af) ∧ Below w.heap.size w w'
theorem read_to_no {b : List UInt8} {w w' : World} (n : Nat) (hn : n ≠ 0) (h : readE b = n) (hb : Below w.heap.size w w') : ReadTo b w (.returned (.tuple #[.agg #[.int .i64 0, .int .i64 0, .int .i64 0, .int .i64 0, .int .i64 0, .int .i64 0, .int .i64 0, .int .i64 0, .int .i64 0, .int .i64 0, .int .i64 0, .int .i64 0, .slice none 0 0, .int .i64 0, .int .i64 0, .int .i64 0, .int .i64 0], .int .i64 (n : Int)])) w' := by
  refine ⟨none, 0, ?_, ?_, hb⟩
  · rw [readQ_no (by rw [h]; exact hn), h]; rfl
  · rw [readQ_no (by rw [h]; exact hn)]; exact .inl rfl
set_option maxRecDepth 100000 in
set_option maxHeartbeats 2000000 in
theorem read_kind (a : Option Addr) (cap : Nat) (b : List UInt8) (hl : b.length ≤ 100000) (hc : a = none → cap = 0) (w : World) (ha : RowAt w a (bytesV b)) (h : (rKind b).2.2 = 0) (h2 : kindB (rKind b).1 = false) :
    Calls Try.prog 11 #[.slice a b.length cap] w (ReadTo b w) := by
  have HE := Lib.hid (readE_kind h h2)
  have HN := Lib.hid (fun w ha => new a cap b w (by omega) hc ha)
  have HA := Lib.hid ha
  have HK := Lib.hid (fun g w' (hr : RdS w' g (b, 0)) => numberS g (b, 0) w' hr)
  have KI := fun w => isKind ((rKind b).1 : Int) w
  rw [h2] at KI
  have HI := Lib.hid KI
  have e1 : numS (b, 0) = rKind b := rfl
  rw [e1] at HK
  clear ha h2 KI e1
  generalize rKind b = r at HK HI h
  obtain ⟨kk, l1, er⟩ := r
  simp only at HK HI h
  subst h
  go_enter Try.func11, Try.ntmps11
  go_wp2_with fail
  have HB0 := BoxQ.new w (bareQ 0 0)
  have HB0' : BoxQ (w.alloc (.cells #[.int .i64 0, .int .i64 0, .int .i64 0, .int .i64 0, .int .i64 0, .int .i64 0, .int .i64 0, .int .i64 0, .int .i64 0, .int .i64 0, .int .i64 0, .int .i64 0, .slice none 0 0, .int .i64 0, .int .i64 0, .int .i64 0, .int .i64 0] 26)) w.heap.size (bareQ 0 0) := HB0
  clear HB0
  generalize hw0 : World.alloc w _ = w0 at HB0' ⊢
  have hb0 : Below w.heap.size w w0 := by rw [← hw0]; exact (by repeat' (first | exact Below.refl _ _ | assumption | exact And.left (by assumption) | refine Below.drew ?_ | refine below_drewN ?_ _ | refine Below.setCell ?_ (by first | (simp; done) | (simp; omega) | omega) _ | refine Below.alloc ?_ (by first | (simp; done) | (simp; omega) | omega) _ | refine after (by assumption) (by first | (simp; done) | (simp; omega) | omega) ?_))
  have hlt0 := HB0'.lt
  clear hw0
  refine (HN.out w0 (HA.out.later hb0)).mono ?_; rintro e w1 ⟨g, rfl, hg, hrd, hb1⟩
  have hr1 : RdS w1 g (b, 0) := ⟨hrd, fun h => absurd rfl h, hl⟩
  have HB1 := Lib.hid (HB0'.on hb1)
  have hz1 := hb1.size
  have hW1 : Below w.heap.size w w1 := hb0.trans (hb1.mono (by omega))
  have K := HK.out g w1 hr1
  clear hrd HB0' hr1
  go_wp2_with fail
  refine K.mono ?_; rintro e w2 ⟨rfl, hr2, hg2⟩
  have HB2 := Lib.hid (HB1.out.grown hg2 (fun h => by injection h with h; omega))
  have hW2 : Below w.heap.size w w2 := hW1.grown hg2 hW1.size (fun j hj => by injection hj with hj; omega)
  have hz2 := hg2.size
  have HR2 := Lib.hid hr2
  have hglt := hr2.lt
  clear K hr2 hg2 HB1
  go_wp2_with (first
    | (refine wpList_store_row rfl 26 (.tmp 5) (.tmp 13) rfl w2.heap.size _ rfl rfl 26 #[.int .i64 0, .int .i64 0, .int .i64 0, .int .i64 0, .int .i64 0, .int .i64 0, .int .i64 0, .int .i64 0, .int .i64 0, .int .i64 0, .int .i64 0, .int .i64 0, .slice none 0 0, .int .i64 0, .int .i64 0, .int .i64 0, .int .i64 0] (by repeat (first | (refine heap_top (by first | omega | (simp only [World.size_alloc]; done) | (simp only [World.size_alloc]; omega))) | refine heap_up ?_)) (by kernel_rfl) (by simp) (by simp [Value.oneCell']) ?_
       generalize hw3 : World.setRow _ _ _ = w3
       have hb3 : Below w2.heap.size w2 w3 := by rw [← hw3]; exact below_setRow ((by repeat' (first | exact Below.refl _ _ | assumption | exact And.left (by assumption) | refine Below.drew ?_ | refine below_drewN ?_ _ | refine Below.setCell ?_ (by first | (simp; done) | (simp; omega) | omega) _ | refine Below.alloc ?_ (by first | (simp; done) | (simp; omega) | omega) _ | refine after (by assumption) (by first | (simp; done) | (simp; omega) | omega) ?_))) (Nat.le_refl _) _
       have hg3 : w3.heap[w2.heap.size]? = some (.cells #[.int .i64 (kk : Int), .int .i64 0, .int .i64 0, .int .i64 0, .int .i64 0, .int .i64 0, .int .i64 0, .int .i64 0, .int .i64 0, .int .i64 0, .int .i64 0, .int .i64 0, .slice none 0 0, .int .i64 0, .int .i64 0, .int .i64 0, .int .i64 0] 26 (0, 0)) := by rw [← hw3]; exact setRow_heap _ _ _ _ _ _ (by repeat (first | (refine heap_top (by first | omega | (simp only [World.size_alloc]; done) | (simp only [World.size_alloc]; omega))) | refine heap_up ?_))
       have HX3 : Hid (BoxQ w3 w2.heap.size (bareQ kk 0)) := Lib.hid ⟨hg3⟩
       have hzl3 : w2.heap.size < w3.heap.size := HX3.out.lt
       clear hw3 hg3))
  have HB3 := Lib.hid (HB2.out.on hb3)
  have hW3 : Below w.heap.size w w3 := hW2.trans (hb3.mono hW2.size)
  have KE := errR g _ w3 (HR2.out.on hb3)
  have k0 : w3.cell? ⟨w2.heap.size, 0, none⟩ = some (.int .i64 (kk : Int)) := HX3.out.c0
  refine KE.mono ?_; rintro e w4 ⟨rfl, rfl⟩
  clear KE
  go_wp2_with fail
  refine (HI.out w3).mono ?_; rintro e w4 ⟨rfl, rfl⟩
  go_wp2_with (first
    | (refine wpList_store_row rfl 26 (.tmp 2) (.tmp 23) rfl w.heap.size _ rfl rfl 26 _ HB3.out.row (by kernel_rfl) (by simp) (by simp [Value.oneCell']) ?_
       generalize hw5 : World.setRow _ _ _ = w5
       have hb5 : Below w.heap.size w w5 := by rw [← hw5]; exact below_setRow hW3 (Nat.le_refl _) _
       have hg5 : w5.heap[w.heap.size]? = some (.cells #[.int .i64 0, .int .i64 0, .int .i64 0, .int .i64 0, .int .i64 0, .int .i64 0, .int .i64 0, .int .i64 0, .int .i64 0, .int .i64 0, .int .i64 0, .int .i64 0, .slice none 0 0, .int .i64 0, .int .i64 0, .int .i64 0, .int .i64 0] 26 (0, 0)) := by rw [← hw5]; exact setRow_heap _ _ _ _ _ _ HB3.out.row
       clear hw5))
  refine bodyPost_ret (results_cell_tmp_row Try.results11 _ _ w.heap.size _ _ _ _ rfl hg5 Try.underlying26 rfl (by kernel_rfl)) rfl ?_
  exact read_to_no 13 (by decide) HE.out hb5
theorem row_setRow {w : World} {a : Option Addr} {xs : List Value} {g : Nat} (h : RowAt w a xs) (hg : ∀ b off, a = some ⟨b, off, none⟩ → xs ≠ [] → b ≠ g) (cs : Array Value) : RowAt (w.setRow g cs) a xs := by
  by_cases hx : xs = []
  · exact .inl hx
  · rcases h with rfl | ⟨b, off, rfl, hl, hc⟩
    · exact absurd rfl hx
    · exact .inr ⟨b, off, rfl, by simpa using hl, fun i u hu => (World.cell?_of_block (a := ⟨b, off + i, none⟩) (setRow_other w g b cs (hg b off rfl hx))).trans (hc i u hu)⟩
set_option maxRecDepth 100000 in
set_option maxHeartbeats 4000000 in
theorem read_bad (a : Option Addr) (cap : Nat) (b : List UInt8) (hl : b.length ≤ 100000) (hc : a = none → cap = 0) (w : World) (ha : RowAt w a (bytesV b)) (h : (rKind b).2.2 ≠ 0) :
    Calls Try.prog 11 #[.slice a b.length cap] w (ReadTo b w) := by
  have HN := Lib.hid (fun w ha => new a cap b w (by omega) hc ha)
  have HA := Lib.hid ha
  have HK := Lib.hid (fun g w' (hr : RdS w' g (b, 0)) => numberS g (b, 0) w' hr)
  have KI := fun w => isKind ((rKind b).1 : Int) w
  have hkk : kindB ((rKind b).1 : Int) = true ∨ ((rKind b).1 : Int) = 0 := .inr (by rw [kind_le b h]; rfl)
  have HP := Lib.hid (fun g w' hc => numbers g ((rKind b).1 : Int) hkk w' hc)
  have e1 : numS (b, 0) = rKind b := rfl
  rw [e1] at HK
  have HI := Lib.hid KI
  have HKEY : Hid (∀ g w', RdS w' g (rKind b).2 → Calls Try.prog 29 #[.pointer (some ⟨g, 0, none⟩), .int .i64 1, .int .i64 1073741824] w' fun x w'' => x = .returned (.int .i64 ((rKey b).1 : Int)) ∧ RdS w'' g (rKey b).2 ∧ w'.grownBy w'' (some g)) := Lib.hid (fun g w' h => withinR 1 1073741824 g _ w' h)
  have HFI : Hid (rFill b = fillS (fieldsN ((rKind b).1 : Int)) zeroL (rKey b).2) := Lib.hid rfl
  have HDE : Hid (rDeps b = if (rKind b).1 = 1 then depsS (withinS 0 4 (rFill b).2).1 (withinS 0 4 (rFill b).2).2 else ([], (rFill b).2)) := Lib.hid rfl
  have HRQ : Hid (∀ aa ac, readE b = 0 → readQ b aa ac = ⟨(rKind b).1, (rKey b).1, (rFill b).1, aa, ac, (rDeps b).1⟩) := Lib.hid (fun aa ac h => by unfold readQ; rw [if_pos h])
  have HAF := Lib.hid (fun g w' (hr : RdS w' g (rFill b).2) => readAfter g (rFill b).2 w' hr)
  have HE : Hid (readE b = (rKind b).2.2) := Lib.hid (by rw [readE_end (.inl h), read_bad_end h])
  have HED : Hid (endS (rDeps b).2 = (rKind b).2.2) := Lib.hid (read_bad_end h)
  have HRD : Hid ((rDeps b).2 = (rFill b).2) := Lib.hid (by unfold rDeps; rw [kind_le b h]; rfl)
  have hk0 := kind_le b h
  clear ha KI e1 hkk
  generalize rDeps b = rd at HDE HRQ HE HED HRD
  generalize rFill b = rf at HFI HDE HRQ HAF HRD
  generalize rKey b = rk at HKEY HFI HRQ
  generalize rKind b = r at HK HI HP HKEY HFI HDE HRQ HE HED h hk0
  obtain ⟨kk, s0⟩ := r
  obtain ⟨key, s1⟩ := rk
  simp only at HK HI HP HKEY HFI HDE HRQ HE HED h hk0
  obtain ⟨l0, er⟩ := s0
  simp only at HE HED h
  have her : er ≠ 0 := h
  have hk1 : ((kk : Int) == 1) = false := by rw [show kk = 0 from hk0]; rfl
  have HK0 := Lib.hid hk0
  clear hk0
  have g1 : ¬ ((er : Int) = 0) := by omega
  have g2 : ((er : Int) == 0) = false := by simpa using g1
  clear h g1
  go_enter Try.func11, Try.ntmps11
  go_wp2_with fail
  have HB0 := BoxQ.new w (bareQ 0 0)
  have HB0' : BoxQ (w.alloc (.cells #[.int .i64 0, .int .i64 0, .int .i64 0, .int .i64 0, .int .i64 0, .int .i64 0, .int .i64 0, .int .i64 0, .int .i64 0, .int .i64 0, .int .i64 0, .int .i64 0, .slice none 0 0, .int .i64 0, .int .i64 0, .int .i64 0, .int .i64 0] 26)) w.heap.size (bareQ 0 0) := HB0
  clear HB0
  generalize hw0 : World.alloc w _ = w0 at HB0' ⊢
  have hb0 : Below w.heap.size w w0 := by rw [← hw0]; exact (by repeat' (first | exact Below.refl _ _ | assumption | exact And.left (by assumption) | refine Below.drew ?_ | refine below_drewN ?_ _ | refine Below.setCell ?_ (by first | (simp; done) | (simp; omega) | omega) _ | refine Below.alloc ?_ (by first | (simp; done) | (simp; omega) | omega) _ | refine after (by assumption) (by first | (simp; done) | (simp; omega) | omega) ?_))
  have hlt0 := HB0'.lt
  clear hw0
  refine (HN.out w0 (HA.out.later hb0)).mono ?_; rintro e w1 ⟨g, rfl, hg, hrd, hb1⟩
  have hr1 : RdS w1 g (b, 0) := ⟨hrd, fun h => absurd rfl h, hl⟩
  have HB1 := Lib.hid (HB0'.on hb1)
  have hz1 := hb1.size
  have hW1 : Below w.heap.size w w1 := hb0.trans (hb1.mono (by omega))
  have K := HK.out g w1 hr1
  clear hrd HB0' hr1
  go_wp2_with fail
  refine K.mono ?_; rintro e w2 ⟨rfl, hr2, hg2⟩
  have HB2 := Lib.hid (HB1.out.grown hg2 (fun h => by injection h with h; omega))
  have hW2 : Below w.heap.size w w2 := hW1.grown hg2 hW1.size (fun j hj => by injection hj with hj; omega)
  have hz2 := hg2.size
  have HR2 := Lib.hid hr2
  have hglt := hr2.lt
  have hg1 : w.heap.size < g := by omega
  clear K hr2 hg2 HB1 HK HN
  go_wp2_with (first
    | (refine wpList_store_row rfl 26 (.tmp 5) (.tmp 13) rfl w2.heap.size _ rfl rfl 26 #[.int .i64 0, .int .i64 0, .int .i64 0, .int .i64 0, .int .i64 0, .int .i64 0, .int .i64 0, .int .i64 0, .int .i64 0, .int .i64 0, .int .i64 0, .int .i64 0, .slice none 0 0, .int .i64 0, .int .i64 0, .int .i64 0, .int .i64 0] (by repeat (first | (refine heap_top (by first | omega | (simp only [World.size_alloc]; done) | (simp only [World.size_alloc]; omega))) | refine heap_up ?_)) (by kernel_rfl) (by simp) (by simp [Value.oneCell']) ?_
       generalize hw3 : World.setRow _ _ _ = w3
       have hb3 : Below w2.heap.size w2 w3 := by rw [← hw3]; exact below_setRow ((by repeat' (first | exact Below.refl _ _ | assumption | exact And.left (by assumption) | refine Below.drew ?_ | refine below_drewN ?_ _ | refine Below.setCell ?_ (by first | (simp; done) | (simp; omega) | omega) _ | refine Below.alloc ?_ (by first | (simp; done) | (simp; omega) | omega) _ | refine after (by assumption) (by first | (simp; done) | (simp; omega) | omega) ?_))) (Nat.le_refl _) _
       have hg3 : w3.heap[w2.heap.size]? = some (.cells #[.int .i64 (kk : Int), .int .i64 0, .int .i64 0, .int .i64 0, .int .i64 0, .int .i64 0, .int .i64 0, .int .i64 0, .int .i64 0, .int .i64 0, .int .i64 0, .int .i64 0, .slice none 0 0, .int .i64 0, .int .i64 0, .int .i64 0, .int .i64 0] 26 (0, 0)) := by rw [← hw3]; exact setRow_heap _ _ _ _ _ _ (by repeat (first | (refine heap_top (by first | omega | (simp only [World.size_alloc]; done) | (simp only [World.size_alloc]; omega))) | refine heap_up ?_))
       have HX3 : Hid (BoxQ w3 w2.heap.size (bareQ kk 0)) := Lib.hid ⟨hg3⟩
       have hzl3 : w2.heap.size < w3.heap.size := HX3.out.lt
       clear hw3 hg3))
  have HB3 := Lib.hid (HB2.out.on hb3)
  have hW3 : Below w.heap.size w w3 := hW2.trans (hb3.mono hW2.size)
  have HR3 := Lib.hid (HR2.out.on hb3)
  have KE := errR g _ w3 HR3.out
  have k0 : w3.cell? ⟨w2.heap.size, 0, none⟩ = some (.int .i64 (kk : Int)) := HX3.out.c0
  obtain ⟨g5, hg5⟩ : ∃ g5, g5 = w2.heap.size := ⟨_, rfl⟩
  rw [← hg5] at HX3 k0 hzl3 hglt ⊢
  have hw5 : w.heap.size < g5 := by omega
  have HG5 := Lib.hid hg5
  clear HR2 HB2 hb3 hz2 hg5 hz1 hg hlt0
  refine KE.mono ?_; rintro e w4 ⟨rfl, rfl⟩
  clear KE
  go_wp2_with fail
  clear k0
  refine (HKEY.out g w3 HR3.out).mono ?_; rintro e w4 ⟨rfl, hr4, hg4⟩
  have HB4 := Lib.hid (HB3.out.grown hg4 (fun h => by injection h with h; omega))
  have HX4 := Lib.hid (HX3.out.grown hg4 (fun h => by injection h with h; omega))
  have HR4 := Lib.hid hr4
  have hW4 : Below w.heap.size w w4 := hW3.grown hg4 hW3.size (fun j hj => by injection hj with hj; omega)
  have hz4 : g5 < w4.heap.size := HX4.out.lt
  have c1 : w4.cell? ⟨g5, 1, none⟩ = some (.int .i64 0) := HX4.out.c1
  have f1 := HX4.out.thaw 1
  have HX5 : Hid (BoxQ (w4.setCell ⟨g5, 1, none⟩ (.int .i64 (key : Int))) g5 (bareQ kk key)) := Lib.hid ⟨(HX4.out.row.put 1 _).as rfl⟩
  have HR5 : Hid (RdS (w4.setCell ⟨g5, 1, none⟩ (.int .i64 (key : Int))) g s1) := Lib.hid (HR4.out.grown (grown_put 1 _) (fun j hj => by injection hj with hj; subst hj; exact ⟨_, _, HX4.out.row, by decide, by decide⟩))
  have HB5 : Hid (BoxQ (w4.setCell ⟨g5, 1, none⟩ (.int .i64 (key : Int))) w.heap.size (bareQ 0 0)) := Lib.hid (HB4.out.grown (grown_put (g := g5) 1 _) (fun h => by injection h with h; omega))
  have hW5 : Below w.heap.size w (w4.setCell ⟨g5, 1, none⟩ (.int .i64 (key : Int))) := hW4.setCell (by simp; omega) _
  have hz5 : w4.heap.size ≤ (w4.setCell ⟨g5, 1, none⟩ (.int .i64 (key : Int))).heap.size := by simp
  clear hr4 hg4 HB3 HX3 HR3 HB4 HR4 HX4 HKEY
  go_wp2_with fail
  clear c1 f1
  generalize World.setCell w4 ⟨g5, 1, none⟩ (.int .i64 (key : Int)) = w5 at HX5 HR5 HB5 hW5 hz5 ⊢
  refine (HP.out g5 w5 HX5.out.c0).mono ?_; rintro e w6 ⟨v6, rfl, hown6, hb6⟩
  obtain ⟨A6, c6, rfl, hc6, hrow6, _⟩ := RowT.of hown6
  have HT6 := Lib.hid hrow6
  have HX6 := Lib.hid (HX5.out.on hb6)
  have HR6 := Lib.hid (HR5.out.on hb6)
  have HB6 := Lib.hid (HB5.out.on hb6)
  have hW6 : Below w.heap.size w w6 := hW5.trans (hb6.mono hW5.size)
  clear hown6 hrow6 hb6 HX5 HR5 HB5 HP
  obtain ⟨fs, hfs⟩ : ∃ fs, fs = fieldsN (kk : Int) := ⟨_, rfl⟩
  rw [← hfs] at HT6 hc6 HFI ⊢
  have hfl : fs.length ≤ 8 := by rw [hfs]; exact fields_len _
  have HIN : Hid (∀ i ∈ fs, 1 ≤ i ∧ i ≤ 14) := Lib.hid (by rw [hfs]; exact fields_in _)
  have HF := Lib.hid hfs
  clear hfs
  go_wp2_with fail
  go_loopw [29] (fun v29 wr => ∃ k : Nat, k ≤ fs.length ∧ v29 = .int .i64 (k : Int) ∧ Hid (BoxQ wr g5 ⟨kk, key, (fillS (fs.take k) zeroL s1).1, none, 0, []⟩) ∧ Hid (RdS wr g (fillS (fs.take k) zeroL s1).2) ∧ Hid (RowT wr A6 46 (ptrsV g5 fs)) ∧ Hid (BoxQ wr w.heap.size (bareQ 0 0)) ∧ Below w.heap.size w wr) (fun v29 _ => fs.length - (intOf v29).toNat)
  case atStart => exact ⟨0, Nat.zero_le _, rfl, HX6, HR6, HT6, HB6, hW6⟩
  case round =>
    obtain ⟨k, hk, rfl, HX, HR, HT, HB, hbw⟩ := hrel
    have hz := hbw.size
    have hgz := HX.out.lt
    clear HX6 HR6 HT6 HB6 hW6
    by_cases hlt : k < fs.length
    · obtain ⟨b1, o1, e1, hbl1, hcs⟩ := HT.out.row.row (by rw [ptrs_len]; omega)
      have c1 := hcs k _ (ptrs_at g5 fs k hlt)
      have hin := HIN.out fs[k] (List.getElem_mem hlt)
      have HFT := Lib.hid (fill_take fs zeroL s1 k hlt)
      have hfl2 := fillS_len (fs.take k) zeroL s1
      have HFL := Lib.hid hfl2
      have E1 := Lib.hid e1
      clear e1 hcs hfl2
      generalize fs[k] = i at c1 hin HFT
      generalize fillS (fs.take k) zeroL s1 = F at HX HR HFT HFL
      obtain ⟨L, s2⟩ := F
      simp only at HX HR HFT HFL
      have KN := numberS g s2 wr HR.out
      have HSB := Lib.hid (fun w' (hr : RdS w' g s2) => hr.row)
      generalize numS s2 = r2 at KN HFT
      obtain ⟨n2, s3⟩ := r2
      simp only at KN HFT
      obtain rfl := E1.out
      go_wp2_with fail
      refine KN.mono ?_; rintro e w7 ⟨rfl, hr7, hg7⟩
      have HX7 := Lib.hid (HX.out.grown hg7 (fun h => by injection h with h; omega))
      have HB7 := Lib.hid (HB.out.grown hg7 (fun h => by injection h with h; omega))
      have HT7 := Lib.hid (HT.out.grown hg7 (fun j hj => by
        injection hj with hj
        subst hj
        obtain ⟨cs, hr⟩ := HSB.out wr HR.out
        exact ⟨_, cs, hr, by decide⟩))
      have hW7 : Below w.heap.size w w7 := hbw.grown hg7 hz (fun j hj => by injection hj with hj; omega)
      have d1 := HX7.out.num hin.1 hin.2
      have d2 := HX7.out.thaw (cix i)
      have hz7 := HX7.out.lt
      have HX8 : Hid (BoxQ (w7.setCell ⟨g5, cix i, none⟩ (.int .i64 (n2 : Int))) g5 ⟨kk, key, (fillS (fs.take (k + 1)) zeroL s1).1, none, 0, []⟩) := Lib.hid (by
        rw [HFT.out]
        exact HX7.out.put HFL.out hin.1 hin.2 n2)
      have HR8 : Hid (RdS (w7.setCell ⟨g5, cix i, none⟩ (.int .i64 (n2 : Int))) g (fillS (fs.take (k + 1)) zeroL s1).2) := Lib.hid (by
        rw [HFT.out]
        exact hr7.grown (grown_put (g := g5) (cix i) _) (fun j hj => by injection hj with hj; subst hj; exact ⟨_, _, HX7.out.row, by decide, by decide⟩))
      have HT8 : Hid (RowT (w7.setCell ⟨g5, cix i, none⟩ (.int .i64 (n2 : Int))) (some ⟨b1, o1, none⟩) 46 (ptrsV g5 fs)) := Lib.hid (HT7.out.grown (grown_put (g := g5) (cix i) _) (fun j hj => by injection hj with hj; subst hj; exact ⟨_, _, HX7.out.row, by decide⟩))
      have HB8 : Hid (BoxQ (w7.setCell ⟨g5, cix i, none⟩ (.int .i64 (n2 : Int))) w.heap.size (bareQ 0 0)) := Lib.hid (HB7.out.grown (grown_put (g := g5) (cix i) _) (fun h => by injection h with h; omega))
      have hW8 : Below w.heap.size w (w7.setCell ⟨g5, cix i, none⟩ (.int .i64 (n2 : Int))) := hW7.setCell (by simp; omega) _
      clear hr7 hg7 KN HX HB HT HR HFT HSB HX7 HB7 HT7
      generalize (_ : Rq).n i = x at d1
      generalize cix i = c at d1 d2 HX8 HR8 HT8 HB8 hW8 c1
      go_wp2
      go_roundw
      case rel => exact ⟨k + 1, by omega, by go_num, HX8, HR8, HT8, HB8, hW8⟩
      case measure => simp [intOf]; omega
    · have hkl : k = fs.length := by omega
      subst hkl
      have HF2 : Hid (fillS (fs.take fs.length) zeroL s1 = rf) := Lib.hid (by rw [List.take_length, HFI.out])
      rw [HF2.out] at HX HR
      clear HFI HT HIN HF HF2
      have k0 : wr.cell? ⟨g5, 0, none⟩ = some (.int .i64 (kk : Int)) := HX.out.c0
      have KN := endR g rf.2 wr HR.out
      have HEN : Hid (endS rf.2 = er) := Lib.hid (by rw [← HRD.out]; exact HED.out)
      rw [HEN.out] at KN
      have h1 : ¬ ((er : Int) = 0) := by omega
      have h2 : ((er : Int) == 0) = false := by simpa using h1
      have h3 : ((er : Int) != 0) = true := by simpa using h1
      clear h1 HX HR
      go_wp2_with fail
      refine KN.mono ?_; rintro e w9 ⟨rfl, rfl⟩
      clear KN
      go_wp2_with (first
        | (refine wpList_store_row rfl 26 (.tmp 2) (.tmp 48) rfl w.heap.size _ rfl rfl 26 _ HB.out.row (by kernel_rfl) (by simp) (by simp [Value.oneCell']) ?_
           generalize hwz : World.setRow _ _ _ = wz
           have hbz : Below w.heap.size w wz := by rw [← hwz]; exact below_setRow hbw (Nat.le_refl _) _
           have hgz9 : wz.heap[w.heap.size]? = some (.cells #[.int .i64 0, .int .i64 0, .int .i64 0, .int .i64 0, .int .i64 0, .int .i64 0, .int .i64 0, .int .i64 0, .int .i64 0, .int .i64 0, .int .i64 0, .int .i64 0, .slice none 0 0, .int .i64 0, .int .i64 0, .int .i64 0, .int .i64 0] 26 (0, 0)) := by rw [← hwz]; exact setRow_heap _ _ _ _ _ _ HB.out.row
           clear hwz))
      refine bodyPost_ret (results_cell_tmp_row Try.results11 _ _ w.heap.size _ _ _ _ rfl hgz9 Try.underlying26 rfl (by kernel_rfl)) rfl ?_
      exact read_to_no er her HE.out hbz
set_option maxRecDepth 100000 in
set_option maxHeartbeats 4000000 in
theorem read_gen (a : Option Addr) (cap : Nat) (b : List UInt8) (hl : b.length ≤ 100000) (hc : a = none → cap = 0) (w : World) (ha : RowAt w a (bytesV b)) (h : (rKind b).2.2 = 0) (h2 : kindB (rKind b).1 = true) :
    Calls Try.prog 11 #[.slice a b.length cap] w (ReadTo b w) := by
  have HN := Lib.hid (fun w ha => new a cap b w (by omega) hc ha)
  have HA := Lib.hid ha
  have HK := Lib.hid (fun g w' (hr : RdS w' g (b, 0)) => numberS g (b, 0) w' hr)
  have KI := fun w => isKind ((rKind b).1 : Int) w
  have hkk : kindB ((rKind b).1 : Int) = true ∨ ((rKind b).1 : Int) = 0 := .inl h2
  have HP := Lib.hid (fun g w' hc => numbers g ((rKind b).1 : Int) hkk w' hc)
  have e1 : numS (b, 0) = rKind b := rfl
  rw [e1] at HK
  rw [h2] at KI
  have HI := Lib.hid KI
  have HKEY : Hid (∀ g w', RdS w' g (rKind b).2 → Calls Try.prog 29 #[.pointer (some ⟨g, 0, none⟩), .int .i64 1, .int .i64 1073741824] w' fun x w'' => x = .returned (.int .i64 ((rKey b).1 : Int)) ∧ RdS w'' g (rKey b).2 ∧ w'.grownBy w'' (some g)) := Lib.hid (fun g w' h => withinR 1 1073741824 g _ w' h)
  have HFI : Hid (rFill b = fillS (fieldsN ((rKind b).1 : Int)) zeroL (rKey b).2) := Lib.hid rfl
  have HDE : Hid (rDeps b = if (rKind b).1 = 1 then depsS (withinS 0 4 (rFill b).2).1 (withinS 0 4 (rFill b).2).2 else ([], (rFill b).2)) := Lib.hid rfl
  have HRQ : Hid (∀ aa ac, readE b = 0 → readQ b aa ac = ⟨(rKind b).1, (rKey b).1, (rFill b).1, aa, ac, (rDeps b).1⟩) := Lib.hid (fun aa ac h => by unfold readQ; rw [if_pos h])
  have HAF := Lib.hid (fun g w' (hr : RdS w' g (rFill b).2) => readAfter g (rFill b).2 w' hr)
  have HE : Hid (readE b = endS (rDeps b).2) := Lib.hid (readE_end (.inr h2))
  have HAD : Hid ((rKind b).1 = 1 → ∀ g w', RdS w' g (rFill b).2 → Calls Try.prog 30 #[.pointer (some ⟨g, 0, none⟩)] w' fun e w'' => ∃ v, e = .returned v ∧ w''.ownsRow w'.heap.size 53 2 v (rDeps b).1.length (depsV (rDeps b).1) ∧ RdS w'' g (rDeps b).2 ∧ w'.grownBy w'' (some g)) := Lib.hid (fun h1 g w' hr => by
    have e : rDeps b = depsS (withinS 0 4 (rFill b).2).1 (withinS 0 4 (rFill b).2).2 := by unfold rDeps; rw [if_pos h1]; rfl
    rw [e, depsS_len]
    exact readAfter g (rFill b).2 w' hr)
  clear ha KI e1 hkk h2
  generalize rDeps b = rd at HDE HRQ HE HAD
  generalize rFill b = rf at HFI HDE HRQ HAF HAD
  generalize rKey b = rk at HKEY HFI HRQ
  generalize rKind b = r at HK HI HP HKEY HFI HDE HRQ HAD h
  obtain ⟨kk, s0⟩ := r
  obtain ⟨key, s1⟩ := rk
  simp only at HK HI HP HKEY HFI HDE HRQ HAD h
  obtain ⟨l0, er⟩ := s0
  simp only at h HK HKEY
  subst h
  go_enter Try.func11, Try.ntmps11
  go_wp2_with fail
  have HB0 := BoxQ.new w (bareQ 0 0)
  have HB0' : BoxQ (w.alloc (.cells #[.int .i64 0, .int .i64 0, .int .i64 0, .int .i64 0, .int .i64 0, .int .i64 0, .int .i64 0, .int .i64 0, .int .i64 0, .int .i64 0, .int .i64 0, .int .i64 0, .slice none 0 0, .int .i64 0, .int .i64 0, .int .i64 0, .int .i64 0] 26)) w.heap.size (bareQ 0 0) := HB0
  clear HB0
  generalize hw0 : World.alloc w _ = w0 at HB0' ⊢
  have hb0 : Below w.heap.size w w0 := by rw [← hw0]; exact (by repeat' (first | exact Below.refl _ _ | assumption | exact And.left (by assumption) | refine Below.drew ?_ | refine below_drewN ?_ _ | refine Below.setCell ?_ (by first | (simp; done) | (simp; omega) | omega) _ | refine Below.alloc ?_ (by first | (simp; done) | (simp; omega) | omega) _ | refine after (by assumption) (by first | (simp; done) | (simp; omega) | omega) ?_))
  have hlt0 := HB0'.lt
  clear hw0
  refine (HN.out w0 (HA.out.later hb0)).mono ?_; rintro e w1 ⟨g, rfl, hg, hrd, hb1⟩
  have hr1 : RdS w1 g (b, 0) := ⟨hrd, fun h => absurd rfl h, hl⟩
  have HB1 := Lib.hid (HB0'.on hb1)
  have hz1 := hb1.size
  have hW1 : Below w.heap.size w w1 := hb0.trans (hb1.mono (by omega))
  have K := HK.out g w1 hr1
  clear hrd HB0' hr1
  go_wp2_with fail
  refine K.mono ?_; rintro e w2 ⟨rfl, hr2, hg2⟩
  have HB2 := Lib.hid (HB1.out.grown hg2 (fun h => by injection h with h; omega))
  have hW2 : Below w.heap.size w w2 := hW1.grown hg2 hW1.size (fun j hj => by injection hj with hj; omega)
  have hz2 := hg2.size
  have HR2 := Lib.hid hr2
  have hglt := hr2.lt
  have hg1 : w.heap.size < g := by omega
  clear K hr2 hg2 HB1 HK HN
  go_wp2_with (first
    | (refine wpList_store_row rfl 26 (.tmp 5) (.tmp 13) rfl w2.heap.size _ rfl rfl 26 #[.int .i64 0, .int .i64 0, .int .i64 0, .int .i64 0, .int .i64 0, .int .i64 0, .int .i64 0, .int .i64 0, .int .i64 0, .int .i64 0, .int .i64 0, .int .i64 0, .slice none 0 0, .int .i64 0, .int .i64 0, .int .i64 0, .int .i64 0] (by repeat (first | (refine heap_top (by first | omega | (simp only [World.size_alloc]; done) | (simp only [World.size_alloc]; omega))) | refine heap_up ?_)) (by kernel_rfl) (by simp) (by simp [Value.oneCell']) ?_
       generalize hw3 : World.setRow _ _ _ = w3
       have hb3 : Below w2.heap.size w2 w3 := by rw [← hw3]; exact below_setRow ((by repeat' (first | exact Below.refl _ _ | assumption | exact And.left (by assumption) | refine Below.drew ?_ | refine below_drewN ?_ _ | refine Below.setCell ?_ (by first | (simp; done) | (simp; omega) | omega) _ | refine Below.alloc ?_ (by first | (simp; done) | (simp; omega) | omega) _ | refine after (by assumption) (by first | (simp; done) | (simp; omega) | omega) ?_))) (Nat.le_refl _) _
       have hg3 : w3.heap[w2.heap.size]? = some (.cells #[.int .i64 (kk : Int), .int .i64 0, .int .i64 0, .int .i64 0, .int .i64 0, .int .i64 0, .int .i64 0, .int .i64 0, .int .i64 0, .int .i64 0, .int .i64 0, .int .i64 0, .slice none 0 0, .int .i64 0, .int .i64 0, .int .i64 0, .int .i64 0] 26 (0, 0)) := by rw [← hw3]; exact setRow_heap _ _ _ _ _ _ (by repeat (first | (refine heap_top (by first | omega | (simp only [World.size_alloc]; done) | (simp only [World.size_alloc]; omega))) | refine heap_up ?_))
       have HX3 : Hid (BoxQ w3 w2.heap.size (bareQ kk 0)) := Lib.hid ⟨hg3⟩
       have hzl3 : w2.heap.size < w3.heap.size := HX3.out.lt
       clear hw3 hg3))
  have HB3 := Lib.hid (HB2.out.on hb3)
  have hW3 : Below w.heap.size w w3 := hW2.trans (hb3.mono hW2.size)
  have HR3 := Lib.hid (HR2.out.on hb3)
  have KE := errR g _ w3 HR3.out
  have k0 : w3.cell? ⟨w2.heap.size, 0, none⟩ = some (.int .i64 (kk : Int)) := HX3.out.c0
  obtain ⟨g5, hg5⟩ : ∃ g5, g5 = w2.heap.size := ⟨_, rfl⟩
  rw [← hg5] at HX3 k0 hzl3 hglt ⊢
  have hw5 : w.heap.size < g5 := by omega
  have HG5 := Lib.hid hg5
  clear HR2 HB2 hb3 hz2 hg5 hz1 hg hlt0
  refine KE.mono ?_; rintro e w4 ⟨rfl, rfl⟩
  clear KE
  go_wp2_with fail
  refine (HI.out w3).mono ?_; rintro e w4 ⟨rfl, rfl⟩
  go_wp2_with fail
  clear k0
  refine (HKEY.out g w3 HR3.out).mono ?_; rintro e w4 ⟨rfl, hr4, hg4⟩
  have HB4 := Lib.hid (HB3.out.grown hg4 (fun h => by injection h with h; omega))
  have HX4 := Lib.hid (HX3.out.grown hg4 (fun h => by injection h with h; omega))
  have HR4 := Lib.hid hr4
  have hW4 : Below w.heap.size w w4 := hW3.grown hg4 hW3.size (fun j hj => by injection hj with hj; omega)
  have hz4 : g5 < w4.heap.size := HX4.out.lt
  have c1 : w4.cell? ⟨g5, 1, none⟩ = some (.int .i64 0) := HX4.out.c1
  have f1 := HX4.out.thaw 1
  have HX5 : Hid (BoxQ (w4.setCell ⟨g5, 1, none⟩ (.int .i64 (key : Int))) g5 (bareQ kk key)) := Lib.hid ⟨(HX4.out.row.put 1 _).as rfl⟩
  have HR5 : Hid (RdS (w4.setCell ⟨g5, 1, none⟩ (.int .i64 (key : Int))) g s1) := Lib.hid (HR4.out.grown (grown_put 1 _) (fun j hj => by injection hj with hj; subst hj; exact ⟨_, _, HX4.out.row, by decide, by decide⟩))
  have HB5 : Hid (BoxQ (w4.setCell ⟨g5, 1, none⟩ (.int .i64 (key : Int))) w.heap.size (bareQ 0 0)) := Lib.hid (HB4.out.grown (grown_put (g := g5) 1 _) (fun h => by injection h with h; omega))
  have hW5 : Below w.heap.size w (w4.setCell ⟨g5, 1, none⟩ (.int .i64 (key : Int))) := hW4.setCell (by simp; omega) _
  have hz5 : w4.heap.size ≤ (w4.setCell ⟨g5, 1, none⟩ (.int .i64 (key : Int))).heap.size := by simp
  clear hr4 hg4 HB3 HX3 HR3 HB4 HR4 HX4 HKEY
  go_wp2_with fail
  clear c1 f1
  generalize World.setCell w4 ⟨g5, 1, none⟩ (.int .i64 (key : Int)) = w5 at HX5 HR5 HB5 hW5 hz5 ⊢
  refine (HP.out g5 w5 HX5.out.c0).mono ?_; rintro e w6 ⟨v6, rfl, hown6, hb6⟩
  obtain ⟨A6, c6, rfl, hc6, hrow6, _⟩ := RowT.of hown6
  have HT6 := Lib.hid hrow6
  have HX6 := Lib.hid (HX5.out.on hb6)
  have HR6 := Lib.hid (HR5.out.on hb6)
  have HB6 := Lib.hid (HB5.out.on hb6)
  have hW6 : Below w.heap.size w w6 := hW5.trans (hb6.mono hW5.size)
  clear hown6 hrow6 hb6 HX5 HR5 HB5 HP
  obtain ⟨fs, hfs⟩ : ∃ fs, fs = fieldsN (kk : Int) := ⟨_, rfl⟩
  rw [← hfs] at HT6 hc6 HFI ⊢
  have hfl : fs.length ≤ 8 := by rw [hfs]; exact fields_len _
  have HIN : Hid (∀ i ∈ fs, 1 ≤ i ∧ i ≤ 14) := Lib.hid (by rw [hfs]; exact fields_in _)
  have HF := Lib.hid hfs
  clear hfs
  go_wp2_with fail
  go_loopw [29] (fun v29 wr => ∃ k : Nat, k ≤ fs.length ∧ v29 = .int .i64 (k : Int) ∧ Hid (BoxQ wr g5 ⟨kk, key, (fillS (fs.take k) zeroL s1).1, none, 0, []⟩) ∧ Hid (RdS wr g (fillS (fs.take k) zeroL s1).2) ∧ Hid (RowT wr A6 46 (ptrsV g5 fs)) ∧ Hid (BoxQ wr w.heap.size (bareQ 0 0)) ∧ Below w.heap.size w wr) (fun v29 _ => fs.length - (intOf v29).toNat)
  case atStart => exact ⟨0, Nat.zero_le _, rfl, HX6, HR6, HT6, HB6, hW6⟩
  case round =>
    obtain ⟨k, hk, rfl, HX, HR, HT, HB, hbw⟩ := hrel
    have hz := hbw.size
    have hgz := HX.out.lt
    clear HX6 HR6 HT6 HB6 hW6
    by_cases hlt : k < fs.length
    · obtain ⟨b1, o1, e1, hbl1, hcs⟩ := HT.out.row.row (by rw [ptrs_len]; omega)
      have c1 := hcs k _ (ptrs_at g5 fs k hlt)
      have hin := HIN.out fs[k] (List.getElem_mem hlt)
      have HFT := Lib.hid (fill_take fs zeroL s1 k hlt)
      have hfl2 := fillS_len (fs.take k) zeroL s1
      have HFL := Lib.hid hfl2
      have E1 := Lib.hid e1
      clear e1 hcs hfl2
      generalize fs[k] = i at c1 hin HFT
      generalize fillS (fs.take k) zeroL s1 = F at HX HR HFT HFL
      obtain ⟨L, s2⟩ := F
      simp only at HX HR HFT HFL
      have KN := numberS g s2 wr HR.out
      have HSB := Lib.hid (fun w' (hr : RdS w' g s2) => hr.row)
      generalize numS s2 = r2 at KN HFT
      obtain ⟨n2, s3⟩ := r2
      simp only at KN HFT
      obtain rfl := E1.out
      go_wp2_with fail
      refine KN.mono ?_; rintro e w7 ⟨rfl, hr7, hg7⟩
      have HX7 := Lib.hid (HX.out.grown hg7 (fun h => by injection h with h; omega))
      have HB7 := Lib.hid (HB.out.grown hg7 (fun h => by injection h with h; omega))
      have HT7 := Lib.hid (HT.out.grown hg7 (fun j hj => by
        injection hj with hj
        subst hj
        obtain ⟨cs, hr⟩ := HSB.out wr HR.out
        exact ⟨_, cs, hr, by decide⟩))
      have hW7 : Below w.heap.size w w7 := hbw.grown hg7 hz (fun j hj => by injection hj with hj; omega)
      have d1 := HX7.out.num hin.1 hin.2
      have d2 := HX7.out.thaw (cix i)
      have hz7 := HX7.out.lt
      have HX8 : Hid (BoxQ (w7.setCell ⟨g5, cix i, none⟩ (.int .i64 (n2 : Int))) g5 ⟨kk, key, (fillS (fs.take (k + 1)) zeroL s1).1, none, 0, []⟩) := Lib.hid (by
        rw [HFT.out]
        exact HX7.out.put HFL.out hin.1 hin.2 n2)
      have HR8 : Hid (RdS (w7.setCell ⟨g5, cix i, none⟩ (.int .i64 (n2 : Int))) g (fillS (fs.take (k + 1)) zeroL s1).2) := Lib.hid (by
        rw [HFT.out]
        exact hr7.grown (grown_put (g := g5) (cix i) _) (fun j hj => by injection hj with hj; subst hj; exact ⟨_, _, HX7.out.row, by decide, by decide⟩))
      have HT8 : Hid (RowT (w7.setCell ⟨g5, cix i, none⟩ (.int .i64 (n2 : Int))) (some ⟨b1, o1, none⟩) 46 (ptrsV g5 fs)) := Lib.hid (HT7.out.grown (grown_put (g := g5) (cix i) _) (fun j hj => by injection hj with hj; subst hj; exact ⟨_, _, HX7.out.row, by decide⟩))
      have HB8 : Hid (BoxQ (w7.setCell ⟨g5, cix i, none⟩ (.int .i64 (n2 : Int))) w.heap.size (bareQ 0 0)) := Lib.hid (HB7.out.grown (grown_put (g := g5) (cix i) _) (fun h => by injection h with h; omega))
      have hW8 : Below w.heap.size w (w7.setCell ⟨g5, cix i, none⟩ (.int .i64 (n2 : Int))) := hW7.setCell (by simp; omega) _
      clear hr7 hg7 KN HX HB HT HR HFT HSB HX7 HB7 HT7
      generalize (_ : Rq).n i = x at d1
      generalize cix i = c at d1 d2 HX8 HR8 HT8 HB8 hW8 c1
      go_wp2
      go_roundw
      case rel => exact ⟨k + 1, by omega, by go_num, HX8, HR8, HT8, HB8, hW8⟩
      case measure => simp [intOf]; omega
    · have hkl : k = fs.length := by omega
      subst hkl
      have HF2 : Hid (fillS (fs.take fs.length) zeroL s1 = rf) := Lib.hid (by rw [List.take_length, HFI.out])
      rw [HF2.out] at HX HR
      clear HFI HT HIN HF HF2
      have k0 : wr.cell? ⟨g5, 0, none⟩ = some (.int .i64 (kk : Int)) := HX.out.c0
      by_cases he : kk = 1
      · have hk1 : ((kk : Int) == 1) = true := by rw [he]; rfl
        have hk2 : Hid (kk = 1) := Lib.hid he
        clear he
        have KA := HAD.out hk2.out g wr HR.out
        go_wp2_with fail
        refine KA.mono ?_; rintro e w9 ⟨v9, rfl, hown9, hr9, hg9⟩
        obtain ⟨A9, c9, rfl, hrow9, hs9⟩ := own_formS hown9
        have HX9 := Lib.hid (HX.out.grown hg9 (fun h => by injection h with h; omega))
        have HB9 := Lib.hid (HB.out.grown hg9 (fun h => by injection h with h; omega))
        have hW9 : Below w.heap.size w w9 := hbw.grown hg9 hz (fun j hj => by injection hj with hj; omega)
        have hz9 := hg9.size
        have c12 : w9.cell? ⟨g5, 12, none⟩ = some (.slice none 0 0) := HX9.out.c12
        have f12 := HX9.out.thaw 12
        have HX10 : Hid (BoxQ (w9.setCell ⟨g5, 12, none⟩ (.slice A9 rd.1.length c9)) g5 ⟨kk, key, rf.1, A9, c9, rd.1⟩) := Lib.hid (HX9.out.putA A9 c9 rd.1)
        have HR10 : Hid (RdS (w9.setCell ⟨g5, 12, none⟩ (.slice A9 rd.1.length c9)) g rd.2) := Lib.hid (hr9.grown (grown_put (g := g5) 12 _) (fun j hj => by injection hj with hj; subst hj; exact ⟨_, _, HX9.out.row, by decide, by decide⟩))
        have HB10 : Hid (BoxQ (w9.setCell ⟨g5, 12, none⟩ (.slice A9 rd.1.length c9)) w.heap.size (bareQ 0 0)) := Lib.hid (HB9.out.grown (grown_put (g := g5) 12 _) (fun h => by injection h with h; omega))
        have HS9 : Hid (∀ b off, A9 = some ⟨b, off, none⟩ → wr.heap.size ≤ b) := Lib.hid (fun b off e => by
          rcases hs9 with ⟨h, _⟩ | ⟨j, h, hj⟩
          · rw [h] at e; cases e
          · rw [h] at e; injection e with e; injection e with e1 _; omega)
        have HO10 : Hid (RowAt (w9.setCell ⟨g5, 12, none⟩ (.slice A9 rd.1.length c9)) A9 (depsV rd.1)) := Lib.hid (hrow9.grown (grown_put (g := g5) 12 _) (fun b off e _ x => by have := HS9.out b off e; injection x with x; omega))
        have hW10 : Below w.heap.size w (w9.setCell ⟨g5, 12, none⟩ (.slice A9 rd.1.length c9)) := hW9.setCell (by simp; omega) _
        clear hown9 hr9 hg9 hrow9 hs9 HX9 HB9 HX HR HB KA HAF HAD
        generalize hw10 : World.setCell w9 ⟨g5, 12, none⟩ (.slice A9 rd.1.length c9) = w10 at HX10 HR10 HB10 HO10 hW10
        have KN := endR g rd.2 w10 HR10.out
        by_cases hE : endS rd.2 = 0
        · obtain ⟨qq, hqq⟩ : ∃ qq, qq = (⟨kk, key, rf.1, A9, c9, rd.1⟩ : Rq) := ⟨_, rfl⟩
          rw [← hqq] at HX10
          have HTO : Hid (∀ w', Below w.heap.size w w' → RowAt w' qq.aa (depsV qq.af) → ReadTo b w (.returned (.tuple #[.agg #[.int .i64 qq.kind, .int .i64 qq.key, .int .i64 (qq.n 1), .int .i64 (qq.n 2), .int .i64 (qq.n 3), .int .i64 (qq.n 4), .int .i64 (qq.n 5), .int .i64 (qq.n 6), .int .i64 (qq.n 7), .int .i64 (qq.n 8), .int .i64 (qq.n 9), .int .i64 (qq.n 10), .slice qq.aa qq.af.length qq.ac, .int .i64 (qq.n 11), .int .i64 (qq.n 12), .int .i64 (qq.n 13), .int .i64 (qq.n 14)], .int .i64 0])) w') := Lib.hid (fun w' h1 h2 => by
            have he : readE b = 0 := by rw [HE.out]; exact hE
            have hq := HRQ.out A9 c9 he
            refine ⟨A9, c9, ?_, ?_, h1⟩
            · rw [hq, he, ← hqq]; rfl
            · rw [hq, ← hqq]; exact h2)
          have HROW : Hid (RowAt w10 qq.aa (depsV qq.af)) := Lib.hid (by rw [hqq]; exact HO10.out)
          have HSQ : Hid (∀ b off, qq.aa = some ⟨b, off, none⟩ → b ≠ w.heap.size) := Lib.hid (fun b off e => by rw [hqq] at e; have := HS9.out b off e; omega)
          rw [hE] at KN
          clear hqq hE HS9 HO10
          go_wp2_with fail
          (try rw [hw10])
          clear hw10
          refine KN.mono ?_; rintro e w11 ⟨rfl, rfl⟩
          clear KN
          go_wp2_with (first
            | (refine wpList_store_row rfl 26 (.tmp 2) (.tmp 50) rfl w.heap.size _ rfl rfl 26 _ HB10.out.row (by kernel_rfl) (by simp) (by simp [Value.oneCell']) ?_
               generalize hwz : World.setRow _ _ _ = wz
               have hbz : Below w.heap.size w wz := by rw [← hwz]; exact below_setRow hW10 (Nat.le_refl _) _
               have hgz9 : wz.heap[w.heap.size]? = some (.cells #[.int .i64 qq.kind, .int .i64 qq.key, .int .i64 (qq.n 1), .int .i64 (qq.n 2), .int .i64 (qq.n 3), .int .i64 (qq.n 4), .int .i64 (qq.n 5), .int .i64 (qq.n 6), .int .i64 (qq.n 7), .int .i64 (qq.n 8), .int .i64 (qq.n 9), .int .i64 (qq.n 10), .slice qq.aa qq.af.length qq.ac, .int .i64 (qq.n 11), .int .i64 (qq.n 12), .int .i64 (qq.n 13), .int .i64 (qq.n 14)] 26 (0, 0)) := by rw [← hwz]; exact setRow_heap _ _ _ _ _ _ HB10.out.row
               have HRZ : Hid (RowAt wz qq.aa (depsV qq.af)) := Lib.hid (by rw [← hwz]; exact row_setRow HROW.out (fun b off e _ => HSQ.out b off e) _)
               clear hwz)
            | refine wpList_load_q (q := qq) rfl (.tmp 5) rfl rfl HX10.out ?_)
          refine bodyPost_ret (results_cell_tmp_row Try.results11 _ _ w.heap.size _ _ _ _ rfl hgz9 Try.underlying26 rfl (by kernel_rfl)) rfl ?_
          exact HTO.out wz hbz HRZ.out
        · have HEE : Hid (readE b = endS rd.2) := Lib.hid HE.out
          generalize endS rd.2 = E at KN hE HEE
          have h1 : ¬ ((E : Int) = 0) := by omega
          have h2 : ((E : Int) == 0) = false := by simpa using h1
          have h3 : ((E : Int) != 0) = true := by simpa using h1
          clear h1 HS9 HO10 HX10 HR10
          go_wp2_with fail
          (try rw [hw10])
          clear hw10
          refine KN.mono ?_; rintro e w11 ⟨rfl, rfl⟩
          clear KN
          go_wp2_with (first
            | (refine wpList_store_row rfl 26 (.tmp 2) (.tmp 48) rfl w.heap.size _ rfl rfl 26 _ HB10.out.row (by kernel_rfl) (by simp) (by simp [Value.oneCell']) ?_
               generalize hwz : World.setRow _ _ _ = wz
               have hbz : Below w.heap.size w wz := by rw [← hwz]; exact below_setRow hW10 (Nat.le_refl _) _
               have hgz9 : wz.heap[w.heap.size]? = some (.cells #[.int .i64 0, .int .i64 0, .int .i64 0, .int .i64 0, .int .i64 0, .int .i64 0, .int .i64 0, .int .i64 0, .int .i64 0, .int .i64 0, .int .i64 0, .int .i64 0, .slice none 0 0, .int .i64 0, .int .i64 0, .int .i64 0, .int .i64 0] 26 (0, 0)) := by rw [← hwz]; exact setRow_heap _ _ _ _ _ _ HB10.out.row
               clear hwz))
          refine bodyPost_ret (results_cell_tmp_row Try.results11 _ _ w.heap.size _ _ _ _ rfl hgz9 Try.underlying26 rfl (by kernel_rfl)) rfl ?_
          exact read_to_no E hE HEE.out hbz
      · have hk1 : ((kk : Int) == 1) = false := by simp; omega
        have HRD : Hid (rd = ([], rf.2)) := Lib.hid (by rw [HDE.out, if_neg he])
        clear he
        have KN := endR g rf.2 wr HR.out
        by_cases hE : endS rf.2 = 0
        · obtain ⟨qq, hqq⟩ : ∃ qq, qq = (⟨kk, key, rf.1, none, 0, []⟩ : Rq) := ⟨_, rfl⟩
          rw [← hqq] at HX
          have HTO : Hid (∀ w', Below w.heap.size w w' → RowAt w' qq.aa (depsV qq.af) → ReadTo b w (.returned (.tuple #[.agg #[.int .i64 qq.kind, .int .i64 qq.key, .int .i64 (qq.n 1), .int .i64 (qq.n 2), .int .i64 (qq.n 3), .int .i64 (qq.n 4), .int .i64 (qq.n 5), .int .i64 (qq.n 6), .int .i64 (qq.n 7), .int .i64 (qq.n 8), .int .i64 (qq.n 9), .int .i64 (qq.n 10), .slice qq.aa qq.af.length qq.ac, .int .i64 (qq.n 11), .int .i64 (qq.n 12), .int .i64 (qq.n 13), .int .i64 (qq.n 14)], .int .i64 0])) w') := Lib.hid (fun w' h1 h2 => by
            have he : readE b = 0 := by rw [HE.out]; rw [HRD.out]; exact hE
            have hq := HRQ.out none 0 he
            refine ⟨none, 0, ?_, ?_, h1⟩
            · rw [hq, he, HRD.out, ← hqq]; rfl
            · rw [hq, HRD.out, ← hqq]; exact h2)
          have HROW : Hid (∀ w', RowAt w' qq.aa (depsV qq.af)) := Lib.hid (fun w' => by rw [hqq]; exact .inl rfl)
          rw [hE] at KN
          clear hqq hE HR HAF HAD
          go_wp2_with fail
          refine KN.mono ?_; rintro e w11 ⟨rfl, rfl⟩
          clear KN
          go_wp2_with (first
            | (refine wpList_store_row rfl 26 (.tmp 2) (.tmp 50) rfl w.heap.size _ rfl rfl 26 _ HB.out.row (by kernel_rfl) (by simp) (by simp [Value.oneCell']) ?_
               generalize hwz : World.setRow _ _ _ = wz
               have hbz : Below w.heap.size w wz := by rw [← hwz]; exact below_setRow hbw (Nat.le_refl _) _
               have hgz9 : wz.heap[w.heap.size]? = some (.cells #[.int .i64 qq.kind, .int .i64 qq.key, .int .i64 (qq.n 1), .int .i64 (qq.n 2), .int .i64 (qq.n 3), .int .i64 (qq.n 4), .int .i64 (qq.n 5), .int .i64 (qq.n 6), .int .i64 (qq.n 7), .int .i64 (qq.n 8), .int .i64 (qq.n 9), .int .i64 (qq.n 10), .slice qq.aa qq.af.length qq.ac, .int .i64 (qq.n 11), .int .i64 (qq.n 12), .int .i64 (qq.n 13), .int .i64 (qq.n 14)] 26 (0, 0)) := by rw [← hwz]; exact setRow_heap _ _ _ _ _ _ HB.out.row
               have HRZ : Hid (RowAt wz qq.aa (depsV qq.af)) := Lib.hid (by rw [← hwz]; exact HROW.out _)
               clear hwz)
            | refine wpList_load_q (q := qq) rfl (.tmp 5) rfl rfl HX.out ?_)
          refine bodyPost_ret (results_cell_tmp_row Try.results11 _ _ w.heap.size _ _ _ _ rfl hgz9 Try.underlying26 rfl (by kernel_rfl)) rfl ?_
          exact HTO.out wz hbz HRZ.out
        · have HEE : Hid (readE b = endS rf.2) := Lib.hid (by rw [HE.out, HRD.out])
          generalize endS rf.2 = E at KN hE HEE
          have h1 : ¬ ((E : Int) = 0) := by omega
          have h2 : ((E : Int) == 0) = false := by simpa using h1
          have h3 : ((E : Int) != 0) = true := by simpa using h1
          clear h1 HX HR HAF HAD
          go_wp2_with fail
          refine KN.mono ?_; rintro e w11 ⟨rfl, rfl⟩
          clear KN
          go_wp2_with (first
            | (refine wpList_store_row rfl 26 (.tmp 2) (.tmp 48) rfl w.heap.size _ rfl rfl 26 _ HB.out.row (by kernel_rfl) (by simp) (by simp [Value.oneCell']) ?_
               generalize hwz : World.setRow _ _ _ = wz
               have hbz : Below w.heap.size w wz := by rw [← hwz]; exact below_setRow hbw (Nat.le_refl _) _
               have hgz9 : wz.heap[w.heap.size]? = some (.cells #[.int .i64 0, .int .i64 0, .int .i64 0, .int .i64 0, .int .i64 0, .int .i64 0, .int .i64 0, .int .i64 0, .int .i64 0, .int .i64 0, .int .i64 0, .int .i64 0, .slice none 0 0, .int .i64 0, .int .i64 0, .int .i64 0, .int .i64 0] 26 (0, 0)) := by rw [← hwz]; exact setRow_heap _ _ _ _ _ _ HB.out.row
               clear hwz))
          refine bodyPost_ret (results_cell_tmp_row Try.results11 _ _ w.heap.size _ _ _ _ rfl hgz9 Try.underlying26 rfl (by kernel_rfl)) rfl ?_
          exact read_to_no E hE HEE.out hbz
/-- which request bytes are -/
theorem askRead (a : Option Addr) (cap : Nat) (b : List UInt8) (hl : b.length ≤ 100000) (hc : a = none → cap = 0) (w : World) (ha : RowAt w a (bytesV b)) :
    Calls Try.prog 11 #[.slice a b.length cap] w (ReadTo b w) := by
  by_cases h : (rKind b).2.2 = 0
  · cases h2 : kindB (rKind b).1 with
    | false => exact read_kind a cap b hl hc w ha h h2
    | true => exact read_gen a cap b hl hc w ha h h2
  · exact read_bad a cap b hl hc w ha h
end Go.Proofs.Ytkeboafejebanaa.W
