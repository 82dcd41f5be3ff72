/-
  Contracts of reply.readNums and reply.Read: which reply bytes are.
-/
import Derived.Test.YtbnlchbklpgejaaDoorReplyRight
namespace Go.Proofs.YtbnlchbklpgejaaDoor.W
set_option linter.unusedVariables false
set_option linter.unusedSimpArgs false
open Go.ChangeShapes Go.WideShapes Go.ChangeAt Go.RowKit

theorem grown_own {w wr w' : World} {row row' : Option Nat} (h : w.grownBy wr row) (h' : wr.grownBy w' row') (hr : ∀ k, row' = some k → w.heap.size ≤ k ∨ row = some k) : w.grownBy w' row :=
  ⟨h'.os.trans h.os, h'.tape.trans h.tape, h'.output.trans h.output, Nat.le_trans h.size h'.size, fun i hi hne => (h'.block i (Nat.lt_of_lt_of_le hi h.size) (fun e => by
    rcases hr i e.symm with h1 | h1
    · omega
    · exact hne h1.symm)).trans (h.block i hi hne)⟩
theorem below_grown {w wr w' : World} {row : Option Nat} (h : w.grownBy wr row) (hb : Below wr.heap.size wr w') : w.grownBy w' row :=
  ⟨hb.os.trans h.os, hb.tape.trans h.tape, hb.output.trans h.output, Nat.le_trans h.size hb.size, fun i hi hne => (hb.block i (Nat.lt_of_lt_of_le hi h.size)).trans (h.block i hi hne)⟩
theorem RdS.row {w : World} {g : Nat} {s : St} (h : RdS w g s) : ∃ cs, Row w g 60 cs := by
  obtain ⟨a, cap, h1, _⟩ := h.rd
  exact ⟨_, h1⟩
/-- of an append's block: it is none of the reader's -/
theorem RdS.pushed {w w' : World} {B g n sz : Nat} {v : Value} {xs : List Value} {s : St} {e : TypeId} (hd : RdS w g s) (h : w.ownsRow B e sz v n xs) (h1 : e ≠ 60) (h2 : e ≠ 5) (o : Obj) (hg : (w.alloc o).grownBy w' v.ownBlock) : RdS w' g s :=
  (hd.on ((Below.refl _ w).alloc (Nat.le_refl _) o)).grown hg fun k hk => by
    obtain ⟨cs, hr⟩ := own_row h k hk
    exact ⟨_, cs, hr.alloc o, h1, h2⟩
theorem own_turned {w w' : World} {B g n sz : Nat} {v : Value} {xs : List Value} {s : St} {e : TypeId} (h : w.ownsRow B e sz v n xs) (hd : RdS w g s) (h1 : e ≠ 60) (hg : w.grownBy w' (some g)) : w'.ownsRow B e sz v n xs := by
  obtain ⟨cs, hr⟩ := hd.row
  exact h.kept hg (.inr (own_row_ne h hr h1))
theorem results_cell_tmp_row {P : Program} {fn : Func} {p u : Tmp} {ty : TypeId} (h : fn.results = #[.cell p ty, .tmp u]) (tmps : Array Value) (w : World) (g : Nat) (t : TypeId) (cs : Array Value) (fr : Nat × Nat) (d : TypeDesc)
    (hp : tmps.getD p undef = .pointer (some ⟨g, 0, none⟩)) (hg : w.heap[g]? = some (.cells cs t fr))
    (hu : P.underlying ty = some d) (hd : (match d with | .struct _ | .array _ _ => true | _ => false) = true) (hi : (P.info? ty).map (·.size) = some cs.size) :
    (results fn tmps).run P w = .ok (.tuple #[.agg cs, tmps.getD u undef]) w := by
  rw [results_cell_tmp h, hp]
  simp [asAddr, Result.andThen, run_loadVar_row w g t ty cs fr d hg hu hd hi]
theorem row_setRow {w : World} {a : Option Addr} {xs : List Value} {g : Nat} (h : RowAt w a xs) (hg : ∀ b off, a = some ⟨b, off, none⟩ → xs ≠ [] → b ≠ g) (cs : Array Value) : RowAt (w.setRow g cs) a xs := by
  by_cases hx : xs = []
  · exact .inl hx
  · rcases h with rfl | ⟨b, off, rfl, hl, hc⟩
    · exact absurd rfl hx
    · exact .inr ⟨b, off, rfl, by simpa using hl, fun i u hu => (World.cell?_of_block (a := ⟨b, off + i, none⟩) (setRow_other w g b cs (hg b off rfl hx))).trans (hc i u hu)⟩
theorem own_form2 {w : World} {base : Nat} {e : TypeId} {n : Nat} {v : Value} {xs : List Value} (h : w.ownsRow base e 1 v n xs) :
    ∃ a cap, v = .slice a n cap ∧ RowAt w a xs ∧ (a = none → cap = 0) ∧ ∀ b off, a = some ⟨b, off, none⟩ → base ≤ b := by
  obtain ⟨a, cap, h1, h2, h3, h4⟩ := own_form h
  refine ⟨a, cap, h1, h3, fun ha => ?_, fun b off ha => ?_⟩
  · rcases h4 with ⟨_, _, h⟩ | ⟨g, h, _⟩
    · exact h
    · rw [ha] at h; cases h
  · rcases h4 with ⟨h, _⟩ | ⟨g, h, hg, _⟩
    · rw [h] at ha; cases ha
    · rw [h] at ha; injection ha with ha; injection ha with e1 _; omega

set_option maxRecDepth 100000 in
set_option maxHeartbeats 2000000 in
theorem readNums (g : Nat) (s : St) (w : World) (h : RdS w g s) :
    Calls Tryd.prog 25 #[.pointer (some ⟨g, 0, none⟩)] w fun e w' => ∃ v, e = .returned v ∧ w'.ownsRow w.heap.size 3 1 v (withinS 0 64 s).1 (vals (manyS (withinS 0 64 s).1 (withinS 0 64 s).2).1) ∧
      RdS w' g (manyS (withinS 0 64 s).1 (withinS 0 64 s).2).2 ∧ w.grownBy w' (some g) := by
  have HM : Hid (∀ w', RdS w' g s → Calls Tryd.prog 24 #[.pointer (some ⟨g, 0, none⟩), .int .i64 0, .int .i64 64] w' fun x w'' => x = .returned (.int .i64 ((withinS 0 64 s).1 : Int)) ∧ RdS w'' g (withinS 0 64 s).2 ∧ w'.grownBy w'' (some g)) := Lib.hid (fun w' h => withinR 0 64 g s w' h)
  have HN := Lib.hid (fun s w' h => numberS g s w' h)
  have HR := Lib.hid h
  have hle := withinS_le (lo := 0) (hi := 64) (s := s)
  have hgl := h.lt
  obtain ⟨i0, hi, hz0, hz1, hz2⟩ := info_parts infoI
  clear h
  generalize withinS 0 64 s = r at HM hle ⊢
  obtain ⟨m, s1⟩ := r
  simp only at hle HM ⊢
  go_enter Tryd.func25, Tryd.ntmps25
  go_wp2_with fail
  refine (HM.out w HR.out).mono ?_; rintro e w1 ⟨rfl, hr1, hg1⟩
  have HR1 := Lib.hid hr1
  have HG1 := Lib.hid hg1
  clear hr1 hg1 HM
  go_wp2_with fail
  go_loopw [3, 6] (fun v3 v6 wr => ∃ k : Nat, k ≤ m ∧ v6 = .int .i64 (k : Int) ∧ Hid (wr.ownsRow w.heap.size 3 1 v3 k (vals (manyS k s1).1)) ∧ Hid (RdS wr g (manyS k s1).2) ∧ Hid (w.grownBy wr (some g))) (fun _ v6 _ => m - (intOf v6).toNat)
  case atStart => exact ⟨0, Nat.zero_le _, rfl, Lib.hid (World.ownsRow_nil _ _ _ _), HR1, HG1⟩
  case round =>
    obtain ⟨k, hk, rfl, HOw, HRr, HG⟩ := hrel
    have hz := HG.out.size
    clear HR1 HG1 HR
    by_cases hlt : k < m
    · have HD : Hid (vals (manyS (k + 1) s1).1 = vals (manyS k s1).1 ++ [.int .i64 ((numS (manyS k s1).2).1 : Int)] ∧ (manyS (k + 1) s1).2 = (numS (manyS k s1).2).2) := Lib.hid ⟨vals_snoc _ _, rfl⟩
      have KN := HN.out _ wr HRr.out
      generalize (manyS k s1).2 = s2 at KN HRr HD
      generalize numS s2 = r2 at KN HD
      obtain ⟨n2, s3⟩ := r2
      simp only at KN HD
      go_wp2_with fail
      refine KN.mono ?_; rintro e w2 ⟨rfl, hr2, hg2⟩
      have HO2 := Lib.hid (own_turned HOw.out HRr.out (by decide) hg2)
      have HG2 := Lib.hid (grown_trans HG.out hg2)
      have HR2 := Lib.hid hr2
      have hz2 := HG2.out.size
      clear hr2 hg2 HOw HRr HG KN
      go_wp2_with (at_builtin; refine pushG _ _ 23 3 8 (.int .i64 0) i0 Tryd.underlying23 hi hz0 hz1 ‹i0.bytes = 8› rfl w.heap.size k _ (.int .i64 (n2 : Int)) _ _ w2 rfl rfl rfl rfl HO2.out hz2 (by simp [Value.oneCell']) (by omega) (by decide) ?_)
      intro v5 w5 hown5 hg5
      have HR5 := Lib.hid (HR2.out.pushed HO2.out (by decide) (by decide) _ hg5)
      have HG5 : Hid (w.grownBy w5 (some g)) := Lib.hid (grown_own (below_grown HG2.out ((Below.refl _ w2).alloc (Nat.le_refl _) _)) hg5 (fun j hj => .inl (HO2.out.lt j hj).1))
      have HO5 : Hid (w5.ownsRow w.heap.size 3 1 v5 (k + 1) (vals (manyS (k + 1) s1).1)) := Lib.hid (by rw [HD.out.1]; exact hown5)
      have HR6 : Hid (RdS w5 g (manyS (k + 1) s1).2) := Lib.hid (by rw [HD.out.2]; exact HR5.out)
      clear hown5 hg5 HR5 HO2 HR2 HG2 HD
      go_wp2
      go_roundw
      case rel => exact ⟨k + 1, by omega, by go_num, HO5, HR6, HG5⟩
      case measure => simp [intOf]; omega
    · have hkl : k = m := by omega
      subst hkl
      go_wp2
      go_ret
      exact ⟨_, rfl, HOw.out, HRr.out, HG.out⟩

/-- how far it is, when so many of the four numbers are read -/
def rdAt (b : List UInt8) : Nat → St
  | 0 => (b, 0)
  | 1 => (p1 b).2
  | 2 => (p2 b).2
  | 3 => (p3 b).2
  | _ => (p4 b).2
def valAt (b : List UInt8) : Nat → Nat
  | 0 => (p1 b).1
  | 1 => (p2 b).1
  | 2 => (p3 b).1
  | _ => (p4 b).1
def aheadV (x : Nat → Nat) : Nat → Array Value
  | 0 => #[.int .i64 0, .int .i64 0, .int .i64 0, .int .i64 0]
  | 1 => #[.int .i64 (x 0 : Int), .int .i64 0, .int .i64 0, .int .i64 0]
  | 2 => #[.int .i64 (x 0 : Int), .int .i64 (x 1 : Int), .int .i64 0, .int .i64 0]
  | 3 => #[.int .i64 (x 0 : Int), .int .i64 (x 1 : Int), .int .i64 (x 2 : Int), .int .i64 0]
  | _ => #[.int .i64 (x 0 : Int), .int .i64 (x 1 : Int), .int .i64 (x 2 : Int), .int .i64 (x 3 : Int)]
abbrev WithinTo (g : Nat) (w' : World) (n : Nat) (s : St) (x : Ending) (w'' : World) : Prop := x = .returned (.int .i64 (n : Int)) ∧ RdS w'' g s ∧ w'.grownBy w'' (some g)
theorem within0 (b : List UInt8) (g : Nat) (w : World) (h : RdS w g (rdAt b 0)) : Calls Tryd.prog 24 #[.pointer (some ⟨g, 0, none⟩), .int .i64 0, .int .i64 1073741824] w (WithinTo g w (valAt b 0) (rdAt b 1)) := by
  have := withinR 0 1073741824 g (b, 0) w h; rw [← p1_eq] at this; exact this
theorem within1 (b : List UInt8) (g : Nat) (w : World) (h : RdS w g (rdAt b 1)) : Calls Tryd.prog 24 #[.pointer (some ⟨g, 0, none⟩), .int .i64 0, .int .i64 99] w (WithinTo g w (valAt b 1) (rdAt b 2)) := by
  have := withinR 0 99 g (p1 b).2 w h; rw [← p2_eq] at this; exact this
theorem within2 (b : List UInt8) (g : Nat) (w : World) (h : RdS w g (rdAt b 2)) : Calls Tryd.prog 24 #[.pointer (some ⟨g, 0, none⟩), .int .i64 0, .int .i64 281474976710656] w (WithinTo g w (valAt b 2) (rdAt b 3)) := by
  have := withinR 0 281474976710656 g (p2 b).2 w h; rw [within_num, ← p3_eq] at this; exact this
theorem within3 (b : List UInt8) (g : Nat) (w : World) (h : RdS w g (rdAt b 3)) : Calls Tryd.prog 24 #[.pointer (some ⟨g, 0, none⟩), .int .i64 0, .int .i64 281474976710656] w (WithinTo g w (valAt b 3) (rdAt b 4)) := by
  have := withinR 0 281474976710656 g (p3 b).2 w h; rw [within_num, ← p4_eq] at this; exact this
/-- what a call of Read comes to -/
def ReadToP (b : List UInt8) (w : World) (e : Ending) (w' : World) : Prop :=
  ∃ na nc, e = .returned (.tuple #[.agg #[.int .i64 (readP b na nc).key, .int .i64 (readP b na nc).err, .int .i64 (readP b na nc).job, .int .i64 (readP b na nc).ver, .slice (readP b na nc).na (readP b na nc).nums.length (readP b na nc).nc], .int .i64 (readPE b : Int)]) ∧ RowAt w' (readP b na nc).na (vals (readP b na nc).nums) ∧ ((readP b na nc).na = none → (readP b na nc).nc = 0) ∧ Below w.heap.size w w'
theorem readP_no {b : List UInt8} (h : readPE b ≠ 0) (na : Option Addr) (nc : Nat) : readP b na nc = zeroP := by unfold readP; rw [if_neg h]
theorem readP_to_no {b : List UInt8} {w w' : World} (n : Nat) (hn : n ≠ 0) (h : readPE b = n) (hb : Below w.heap.size w w') : ReadToP b w (.returned (.tuple #[.agg #[.int .i64 0, .int .i64 0, .int .i64 0, .int .i64 0, .slice none 0 0], .int .i64 (n : Int)])) w' := by
  refine ⟨none, 0, ?_, ?_, ?_, hb⟩
  · rw [readP_no (by rw [h]; exact hn), h]; rfl
  · rw [readP_no (by rw [h]; exact hn)]; exact .inl rfl
  · intro _; rw [readP_no (by rw [h]; exact hn)]; rfl
theorem readP_to_yes {b : List UInt8} {w w' : World} (a : Option Addr) (c : Nat) (hc : a = none → c = 0) (h : readPE b = 0) (hr : RowAt w' a (vals (p6 b).1)) (hb : Below w.heap.size w w') :
    ReadToP b w (.returned (.tuple #[.agg #[.int .i64 (valAt b 0 : Int), .int .i64 (valAt b 1 : Int), .int .i64 (valAt b 2 : Int), .int .i64 (valAt b 3 : Int), .slice a (p5 b).1 c], .int .i64 0])) w' := by
  have hq : readP b a c = ⟨(p1 b).1, (p2 b).1, (p3 b).1, (p4 b).1, a, c, (p6 b).1⟩ := by unfold readP; rw [if_pos h]
  refine ⟨a, c, ?_, ?_, ?_, hb⟩
  · rw [hq, h, ← p6_len]
    unfold valAt
    generalize p1 b = y1
    generalize p2 b = y2
    generalize p3 b = y3
    generalize p4 b = y4
    generalize p6 b = y6
    rfl
  · rw [hq]
    generalize p6 b = y6 at hr ⊢
    exact hr
  · rw [hq]; exact hc
set_option maxRecDepth 100000 in
set_option maxHeartbeats 4000000 in
theorem replyRead (a : Option Addr) (cap : Nat) (b : List UInt8) (hl : b.length ≤ 100000) (hc : a = none → cap = 0) (w : World) (hS : Std w) (ha : RowAt w a (bytesV b)) :
    Calls Tryd.prog 12 #[.slice a b.length cap] w (ReadToP b w) := by
  have HN := Lib.hid (fun w ha => new a cap b w (by omega) hc ha)
  have HA := Lib.hid ha
  have HS := Lib.hid hS
  have HW0 := Lib.hid (within0 b)
  have HW1 := Lib.hid (within1 b)
  have HW2 := Lib.hid (within2 b)
  have HW3 := Lib.hid (within3 b)
  have HNU : Hid (∀ g w', RdS w' g (rdAt b 4) → Calls Tryd.prog 25 #[.pointer (some ⟨g, 0, none⟩)] w' fun e w'' => ∃ v, e = .returned v ∧ w''.ownsRow w'.heap.size 3 1 v (p5 b).1 (vals (p6 b).1) ∧ RdS w'' g (p6 b).2 ∧ w'.grownBy w'' (some g)) := Lib.hid (fun g w' h => by
    have := readNums g (p4 b).2 w' h
    rw [← p5_eq, ← p6_eq] at this
    exact this)
  have HEN : Hid (∀ g w', RdS w' g (p6 b).2 → Calls Tryd.prog 26 #[.pointer (some ⟨g, 0, none⟩)] w' fun x w'' => x = .returned (.int .i64 (readPE b : Int)) ∧ w' = w'') := Lib.hid (fun g w' h => endR g (p6 b).2 w' h)
  have HNO := Lib.hid (fun n hn h w' hb => readP_to_no (b := b) (w := w) (w' := w') n hn h hb)
  have HYES := Lib.hid (fun a c hc h w' hr hb => readP_to_yes (b := b) (w := w) (w' := w') a c hc h hr hb)
  have HRD0 : Hid (rdAt b 0 = (b, 0)) := Lib.hid rfl
  clear ha hS
  generalize rdAt b = rd at HW0 HW1 HW2 HW3 HNU HRD0
  generalize valAt b = x at HW0 HW1 HW2 HW3 HYES
  generalize p5 b = x5 at HNU HYES
  generalize p6 b = x6 at HNU HEN HYES
  obtain ⟨E, hE⟩ : ∃ E, E = readPE b := ⟨_, rfl⟩
  rw [← hE] at HEN HNO HYES
  clear hE
  go_enter Tryd.func12, Tryd.ntmps12
  go_wp2_with fail
  have HB0 := BoxP.new w zeroP
  have HB0' : BoxP (w.alloc (.cells #[.int .i64 0, .int .i64 0, .int .i64 0, .int .i64 0, .slice none 0 0] 25)) w.heap.size zeroP := HB0
  clear HB0
  generalize hw0 : World.alloc w _ = w0 at HB0' ⊢
  have hb0 : Below w.heap.size w w0 := by rw [← hw0]; exact (by repeat' (first | exact Below.refl _ _ | assumption | exact And.left (by assumption) | refine Below.drew ?_ | refine below_drewN ?_ _ | refine Below.setCell ?_ (by first | (simp; done) | (simp; omega) | omega) _ | refine Below.alloc ?_ (by first | (simp; done) | (simp; omega) | omega) _ | refine after (by assumption) (by first | (simp; done) | (simp; omega) | omega) ?_))
  have hlt0 := HB0'.lt
  clear hw0
  refine (HN.out w0 (HA.out.later hb0)).mono ?_; rintro e w1 ⟨g, rfl, hg, hrd, hb1⟩
  have HR1 : Hid (RdS w1 g (rd 0)) := Lib.hid (by rw [HRD0.out]; exact ⟨hrd, fun h => absurd rfl h, hl⟩)
  have HB1 := Lib.hid (HB0'.on hb1)
  have hz1 := hb1.size
  have hW1 : Below w.heap.size w w1 := hb0.trans (hb1.mono (by omega))
  have HS1 := Lib.hid (HS.out.on hW1)
  have hgl := HR1.out.lt
  have m0 := HS1.out.c0
  have m1 := HS1.out.c1
  have m2 := HS1.out.c2
  have m3 := HS1.out.c3
  have mlt := HS1.out.lt
  clear hrd HB0' hb1 hb0
  go_wp2_with fail
  have HX2 : Hid (Row (w1.alloc (.cells (aheadV x 0) 41)) w1.heap.size 41 (aheadV x 0)) := Lib.hid (Row.new rfl _ _)
  have ha2 : (.cells #[.int .i64 0, .int .i64 0, .int .i64 0, .int .i64 0] 41 : Obj) = .cells (aheadV x 0) 41 := rfl
  rw [← ha2] at HX2
  generalize hw2 : World.alloc w1 _ = w2 at HX2 ⊢
  have hb2 : Below w1.heap.size w1 w2 := by rw [← hw2]; exact (by repeat' (first | exact Below.refl _ _ | assumption | exact And.left (by assumption) | refine Below.drew ?_ | refine below_drewN ?_ _ | refine Below.setCell ?_ (by first | (simp; done) | (simp; omega) | omega) _ | refine Below.alloc ?_ (by first | (simp; done) | (simp; omega) | omega) _ | refine after (by assumption) (by first | (simp; done) | (simp; omega) | omega) ?_))
  have hW2 : Below w.heap.size w w2 := hW1.trans (hb2.mono hW1.size)
  have HR2 := Lib.hid (HR1.out.on hb2)
  have HB2 := Lib.hid (HB1.out.on hb2)
  clear hw2 ha2 HR1 HB1 HS1 m0 m1 m2 m3 mlt HS
  obtain ⟨A4, hA4⟩ : ∃ A4, A4 = w1.heap.size := ⟨_, rfl⟩
  rw [← hA4] at HX2 ⊢
  have hgA : g < A4 := by omega
  have hBg : w.heap.size < g := by omega
  clear hA4 hb2 hz1 hgl hg hlt0
  go_loopw [13] (fun v13 wr => ∃ k : Nat, k ≤ 4 ∧ v13 = .int .i64 (k : Int) ∧ Hid (Row wr A4 41 (aheadV x k)) ∧ Hid (RdS wr g (rd k)) ∧ Hid (BoxP wr w.heap.size zeroP) ∧ Below w.heap.size w wr) (fun v13 _ => 4 - (intOf v13).toNat)
  case atStart => exact ⟨0, Nat.zero_le _, rfl, HX2, HR2, HB2, hW2⟩
  case round =>
    obtain ⟨k, hk, rfl, HX, HR, HB, hbw⟩ := hrel
    have hz := hbw.size
    have hgz := HR.out.lt
    clear HX2 HR2 HB2 hW2
    rcases (show k = 0 ∨ k = 1 ∨ k = 2 ∨ k = 3 ∨ k = 4 by omega) with rfl | rfl | rfl | rfl | rfl
    · have i0 := ix0 (.int .i64 1073741824) (.int .i64 99) (.int .i64 281474976710656) (.int .i64 281474976710656)
      have K := HW0.out g wr HR.out
      go_wp2_with fail
      refine K.mono ?_; rintro e w4 ⟨rfl, hr4, hg4⟩
      have HX4 := Lib.hid (HX.out.grown hg4 (fun h => by injection h with h; omega))
      have HB4 := Lib.hid (HB.out.grown hg4 (fun h => by injection h with h; omega))
      have hW4 : Below w.heap.size w w4 := hbw.grown hg4 hz (fun j hj => by injection hj with hj; omega)
      have d4 : w4.cell? ⟨A4, 0, none⟩ = some (.int .i64 0) := (HX4.out.cell 0).trans rfl
      have f4 := HX4.out.thaw 0
      have hlt4 := HX4.out.lt
      have HX5 : Hid (Row (w4.setCell ⟨A4, 0, none⟩ (.int .i64 (x 0 : Int))) A4 41 (aheadV x 1)) := Lib.hid ((HX4.out.put 0 _).as rfl)
      have HR5 : Hid (RdS (w4.setCell ⟨A4, 0, none⟩ (.int .i64 (x 0 : Int))) g (rd 1)) := Lib.hid (hr4.grown (grown_put (g := A4) 0 _) (fun j hj => by injection hj with hj; subst hj; exact ⟨_, _, HX4.out, by decide, by decide⟩))
      have HB5 : Hid (BoxP (w4.setCell ⟨A4, 0, none⟩ (.int .i64 (x 0 : Int))) w.heap.size zeroP) := Lib.hid (HB4.out.grown (grown_put (g := A4) 0 _) (fun h => by injection h with h; omega))
      have hW5 : Below w.heap.size w (w4.setCell ⟨A4, 0, none⟩ (.int .i64 (x 0 : Int))) := hW4.setCell (by simp; omega) _
      clear hr4 hg4 K HX HR HB HX4 HB4
      go_wp2
      go_roundw
      case rel => exact ⟨1, by omega, by go_num, HX5, HR5, HB5, hW5⟩
      case measure => simp [intOf]
    · have i0 := ix1 (.int .i64 1073741824) (.int .i64 99) (.int .i64 281474976710656) (.int .i64 281474976710656)
      have K := HW1.out g wr HR.out
      go_wp2_with fail
      refine K.mono ?_; rintro e w4 ⟨rfl, hr4, hg4⟩
      have HX4 := Lib.hid (HX.out.grown hg4 (fun h => by injection h with h; omega))
      have HB4 := Lib.hid (HB.out.grown hg4 (fun h => by injection h with h; omega))
      have hW4 : Below w.heap.size w w4 := hbw.grown hg4 hz (fun j hj => by injection hj with hj; omega)
      have d4 : w4.cell? ⟨A4, 1, none⟩ = some (.int .i64 0) := (HX4.out.cell 1).trans rfl
      have f4 := HX4.out.thaw 1
      have hlt4 := HX4.out.lt
      have HX5 : Hid (Row (w4.setCell ⟨A4, 1, none⟩ (.int .i64 (x 1 : Int))) A4 41 (aheadV x 2)) := Lib.hid ((HX4.out.put 1 _).as rfl)
      have HR5 : Hid (RdS (w4.setCell ⟨A4, 1, none⟩ (.int .i64 (x 1 : Int))) g (rd 2)) := Lib.hid (hr4.grown (grown_put (g := A4) 1 _) (fun j hj => by injection hj with hj; subst hj; exact ⟨_, _, HX4.out, by decide, by decide⟩))
      have HB5 : Hid (BoxP (w4.setCell ⟨A4, 1, none⟩ (.int .i64 (x 1 : Int))) w.heap.size zeroP) := Lib.hid (HB4.out.grown (grown_put (g := A4) 1 _) (fun h => by injection h with h; omega))
      have hW5 : Below w.heap.size w (w4.setCell ⟨A4, 1, none⟩ (.int .i64 (x 1 : Int))) := hW4.setCell (by simp; omega) _
      clear hr4 hg4 K HX HR HB HX4 HB4
      go_wp2
      go_roundw
      case rel => exact ⟨2, by omega, by go_num, HX5, HR5, HB5, hW5⟩
      case measure => simp [intOf]
    · have i0 := ix2 (.int .i64 1073741824) (.int .i64 99) (.int .i64 281474976710656) (.int .i64 281474976710656)
      have K := HW2.out g wr HR.out
      go_wp2_with fail
      refine K.mono ?_; rintro e w4 ⟨rfl, hr4, hg4⟩
      have HX4 := Lib.hid (HX.out.grown hg4 (fun h => by injection h with h; omega))
      have HB4 := Lib.hid (HB.out.grown hg4 (fun h => by injection h with h; omega))
      have hW4 : Below w.heap.size w w4 := hbw.grown hg4 hz (fun j hj => by injection hj with hj; omega)
      have d4 : w4.cell? ⟨A4, 2, none⟩ = some (.int .i64 0) := (HX4.out.cell 2).trans rfl
      have f4 := HX4.out.thaw 2
      have hlt4 := HX4.out.lt
      have HX5 : Hid (Row (w4.setCell ⟨A4, 2, none⟩ (.int .i64 (x 2 : Int))) A4 41 (aheadV x 3)) := Lib.hid ((HX4.out.put 2 _).as rfl)
      have HR5 : Hid (RdS (w4.setCell ⟨A4, 2, none⟩ (.int .i64 (x 2 : Int))) g (rd 3)) := Lib.hid (hr4.grown (grown_put (g := A4) 2 _) (fun j hj => by injection hj with hj; subst hj; exact ⟨_, _, HX4.out, by decide, by decide⟩))
      have HB5 : Hid (BoxP (w4.setCell ⟨A4, 2, none⟩ (.int .i64 (x 2 : Int))) w.heap.size zeroP) := Lib.hid (HB4.out.grown (grown_put (g := A4) 2 _) (fun h => by injection h with h; omega))
      have hW5 : Below w.heap.size w (w4.setCell ⟨A4, 2, none⟩ (.int .i64 (x 2 : Int))) := hW4.setCell (by simp; omega) _
      clear hr4 hg4 K HX HR HB HX4 HB4
      go_wp2
      go_roundw
      case rel => exact ⟨3, by omega, by go_num, HX5, HR5, HB5, hW5⟩
      case measure => simp [intOf]
    · have i0 := ix3 (.int .i64 1073741824) (.int .i64 99) (.int .i64 281474976710656) (.int .i64 281474976710656)
      have K := HW3.out g wr HR.out
      go_wp2_with fail
      refine K.mono ?_; rintro e w4 ⟨rfl, hr4, hg4⟩
      have HX4 := Lib.hid (HX.out.grown hg4 (fun h => by injection h with h; omega))
      have HB4 := Lib.hid (HB.out.grown hg4 (fun h => by injection h with h; omega))
      have hW4 : Below w.heap.size w w4 := hbw.grown hg4 hz (fun j hj => by injection hj with hj; omega)
      have d4 : w4.cell? ⟨A4, 3, none⟩ = some (.int .i64 0) := (HX4.out.cell 3).trans rfl
      have f4 := HX4.out.thaw 3
      have hlt4 := HX4.out.lt
      have HX5 : Hid (Row (w4.setCell ⟨A4, 3, none⟩ (.int .i64 (x 3 : Int))) A4 41 (aheadV x 4)) := Lib.hid ((HX4.out.put 3 _).as rfl)
      have HR5 : Hid (RdS (w4.setCell ⟨A4, 3, none⟩ (.int .i64 (x 3 : Int))) g (rd 4)) := Lib.hid (hr4.grown (grown_put (g := A4) 3 _) (fun j hj => by injection hj with hj; subst hj; exact ⟨_, _, HX4.out, by decide, by decide⟩))
      have HB5 : Hid (BoxP (w4.setCell ⟨A4, 3, none⟩ (.int .i64 (x 3 : Int))) w.heap.size zeroP) := Lib.hid (HB4.out.grown (grown_put (g := A4) 3 _) (fun h => by injection h with h; omega))
      have hW5 : Below w.heap.size w (w4.setCell ⟨A4, 3, none⟩ (.int .i64 (x 3 : Int))) := hW4.setCell (by simp; omega) _
      clear hr4 hg4 K HX HR HB HX4 HB4
      go_wp2
      go_roundw
      case rel => exact ⟨4, by omega, by go_num, HX5, HR5, HB5, hW5⟩
      case measure => simp [intOf]
    · have K := HNU.out g wr HR.out
      go_wp2_with fail
      refine K.mono ?_; rintro e w6 ⟨v6, rfl, hown6, hr6, hg6⟩
      obtain ⟨A6, c6, rfl, hrow6, hn6, hs6⟩ := own_form2 hown6
      have HX6 := Lib.hid (HX.out.grown hg6 (fun h => by injection h with h; omega))
      have HB6 := Lib.hid (HB.out.grown hg6 (fun h => by injection h with h; omega))
      have hW6 : Below w.heap.size w w6 := hbw.grown hg6 hz (fun j hj => by injection hj with hj; omega)
      have KE := HEN.out g w6 hr6
      have HR6 := Lib.hid hrow6
      have HN6 := Lib.hid hn6
      have HS6 : Hid (∀ b off, A6 = some ⟨b, off, none⟩ → b ≠ w.heap.size) := Lib.hid (fun b off e => by have := hs6 b off e; omega)
      clear hown6 hr6 hg6 K HX HR HB hrow6 hn6 hs6 HNU HEN
      have q0 : w6.cell? ⟨A4, 0, none⟩ = some (.int .i64 (x 0 : Int)) := (HX6.out.cell 0).trans rfl
      have q1 : w6.cell? ⟨A4, 1, none⟩ = some (.int .i64 (x 1 : Int)) := (HX6.out.cell 1).trans rfl
      have q2 : w6.cell? ⟨A4, 2, none⟩ = some (.int .i64 (x 2 : Int)) := (HX6.out.cell 2).trans rfl
      have q3 : w6.cell? ⟨A4, 3, none⟩ = some (.int .i64 (x 3 : Int)) := (HX6.out.cell 3).trans rfl
      clear HX6
      by_cases hE : E = 0
      · have HY := Lib.hid (fun w' hr hb => HYES.out A6 c6 HN6.out hE w' hr hb)
        subst hE
        clear HNO HYES
        go_wp2_with fail
        refine KE.mono ?_; rintro e w7 ⟨rfl, rfl⟩
        clear KE
        go_wp2_with (first
          | (refine wpList_store_row rfl 25 (.tmp 2) (.tmp 40) rfl w.heap.size _ rfl rfl 25 _ HB6.out.row (by kernel_rfl) (by simp) (by simp [Value.oneCell']) ?_
             generalize hwz : World.setRow _ _ _ = wz
             have hbz : Below w.heap.size w wz := by rw [← hwz]; exact below_setRow hW6 (Nat.le_refl _) _
             have hgz9 : wz.heap[w.heap.size]? = some (.cells #[.int .i64 (x 0 : Int), .int .i64 (x 1 : Int), .int .i64 (x 2 : Int), .int .i64 (x 3 : Int), .slice A6 x5.1 c6] 25 (0, 0)) := by rw [← hwz]; exact setRow_heap _ _ _ _ _ _ HB6.out.row
             have HRZ : Hid (RowAt wz A6 (vals x6.1)) := Lib.hid (by rw [← hwz]; exact row_setRow HR6.out (fun b off e _ => HS6.out b off e) _)
             clear hwz))
        refine bodyPost_ret (results_cell_tmp_row Tryd.results12 _ _ w.heap.size _ _ _ _ rfl hgz9 Tryd.underlying25 rfl (by kernel_rfl)) rfl ?_
        exact HY.out wz HRZ.out hbz
      · have HO := Lib.hid (fun w' hb => HNO.out E hE rfl w' hb)
        have h1 : ¬ ((E : Int) = 0) := by omega
        have h2 : ((E : Int) == 0) = false := by simpa using h1
        have h3 : ((E : Int) != 0) = true := by simpa using h1
        clear h1 hE HNO HYES
        go_wp2_with fail
        refine KE.mono ?_; rintro e w7 ⟨rfl, rfl⟩
        clear KE
        go_wp2_with (first
          | (refine wpList_store_row rfl 25 (.tmp 2) (.tmp 29) rfl w.heap.size _ rfl rfl 25 _ HB6.out.row (by kernel_rfl) (by simp) (by simp [Value.oneCell']) ?_
             generalize hwz : World.setRow _ _ _ = wz
             have hbz : Below w.heap.size w wz := by rw [← hwz]; exact below_setRow hW6 (Nat.le_refl _) _
             have hgz9 : wz.heap[w.heap.size]? = some (.cells #[.int .i64 0, .int .i64 0, .int .i64 0, .int .i64 0, .slice none 0 0] 25 (0, 0)) := by rw [← hwz]; exact setRow_heap _ _ _ _ _ _ HB6.out.row
             clear hwz))
        refine bodyPost_ret (results_cell_tmp_row Tryd.results12 _ _ w.heap.size _ _ _ _ rfl hgz9 Tryd.underlying25 rfl (by kernel_rfl)) rfl ?_
        exact HO.out wz hbz
end Go.Proofs.YtbnlchbklpgejaaDoor.W
