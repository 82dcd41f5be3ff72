/-
  Several texts in one: TextEach, TextRowIn, TextRead, TextReadS.
-/
import Derived.Test.YtgopjpnlpcmldaaGreatDoorJ33
import Derived.Test.YtgopjpnlpcmldaaGreatDoorShelf2
import Derived.Test.YtgopjpnlpcmldaaGreatDoorJ35
import Derived.StillTail
import Derived.StillTailTactics
import Derived.TacticsIn
import Derived.OwnWalkIn
import Derived.Deep.MidRow
import Derived.Test.YtgopjpnlpcmldaaGreatDoorTextLine
import Derived.Test.YtgopjpnlpcmldaaGreatDoorSpecAwake

/-
  strings.Lines: its function value gives the lines one behind the other, each with its end; what is left stands in a cell of its own.
-/
namespace Go.Proofs.YtgopjpnlpcmldaaGreatDoor.W
set_option linter.unusedVariables false
set_option linter.unusedSimpArgs false
open Go.ChangeShapes Go.WideShapes Go.ChangeAt Go.RowKit
attribute [local go_sem] Oper.semAt_some

/-- a text's lines, each with its end -/
def linesE : List UInt8 → List (List UInt8)
  | [] => []
  | b :: l => if b = 10 then [10] :: linesE l else
    match linesE l with
    | [] => [[b]]
    | x :: r => (b :: x) :: r
/-- a line without its end -/
def bare (x : List UInt8) : List UInt8 := if x.getLast? = some 10 then x.dropLast else x
theorem linesE_ne : ∀ {l : List UInt8}, ∀ x ∈ linesE l, x ≠ []
  | [], x, h => by simp [linesE] at h
  | b :: l, x, h => by
    rw [linesE] at h
    split at h
    · rcases List.mem_cons.1 h with rfl | h
      · simp
      · exact linesE_ne x h
    · split at h
      · rw [List.mem_singleton.1 h]; simp
      · next y r hs =>
        rcases List.mem_cons.1 h with rfl | h
        · simp
        · exact linesE_ne x (by rw [hs]; simp [h])
theorem linesE_bare : ∀ (l : List UInt8), linesOf l = (linesE l).map bare
  | [] => rfl
  | b :: l => by
    have ih := linesE_bare l
    rw [linesOf, linesE]
    split
    · rw [ih]; rfl
    · next hb =>
      cases hs : linesE l with
      | nil => rw [ih, hs]; simp [bare, hb]
      | cons x r =>
        rw [ih, hs]
        have hx : x ≠ [] := linesE_ne x (by rw [hs]; simp)
        obtain ⟨y, z, rfl⟩ : ∃ y z, x = y :: z := by
          cases x with
          | nil => exact absurd rfl hx
          | cons y z => exact ⟨y, z, rfl⟩
        simp only [List.map_cons]
        rw [show bare (b :: y :: z) = b :: bare (y :: z) from by
          unfold bare
          rw [List.getLast?_cons_cons]
          split <;> simp]
theorem linesE_index : ∀ (l : List UInt8), l ≠ [] → (Lib.indexByte l 10 = -1 ∧ linesE l = [l]) ∨
    ∃ i : Nat, Lib.indexByte l 10 = i ∧ i + 1 ≤ l.length ∧ linesE l = l.take (i + 1) :: linesE (l.drop (i + 1))
  | [], h => absurd rfl h
  | b :: l, _ => by
    by_cases h : b = 10
    · subst h
      exact .inr ⟨0, by simp [Lib.indexByte], by simp, by simp [linesE]⟩
    · have hb : (b == 10) = false := by simp [h]
      by_cases hl : l = []
      · subst hl
        exact .inl ⟨by simp [Lib.indexByte, hb], by simp [linesE, h]⟩
      · rcases linesE_index l hl with ⟨e, s⟩ | ⟨i, e, hi, s⟩
        · exact .inl ⟨by simp [Lib.indexByte, hb, e], by rw [linesE, if_neg h, s]⟩
        · refine .inr ⟨i + 1, ?_, by simp; omega, ?_⟩
          · have : ¬ (i : Int) = -1 := by omega
            simp [Lib.indexByte, hb, e, this]
          · rw [linesE, if_neg h, s]
            simp

theorem sIndexByte (l : List UInt8) (w : World) :
    Calls Tryz.prog 55 #[.string (bs l), .int .u8 10] w fun e w' => e = .returned (.int .i64 (Lib.indexByte l 10)) ∧ w' = w := by
  have HI := Lib.hid (Tryz.stringslite_IndexByte (bs l) 10)
  rw [bs_list, show (10 : Int).toNat.toUInt8 = 10 from rfl] at HI
  generalize Lib.indexByte l 10 = i at HI ⊢
  go_enter Tryz.func55, Tryz.ntmps55
  go_wp2_with fail
  refine (HI.out _).mono ?_; rintro e w1 ⟨rfl, rfl⟩
  go_wp2
  go_ret
  exact ⟨rfl, rfl⟩
def oneKb (Bs : Nat) (k : Nat) : Prop := k = Bs
theorem leftAt_row {Bs : Nat} {r : List UInt8} {t : TypeId} {w : World} (h : Row w Bs t #[.string (bs r)]) : leftAt Bs w = r.length := by
  unfold leftAt
  rw [h.cell]
  simp [bs_size]
set_option maxHeartbeats 2000000 in
set_option maxRecDepth 100000 in
theorem lines_gives (n : Nat) (hn : 1 ≤ n) (Bs : Nat) (l : List UInt8) (hl : l.length ≤ 100000) (w : World) (hw : Row w Bs 9 #[.string (bs l)]) :
    Gives Fence.wide n Tryz.prog 54 #[.pointer (some ⟨Bs, 0, none⟩)] (fun x : List UInt8 => #[.string (bs x)]) Bs (oneKb Bs)
      (fun pre x => ∃ rest, linesE l = pre ++ x :: rest) (fun xs => xs = linesE l) (fun pre => pre <+: linesE l) w := fun y J Jx W hW hJ hY h0 => by
  have hw0 : Row W Bs 9 #[.string (bs l)] := (hW.block _ hw.lt).trans hw
  clear hw
  have mixed : Tryz.prog.follows .mixedOrders = true := by kernel_rfl
  have hFI : ∀ s w, CallsIn Fence.wide (n - 1) Tryz.prog 55 #[.string (bs s), .int .u8 10] w fun e w' => e = .returned (.int .i64 (Lib.indexByte s 10)) ∧ w' = w := fun s w => callsIn_wide.2 (sIndexByte s w)
  refine callsIn_of_wp Tryz.func54 rfl trivial ?_ rfl
  simp only [Tryz.ntmps54, List.size_toArray, List.length_cons, List.length_nil, Nat.reduceAdd, Nat.reduceSub, Array.replicate_succ, Array.replicate_zero, List.push_toArray, List.append_toArray, List.nil_append, List.cons_append]
  gi_wp2
  gi_loopw [3, 4] (fun v3 v4 wr => ∃ (pre : List (List UInt8)) (r : List UInt8), Row wr Bs 9 #[.string (bs r)] ∧ J pre wr ∧ Hid (linesE l = pre ++ linesE r) ∧ r.length ≤ l.length) (fun v3 v4 wr => leftAt Bs wr)
  case atStart => exact ⟨[], l, hw0, h0, Lib.hid rfl, Nat.le_refl _⟩
  case round =>
    obtain ⟨pre, r, HS, hJr, HG, hr⟩ := hrel
    clear hw0 h0 hW
    have HI := hFI r
    have hm := leftAt_row HS
    have c2 : wr.cell? ⟨Bs, 0, none⟩ = some (.string (bs r)) := HS.cell 0
    have c4 := HS.thaw 0
    have hz := bs_size r
    by_cases hr0 : r = []
    · have hz0 : ¬ (0 < ((bs r).size : Int)) := by rw [hz, hr0]; simp
      gi_wp2
      go_end0
      have hE : linesE l = pre := by rw [HG.out, hr0]; simp [linesE]
      exact ⟨⟨_, rfl⟩, .inl (hE ▸ hJr)⟩
    · have hz0 : 0 < ((bs r).size : Int) := by
        rw [hz]
        have : 0 < r.length := List.length_pos_iff.2 hr0
        omega
      rcases linesE_index r hr0 with ⟨e, s⟩ | ⟨i, e, hi, s⟩
      · rw [e] at HI
        have HS2 : Row (wr.setCell ⟨Bs, 0, none⟩ (.string ⟨#[]⟩)) Bs 9 #[.string (bs [])] := HS.put 0 _
        have hJ2 := hJ _ _ _ hJr (grown_put HS 0 (.string ⟨#[]⟩))
        obtain ⟨fn, tmps, assign, body, hy, hR⟩ := hY pre r _ hJ2 ⟨[], by rw [HG.out, s]⟩
        rw [s] at HG
        clear s
        gi_wp2
        refine ⟨trivial, ?_⟩
        refine (HI wr).mono ?_
        rintro e w' ⟨rfl, rfl⟩
        gi_wp2
        refine hR.mono ?_
        rintro e W' (⟨rfl, hJ', hk⟩ | ⟨rfl, hJx'⟩)
        · have HS3 : Row W' Bs 9 #[.string (bs [])] := (hk Bs rfl).trans HS2
          gi_wp2
          go_roundw
          case rel => exact ⟨pre ++ [r], [], HS3, hJ', Lib.hid (by rw [HG.out]; simp [linesE]), by simp⟩
          case measure => rw [leftAt_row HS3, hm]; exact List.length_pos_iff.2 hr0
        · gi_wp2
          refine bodyPost_ret (results_none rfl _ _ _) rfl ?_
          exact ⟨⟨_, rfl⟩, .inr ⟨_, by rw [HG.out]; exact List.prefix_refl _, hJx'⟩⟩
      · rw [e] at HI
        have ht := take_bs r (i + 1) (by omega)
        have hd := drop_bs r (i + 1) (by omega)
        rw [show ((i + 1 : Nat) : Int) = (i : Int) + 1 from rfl] at ht hd
        have hwr : IntKind.i64.wrap ((i : Int) + 1) = (i : Int) + 1 := IntWalk.i64_in _ (by omega)
        have c5 : wr.drew.cell? ⟨Bs, 0, none⟩ = some (.string (bs r)) := c2
        have c6 : wr.drew.frozen? ⟨Bs, 0, none⟩ = false := c4
        have HS2 : Row ((wr.setCell ⟨Bs, 0, none⟩ (.string (bs (r.drop (i + 1))))).drew) Bs 9 #[.string (bs (r.drop (i + 1)))] := HS.put 0 _
        have hJ2 := hJ _ _ _ (hJ _ _ _ hJr (grown_put HS 0 (.string (bs (r.drop (i + 1)))))) (grown_drewS _ _)
        obtain ⟨fn, tmps, assign, body, hy, hR⟩ := hY pre (r.take (i + 1)) _ hJ2 ⟨linesE (r.drop (i + 1)), by rw [HG.out, s]⟩
        rw [s] at HG
        clear s
        gi_wp2
        refine ⟨trivial, ?_⟩
        refine (HI wr).mono ?_
        rintro e w' ⟨rfl, rfl⟩
        gi_wp2
        refine wpIn_wide.2 ?_
        refine wp_region_still_tail 9 (by kernel_rfl) (by kernel_rfl) ?_
        change wpStill _ _ (World.drew _) (fun a' => wpList _ _ _ _ a' (World.drew _)) _ _
        simp only [List.take_succ_cons, List.take_zero, List.drop_succ_cons, List.drop_zero]
        repeat still_step
        refine wpStill_nil ?_
        go_wp2_with fail
        gi_wp2
        refine hR.mono ?_
        rintro e W' (⟨rfl, hJ', hk⟩ | ⟨rfl, hJx'⟩)
        · have HS3 : Row W' Bs 9 #[.string (bs (r.drop (i + 1)))] := (hk Bs rfl).trans HS2
          gi_wp2
          go_roundw
          case rel => exact ⟨pre ++ [r.take (i + 1)], r.drop (i + 1), HS3, hJ', Lib.hid (by rw [HG.out]; simp), by simp; omega⟩
          case measure => rw [leftAt_row HS3, hm]; simp; omega
        · gi_wp2
          refine bodyPost_ret (results_none rfl _ _ _) rfl ?_
          exact ⟨⟨_, rfl⟩, .inr ⟨_, by rw [HG.out]; exact ⟨linesE (r.drop (i + 1)), by simp⟩, hJx'⟩⟩
set_option maxHeartbeats 1000000 in
set_option maxRecDepth 100000 in
theorem cLines (l : List UInt8) (w : World) :
    Calls Tryz.prog 19 #[.string (bs l)] w fun e w' => ∃ Bs, e = .returned (.func (.func 54) #[] #[.pointer (some ⟨Bs, 0, none⟩)]) ∧ w.heap.size ≤ Bs ∧ Row w' Bs 9 #[.string (bs l)] ∧ Below w.heap.size w w' := by
  go_enter Tryz.func19, Tryz.ntmps19
  go_wp2
  go_ret
  exact ⟨_, rfl, Nat.le_refl _, Row.new rfl _ _, (by repeat' (first | exact Below.refl _ _ | assumption | exact And.left (by assumption) | refine Below.drew ?_ | refine below_drewN ?_ _ | refine Below.setCell ?_ (by first | (simp; done) | (simp; omega) | omega) _ | refine Below.alloc ?_ (by first | (simp; done) | (simp; omega) | omega) _ | refine after (by assumption) (by first | (simp; done) | (simp; omega) | omega) ?_))⟩
end Go.Proofs.YtgopjpnlpcmldaaGreatDoor.W


/-
  A struct of many cells stored whole, loaded whole, under a fence (in a round of a range over a function).
-/
namespace Go.Proofs.YtgopjpnlpcmldaaGreatDoor.W
set_option linter.unusedVariables false
set_option linter.unusedSimpArgs false
open Go.RowKit
variable {F : Fence} {n : Nat} {P : Program}

theorem wpListIn_store_row {ops : Array Oper} {rest : List Oper} {o : Oper} {a : Act} {w : World} {Q : Exit → Act → World → Prop} (hgd : o.guard = none) (ty : TypeId) (x y : Operand) (ho : o.op = .store ty x y)
    (g : Nat) (cells : Array Value) (hx : a.eval x = .pointer (some ⟨g, 0, none⟩)) (hy : a.eval y = .agg cells)
    (t : TypeId) (old : Array Value) (hg : w.heap[g]? = some (.cells old t (0, 0))) (hi : (P.info? ty).map (·.size) = some cells.size)
    (hold : old.size = cells.size) (h1 : cells.all (·.oneCell') = true)
    (h : wpListIn F n P ops Q rest (a.put o.dst undef) (w.setRow g cells)) : wpListIn F n P ops Q (o :: rest) a w :=
  wpListIn_plain hgd fun K hK => by
    unfold Oper.wpIn
    refine ⟨fun f hf => by simp [Oper.about, ho] at hf, ?_⟩
    rw [Oper.semAt_plain F _ _ (by rw [ho]; intro c hc'; cases hc')]
    unfold execOp
    simp only [ho, hx, hy, Instr.storeAt, Instr.sureAddr, Sem.run_bind, Sem.run_pure, Result.andThen_ok, run_storeVar_row w g t ty old cells hg hi hold h1]
    exact hK _ _ h
theorem wpListIn_load_mid {ops : Array Oper} {rest : List Oper} {op : Oper} {a : Act} {w : World} {Q : Exit → Act → World → Prop} (hgd : op.guard = none) (ty : TypeId) (x : Operand) (ho : op.op = .load ty x)
    (b o : Nat) (hx : a.eval x = .pointer (some ⟨b, o, none⟩)) (cs : List Value) (d : TypeDesc) (hc : w.rangeAt b o cs)
    (hu : P.underlying ty = some d) (hd : d.isRow = true) (hi : (P.info? ty).map (·.size) = some cs.length)
    (h : wpListIn F n P ops Q rest (a.put op.dst (.agg cs.toArray)) w) : wpListIn F n P ops Q (op :: rest) a w :=
  wpListIn_plain hgd fun K hK => by
    unfold Oper.wpIn
    refine ⟨fun f hf => by simp [Oper.about, ho] at hf, ?_⟩
    rw [Oper.semAt_plain F _ _ (by rw [ho]; intro c hc'; cases hc')]
    unfold execOp
    simp only [ho, hx, Instr.loadAt, Instr.sureAddr, Sem.run_bind, Sem.run_pure, Result.andThen_ok, run_loadVar_mid w b o ty cs d hc hu hd hi]
    exact hK _ _ h
theorem wpListIn_load_box {ops : Array Oper} {rest : List Oper} {o : Oper} {a : Act} {w : World} {Q : Exit → Act → World → Prop} {g : Nat} {s : S} (hgd : o.guard = none) (x : Operand) (ho : o.op = .load 28 x)
    (hx : a.eval x = .pointer (some ⟨g, 0, none⟩)) (hb : Box w g s) (h : wpListIn F n Tryz.prog ops Q rest (a.put o.dst (.agg #[.slice s.na s.nodes.length s.nc, .slice s.pa s.parts.length s.pc, .slice s.qa s.queues.length s.qc, .int .i64 s.users, .int .i64 s.age, .int .i64 s.size, .int .i64 s.qos, .int .i64 s.share, .int .i64 s.decay, .int .i64 s.mode, .int .i64 s.jobs, .int .i64 s.ids, .int .i64 s.versions, .int .i64 s.linger, .int .i64 s.keep, .int .i64 s.inn, .int .i64 s.out, .int .i64 s.cache])) w) : wpListIn F n Tryz.prog ops Q (o :: rest) a w :=
  wpListIn_load_mid hgd 28 x ho g 0 hx [.slice s.na s.nodes.length s.nc, .slice s.pa s.parts.length s.pc, .slice s.qa s.queues.length s.qc, .int .i64 s.users, .int .i64 s.age, .int .i64 s.size, .int .i64 s.qos, .int .i64 s.share, .int .i64 s.decay, .int .i64 s.mode, .int .i64 s.jobs, .int .i64 s.ids, .int .i64 s.versions, .int .i64 s.linger, .int .i64 s.keep, .int .i64 s.inn, .int .i64 s.out, .int .i64 s.cache] _ hb.range Tryz.underlying28 rfl (by kernel_rfl) h
end Go.Proofs.YtgopjpnlpcmldaaGreatDoor.W


/-
  Contract of spec.Read.
-/
namespace Go.Proofs.YtgopjpnlpcmldaaGreatDoor.W
set_option linter.unusedVariables false
set_option linter.unusedSimpArgs false
open Go.ChangeShapes Go.WideShapes Go.ChangeAt Go.RowKit

/-- two results, each in a cell, the first of many -/
theorem results_cells {P : Program} {fn : Func} {p u : Tmp} {ty ty' : TypeId} (h : fn.results = #[.cell p ty, .cell u ty']) (tmps : Array Value) (w : World) {a b : Addr} {x y : Value}
    (hp : tmps.getD p undef = .pointer (some a)) (hu : tmps.getD u undef = .pointer (some b)) (hx : (loadVar ty a).run P w = .ok x w) (hy : (loadVar ty' b).run P w = .ok y w) : (results fn tmps).run P w = .ok (.tuple #[x, y]) w := by
  have e1 : tmps[p]?.getD undef = .pointer (some a) := by simpa using hp
  have e2 : tmps[u]?.getD undef = .pointer (some b) := by simpa using hu
  simp [results, h, e1, e2, asAddr, hx, hy, Sem.run_bind, Result.andThen]
def sZero : S := ⟨none, 0, [], none, 0, [], none, 0, [], 0, 0, 0, 0, 0, 0, 0, 0, 0, 0, 0, 0, 0, 0, 0⟩
theorem below_setRowT {B g : Nat} {w w' : World} {cs : Array Value} (h : Below B w w') (hg : B ≤ g) : Below B w (w'.setRow g cs) := below_setRow h hg cs
set_option maxHeartbeats 2000000 in
set_option maxRecDepth 100000 in
theorem read_long (l : List UInt8) (h : 2048 < l.length) (hl : l.length ≤ 140737488355328) (w : World) :
    Calls Tryz.prog 8 #[.string (bs l)] w fun e w' => e = .returned (.tuple #[.agg #[.slice sZero.na sZero.nodes.length sZero.nc, .slice sZero.pa sZero.parts.length sZero.pc, .slice sZero.qa sZero.queues.length sZero.qc, .int .i64 sZero.users, .int .i64 sZero.age, .int .i64 sZero.size, .int .i64 sZero.qos, .int .i64 sZero.share, .int .i64 sZero.decay, .int .i64 sZero.mode, .int .i64 sZero.jobs, .int .i64 sZero.ids, .int .i64 sZero.versions, .int .i64 sZero.linger, .int .i64 sZero.keep, .int .i64 sZero.inn, .int .i64 sZero.out, .int .i64 sZero.cache], .int .i64 11]) ∧ Below w.heap.size w w' := by
  have hz := bs_size l
  have h1 : (2048 : Int) < ((bs l).size : Int) := by omega
  go_enter Tryz.func8, Tryz.ntmps8
  have hR : Row ((w.alloc (.cells #[.slice sZero.na sZero.nodes.length sZero.nc, .slice sZero.pa sZero.parts.length sZero.pc, .slice sZero.qa sZero.queues.length sZero.qc, .int .i64 sZero.users, .int .i64 sZero.age, .int .i64 sZero.size, .int .i64 sZero.qos, .int .i64 sZero.share, .int .i64 sZero.decay, .int .i64 sZero.mode, .int .i64 sZero.jobs, .int .i64 sZero.ids, .int .i64 sZero.versions, .int .i64 sZero.linger, .int .i64 sZero.keep, .int .i64 sZero.inn, .int .i64 sZero.out, .int .i64 sZero.cache] 28)).alloc (.cells #[.int .i64 0] 31)) w.heap.size 28 #[.slice sZero.na sZero.nodes.length sZero.nc, .slice sZero.pa sZero.parts.length sZero.pc, .slice sZero.qa sZero.queues.length sZero.qc, .int .i64 sZero.users, .int .i64 sZero.age, .int .i64 sZero.size, .int .i64 sZero.qos, .int .i64 sZero.share, .int .i64 sZero.decay, .int .i64 sZero.mode, .int .i64 sZero.jobs, .int .i64 sZero.ids, .int .i64 sZero.versions, .int .i64 sZero.linger, .int .i64 sZero.keep, .int .i64 sZero.inn, .int .i64 sZero.out, .int .i64 sZero.cache] := (Row.new rfl _ _).alloc _
  have hE0 : Row ((w.alloc (.cells #[.slice sZero.na sZero.nodes.length sZero.nc, .slice sZero.pa sZero.parts.length sZero.pc, .slice sZero.qa sZero.queues.length sZero.qc, .int .i64 sZero.users, .int .i64 sZero.age, .int .i64 sZero.size, .int .i64 sZero.qos, .int .i64 sZero.share, .int .i64 sZero.decay, .int .i64 sZero.mode, .int .i64 sZero.jobs, .int .i64 sZero.ids, .int .i64 sZero.versions, .int .i64 sZero.linger, .int .i64 sZero.keep, .int .i64 sZero.inn, .int .i64 sZero.out, .int .i64 sZero.cache] 28)).alloc (.cells #[.int .i64 0] 31)) (w.heap.size + 1) 31 #[.int .i64 0] := Row.new (by simp) _ _
  have hB0 : Below w.heap.size w ((w.alloc (.cells #[.slice sZero.na sZero.nodes.length sZero.nc, .slice sZero.pa sZero.parts.length sZero.pc, .slice sZero.qa sZero.queues.length sZero.qc, .int .i64 sZero.users, .int .i64 sZero.age, .int .i64 sZero.size, .int .i64 sZero.qos, .int .i64 sZero.share, .int .i64 sZero.decay, .int .i64 sZero.mode, .int .i64 sZero.jobs, .int .i64 sZero.ids, .int .i64 sZero.versions, .int .i64 sZero.linger, .int .i64 sZero.keep, .int .i64 sZero.inn, .int .i64 sZero.out, .int .i64 sZero.cache] 28)).alloc (.cells #[.int .i64 0] 31)) := (by repeat' (first | exact Below.refl _ _ | assumption | exact And.left (by assumption) | refine Below.drew ?_ | refine below_drewN ?_ _ | refine Below.setCell ?_ (by first | (simp; done) | (simp; omega) | omega) _ | refine Below.alloc ?_ (by first | (simp; done) | (simp; omega) | omega) _ | refine after (by assumption) (by first | (simp; done) | (simp; omega) | omega) ?_))
  simp only [sZero, List.length_nil] at hR hE0 hB0 ⊢
  go_wp2_with (refine wpList_store_row rfl 28 (.tmp 2) (.tmp 11) rfl w.heap.size _ rfl rfl 28 _ hR (by kernel_rfl) (by simp) (by simp [Value.oneCell']) ?_
               generalize hw2 : World.setRow _ _ _ = w2
               have hR2 : Row w2 w.heap.size 28 #[.slice none 0 0, .slice none 0 0, .slice none 0 0, .int .i64 0, .int .i64 0, .int .i64 0, .int .i64 0, .int .i64 0, .int .i64 0, .int .i64 0, .int .i64 0, .int .i64 0, .int .i64 0, .int .i64 0, .int .i64 0, .int .i64 0, .int .i64 0, .int .i64 0] := by rw [← hw2]; exact setRow_heap _ _ _ _ _ _ hR
               have hE2 : Row w2 (w.heap.size + 1) 31 #[.int .i64 0] := by rw [← hw2]; exact (setRow_other _ _ _ _ (by omega)).trans hE0
               have hB2 : Below w.heap.size w w2 := by rw [← hw2]; exact below_setRowT hB0 (Nat.le_refl _)
               have c2 : w2.cell? ⟨w.heap.size + 1, 0, none⟩ = some (.int .i64 0) := hE2.cell 0
               have f2 := hE2.thaw 0
               clear hw2 hR hE0 hB0)
  have hR3 := hR2.far (p := ⟨w.heap.size + 1, 0, none⟩) (by simp) (.int .i64 11)
  have hE3 := hE2.put 0 (.int .i64 11)
  have hB3 := hB2.setCell (p := ⟨w.heap.size + 1, 0, none⟩) (by simp) (.int .i64 11)
  generalize w2.setCell ⟨w.heap.size + 1, 0, none⟩ (.int .i64 11) = w3 at hR3 hE3 hB3 ⊢
  refine bodyPost_ret (v := .tuple #[.agg #[.slice none 0 0, .slice none 0 0, .slice none 0 0, .int .i64 0, .int .i64 0, .int .i64 0, .int .i64 0, .int .i64 0, .int .i64 0, .int .i64 0, .int .i64 0, .int .i64 0, .int .i64 0, .int .i64 0, .int .i64 0, .int .i64 0, .int .i64 0, .int .i64 0], .int .i64 11]) ?_ rfl ⟨rfl, hB3⟩
  have c3 : w3.cell? ⟨w.heap.size + 1, 0, none⟩ = some (.int .i64 11) := hE3.cell 0
  have q := run_loadVar_row (P := Tryz.prog) w3 w.heap.size 28 28 _ (0, 0) _ hR3 Tryz.underlying28 rfl (by kernel_rfl)
  have q2 : (loadVar 31 ⟨w.heap.size + 1, 0, none⟩).run Tryz.prog w3 = .ok (.int .i64 11) w3 := by simp [go_sem, c3]
  exact results_cells (p := 2) (u := 3) Tryz.results8 _ _ rfl rfl q q2
end Go.Proofs.YtgopjpnlpcmldaaGreatDoor.W


/-
  What Read's loop needs: lines taken one behind the other; how many of each there may be; a line without its end.
-/
namespace Go.Proofs.YtgopjpnlpcmldaaGreatDoor.W
set_option linter.unusedVariables false
set_option linter.unusedSimpArgs false
open Go.ChangeShapes Go.WideShapes Go.ChangeAt Go.RowKit

theorem takes_snoc {a : List (List UInt8)} {x : List UInt8} {t u : T} (h : takes a t = some u) : takes (a ++ [x]) t = takeL u x := by
  rw [takes_app, h]
  simp only [takes]
  cases takeL u x <;> rfl
theorem takes_bad {a r : List (List UInt8)} {x : List UInt8} {t u : T} (h : takes a t = some u) (hx : takeL u x = none) : takes (a ++ x :: r) t = none := by
  rw [takes_app, h]
  simp only [takes, hx]
/-- so many lists at most -/
def Upto (t : T) (n : Nat) : Prop := t.nodes.length ≤ n ∧ t.parts.length ≤ n ∧ t.queues.length ≤ n
theorem takeS_upto {t u : T} {n : Nat} (l : List UInt8) (k : Nat) (h : Upto t n) (hu : takeS t l k = some u) : Upto u (n + 1) := by
  obtain ⟨h1, h2, h3⟩ := h
  unfold takeS at hu
  split at hu
  all_goals first
    | (obtain ⟨v, _, rfl⟩ := Option.map_eq_some_iff.1 hu; refine ⟨?_, ?_, ?_⟩ <;> simp <;> omega)
    | (split at hu <;> first | (cases hu; refine ⟨?_, ?_, ?_⟩ <;> simp <;> omega) | (cases hu) | (split at hu <;> first | (cases hu; refine ⟨?_, ?_, ?_⟩ <;> simp <;> omega) | (cases hu)))
theorem takeL_upto {t u : T} {n : Nat} {l : List UInt8} (h : Upto t n) (hu : takeL t l = some u) : Upto u (n + 1) := by
  unfold takeL at hu
  split at hu
  · cases hu
  · exact takeS_upto _ _ h hu
theorem takes_upto : ∀ {ls : List (List UInt8)} {t u : T} {n : Nat}, Upto t n → takes ls t = some u → Upto u (n + ls.length)
  | [], t, u, n, h, hu => by
    simp only [takes, Option.some.injEq] at hu
    subst hu
    exact h
  | l :: r, t, u, n, h, hu => by
    simp only [takes] at hu
    cases hl : takeL t l with
    | none => rw [hl] at hu; cases hu
    | some v =>
      rw [hl] at hu
      have := takes_upto (takeL_upto h hl) hu
      rwa [List.length_cons, show n + (r.length + 1) = n + 1 + r.length by omega]
theorem linesE_len : ∀ (l : List UInt8), (linesE l).length ≤ l.length ∧ ∀ x ∈ linesE l, x.length ≤ l.length
  | [] => by simp [linesE]
  | b :: l => by
    obtain ⟨h1, h2⟩ := linesE_len l
    rw [linesE]
    split
    · refine ⟨by simp; omega, fun x hx => ?_⟩
      rcases List.mem_cons.1 hx with rfl | hx
      · simp
      · have := h2 x hx; simp; omega
    · cases hs : linesE l with
      | nil => simp
      | cons y r =>
        rw [hs] at h1 h2
        refine ⟨by simp at h1 ⊢; omega, fun x hx => ?_⟩
        rcases List.mem_cons.1 hx with rfl | hx
        · have := h2 y (by simp); simp; omega
        · have := h2 x (by simp [hx]); simp; omega
theorem bare_len (x : List UInt8) : (bare x).length ≤ x.length := by
  unfold bare
  split <;> simp
theorem bare_trim (x : List UInt8) : Lib.trimSuffix x [10] = bare x := by
  have hs : Lib.hasSuffix x [10] = true ↔ x.getLast? = some 10 := by
    unfold Lib.hasSuffix
    rcases List.eq_nil_or_concat x with rfl | ⟨y, z, rfl⟩
    · simp
    · simp
      exact eq_comm
  unfold Lib.trimSuffix bare
  by_cases h : x.getLast? = some 10
  · rw [if_pos h, if_pos (hs.2 h), List.dropLast_eq_take]
    rfl
  · rw [if_neg h, if_neg (fun e => h (hs.1 e))]
/-- what stands while lines are taken: the set-up so far, the two results' boxes; D: where the call's own begins, L: where the loop's does -/
structure ReadI (w : World) (L : Nat) (s : S) (W : World) : Prop where
  built : Built L w.heap.size (w.heap.size + 2) s W
  r2 : Row W w.heap.size 28 #[.slice sZero.na sZero.nodes.length sZero.nc, .slice sZero.pa sZero.parts.length sZero.pc, .slice sZero.qa sZero.queues.length sZero.qc, .int .i64 sZero.users, .int .i64 sZero.age, .int .i64 sZero.size, .int .i64 sZero.qos, .int .i64 sZero.share, .int .i64 sZero.decay, .int .i64 sZero.mode, .int .i64 sZero.jobs, .int .i64 sZero.ids, .int .i64 sZero.versions, .int .i64 sZero.linger, .int .i64 sZero.keep, .int .i64 sZero.inn, .int .i64 sZero.out, .int .i64 sZero.cache]
  r3 : Row W (w.heap.size + 1) 31 #[.int .i64 0]
  below : Below w.heap.size w W
theorem row_kept {W W' : World} {b : Nat} {t : TypeId} {cs : Array Value} {row : Option Nat} (h : Row W b t cs) (hg : W.grownBy W' row) (hne : some b ≠ row) : Row W' b t cs := (hg.block b h.lt hne).trans h
theorem lists_kept {L : Nat} {s : S} {W W' : World} {row : Option Nat} (h : Lists L W s) (hg : W.grownBy W' row) (hr : ∀ r, row = some r → r < L ∨ ∃ o : Obj, W.heap[r]? = some o ∧ o.isCells = false) : Lists L W' s := by
  have key : ∀ {e : TypeId} {k n : Nat} {v : Value} {xs : List Value}, W.ownsRow L e k v n xs → W'.ownsRow L e k v n xs := by
    intro e k n v xs ho
    refine ho.kept hg ?_
    rcases ho.2 with ⟨rfl, _⟩ | ⟨g, cap, cur, rfl, hL, hh, _⟩
    · exact .inl rfl
    · refine .inr fun e' => ?_
      rcases hr g (by rw [← e']; rfl) with h1 | ⟨o, ho', hc⟩
      · omega
      · rw [hh] at ho'; cases ho'; cases hc
  exact ⟨key h.nodes, key h.parts, fun p hp => key (h.part p hp), key h.queues, fun q hq => key (h.users q hq)⟩
theorem ReadI.kept {w : World} {L : Nat} {s : S} {W W' : World} {row : Option Nat} (h : ReadI w L s W) (hg : W.grownBy W' row) (hr : ∀ r, row = some r → w.heap.size + 3 ≤ r ∧ (r < L ∨ ∃ o : Obj, W.heap[r]? = some o ∧ o.isCells = false)) : ReadI w L s W' where
  built := ⟨row_kept h.built.row hg (fun e => by have := (hr _ e.symm).1; omega), h.built.ge, lists_kept h.built.lists hg (fun r e => (hr r e).2), h.built.le, Nat.le_trans h.built.top hg.size⟩
  r2 := row_kept h.r2 hg (fun e => by have := (hr _ e.symm).1; omega)
  r3 := row_kept h.r3 hg (fun e => by have := (hr _ e.symm).1; omega)
  below := h.below.grown hg h.below.size (fun k e => by have := (hr k e).1; omega)
/-- what a round that leaves has laid -/
structure ReadX (w : World) (W : World) : Prop where
  r2 : Row W w.heap.size 28 #[.slice sZero.na sZero.nodes.length sZero.nc, .slice sZero.pa sZero.parts.length sZero.pc, .slice sZero.qa sZero.queues.length sZero.qc, .int .i64 sZero.users, .int .i64 sZero.age, .int .i64 sZero.size, .int .i64 sZero.qos, .int .i64 sZero.share, .int .i64 sZero.decay, .int .i64 sZero.mode, .int .i64 sZero.jobs, .int .i64 sZero.ids, .int .i64 sZero.versions, .int .i64 sZero.linger, .int .i64 sZero.keep, .int .i64 sZero.inn, .int .i64 sZero.out, .int .i64 sZero.cache]
  r3 : Row W (w.heap.size + 1) 31 #[.int .i64 11]
  below : Below w.heap.size w W
theorem ReadX.kept {w : World} {W W' : World} {row : Option Nat} (h : ReadX w W) (hg : W.grownBy W' row) (hr : ∀ r, row = some r → w.heap.size + 3 ≤ r) : ReadX w W' where
  r2 := row_kept h.r2 hg (fun e => by have := (hr _ e.symm); omega)
  r3 := row_kept h.r3 hg (fun e => by have := (hr _ e.symm); omega)
  below := h.below.grown hg h.below.size (fun k e => by have := (hr k e); omega)
/-- what taking a line leaves of it -/
theorem ReadI.took {w : World} {L : Nat} {s s' : S} {W W' : World} (h : ReadI w L s W) (hb : Below w.heap.size W W') (hf : Far L (w.heap.size + 2) W W') (hM : Built L w.heap.size (w.heap.size + 2) s' W') : ReadI w L s' W' where
  built := hM
  r2 := hf.kept _ _ h.r2 (by omega) (.inr fun cs t fr e => by cases e; unfold ListT; decide)
  r3 := hf.kept _ _ h.r3 (by omega) (.inr fun cs t fr e => by cases e; unfold ListT; decide)
  below := h.below.trans hb
end Go.Proofs.YtgopjpnlpcmldaaGreatDoor.W
