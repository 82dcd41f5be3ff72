/-
  Several texts in one: PnMem, CopyWide, PnFree.
-/
import Derived.Test.YtcdajfiohhbdgaaJ30
import Derived.Test.YtcdajfiohhbdgaaJ31
import Derived.Test.YtcdajfiohhbdgaaJ32
import Derived.Test.YtcdajfiohhbdgaaJ34
import Derived.Test.YtcdajfiohhbdgaaBkMem
import Derived.Test.YtcdajfiohhbdgaaPlMem
import Derived.OneCell
import Derived.Test.YtcdajfiohhbdgaaListMem
import Derived.Laws.CopyOwn
import Derived.Deep.RegionLawGrows
import Derived.WalkMore

/-
  Profiles in memory: a row of lists of steps, each where it lies; the profile's own block.
-/
namespace Go.Proofs.Ytcdajfiohhbdgaa.W
set_option maxRecDepth 100000
set_option linter.unusedVariables false
set_option linter.unusedSimpArgs false
open Go.ChangeShapes Go.WideShapes Go.ChangeAt Go.RowKit

/-- a block of such elements -/
def Ty (w : World) (t : TypeId) (a : Option Addr) : Prop := ∀ d, a = some d → ∃ cs y, w.heap[d.block]? = some (.cells cs t y)
theorem blk_lt {w : World} {g : Nat} {o : Obj} (h : w.heap[g]? = some o) : g < w.heap.size := by
  rcases Nat.lt_or_ge g w.heap.size with h' | h'
  · exact h'
  · rw [Array.getElem?_eq_none h'] at h; cases h
theorem Ty.later {w w' : World} {t : TypeId} {a : Option Addr} (h : Ty w t a) (hb : Below w.heap.size w w') : Ty w' t a := by
  intro d e
  obtain ⟨cs, y, h1⟩ := h d e
  exact ⟨cs, y, (hb.block _ (blk_lt h1)).trans h1⟩
theorem Ty.set {w : World} {t : TypeId} {a : Option Addr} (h : Ty w t a) (p : Addr) (u : Value) : Ty (w.setCell p u) t a := by
  intro d e
  obtain ⟨cs, y, h1⟩ := h d e
  by_cases hp : d.block = p.block
  · simp only [World.setCell, Array.getElem?_modify]
    rw [if_pos hp.symm, h1]
    exact ⟨_, _, rfl⟩
  · exact ⟨cs, y, (Below.heap_setCell _ _ _ _ hp).trans h1⟩
theorem Ty.own {w : World} {base : Nat} {e : TypeId} {size n c : Nat} {a : Option Addr} {xs : List Value} (h : w.ownsRow base e size (.slice a n c) n xs) : Ty w e a := by
  intro d hd
  rcases h.2 with ⟨h1, _⟩ | ⟨g, cap, cur, h1, _, hh, _⟩
  · injection h1 with h1
    subst h1; cases hd
  · injection h1 with h1
    subst h1
    injection hd with hd
    subst hd
    exact ⟨_, _, hh⟩
theorem Ty.ne {w : World} {t t' : TypeId} {d : Addr} {g : Nat} {cs : Array Value} {y : Nat × Nat} (h : Ty w t (some d)) (hg : w.heap[g]? = some (.cells cs t' y)) (ht : t ≠ t') : d.block ≠ g := by
  intro e
  obtain ⟨cs', y', h1⟩ := h d rfl
  rw [e, hg] at h1
  injection h1 with h1
  injection h1 with _ h2 _
  exact ht h2.symm
theorem cell_set_ne {w : World} {b g j i : Nat} (u : Value) (h : b ≠ g) : (w.setCell ⟨g, j, none⟩ u).cell? ⟨b, i, none⟩ = w.cell? ⟨b, i, none⟩ :=
  by
  apply World.cell?_setCell_other
  intro e
  injection e with e
  exact h e.symm
theorem RowAt.set {w : World} {a : Option Addr} {xs : List Value} {t t' : TypeId} (h : RowAt w a xs) (ht : Ty w t a) {g : Nat} {cs : Array Value} {y : Nat × Nat} (hg : w.heap[g]? = some (.cells cs t' y)) (hne : t ≠ t') (j : Nat) (u : Value) : RowAt (w.setCell ⟨g, j, none⟩ u) a xs := by
  rcases h with h | ⟨b, off, rfl, hl, hc⟩
  · exact .inl h
  · refine .inr ⟨b, off, rfl, by simpa using hl, fun i v hv => ?_⟩
    rw [cell_set_ne u (ht.ne hg hne)]
    exact hc i v hv

/-- a list of steps of a profile, where it lies -/
structure Stl where
  a : Option Addr
  cap : Nat
  l : List St
instance : Inhabited Stl := ⟨⟨none, 0, []⟩⟩
def stlV (p : Stl) : Value := .slice p.a p.l.length p.cap
def flOf (F : List Stl) : FL := F.map Stl.l
/-- there, in a block of steps -/
structure StlAt (w : World) (p : Stl) : Prop where
  st : StAt w p.a p.cap p.l
  ty : Ty w 101 p.a
theorem StlAt.later {w w' : World} {p : Stl} (h : StlAt w p) (hb : Below w.heap.size w w') : StlAt w' p := ⟨h.1.later hb, h.2.later hb⟩
theorem StlAt.set {w : World} {p : Stl} (h : StlAt w p) {t' : TypeId} {g : Nat} {cs : Array Value} {y : Nat × Nat} (hg : w.heap[g]? = some (.cells cs t' y)) (hne : 101 ≠ t') (j : Nat) (u : Value) : StlAt (w.setCell ⟨g, j, none⟩ u) p :=
  ⟨⟨h.1.row.set h.2 hg hne j u, h.1.le, h.1.nil⟩, h.2.set _ _⟩
theorem own_stl {w : World} {base : Nat} {v : Value} {l : List St} (h : w.ownsRow base 101 5 v l.length (stsV l)) : ∃ a cap, v = .slice a l.length cap ∧ StlAt w ⟨a, cap, l⟩ := by
  obtain ⟨a, cap, e, h1⟩ := own_st h
  subst e
  exact ⟨a, cap, rfl, h1, Ty.own h⟩
/-- a row of them -/
structure FrAt (w : World) (a : Option Addr) (cap : Nat) (F : List Stl) : Prop where
  row : RowAt w a (F.map stlV)
  ty : Ty w 79 a
  each : ∀ p ∈ F, StlAt w p
  le : F.length ≤ cap
  nil : a = none → cap = 0
theorem FrAt.later {w w' : World} {a : Option Addr} {cap : Nat} {F : List Stl} (h : FrAt w a cap F) (hb : Below w.heap.size w w') : FrAt w' a cap F :=
  ⟨h.row.later hb, h.ty.later hb, fun p hp => (h.each p hp).later hb, h.le, h.nil⟩
theorem FrAt.at_ {w : World} {a : Option Addr} {cap : Nat} {F : List Stl} (h : FrAt w a cap F) {k : Nat} (hk : k < F.length) : ∃ b off, a = some ⟨b, off, none⟩ ∧ b < w.heap.size ∧
    w.cell? ⟨b, off + k, none⟩ = some (.slice F[k].a F[k].l.length F[k].cap) := by
  obtain ⟨b, off, e, hl, hc⟩ := h.row.row (by simp; omega)
  exact ⟨b, off, e, hl, hc k _ (by simp [hk, stlV])⟩
theorem flOf_len (F : List Stl) : (flOf F).length = F.length := by simp [flOf]
theorem flOf_at {F : List Stl} {k : Nat} (hk : k < F.length) : (flOf F).getD k [] = F[k].l := by simp [flOf, hk]
theorem flOf_set (F : List Stl) (k : Nat) (p : Stl) : flOf (F.set k p) = (flOf F).set k p.l := by simp [flOf, List.map_set]
/-- one of the call's own -/
structure FrOwn (w : World) (base : Nat) (v : Value) (F : List Stl) : Prop where
  own : w.ownsRow base 79 1 v F.length (F.map stlV)
  each : ∀ p ∈ F, StlAt w p
theorem FrOwn.shape {w : World} {base : Nat} {v : Value} {F : List Stl} (h : FrOwn w base v F) : ∃ a cap, v = .slice a F.length cap ∧ FrAt w a cap F ∧ (F ≠ [] → ∃ g, a = some ⟨g, 0, none⟩ ∧ base ≤ g ∧ g < w.heap.size) := by
  obtain ⟨a, cap, e, h1, h2, h3, h4⟩ := own_shape h.own
  subst e
  refine ⟨a, cap, rfl, ⟨h2, Ty.own h.own, h.each, h1, h3⟩, fun hF => ?_⟩
  rcases h4 with rfl | h4
  · have := h3 rfl
    exact absurd (List.eq_nil_of_length_eq_zero (by omega)) hF
  · exact h4
theorem FrOwn.later {w w' : World} {base : Nat} {v : Value} {F : List Stl} (h : FrOwn w base v F) (hb : Below w.heap.size w w') : FrOwn w' base v F := ⟨own_later h.own hb, fun p hp => (h.each p hp).later hb⟩
theorem FrOwn.more {w : World} {base base' : Nat} {v : Value} {F : List Stl} (h : FrOwn w base v F) (hb : base' ≤ base) : FrOwn w base' v F := ⟨own_more h.own hb, h.each⟩
/-- another list in the place of one -/
theorem FrOwn.put {w : World} {base g n cap : Nat} {F : List Stl} (h : FrOwn w base (.slice (some ⟨g, 0, none⟩) n cap) F) (hn : n = F.length) {k : Nat} (hk : k < F.length) {p : Stl} (hp : StlAt w p) :
    FrOwn (w.setCell ⟨g, k, none⟩ (.slice p.a p.l.length p.cap)) base (.slice (some ⟨g, 0, none⟩) n cap) (F.set k p) := by
  subst hn
  have hg : ∃ cur, w.heap[g]? = some (.cells cur 79 (0, 0)) := by
    rcases h.own.2 with ⟨h1, _⟩ | ⟨g', cap', cur, h1, _, hh, _⟩
    · cases h1
    · injection h1 with h1; injection h1 with h1; injection h1 with h1; subst h1; exact ⟨_, hh⟩
  obtain ⟨cur, hg⟩ := hg
  have hs := h.own.stored k (stlV p)
  have hset : (F.map stlV).set k (stlV p) = (F.set k p).map stlV := by rw [List.map_set]
  rw [hset] at hs
  refine ⟨by rw [List.length_set]; exact hs.1, fun q hq => ?_⟩
  rcases List.mem_or_eq_of_mem_set hq with hq | rfl
  · exact (h.each q hq).set hg (by decide) k _
  · exact hp.set hg (by decide) k _

/-- a profile in its block -/
structure PrAt (w : World) (g : Nat) (s : S) (now : Int) (fa : Option Addr) (fc : Nat) (F : List Stl) : Prop where
  blk : w.heap[g]? = some (.cells #[.slice s.pa s.parts.length s.pc, .int .i64 now, .slice fa F.length fc] 76 (0, 0))
  free : FrAt w fa fc F
theorem PrAt.later {w w' : World} {g : Nat} {s : S} {now : Int} {fa : Option Addr} {fc : Nat} {F : List Stl} (h : PrAt w g s now fa fc F) (hb : Below w.heap.size w w') : PrAt w' g s now fa fc F :=
  ⟨(hb.block _ (blk_lt h.blk)).trans h.blk, h.free.later hb⟩
theorem blk_cell {w : World} {g : Nat} {cs : Array Value} {t : TypeId} (h : w.heap[g]? = some (.cells cs t (0, 0))) (j : Nat) (hj : j < cs.size) : w.cell? ⟨g, j, none⟩ = some cs[j] := by
  simp [World.cell?, h, hj]
theorem PrAt.c0 {w : World} {g : Nat} {s : S} {now : Int} {fa : Option Addr} {fc : Nat} {F : List Stl} (h : PrAt w g s now fa fc F) : w.cell? ⟨g, 0, none⟩ = some (.slice s.pa s.parts.length s.pc) := blk_cell h.blk 0 (by simp)
theorem PrAt.c1 {w : World} {g : Nat} {s : S} {now : Int} {fa : Option Addr} {fc : Nat} {F : List Stl} (h : PrAt w g s now fa fc F) : w.cell? ⟨g, 1, none⟩ = some (.int .i64 now) := blk_cell h.blk 1 (by simp)
theorem PrAt.c2 {w : World} {g : Nat} {s : S} {now : Int} {fa : Option Addr} {fc : Nat} {F : List Stl} (h : PrAt w g s now fa fc F) : w.cell? ⟨g, 2, none⟩ = some (.slice fa F.length fc) := blk_cell h.blk 2 (by simp)
theorem infoStl : (Try.prog.info? 79).map (fun i => (i.zero, i.size, i.bytes)) = some (some (.slice none 0 0), 1, 24) := by kernel_rfl
theorem infoVc4 : (Try.prog.info? 34).map (fun i => (i.zero, i.size, i.bytes)) = some (some (.agg #[.int .i64 0, .int .i64 0, .int .i64 0, .int .i64 0]), 4, 32) := by kernel_rfl
end Go.Proofs.Ytcdajfiohhbdgaa.W


/-
  'copy(dst, src)' over elements of several cells, dst lying in a row that is known whole, src whatever.
-/
namespace Go.Proofs.Ytcdajfiohhbdgaa.W
set_option linter.unusedVariables false
open Go.ChangeShapes Go.WideShapes Go.ChangeAt Go.RowKit

theorem run_copy_wide {P : Program} (w : World) (dT sT ty elem : TypeId) (size g o n dLen dCap : Nat) (a : Addr) (sLen sCap : Nat) (cur : Array Value) (t : TypeId) (cs : List Value)
    (hu : P.underlying dT = some (.slice elem)) (hs : (P.info? elem).map (·.size) = some size)
    (hg : w.heap[g]? = some (.cells cur t (0, 0))) (hn : Nat.min sLen dLen = n) (hcs : cs.length = n * size)
    (hsrc : ∀ j v, cs[j]? = some v → w.cell? (a.add j) = some v) (hfit : o + cs.length ≤ cur.size) (h1 : ∀ v ∈ cs, v.oneCell' = true) :
    (Builtin.copy_ #[dT, sT] ty #[.slice (some ⟨g, o, none⟩) dLen dCap, .slice (some a) sLen sCap]).run P w =
      .ok (goInt n) (w.setRow g (cur.toList.take o ++ cs ++ cur.toList.drop (o + cs.length)).toArray) := by
  have hl := run_loadCells_list (P := P) w a cs hsrc
  have hst := run_storeCells_at P g o t cs 0 cur w hg (by simpa using hfit) h1
  cases hq : P.info? elem with
  | none => simp [hq] at hs
  | some i =>
    have hi : i.size = size := by simpa [hq] using hs
    simp [Builtin.copy_, run_underlying hu, Builtin.lenOf, Builtin.firstCells, sizeOf, typeInfo, hq, hi, hn, ← hcs, hl, hst]
theorem run_copy_zero {P : Program} (w : World) (dT sT ty elem : TypeId) (size : Nat) (d a : Option Addr) (dLen dCap sLen sCap : Nat) (hu : P.underlying dT = some (.slice elem)) (hs : (P.info? elem).map (·.size) = some size) (hn : Nat.min sLen dLen = 0) :
    (Builtin.copy_ #[dT, sT] ty #[.slice d dLen dCap, .slice a sLen sCap]).run P w = .ok (goInt 0) w := by
  cases hq : P.info? elem with
  | none => simp [hq] at hs
  | some i =>
    have hl := fun a => run_loadCells_list (P := P) w a [] (fun j v hj => by simp at hj)
    simp at hl
    cases d <;> cases a <;> simp [Builtin.copy_, run_underlying hu, Builtin.lenOf, Builtin.firstCells, sizeOf, typeInfo, hq, hn, storeCells, hl]
theorem wpList_copy_wide {P : Program} {w : World} {ops : Array Oper} {rest : List Oper} {o : Oper} {a : Act} {Q : Exit → Act → World → Prop} (hgd : o.guard = none) (d s : Operand) (dT sT : TypeId)
    (ho : o.op = .call { callee := .builtin .copy, args := #[d, s], argTypes := #[dT, sT] }) (elem : TypeId) (hu : P.underlying dT = some (.slice elem)) (size : Nat) (hsz : (P.info? elem).map (·.size) = some size)
    (dp sp : Option Addr) (dLen dCap sLen sCap : Nat) (hd : a.eval d = .slice dp dLen dCap) (hs : a.eval s = .slice sp sLen sCap)
    (g off n : Nat) (cur : List Value) (t : TypeId) (hg : w.heap[g]? = some (.cells cur.toArray t (0, 0))) (cs : List Value) (hn : Nat.min sLen dLen = n) (hcs : cs.length = n * size)
    (hpos : 0 < n → dp = some ⟨g, off, none⟩ ∧ ∃ ad, sp = some ad ∧ ∀ j v, cs[j]? = some v → w.cell? (ad.add j) = some v)
    (hfit : off + cs.length ≤ cur.length) (h1 : ∀ v ∈ cs, v.oneCell' = true) (B : Nat) (w0 : World) (hb : Below B w0 w) (hBg : B ≤ g)
    (h : ∀ w', Hid (w'.heap[g]? = some (.cells (splice cur off cs).toArray t (0, 0))) → Below B w0 w' → wpList P ops Q rest (a.put o.dst (goInt n)) w') :
    wpList P ops Q (o :: rest) a w := by
  by_cases h0 : n = 0
  · subst h0
    obtain rfl : cs = [] := List.eq_nil_of_length_eq_zero (by omega)
    refine wpList_plain hgd fun K hK => ?_
    have hrun := run_copy_zero (P := P) w dT sT o.type elem size dp sp dLen dCap sLen sCap hu hsz hn
    unfold Oper.wp
    simp [execOp, ho, resolve, invoke, builtin, hd, hs, hrun, Result.andThen]
    exact hK _ _ (h w (show _ = _ by simpa [splice] using hg) hb)
  · obtain ⟨rfl, ad, rfl, hsrc⟩ := hpos (by omega)
    refine wpList_plain hgd fun K hK => ?_
    have hrun := run_copy_wide (P := P) w dT sT o.type elem size g off n dLen dCap ad sLen sCap cur.toArray t cs hu hsz hg hn hcs hsrc (by simpa using hfit) h1
    unfold Oper.wp
    simp [execOp, ho, resolve, invoke, builtin, hd, hs, hrun, Result.andThen]
    exact hK _ _ (h _ (show _ = _ by simpa [splice] using setRow_heap w g _ _ t _ hg) (below_setRow hb hBg _))
/-- the same as a step of a region that draws -/
theorem step_copy_wide {P : Program} {ops : Array Oper} {o : Oper} {a : Act} {w : World} {K : Act → World → Prop} {Q : Exit → Act → World → Prop} {E : Prop} (hgd : o.guard = none) (d s : Operand) (dT sT : TypeId)
    (ho : o.op = .call { callee := .builtin .copy, args := #[d, s], argTypes := #[dT, sT] }) (elem : TypeId) (hu : P.underlying dT = some (.slice elem)) (size : Nat) (hsz : (P.info? elem).map (·.size) = some size)
    (dp sp : Option Addr) (dLen dCap sLen sCap : Nat) (hd : a.eval d = .slice dp dLen dCap) (hs : a.eval s = .slice sp sLen sCap)
    (g off n : Nat) (cur : List Value) (t : TypeId) (hg : w.heap[g]? = some (.cells cur.toArray t (0, 0))) (cs : List Value) (hn : Nat.min sLen dLen = n) (hcs : cs.length = n * size)
    (hpos : 0 < n → dp = some ⟨g, off, none⟩ ∧ ∃ ad, sp = some ad ∧ ∀ j v, cs[j]? = some v → w.cell? (ad.add j) = some v)
    (hfit : off + cs.length ≤ cur.length) (h1 : ∀ v ∈ cs, v.oneCell' = true) (B : Nat) (w0 : World) (hb : Below B w0 w) (hBg : B ≤ g)
    (h : ∀ w', Hid (w'.heap[g]? = some (.cells (splice cur off cs).toArray t (0, 0))) → Below B w0 w' → K (a.put o.dst (goInt n)) w') :
    if Region.wanted o (yielded ops a.tmps) = true then Oper.wp P o a w K Q else E := by
  have hw : Region.wanted o (yielded ops a.tmps) = true := by simp [Region.wanted, hgd]
  rw [if_pos hw]
  by_cases h0 : n = 0
  · subst h0
    obtain rfl : cs = [] := List.eq_nil_of_length_eq_zero (by omega)
    have hrun := run_copy_zero (P := P) w dT sT o.type elem size dp sp dLen dCap sLen sCap hu hsz hn
    unfold Oper.wp
    simp [execOp, ho, resolve, invoke, builtin, hd, hs, hrun, Result.andThen]
    exact h w (show _ = _ by simpa [splice] using hg) hb
  · obtain ⟨rfl, ad, rfl, hsrc⟩ := hpos (by omega)
    have hrun := run_copy_wide (P := P) w dT sT o.type elem size g off n dLen dCap ad sLen sCap cur.toArray t cs hu hsz hg hn hcs hsrc (by simpa using hfit) h1
    unfold Oper.wp
    simp [execOp, ho, resolve, invoke, builtin, hd, hs, hrun, Result.andThen]
    exact h _ (show _ = _ by simpa [splice] using setRow_heap w g _ _ t _ hg) (below_setRow hb hBg _)
/-- a store of a struct into a row that is known whole -/
theorem wpList_store_splice {P : Program} {ops : Array Oper} {rest : List Oper} {o : Oper} {a : Act} {w : World} {Q : Exit → Act → World → Prop} (hgd : o.guard = none) (ty : TypeId) (x y : Operand) (ho : o.op = .store ty x y)
    (g off : Nat) (cells : List Value) (hx : a.eval x = .pointer (some ⟨g, off, none⟩)) (hy : a.eval y = .agg cells.toArray) (hi : (P.info? ty).map (·.size) = some cells.length)
    (cur : List Value) (t : TypeId) (hg : w.heap[g]? = some (.cells cur.toArray t (0, 0))) (hfit : off + cells.length ≤ cur.length) (h1 : ∀ v ∈ cells, v.oneCell' = true) (B : Nat) (w0 : World) (hb : Below B w0 w) (hBg : B ≤ g)
    (h : ∀ w', Hid (w'.heap[g]? = some (.cells (splice cur off cells).toArray t (0, 0))) → Below B w0 w' → wpList P ops Q rest (a.put o.dst undef) w') :
    wpList P ops Q (o :: rest) a w := by
  refine wpList_plain hgd fun K hK => ?_
  have hst := run_storeCells_at P g off t cells 0 cur.toArray w hg (by simpa using hfit) h1
  cases hq : P.info? ty with
  | none => simp [hq] at hi
  | some i =>
    have hs : i.size = cells.length := by simpa [hq] using hi
    unfold Oper.wp execOp
    simp [ho, hx, hy, Instr.storeAt, Instr.sureAddr, storeVar, sizeOf, typeInfo, hq, Value.cells, hs, hst, Result.andThen]
    exact hK _ _ (h _ (show _ = _ by simpa [splice] using setRow_heap w g _ _ t _ hg) (below_setRow hb hBg _))
theorem run_append_zero {P : Program} {w : World} (base : Nat) (t ty e : TypeId) (i : TypeInfo) (size : Nat) (ht : P.underlying t = some (.slice e)) (hi : P.info? e = some i)
    (v : Value) (n : Nat) (xs : List Value) (hown : w.ownsRow base e size v n xs) (ad : Addr) (c : Nat) :
    (Builtin.append_ #[t, t] ty #[v, .slice (some ad) 0 c]).run P w = .ok v w := by
  have hl := run_loadCells_list (P := P) w ad [] (fun j v hj => by simp at hj)
  simp at hl
  rcases hown.2 with ⟨rfl, rfl⟩ | ⟨g, cap, cur, rfl, _, _, hnc, _⟩
  · simp [Builtin.append_, run_underlying ht, sizeOf, typeInfo, hi, Builtin.lenOf, Builtin.firstCells, hl]
  · simp [Builtin.append_, run_underlying ht, sizeOf, typeInfo, hi, Builtin.lenOf, Builtin.firstCells, hnc, storeCells, hl]
/-- an append to one just written out with no element: what is older stays -/
theorem wp_append_fresh {P : Program} {w : World} {o : Oper} {a : Act} {K : Act → World → Prop} {Q : Exit → Act → World → Prop} (s x : Operand) (t : TypeId)
    (ho : o.op = .call { callee := .builtin .append, args := #[s, x], argTypes := #[t, t] })
    (base : Nat) (e : TypeId) (i : TypeInfo) (z : Value) (size bytes : Nat) (ht : P.underlying t = some (.slice e)) (hi : P.info? e = some i) (hz : i.zero = some z)
    (hsize : i.size = size) (hby : i.bytes = bytes) (hzs : z.cells.size = size) (hsz : 0 < size) (hb0 : 0 < bytes)
    (g : Nat) (hs : a.eval s = .slice (some ⟨g, 0, none⟩) 0 0) (hown : w.ownsRow base e size (.slice (some ⟨g, 0, none⟩) 0 0) 0 [])
    (A : Option Addr) (m c : Nat) (news : List Value) (hx : a.eval x = .slice A m c) (hn : A = none → c = 0) (hm : news.length = m * size) (hrow : RowAt w A news) (h1 : ∀ u ∈ news, u.oneCell' = true)
    (hbytes : m * bytes ≤ 140737488355328) (hbase : base ≤ w.heap.size)
    (h : ∀ v' w', w'.ownsRow base e size v' m news → Below w.heap.size w w' → K (a.put o.dst v') w') : o.wp P a w K Q := by
  by_cases h0 : m = 0
  · subst h0
    obtain rfl : news = [] := List.eq_nil_of_length_eq_zero (by simpa using hm)
    have hk := h (.slice (some ⟨g, 0, none⟩) 0 0) w hown (Below.refl _ _)
    cases A with
    | none =>
      have hc := hn rfl
      subst hc
      have hrun := run_append_owned_none (P := P) (w := w) base t o.type e i size ht hi _ 0 [] hown
      unfold Oper.wp
      simp [execOp, ho, resolve, invoke, builtin, hs, hx, hrun, Result.andThen]
      exact hk
    | some ad =>
      have hrun := run_append_zero (P := P) (w := w) base t o.type e i size ht hi _ 0 [] hown ad c
      unfold Oper.wp
      simp [execOp, ho, resolve, invoke, builtin, hs, hx, hrun, Result.andThen]
      exact hk
  · have hp : 0 < news.length := by rw [hm]; exact Nat.mul_pos (by omega) hsz
    obtain ⟨b, off, rfl, hl, hc⟩ := hrow.row hp
    have hmb : m ≤ m * bytes := Nat.le_mul_of_pos_right _ hb0
    obtain ⟨v', w', hrun, r1, r2⟩ := run_append_arg_grows (P := P) w t o.type e i z size bytes ht hi hz hsize hby hzs hsz ⟨g, 0, none⟩ 0 0 [] (by simp) (fun j u hj => by simp at hj) ⟨b, off, none⟩ m c news hm (fun j u hj => by rw [add_plain]; exact hc j u hj) (by omega) (by unfold maxLen; omega) (by rw [Nat.zero_add]; exact hbytes)
    have hk := h v' w' (own_more (by simpa using r1) hbase) ((Below.refl _ _).grown r2 (Nat.le_refl _) (fun k hk => by cases hk))
    unfold Oper.wp
    simp [execOp, ho, resolve, invoke, builtin, hs, hx, hrun, Result.andThen]
    exact hk
/-- a row known whole is one of the call's own -/
theorem own_whole {w : World} {base g n size : Nat} {e : TypeId} {xs : List Value} (h : w.heap[g]? = some (.cells xs.toArray e (0, 0))) (hb : base ≤ g) (hn : n ≤ maxLen) (hl : xs.length = n * size) : w.ownsRow base e size (.slice (some ⟨g, 0, none⟩) n n) n xs :=
  ⟨hl, .inr ⟨g, n, xs.toArray, rfl, hb, h, Nat.le_refl _, hn, by simpa using hl, by simp [← hl]⟩⟩
/-- what make lays -/
theorem made_whole (w : World) (z : Array Value) (n : Nat) (e : TypeId) : (w.alloc (.cells (madeCells z n) e)).heap[w.heap.size]? = some (.cells (madeCells z n).toList.toArray e (0, 0)) := by
  rw [Array.toArray_toList]; exact heap_alloc_new w _
end Go.Proofs.Ytcdajfiohhbdgaa.W


/-
  Contracts of plan's within and Free.
-/
namespace Go.Proofs.Ytcdajfiohhbdgaa.W
set_option maxRecDepth 100000
set_option linter.unusedVariables false
set_option linter.unusedSimpArgs false
open Go.ChangeShapes Go.WideShapes Go.ChangeAt Go.RowKit

theorem splice_vc : ∀ (L : List V) (k : Nat) (v : V), k < L.length → splice (vcsV L) (k * 4) (vcV v) = vcsV (L.set k v)
  | x :: L, 0, v, _ => by simp [splice, vcsV, vcV]
  | x :: L, k + 1, v, h => by
    have ih := splice_vc L k v (by simpa using h)
    have e : (k + 1) * 4 = (vcV x).length + k * 4 := by simp [vcV]; omega
    have e2 : vcsV (x :: L) = vcV x ++ vcsV L := rfl
    have e3 : vcsV ((x :: L).set (k + 1) v) = vcV x ++ vcsV (L.set k v) := rfl
    rw [e2, e3, ← ih, e]
    unfold splice
    rw [List.take_length_add_append, Nat.add_assoc, List.drop_length_add_append, List.append_assoc]
theorem vcs_zero (n : Nat) : vcsV (List.replicate n V.zero) = List.replicate (n * 4) (.int .i64 0) := by
  refine List.eq_replicate_iff.2 ⟨by rw [vcsV_len, List.length_replicate], fun b hb => ?_⟩
  obtain ⟨v, hv, hb⟩ := List.mem_flatMap.1 hb
  rw [(List.mem_replicate.1 hv).2] at hb
  simp [vcV, V.zero] at hb
  exact hb
theorem made_zero (n : Nat) : madeCells (Value.agg #[.int .i64 0, .int .i64 0, .int .i64 0, .int .i64 0]).cells (n * 4) = (vcsV (List.replicate n V.zero)).toArray := by
  rw [vcs_zero]
  apply Array.ext'
  refine List.eq_replicate_iff.2 ⟨by rw [Array.length_toList, size_madeCells], fun b hb => ?_⟩
  simp only [madeCells, Array.toList_map, List.mem_map] at hb
  obtain ⟨i, _, rfl⟩ := hb
  have hi : i % 4 < 4 := Nat.mod_lt _ (by decide)
  show (#[Value.int .i64 0, .int .i64 0, .int .i64 0, .int .i64 0] : Array Value)[i % 4]! = _
  generalize i % 4 = j at hi
  match j, hi with
  | 0, _ => rfl
  | 1, _ => rfl
  | 2, _ => rfl
  | 3, _ => rfl

def WinT (now t wall : Int) : Prop := now ≤ t ∧ t ≤ 1099511627776 ∧ 1 ≤ wall ∧ wall ≤ 65536
instance (now t wall : Int) : Decidable (WinT now t wall) := by unfold WinT; infer_instance
def winB (now t wall : Int) : Bool := decide (WinT now t wall)
theorem win_first {now t wall : Int} (h : ¬ WinT now t wall) : decide (now ≤ t) = false ∨ (decide (now ≤ t) = true ∧ decide (t ≤ 1099511627776) = false) ∨ (decide (now ≤ t) = true ∧ decide (t ≤ 1099511627776) = true ∧ decide (0 < wall) = false) ∨
    (decide (now ≤ t) = true ∧ decide (t ≤ 1099511627776) = true ∧ decide (0 < wall) = true ∧ decide (wall ≤ 65536) = false) := by
  unfold WinT at h
  by_cases h0 : now ≤ t
  · by_cases h1 : t ≤ 1099511627776
    · by_cases h2 : 0 < wall
      · by_cases h3 : wall ≤ 65536
        · exact absurd ⟨h0, h1, h2, h3⟩ h
        · simp [h0, h1, h2, h3]
      · simp [h0, h1, h2]
    · simp [h0, h1]
  · simp [h0]
theorem one_le2 (x : Int) : decide (1 ≤ x) = decide (0 < x) := by rw [decide_eq_decide]; omega
set_option maxHeartbeats 2000000 in
theorem pWithin (g : Nat) (now t wall : Int) (w : World) (h1 : w.cell? ⟨g, 1, none⟩ = some (.int .i64 now)) :
    Calls Try.prog 28 #[.pointer (some ⟨g, 0, none⟩), .int .i64 t, .int .i64 wall] w fun e w' => e = .returned (.bool (winB now t wall)) ∧ Below w.heap.size w w' := by
  by_cases h : WinT now t wall
  · rw [show winB now t wall = true from decide_eq_true h]
    obtain ⟨a0, a1, a2, a3⟩ := h
    have g0 := decide_eq_true a0
    have g1 := decide_eq_true a1
    have g2 := decide_eq_true a2
    have g3 := decide_eq_true a3
    clear a0 a1 a2 a3
    go_enter Try.func28, Try.ntmps28
    go_wp2
    go_ret
    exact ⟨by simp [*], (by repeat' (first | exact Below.refl _ _ | assumption | exact And.left (by assumption) | refine Below.drew ?_ | refine below_drewN ?_ _ | refine Below.setCell ?_ (by first | (simp; done) | (simp; omega) | omega) _ | refine Below.alloc ?_ (by first | (simp; done) | (simp; omega) | omega) _ | refine after (by assumption) (by first | (simp; done) | (simp; omega) | omega) ?_))⟩
  · rw [show winB now t wall = false from decide_eq_false h]
    have key := win_first h
    rw [← one_le2] at key
    clear h
    rcases key with g0 | ⟨g0, g1⟩ | ⟨g0, g1, g2⟩ | ⟨g0, g1, g2, g3⟩
    all_goals
      go_enter Try.func28, Try.ntmps28
      go_wp2
      go_ret
      exact ⟨by simp [*], (by repeat' (first | exact Below.refl _ _ | assumption | exact And.left (by assumption) | refine Below.drew ?_ | refine below_drewN ?_ _ | refine Below.setCell ?_ (by first | (simp; done) | (simp; omega) | omega) _ | refine Below.alloc ?_ (by first | (simp; done) | (simp; omega) | omega) _ | refine after (by assumption) (by first | (simp; done) | (simp; omega) | omega) ?_))⟩
def freeL (F : List Stl) (t : Int) : List V := F.map fun p => atR p.l t
set_option maxHeartbeats 4000000 in
theorem pFree (g : Nat) (s : S) (now : Int) (fa : Option Addr) (fc : Nat) (F : List Stl) (hF : F.length ≤ 16) (hB : LenLe (flOf F) 80000) (t : Int) (w : World) (HP : PrAt w g s now fa fc F) (ht : now ≤ t) :
    Calls Try.prog 11 #[.pointer (some ⟨g, 0, none⟩), .int .i64 t] w fun e w' => ∃ v, e = .returned v ∧ w'.ownsRow w.heap.size 34 4 v F.length (vcsV (freeL F t)) ∧ Below w.heap.size w w' := by
  have HR := Lib.hid HP
  have c1 := HP.c1
  have c2 := HP.c2
  have hgl := blk_lt HP.blk
  have g0 : decide (t < now) = false := decide_eq_false (by omega)
  have HA := Lib.hid (fun (k : Nat) (hk : k < F.length) (w' : World) (h : StAt w' F[k].a F[k].cap F[k].l) => sAt F[k].a F[k].cap F[k].l (by have := hB F[k].l (List.mem_map.2 ⟨F[k], List.getElem_mem hk, rfl⟩); omega) t w' h)
  obtain ⟨i0, hi, hzz, hzs, hzb⟩ := info_parts infoVc4
  have hmk := fun W => run_make (P := Try.prog) W 22 34 i0 _ Try.underlying22 hi hzz .i64 .i64 (F.length : Int) (F.length : Int) (by omega) (by omega) (by rw [hzb]; omega) (by omega)
  simp only [Int.toNat_natCast, hzs, made_zero] at hmk
  have HL0 : Hid (∃ L : List V, L = List.replicate F.length V.zero) := Lib.hid ⟨_, rfl⟩
  clear HP ht hB
  generalize hn : F.length = n at c2 hmk hF
  have HN := Lib.hid hn
  clear hn HL0
  go_enter Try.func11, Try.ntmps11
  go_wp2
  generalize hw0 : World.alloc w _ = w0
  have hb0 : Below w.heap.size w w0 := by rw [← hw0]; exact (by repeat' (first | exact Below.refl _ _ | assumption | exact And.left (by assumption) | refine Below.drew ?_ | refine below_drewN ?_ _ | refine Below.setCell ?_ (by first | (simp; done) | (simp; omega) | omega) _ | refine Below.alloc ?_ (by first | (simp; done) | (simp; omega) | omega) _ | refine after (by assumption) (by first | (simp; done) | (simp; omega) | omega) ?_))
  have H0 : Hid (w0.heap[w.heap.size]? = some (.cells (vcsV (List.replicate n V.zero)).toArray 34 (0, 0))) := Lib.hid (by rw [← hw0]; exact heap_alloc_new _ _)
  clear hw0
  have hz0 := hb0.size
  replace c1 := carry hb0 c1
  replace c2 := carry hb0 c2
  go_loopw [29] (fun x wr => ∃ k : Nat, k ≤ n ∧ x = .int .i64 k ∧ Below w.heap.size w wr ∧ Hid (∃ L : List V, L.length = n ∧ wr.heap[w.heap.size]? = some (.cells (vcsV L).toArray 34 (0, 0)) ∧ ∀ i, i < k → L[i]? = (freeL F t)[i]?)) (fun x _ => n - (intOf x).toNat)
  case atStart => exact ⟨0, Nat.zero_le _, rfl, hb0, Lib.hid ⟨_, by simp, H0.out, fun i hi => absurd hi (by omega)⟩⟩
  case round =>
    obtain ⟨k, hk, rfl, hb, HI⟩ := hrel
    have hz := hb.size
    by_cases hlt : k < n
    · have hlF : k < F.length := by rw [HN.out]; exact hlt
      obtain ⟨b, off, ea, hbl, q0⟩ := (HR.out.later hb).free.at_ hlF
      have HE : Hid (StlAt wr F[k]) := Lib.hid ((HR.out.later hb).free.each _ (List.getElem_mem hlF))
      have HQ := Lib.hid (fun w' h => HA.out k hlF w' h)
      have HK : Hid ((freeL F t)[k]? = some (atR F[k].l t)) := Lib.hid (by simp [freeL, hlF])
      subst ea
      generalize F[k] = p at q0 HE HQ HK
      go_wp2_with fail
      refine (HQ.out _ HE.out.1).mono ?_; rintro e w2 ⟨rfl, hb2⟩
      have k2 := hb.trans (hb2.mono hz)
      obtain ⟨L, hL0, hL1, hL2⟩ := HI.out
      have hL1' : Hid (w2.heap[w.heap.size]? = some (.cells (vcsV L).toArray 34 (0, 0))) := Lib.hid ((hb2.block _ (blk_lt hL1)).trans hL1)
      have HL := Lib.hid hL0
      have HL2 := Lib.hid hL2
      clear hL0 hL1 hL2
      go_wp2_with ((with_reducible show wpList _ _ _ _ _ _); refine wpList_store_splice rfl 34 (.tmp 39) (.tmp 38) rfl w.heap.size (k * 4) (vcV (atR p.l t)) rfl rfl (by kernel_rfl) _ 34 hL1'.out (by rw [vcsV_len, HL.out]; show _ + 4 ≤ _; omega) (by simp [vcV, Value.oneCell']) w.heap.size w k2 (Nat.le_refl _) ?_)
      intro w3 HW3 k3
      go_wp2
      go_roundw
      case rel =>
        refine ⟨k + 1, by omega, by go_num, k3, Lib.hid ⟨L.set k (atR p.l t), by rw [List.length_set, HL.out], ?_, fun i hi => ?_⟩⟩
        · have h := HW3.out
          rw [splice_vc L k _ (by rw [HL.out]; exact hlt)] at h
          exact h
        · rw [List.getElem?_set]
          by_cases e : k = i
          · subst e; rw [if_pos rfl, if_pos (by rw [HL.out]; exact hlt), HK.out]
          · rw [if_neg e]; exact HL2.out i (by omega)
      case measure => simp [intOf]; omega
    · obtain ⟨L, hL0, hL1, hL2⟩ := HI.out
      have hO : Hid (wr.ownsRow w.heap.size 34 4 (.slice (some ⟨w.heap.size, 0, none⟩) n n) n (vcsV (freeL F t))) := Lib.hid (by
        have e : L = freeL F t := List.ext_getElem? fun i => by
          by_cases hi : i < n
          · exact hL2 i (by omega)
          · rw [List.getElem?_eq_none (by omega), List.getElem?_eq_none (by unfold freeL; rw [List.length_map, HN.out]; omega)]
        rw [← e]
        exact own_whole hL1 (Nat.le_refl _) (by unfold maxLen; omega) (by rw [vcsV_len, hL0]))
      clear hL0 hL1 hL2 HI
      go_wp2
      go_ret
      exact ⟨_, rfl, hO.out, hb⟩
end Go.Proofs.Ytcdajfiohhbdgaa.W
