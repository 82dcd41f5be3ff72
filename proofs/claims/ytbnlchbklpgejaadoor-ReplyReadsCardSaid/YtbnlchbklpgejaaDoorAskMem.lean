/-
  Requests in memory: one in a block of its own; an After, wherever it lies; appends of what was just written out.
-/
import Derived.Test.YtbnlchbklpgejaaDoorAskSpec
import Derived.Test.YtbnlchbklpgejaaDoorCodecRead
import Derived.Test.YtbnlchbklpgejaaDoorMono
import Derived.Deep.MidRow
import Derived.Deep.RegionLaw
namespace Go.Proofs.YtbnlchbklpgejaaDoor.W
set_option linter.unusedVariables false
set_option linter.unusedSimpArgs false
open Go.ChangeShapes Go.WideShapes Go.ChangeAt Go.RowKit

def depV (d : Int × Bool) : List Value := [.int .i64 d.1, .bool d.2]
def depsV (af : List (Int × Bool)) : List Value := af.flatMap depV
theorem depsV_len (af : List (Int × Bool)) : (depsV af).length = af.length * 2 := by
  unfold depsV
  induction af with
  | nil => rfl
  | cons d r ih => rw [List.flatMap_cons, List.length_append, ih, List.length_cons]; simp [depV]; omega
theorem depsV_at : ∀ (af : List (Int × Bool)) (k : Nat) (h : k < af.length), (depsV af)[k * 2]? = some (.int .i64 (af[k]).1) ∧ (depsV af)[k * 2 + 1]? = some (.bool (af[k]).2)
  | d :: r, 0, _ => ⟨rfl, rfl⟩
  | d :: r, k + 1, h => by
    have ih := depsV_at r k (by simpa using h)
    have e1 : (k + 1) * 2 = k * 2 + 2 := by omega
    rw [e1]
    exact ih
theorem depsV_snoc (af : List (Int × Bool)) (d : Int × Bool) : depsV (af ++ [d]) = depsV af ++ [.int .i64 d.1, .bool d.2] := by simp [depsV, depV]
/-- one of an After -/
theorem dep_at {w : World} {a : Option Addr} {af : List (Int × Bool)} (h : RowAt w a (depsV af)) {k : Nat} (hk : k < af.length) :
    ∃ b off, a = some ⟨b, off, none⟩ ∧ b < w.heap.size ∧ w.cell? ⟨b, off + k * 2, none⟩ = some (.int .i64 (af[k]).1) ∧ w.cell? ⟨b, off + k * 2 + 1, none⟩ = some (.bool (af[k]).2) := by
  obtain ⟨b, off, e, hl, hc⟩ := h.row (by rw [depsV_len]; omega)
  have := depsV_at af k hk
  exact ⟨b, off, e, hl, hc _ _ this.1, by have h2 := hc _ _ this.2; rwa [← Nat.add_assoc] at h2⟩
def ptrsV (g : Nat) (fs : List Nat) : List Value := fs.map fun i => .pointer (some ⟨g, cix i, none⟩)
theorem ptrs_at (g : Nat) (fs : List Nat) (k : Nat) (h : k < fs.length) : (ptrsV g fs)[k]? = some (.pointer (some ⟨g, cix fs[k], none⟩)) := by simp [ptrsV, h]
theorem ptrs_len (g : Nat) (fs : List Nat) : (ptrsV g fs).length = fs.length := by simp [ptrsV]

theorem grown_refl (w : World) (row : Option Nat) : w.grownBy w row := ⟨rfl, rfl, rfl, Nat.le_refl _, fun _ _ _ => rfl⟩
/-! a request in a block -/
theorem Row.as {w : World} {g : Nat} {t : TypeId} {cs cs' : Array Value} (h : Row w g t cs) (e : cs = cs') : Row w g t cs' := e ▸ h
/-! an append of what was just written out, to a slice of the call's own -/
theorem step_append_new {P : Program} {ops : Array Oper} {o : Oper} {a : Act} {K : Act → World → Prop} {Q : Exit → Act → World → Prop} {E : Prop} (s x : Operand) (t : TypeId)
    (e : TypeId) (bytes : Nat) (z : Value) (i : TypeInfo) (ht : P.underlying t = some (.slice e)) (hi : P.info? e = some i) (hz : i.zero = some z) (hsize : i.size = 1) (hby : i.bytes = bytes) (hzs : z.cells.size = 1) (hb0 : 0 < bytes)
    (base B n m : Nat) (xs : List Value) (us : Array Value) (v : Value) (ty : TypeId) (w0 wr : World) (hgd : o.guard = none)
    (ho : o.op = .call { callee := .builtin .append, args := #[s, x], argTypes := #[t, t] })
    (hs : a.eval s = v) (hx : a.eval x = .slice (some ⟨wr.heap.size, 0, none⟩) m m) (hm : us.size = m)
    (hown : wr.ownsRow base e 1 v n xs) (hbel : Below B w0 wr) (hB : B ≤ base) (hbase : base ≤ wr.heap.size)
    (h1 : ∀ u ∈ us.toList, u.oneCell' = true) (hn : (n + m) * bytes ≤ 140737488355328)
    (h : ∀ v' w', w'.ownsRow base e 1 v' (n + m) (xs ++ us.toList) → Below B w0 w' → (wr.alloc (.cells us ty)).grownBy w' v.ownBlock → K (a.put o.dst v') w') :
    if Region.wanted o (yielded ops a.tmps) = true then Oper.wp P o a (wr.alloc (.cells us ty)) K Q else E := by
  have hw : Region.wanted o (yielded ops a.tmps) = true := by simp [Region.wanted, hgd]
  rw [if_pos hw]
  subst hm
  have hwb := hbel.size
  refine wp_append_own _ s x t ho base e i z 1 bytes ht hi hz hsize hby hzs (by decide) v n xs hs (hown.alloc _) ⟨wr.heap.size, 0, none⟩ us.size us.size us.toList hx (by simp) ?_ h1 ?_ hn ?_ ?_
  · intro j y hj
    rw [add_plain, Nat.zero_add, cell_of_row _ _ _ us ty (0, 0) (heap_alloc_new wr _)]
    simpa using hj
  · have : n + us.size ≤ (n + us.size) * bytes := Nat.le_mul_of_pos_right _ hb0
    unfold maxLen; omega
  · simp; omega
  · intro v' w' o' g' _
    refine h v' w' o' ((hbel.alloc (by omega) _).grown g' (by simp; omega) ?_) g'
    intro k hk
    exact Nat.le_trans hB (hown.lt k hk).1
theorem pushL {P : Program} {ops : Array Oper} {rest : List Oper} {o : Oper} {a : Act} {Q : Exit → Act → World → Prop} (s x : Operand) (t : TypeId)
    (e : TypeId) (bytes : Nat) (z : Value) (i : TypeInfo) (ht : P.underlying t = some (.slice e)) (hi : P.info? e = some i) (hz : i.zero = some z) (hsize : i.size = 1) (hby : i.bytes = bytes) (hzs : z.cells.size = 1) (hb0 : 0 < bytes)
    (base B n m : Nat) (xs : List Value) (us : Array Value) (v : Value) (ty : TypeId) (w0 wr : World) (hgd : o.guard = none)
    (ho : o.op = .call { callee := .builtin .append, args := #[s, x], argTypes := #[t, t] })
    (hs : a.eval s = v) (hx : a.eval x = .slice (some ⟨wr.heap.size, 0, none⟩) m m) (hm : us.size = m)
    (hown : wr.ownsRow base e 1 v n xs) (hbel : Below B w0 wr) (hB : B ≤ base) (hbase : base ≤ wr.heap.size)
    (h1 : ∀ u ∈ us.toList, u.oneCell' = true) (hn : (n + m) * bytes ≤ 140737488355328)
    (h : ∀ v' w', w'.ownsRow base e 1 v' (n + m) (xs ++ us.toList) → Below B w0 w' → (wr.alloc (.cells us ty)).grownBy w' v.ownBlock → wpList P ops Q rest (a.put o.dst v') w') :
    wpList P ops Q (o :: rest) a (wr.alloc (.cells us ty)) :=
  wpList_plain hgd fun K hK => by
    have := step_append_new (P := P) (ops := ops) (K := K) (Q := Q) (E := True) s x t e bytes z i ht hi hz hsize hby hzs hb0 base B n m xs us v ty w0 wr hgd ho hs hx hm hown hbel hB hbase h1 hn (fun v' w' a1 a2 a3 => hK _ _ (h v' w' a1 a2 a3))
    rw [if_pos (by simp [Region.wanted, hgd])] at this
    exact this
theorem infoI : (Tryd.prog.info? 3).map (fun i => (i.zero, i.size, i.bytes)) = some (some (.int .i64 0), 1, 8) := by kernel_rfl
end Go.Proofs.YtbnlchbklpgejaaDoor.W
