/-
  Set-ups in memory: the lists that one has, wherever they lie; one in a block of its own.
-/
import Derived.Test.YtcdajfiohhbdgaaSpecSpec
import Derived.Test.YtcdajfiohhbdgaaBytes
import Derived.Test.YtcdajfiohhbdgaaMono
import Derived.Deep.MidRow
namespace Go.Proofs.Ytcdajfiohhbdgaa.W
set_option linter.unusedVariables false
set_option linter.unusedSimpArgs false
open Go.ChangeShapes Go.WideShapes Go.ChangeAt Go.RowKit

def nodeV (v : V) : List Value := [.int .i64 v.cpu, .int .i64 v.mem, .int .i64 v.gpu, .int .i64 v.lic]
def nodesV (l : List V) : List Value := l.flatMap nodeV
def partV (p : Sl) : Value := .slice p.a p.l.length p.cap
def partsV (l : List Sl) : List Value := l.map partV
def queueV (q : QR) : List Value := [.int .i64 q.part, .slice q.users.a q.users.l.length q.users.cap, .int .i64 q.mj, .int .i64 q.mr, .int .i64 q.mu, .int .i64 q.qos]
def queuesV (l : List QR) : List Value := l.flatMap queueV
theorem flat_atSp {α : Type} {f : α → List Value} {n : Nat} (hf : ∀ x, (f x).length = n) : ∀ (l : List α) (k j : Nat) (h : k < l.length), j < n → (l.flatMap f)[k * n + j]? = (f l[k])[j]?
  | x :: l, 0, j, _, hj => by simp only [Nat.zero_mul, Nat.zero_add, List.flatMap_cons, List.getElem_cons_zero]; rw [List.getElem?_append_left (by rw [hf]; exact hj)]
  | x :: l, k + 1, j, h, hj => by
    have e : (k + 1) * n + j = n + (k * n + j) := by rw [Nat.add_mul]; omega
    rw [e, List.flatMap_cons, List.getElem?_append_right (by rw [hf]; omega), hf, show n + (k * n + j) - n = k * n + j by omega]
    simp only [List.getElem_cons_succ]
    exact flat_atSp hf l k j (by simpa using h) hj
theorem flat_lenSp {α : Type} {f : α → List Value} {n : Nat} (hf : ∀ x, (f x).length = n) (l : List α) : (l.flatMap f).length = l.length * n := by
  induction l with
  | nil => simp
  | cons x l ih => rw [List.flatMap_cons, List.length_append, ih, hf, List.length_cons, Nat.add_mul]; omega

/-- a slice of integers, where it lies -/
def SlAt (w : World) (p : Sl) : Prop := RowAt w p.a (vals p.l)
/-- a set-up's lists, where they lie -/
structure Rows (w : World) (s : S) : Prop where
  nodes : RowAt w s.na (nodesV s.nodes)
  parts : RowAt w s.pa (partsV s.parts)
  part : ∀ p ∈ s.parts, SlAt w p
  queues : RowAt w s.qa (queuesV s.queues)
  users : ∀ q ∈ s.queues, SlAt w q.users
theorem SlAt.later {w w' : World} {p : Sl} (h : SlAt w p) (hb : Below w.heap.size w w') : SlAt w' p := RowAt.later h hb
theorem Rows.later {w w' : World} {s : S} (h : Rows w s) (hb : Below w.heap.size w w') : Rows w' s :=
  ⟨h.nodes.later hb, h.parts.later hb, fun p hp => (h.part p hp).later hb, h.queues.later hb, fun q hq => (h.users q hq).later hb⟩
/-- a node's cells -/
theorem Rows.node {w : World} {s : S} (h : Rows w s) {k : Nat} (hk : k < s.nodes.length) : ∃ b off, s.na = some ⟨b, off, none⟩ ∧ b < w.heap.size ∧
    w.cell? ⟨b, off + k * 4, none⟩ = some (.int .i64 s.nodes[k].cpu) ∧ w.cell? ⟨b, off + k * 4 + 1, none⟩ = some (.int .i64 s.nodes[k].mem) ∧ w.cell? ⟨b, off + k * 4 + 2, none⟩ = some (.int .i64 s.nodes[k].gpu) ∧ w.cell? ⟨b, off + k * 4 + 3, none⟩ = some (.int .i64 s.nodes[k].lic) := by
  obtain ⟨b, off, e, hl, hc⟩ := h.nodes.row (by rw [nodesV, flat_lenSp (n := 4) (fun _ => rfl)]; omega)
  have at' : ∀ j, j < 4 → ∀ u, (nodeV s.nodes[k])[j]? = some u → w.cell? ⟨b, off + (k * 4 + j), none⟩ = some u := fun j hj u hu => hc _ u (by rw [nodesV, flat_atSp (n := 4) (fun _ => rfl) _ _ _ hk hj]; exact hu)
  exact ⟨b, off, e, hl, at' 0 (by omega) _ rfl, by rw [Nat.add_assoc]; exact at' 1 (by omega) _ rfl, by rw [Nat.add_assoc]; exact at' 2 (by omega) _ rfl, by rw [Nat.add_assoc]; exact at' 3 (by omega) _ rfl⟩
theorem Rows.part_ {w : World} {s : S} (h : Rows w s) {k : Nat} (hk : k < s.parts.length) : ∃ b off, s.pa = some ⟨b, off, none⟩ ∧ b < w.heap.size ∧ w.cell? ⟨b, off + k, none⟩ = some (.slice s.parts[k].a s.parts[k].l.length s.parts[k].cap) := by
  obtain ⟨b, off, e, hl, hc⟩ := h.parts.row (by simp [partsV]; omega)
  exact ⟨b, off, e, hl, hc k _ (by simp [partsV, partV, hk])⟩
theorem Rows.queue {w : World} {s : S} (h : Rows w s) {k : Nat} (hk : k < s.queues.length) : ∃ b off, s.qa = some ⟨b, off, none⟩ ∧ b < w.heap.size ∧
    w.cell? ⟨b, off + k * 6, none⟩ = some (.int .i64 s.queues[k].part) ∧ w.cell? ⟨b, off + k * 6 + 1, none⟩ = some (.slice s.queues[k].users.a s.queues[k].users.l.length s.queues[k].users.cap) ∧ w.cell? ⟨b, off + k * 6 + 2, none⟩ = some (.int .i64 s.queues[k].mj) ∧
    w.cell? ⟨b, off + k * 6 + 3, none⟩ = some (.int .i64 s.queues[k].mr) ∧ w.cell? ⟨b, off + k * 6 + 4, none⟩ = some (.int .i64 s.queues[k].mu) ∧ w.cell? ⟨b, off + k * 6 + 5, none⟩ = some (.int .i64 s.queues[k].qos) := by
  obtain ⟨b, off, e, hl, hc⟩ := h.queues.row (by rw [queuesV, flat_lenSp (n := 6) (fun _ => rfl)]; omega)
  have at' : ∀ j, j < 6 → ∀ u, (queueV s.queues[k])[j]? = some u → w.cell? ⟨b, off + (k * 6 + j), none⟩ = some u := fun j hj u hu => hc _ u (by rw [queuesV, flat_atSp (n := 6) (fun _ => rfl) _ _ _ hk hj]; exact hu)
  exact ⟨b, off, e, hl, at' 0 (by omega) _ rfl, by rw [Nat.add_assoc]; exact at' 1 (by omega) _ rfl, by rw [Nat.add_assoc]; exact at' 2 (by omega) _ rfl, by rw [Nat.add_assoc]; exact at' 3 (by omega) _ rfl, by rw [Nat.add_assoc]; exact at' 4 (by omega) _ rfl, by rw [Nat.add_assoc]; exact at' 5 (by omega) _ rfl⟩
/-- a slice's cell -/
theorem SlAt.at_ {w : World} {p : Sl} (h : SlAt w p) {k : Nat} (hk : k < p.l.length) : ∃ b off x, x = p.l.getD k 0 ∧ p.a = some ⟨b, off, none⟩ ∧ b < w.heap.size ∧ w.cell? ⟨b, off + k, none⟩ = some (.int .i64 x) := by
  obtain ⟨b, off, e, hl, hc⟩ := RowAt.row h (by rw [vals_len]; omega)
  exact ⟨b, off, _, rfl, e, hl, by rw [hc k _ (vals_at _ _ hk)]; simp [hk]⟩

/-- a set-up in a block, from its first place on -/
structure Box (w : World) (g : Nat) (s : S) : Prop where
  c0 : w.cell? ⟨g, 0, none⟩ = some (.slice s.na s.nodes.length s.nc)
  c1 : w.cell? ⟨g, 1, none⟩ = some (.slice s.pa s.parts.length s.pc)
  c2 : w.cell? ⟨g, 2, none⟩ = some (.slice s.qa s.queues.length s.qc)
  c3 : w.cell? ⟨g, 3, none⟩ = some (.int .i64 s.users)
  c4 : w.cell? ⟨g, 4, none⟩ = some (.int .i64 s.age)
  c5 : w.cell? ⟨g, 5, none⟩ = some (.int .i64 s.size)
  c6 : w.cell? ⟨g, 6, none⟩ = some (.int .i64 s.qos)
  c7 : w.cell? ⟨g, 7, none⟩ = some (.int .i64 s.share)
  c8 : w.cell? ⟨g, 8, none⟩ = some (.int .i64 s.decay)
  c9 : w.cell? ⟨g, 9, none⟩ = some (.int .i64 s.mode)
  c10 : w.cell? ⟨g, 10, none⟩ = some (.int .i64 s.jobs)
  c11 : w.cell? ⟨g, 11, none⟩ = some (.int .i64 s.ids)
  c12 : w.cell? ⟨g, 12, none⟩ = some (.int .i64 s.versions)
  c13 : w.cell? ⟨g, 13, none⟩ = some (.int .i64 s.linger)
  c14 : w.cell? ⟨g, 14, none⟩ = some (.int .i64 s.keep)
  c15 : w.cell? ⟨g, 15, none⟩ = some (.int .i64 s.inn)
  c16 : w.cell? ⟨g, 16, none⟩ = some (.int .i64 s.out)
  c17 : w.cell? ⟨g, 17, none⟩ = some (.int .i64 s.cache)
theorem Box.lt {w : World} {g : Nat} {s : S} (h : Box w g s) : g < w.heap.size := World.block_lt_of_cell? _ _ h.c0
theorem Box.later {w w' : World} {g : Nat} {s : S} (h : Box w g s) (hb : Below w.heap.size w w') : Box w' g s :=
  ⟨carry hb h.c0, carry hb h.c1, carry hb h.c2, carry hb h.c3, carry hb h.c4, carry hb h.c5, carry hb h.c6, carry hb h.c7, carry hb h.c8, carry hb h.c9, carry hb h.c10, carry hb h.c11, carry hb h.c12, carry hb h.c13, carry hb h.c14, carry hb h.c15, carry hb h.c16, carry hb h.c17⟩
theorem Box.new (w : World) (s : S) (t : TypeId) : Box (w.alloc (.cells #[.slice s.na s.nodes.length s.nc, .slice s.pa s.parts.length s.pc, .slice s.qa s.queues.length s.qc, .int .i64 s.users, .int .i64 s.age, .int .i64 s.size, .int .i64 s.qos, .int .i64 s.share, .int .i64 s.decay, .int .i64 s.mode, .int .i64 s.jobs, .int .i64 s.ids, .int .i64 s.versions, .int .i64 s.linger, .int .i64 s.keep, .int .i64 s.inn, .int .i64 s.out, .int .i64 s.cache] t)) w.heap.size s :=
  ⟨by simp [go_sem], by simp [go_sem], by simp [go_sem], by simp [go_sem], by simp [go_sem], by simp [go_sem], by simp [go_sem], by simp [go_sem], by simp [go_sem], by simp [go_sem], by simp [go_sem], by simp [go_sem], by simp [go_sem], by simp [go_sem], by simp [go_sem], by simp [go_sem], by simp [go_sem], by simp [go_sem]⟩
theorem Box.range {w : World} {g : Nat} {s : S} (h : Box w g s) : w.rangeAt g 0 [.slice s.na s.nodes.length s.nc, .slice s.pa s.parts.length s.pc, .slice s.qa s.queues.length s.qc, .int .i64 s.users, .int .i64 s.age, .int .i64 s.size, .int .i64 s.qos, .int .i64 s.share, .int .i64 s.decay, .int .i64 s.mode, .int .i64 s.jobs, .int .i64 s.ids, .int .i64 s.versions, .int .i64 s.linger, .int .i64 s.keep, .int .i64 s.inn, .int .i64 s.out, .int .i64 s.cache] := fun j v hv => by
  rw [Nat.zero_add]
  match j, hv with
  | 0, hv => cases hv; exact h.c0
  | 1, hv => cases hv; exact h.c1
  | 2, hv => cases hv; exact h.c2
  | 3, hv => cases hv; exact h.c3
  | 4, hv => cases hv; exact h.c4
  | 5, hv => cases hv; exact h.c5
  | 6, hv => cases hv; exact h.c6
  | 7, hv => cases hv; exact h.c7
  | 8, hv => cases hv; exact h.c8
  | 9, hv => cases hv; exact h.c9
  | 10, hv => cases hv; exact h.c10
  | 11, hv => cases hv; exact h.c11
  | 12, hv => cases hv; exact h.c12
  | 13, hv => cases hv; exact h.c13
  | 14, hv => cases hv; exact h.c14
  | 15, hv => cases hv; exact h.c15
  | 16, hv => cases hv; exact h.c16
  | 17, hv => cases hv; exact h.c17
  | n + 18, hv => simp at hv
/-- a set-up is loaded whole -/
theorem wp_load_box {o : Oper} {a : Act} {w : World} {K : Act → World → Prop} {Q : Exit → Act → World → Prop} {g : Nat} {s : S} (x : Operand) (ho : o.op = .load 28 x)
    (hx : a.eval x = .pointer (some ⟨g, 0, none⟩)) (hb : Box w g s) (h : K (a.put o.dst (.agg #[.slice s.na s.nodes.length s.nc, .slice s.pa s.parts.length s.pc, .slice s.qa s.queues.length s.qc, .int .i64 s.users, .int .i64 s.age, .int .i64 s.size, .int .i64 s.qos, .int .i64 s.share, .int .i64 s.decay, .int .i64 s.mode, .int .i64 s.jobs, .int .i64 s.ids, .int .i64 s.versions, .int .i64 s.linger, .int .i64 s.keep, .int .i64 s.inn, .int .i64 s.out, .int .i64 s.cache])) w) : o.wp Try.prog a w K Q :=
  wp_load_mid 28 x ho g 0 hx [.slice s.na s.nodes.length s.nc, .slice s.pa s.parts.length s.pc, .slice s.qa s.queues.length s.qc, .int .i64 s.users, .int .i64 s.age, .int .i64 s.size, .int .i64 s.qos, .int .i64 s.share, .int .i64 s.decay, .int .i64 s.mode, .int .i64 s.jobs, .int .i64 s.ids, .int .i64 s.versions, .int .i64 s.linger, .int .i64 s.keep, .int .i64 s.inn, .int .i64 s.out, .int .i64 s.cache] _ hb.range Try.underlying28 rfl (by kernel_rfl) h
theorem wpList_load_box {ops : Array Oper} {rest : List Oper} {o : Oper} {a : Act} {w : World} {Q : Exit → Act → World → Prop} {g : Nat} {s : S} (hgd : o.guard = none) (x : Operand) (ho : o.op = .load 28 x)
    (hx : a.eval x = .pointer (some ⟨g, 0, none⟩)) (hb : Box w g s) (h : wpList Try.prog ops Q rest (a.put o.dst (.agg #[.slice s.na s.nodes.length s.nc, .slice s.pa s.parts.length s.pc, .slice s.qa s.queues.length s.qc, .int .i64 s.users, .int .i64 s.age, .int .i64 s.size, .int .i64 s.qos, .int .i64 s.share, .int .i64 s.decay, .int .i64 s.mode, .int .i64 s.jobs, .int .i64 s.ids, .int .i64 s.versions, .int .i64 s.linger, .int .i64 s.keep, .int .i64 s.inn, .int .i64 s.out, .int .i64 s.cache])) w) : wpList Try.prog ops Q (o :: rest) a w :=
  wpList_load_mid hgd 28 x ho g 0 hx [.slice s.na s.nodes.length s.nc, .slice s.pa s.parts.length s.pc, .slice s.qa s.queues.length s.qc, .int .i64 s.users, .int .i64 s.age, .int .i64 s.size, .int .i64 s.qos, .int .i64 s.share, .int .i64 s.decay, .int .i64 s.mode, .int .i64 s.jobs, .int .i64 s.ids, .int .i64 s.versions, .int .i64 s.linger, .int .i64 s.keep, .int .i64 s.inn, .int .i64 s.out, .int .i64 s.cache] _ hb.range Try.underlying28 rfl (by kernel_rfl) h
/-- the same, where it is wanted as it turned out -/
theorem wpList_load_box_g {ops : Array Oper} {rest : List Oper} {o : Oper} {a : Act} {w : World} {Q : Exit → Act → World → Prop} {g : Nat} {s : S} (x : Operand) (ho : o.op = .load 28 x)
    (hx : a.eval x = .pointer (some ⟨g, 0, none⟩)) (hb : Box w g s) (hw : Region.wanted o (yielded ops a.tmps) = true) (h : wpList Try.prog ops Q rest (a.put o.dst (.agg #[.slice s.na s.nodes.length s.nc, .slice s.pa s.parts.length s.pc, .slice s.qa s.queues.length s.qc, .int .i64 s.users, .int .i64 s.age, .int .i64 s.size, .int .i64 s.qos, .int .i64 s.share, .int .i64 s.decay, .int .i64 s.mode, .int .i64 s.jobs, .int .i64 s.ids, .int .i64 s.versions, .int .i64 s.linger, .int .i64 s.keep, .int .i64 s.inn, .int .i64 s.out, .int .i64 s.cache])) w) : wpList Try.prog ops Q (o :: rest) a w :=
  wpList_step fun K hK => by
    simp only [hw, if_true]
    exact wp_load_box x ho hx hb (hK _ _ h)
end Go.Proofs.Ytcdajfiohhbdgaa.W
