/-
  Several texts in one: TextBuf, TextText, TextAll.
-/
import Derived.Test.YtgopjpnlpcmldaaGreatDoorJ31
import Derived.Test.YtgopjpnlpcmldaaGreatDoorShelf
import Derived.Lib.OthersKept
import Derived.Test.YtgopjpnlpcmldaaGreatDoorJ35
import Derived.Test.YtgopjpnlpcmldaaGreatDoorSpecRight
import Derived.Test.YtgopjpnlpcmldaaGreatDoorSpecAwake
import Derived.Laws.EntriesVeiled
import Derived.Test.YtgopjpnlpcmldaaGreatDoorJ37

/-
  A strings.Builder of the call's own, written byte by byte: (*strings.Builder).copyCheck and WriteByte in this seat, where the message behind a copied builder is not followed.
-/
namespace Go.Proofs.YtgopjpnlpcmldaaGreatDoor.W
set_option linter.unusedVariables false
set_option linter.unusedSimpArgs false
open Go.ChangeShapes Go.WideShapes Go.ChangeAt Go.RowKit

theorem szB : ∃ j, Tryz.prog.info? 49 = some j ∧ j.size = 2 := by
  have h : (Tryz.prog.info? 49).map (·.size) = some 2 := by kernel_rfl
  obtain ⟨j, h1, h2⟩ := Option.map_eq_some_iff.1 h
  exact ⟨j, h1, h2⟩
theorem liesB : liesAt Tryz.prog Tryz.prog.depth 49 (2 / Tryz.prog.cellsOf 49) 0 49 1 = true := by kernel_rfl

set_option maxHeartbeats 2000000 in
set_option maxRecDepth 100000 in
theorem check_used (b : Nat) (w : World) (h0 : w.cell? ⟨b, 0, none⟩ = some (.pointer (some ⟨b, 0, none⟩))) :
    Calls Tryz.prog 49 #[.pointer (some ⟨b, 0, none⟩)] w fun e w' => e = .returned (.tuple #[]) ∧ w' = w := by
  obtain ⟨j, hj, _⟩ := szB
  have hne := Lib.run_neq_ptr_same (P := Tryz.prog) w ⟨b, 0, none⟩ Tryz.underlying46 hj
  go_enter Tryz.func49, Tryz.ntmps49
  go_wp2
  go_end0
  exact ⟨rfl, rfl⟩

set_option maxHeartbeats 2000000 in
set_option maxRecDepth 100000 in
theorem check_fresh (b : Nat) (w : World) (h0 : w.cell? ⟨b, 0, none⟩ = some (.pointer none)) (hsh : w.shape? b = some (49, 2)) (hfz : w.frozen? ⟨b, 0, none⟩ = false) :
    Calls Tryz.prog 49 #[.pointer (some ⟨b, 0, none⟩)] w fun e w' => e = .returned (.tuple #[]) ∧ w' = w.setCell ⟨b, 0, none⟩ (.pointer (some ⟨b, 0, none⟩)) := by
  obtain ⟨j, hj, hjs⟩ := szB
  have k1 := Lib.run_to_unsafe (P := Tryz.prog) w ⟨b, 0, none⟩ Tryz.underlying46 Tryz.underlying97 hj (by rw [hjs]; decide) hsh (Nat.zero_lt_succ 1)
  have k2 := Lib.run_from_unsafe (P := Tryz.prog) w ⟨b, 0, none⟩ Tryz.underlying97 Tryz.underlying46 hj hsh liesB
  go_enter Tryz.func49, Tryz.ntmps49
  go_wp2
  rw [run_callFunc_extern Tryz.func83 (by kernel_rfl) (by kernel_rfl) (by kernel_rfl) (e := Extern.AbiNoEscape.same) (by kernel_rfl)]
  rw [Lib.run_noEscape]
  simp only [Result.andThen]
  rw [Oper.upon_value]
  go_wp2
  go_end0
  exact ⟨rfl, rfl⟩

/-- what every writing method calls first: behind it the builder's address is its own, its bytes are as they were -/
theorem check (B b : Nat) (xs : List Value) (w : World) (h : Lib.IsBuilderF 49 5 B b xs w) :
    Calls Tryz.prog 49 #[.pointer (some ⟨b, 0, none⟩)] w fun e w' => e = .returned (.tuple #[]) ∧ Lib.BuilderAtF 49 5 B b (.pointer (some ⟨b, 0, none⟩)) xs w' ∧ Below B w w' ∧ Lib.OthersKept 5 (some b) w w' := by
  rcases h with h | h
  · refine (check_fresh b w h.cell0 h.shape h.frozen0).mono ?_
    rintro e w' ⟨rfl, rfl⟩
    exact ⟨rfl, h.used _, (Below.refl B w).setCell (p := ⟨b, 0, none⟩) h.1 _, (Lib.OthersKept.refl _ _ _).setCell ⟨b, 0, none⟩ rfl _⟩
  · refine (check_used b w h.cell0).mono ?_
    rintro e w' ⟨rfl, rfl⟩
    exact ⟨rfl, h, Below.refl B _, Lib.OthersKept.refl _ _ _⟩

set_option maxHeartbeats 4000000 in
set_option maxRecDepth 100000 in
theorem writeString (B b : Nat) (l s : List UInt8) (w : World) (h : Lib.IsBuilderF 49 5 B b (Lib.byteCells l) w) (hlen : l.length + s.length ≤ 1048576) (hBw : B ≤ w.heap.size) :
    Calls Tryz.prog 16 #[.pointer (some ⟨b, 0, none⟩), .string (bs s)] w fun e w' => e = .returned (.tuple #[.int .i64 s.length, .nilIface]) ∧ Lib.IsBuilderF 49 5 B b (Lib.byteCells (l ++ s)) w' ∧ Below B w w' ∧ Lib.OthersKept 5 (some b) w w' := by
  have hinfo : (Tryz.prog.info? 5).map (fun i => (i.zero, i.size, i.bytes)) = some (some (.int .u8 0), 1, 1) := by kernel_rfl
  obtain ⟨i0, hi, hz0, hz1, hz2⟩ := info_parts hinfo
  have HC := Lib.hid (check B b (Lib.byteCells l) w h)
  have hsz : (bs s).size = s.length := bs_size s
  have hll : (Lib.byteCells l).length = l.length := Lib.byteCells_length l
  clear h
  go_enter Tryz.func16, Tryz.ntmps16
  go_wp2_with fail
  refine HC.out.mono ?_; rintro e w1 ⟨rfl, ⟨hB, v, hbk, hown, hne⟩, hb1, hk1⟩
  have hz := hb1.size
  have c1 : w1.cell? ⟨b, 1, none⟩ = some v := by rw [Lib.cell_of_heap hbk]; rfl
  have hlt : b < w1.heap.size := by
    rcases Nat.lt_or_ge b w1.heap.size with h' | h'
    · exact h'
    · simp [Array.getElem?_eq_none h'] at hbk
  go_wp2_with (at_builtin; refine Lib.wpList_append_own_stringF _ rfl _ _ 47 9 rfl B 5 i0 Tryz.underlying47 Tryz.underlying9 hi hz0 hz1 hz2 _ _ _ rfl hown (bs s) rfl (by rw [hsz, hll]; unfold maxLen; omega) (by rw [hsz, hll]; omega) (by omega) ?_)
  intro v' w2 hown' hgrow hnil
  have hb2 : w2.heap[b]? = some (.cells #[.pointer (some ⟨b, 0, none⟩), v] 49 (0, 0)) := (hgrow.block b hlt (fun e => hne e.symm)).trans hbk
  have f1 : w2.frozen? ⟨b, 1, none⟩ = false := Lib.frozen_of_heap hb2 1
  have d1 : w2.cell? ⟨b, 1, none⟩ = some v := by rw [Lib.cell_of_heap hb2]; rfl
  have hown2 : w2.ownsRowF B 5 1 v' (Lib.byteCells (l ++ s)).length (Lib.byteCells (l ++ s)) := by
    rw [Lib.byteCells_length, List.length_append, Lib.byteCells_append]
    exact hown'
  have hv : ∃ a n c, v' = .slice a n c := by
    rcases hown'.2 with ⟨h, _⟩ | ⟨g, cap, cur, fz, hv, _⟩
    · exact ⟨_, _, _, h⟩
    · exact ⟨_, _, _, hv⟩
  obtain ⟨a2, n2, c2, rfl⟩ := hv
  have HO2 := Lib.hid hown2
  clear hown' hown2
  go_wp2
  go_ret2
  refine ⟨rfl, Or.inr (Lib.BuilderAtF.put hB hb2 HO2.out (by decide)), ?_⟩
  refine ⟨(hb1.grown hgrow (by omega) (fun k hk => (hown.lt k hk).1)).setCell (p := ⟨b, 1, none⟩) hB _, (hk1.grown hgrow fun k hk => ?_).setCell ⟨b, 1, none⟩ rfl _⟩
  rcases hown.2 with ⟨rfl, _⟩ | ⟨k', cap, cur, fz, rfl, _, hgg, _⟩
  · simp [Value.ownBlock] at hk
  · have : k' = k := by simpa [Value.ownBlock] using hk
    subst this
    exact ⟨_, _, hgg⟩
end Go.Proofs.YtgopjpnlpcmldaaGreatDoor.W


/-
  Contract of spec.Text: a right set-up's text, written line by line; of others there is none.
-/
namespace Go.Proofs.YtgopjpnlpcmldaaGreatDoor.W
set_option linter.unusedVariables false
set_option linter.unusedSimpArgs false
open Go.ChangeShapes Go.WideShapes Go.ChangeAt Go.RowKit

/-! the lines that are written when so many kinds have been, and of one more so many -/
def linesTo (t : T) (k : Nat) : List (List UInt8) := (List.range k).flatMap fun j => (sayS t j).map (lineS j)
theorem linesTo_zero (t : T) : linesTo t 0 = [] := rfl
theorem linesTo_succ (t : T) (k : Nat) : linesTo t (k + 1) = linesTo t k ++ (sayS t k).map (lineS k) := by
  unfold linesTo
  rw [List.range_succ, List.flatMap_append, List.flatMap_cons, List.flatMap_nil, List.append_nil]
theorem linesTo_all (t : T) : linesTo t 15 = linesS t := rfl
theorem linesTo_pre (t : T) {k : Nat} : ∀ {m : Nat}, k ≤ m → linesTo t k <+: linesTo t m
  | 0, h => by have : k = 0 := by omega
               subst this; exact List.prefix_refl _
  | m + 1, h => by
    by_cases e : k = m + 1
    · subst e; exact List.prefix_refl _
    · rw [linesTo_succ]
      exact (linesTo_pre t (m := m) (by omega)).trans (List.prefix_append _ _)
def partTo (t : T) (k i : Nat) : List (List UInt8) := linesTo t k ++ ((sayS t k).take i).map (lineS k)
theorem partTo_zero (t : T) (k : Nat) : partTo t k 0 = linesTo t k := by simp [partTo]
theorem partTo_all (t : T) (k : Nat) : partTo t k (sayS t k).length = linesTo t (k + 1) := by simp [partTo, linesTo_succ]
theorem partTo_succ (t : T) (k i : Nat) (h : i < (sayS t k).length) : partTo t k (i + 1) = partTo t k i ++ [lineS k (sayS t k)[i]] := by
  unfold partTo
  rw [take_snoc _ i h, List.map_append, List.append_assoc]
  rfl
theorem partTo_pre (t : T) {k i : Nat} (hk : k < 15) : partTo t k i <+: linesS t := by
  refine List.IsPrefix.trans ?_ (linesTo_all t ▸ linesTo_pre t (show k + 1 ≤ 15 by omega))
  rw [linesTo_succ]
  exact List.prefix_append_right_inj _ |>.2 ((List.take_prefix _ _).map _)
theorem textOf_app : ∀ (a b : List (List UInt8)), textOf (a ++ b) = textOf a ++ textOf b
  | [], b => rfl
  | l :: r, b => by
    rw [List.cons_append, textOf, textOf, textOf_app r b]
    simp
theorem textOf_le {a b : List (List UInt8)} (h : a <+: b) : (textOf a).length ≤ (textOf b).length := by
  obtain ⟨r, rfl⟩ := h
  rw [textOf_len_app]
  omega
theorem partTo_text (t : T) (k i : Nat) (h : i < (sayS t k).length) : textOf (partTo t k (i + 1)) = textOf (partTo t k i) ++ (kindW k ++ [32] ++ (sayS t k)[i] ++ [10]) := by
  rw [partTo_succ t k i h, textOf_app]
  simp [textOf, lineS]
theorem textOf_ge : ∀ (a : List (List UInt8)), a.length ≤ (textOf a).length
  | [] => by simp [textOf]
  | l :: r => by
    have := textOf_ge r
    rw [textOf, List.length_append, List.length_cons, List.length_cons]
    omega
theorem say_len {t : T} (h : (textT t).length ≤ 2048) {k : Nat} (hk : k < 15) : (sayS t k).length ≤ 2048 := by
  have h1 := textOf_le (partTo_pre t (i := (sayS t k).length) hk)
  have h2 := textOf_ge (partTo t k (sayS t k).length)
  have h3 : (sayS t k).length ≤ (partTo t k (sayS t k).length).length := by
    unfold partTo
    simp
  unfold textT at h
  omega
theorem text_ne {t : T} : textT t ≠ [] := by
  intro h
  have h2 : textT t = textOf (linesTo t 14) ++ textOf ((sayS t 14).map (lineS 14)) := by
    unfold textT
    rw [← linesTo_all, linesTo_succ, textOf_app]
  rw [h2] at h
  have := (List.append_eq_nil_iff.1 h).2
  simp [sayS, textOf] at this
theorem BuilderAtF_on {T e : TypeId} {B b : Nat} {p : Value} {xs : List Value} {w w' : World} (h : Lib.BuilderAtF T e B b p xs w) (hb : Below w.heap.size w w') : Lib.BuilderAtF T e B b p xs w' := by
  have hl := h.lt
  obtain ⟨h1, v, h2, h3, h4⟩ := h
  refine ⟨h1, v, (hb.block b hl).trans h2, h3.kept (row := none) ⟨hb.os, hb.tape, hb.output, hb.size, fun k hk _ => hb.block k hk⟩ ?_, h4⟩
  cases v.ownBlock with
  | none => exact .inl rfl
  | some k => exact .inr (by simp)
theorem builder_on {T e : TypeId} {B b : Nat} {xs : List Value} {w w' : World} (h : Lib.IsBuilderF T e B b xs w) (hb : Below w.heap.size w w') : Lib.IsBuilderF T e B b xs w' := by
  rcases h with h | h
  · exact .inl (BuilderAtF_on h hb)
  · exact .inr (BuilderAtF_on h hb)
theorem builder_row {T e : TypeId} {B b : Nat} {xs : List Value} {w : World} (h : Lib.IsBuilderF T e B b xs w) : ∃ cs, w.heap[b]? = some (.cells cs T (0, 0)) := by
  rcases h with ⟨_, v, h, _⟩ | ⟨_, v, h, _⟩
  · exact ⟨_, h⟩
  · exact ⟨_, h⟩
/-- a row of another type is as it was behind a write -/
theorem kept_row {T e t : TypeId} {B b k : Nat} {xs : List Value} {w w' : World} {cs : Array Value} (hB : Lib.IsBuilderF T e B b xs w) (hk : Lib.OthersKept e (some b) w w') (h : w.heap[k]? = some (.cells cs t (0, 0))) (h1 : t ≠ e) (h2 : t ≠ T) :
    w'.heap[k]? = some (.cells cs t (0, 0)) := by
  refine hk k _ h (fun x => ?_) (fun c fz x => by injection x with _ x _; exact h1 x)
  injection x with x
  subst x
  obtain ⟨cs', hr⟩ := builder_row hB
  rw [h] at hr
  injection hr with hr
  injection hr with _ hr
  exact h2 hr
/-- texts, where they lie -/
def TextsAt (w : World) (a : Option Addr) (L : List (List UInt8)) : Prop := ∀ i (h : i < L.length), ∃ g cur, a = some ⟨g, 0, none⟩ ∧ w.heap[g]? = some (.cells cur 9 (0, 0)) ∧ cur[i]? = some (.string (bs L[i]))
theorem texts_of {w : World} {B : Nat} {v : Value} {L : List (List UInt8)} (h : w.ownsRow B 9 1 v L.length (strs L)) : ∃ a cap, v = .slice a L.length cap ∧ TextsAt w a L := by
  obtain ⟨a, cap, h1, _, h3, h4⟩ := own_form h
  refine ⟨a, cap, h1, fun i hi => ?_⟩
  rcases h4 with ⟨_, h0, _⟩ | ⟨g, rfl, _, cur, hh⟩
  · omega
  · obtain ⟨b, off, e, hl, hc⟩ := h3.row (by rw [strs_len]; omega)
    injection e with e
    injection e with e1 e2
    subst e1 e2
    refine ⟨_, cur, rfl, hh, ?_⟩
    have := hc i (.string (bs L[i])) (by simp [strs, hi])
    rw [Nat.zero_add, cell_of_row _ _ _ _ _ _ hh] at this
    exact this
theorem TextsAt.kept {T e : TypeId} {B b : Nat} {xs : List Value} {w w' : World} {a : Option Addr} {L : List (List UInt8)} (h : TextsAt w a L) (hB : Lib.IsBuilderF T e B b xs w) (hk : Lib.OthersKept e (some b) w w') (h1 : 9 ≠ e) (h2 : 9 ≠ T) : TextsAt w' a L := fun i hi => by
  obtain ⟨g, cur, e1, e2, e3⟩ := h i hi
  exact ⟨g, cur, e1, kept_row hB hk e2 h1 h2, e3⟩
theorem TextsAt.on {w w' : World} {a : Option Addr} {L : List (List UInt8)} (h : TextsAt w a L) (hb : Below w.heap.size w w') : TextsAt w' a L := fun i hi => by
  obtain ⟨g, cur, e1, e2, e3⟩ := h i hi
  exact ⟨g, cur, e1, hcarry hb e2, e3⟩
def takeF : Nat → FuncId
  | 0 => 29
  | 1 => 31
  | 3 => 35
  | 4 => 37
  | 6 => 40
  | _ => 82
theorem takeV_eq (B : Nat → Nat) : ∀ k, k < 15 → takeV B k = .func (.func (takeF k)) #[] (sayC B k) := by
  intro k hk
  match k, hk with
  | 0, _ | 1, _ | 2, _ | 3, _ | 4, _ | 5, _ | 6, _ | 7, _ | 8, _ | 9, _ | 10, _ | 11, _ | 12, _ | 13, _ | 14, _ => rfl
/-- the three cells of a kind's row -/
theorem line_at {W : World} {n : Nat} {B : Nat → Nat} (h : W.heap[n]? = some (.cells (linesV B).toArray 55 (0, 0))) {k : Nat} (hk : k < 15) :
    W.rangeAt n (k * 3) [.string (bs (kindW k)), .func (.func (sayF k)) #[] (sayC B k), .func (.func (takeF k)) #[] (sayC B k)] := fun j v hv => by
  have hc : W.cell? ⟨n, k * 3 + j, none⟩ = (linesV B).toArray[k * 3 + j]? := cell_of_row W n _ _ _ _ h
  rw [hc, ← sayV_eq B k hk, ← takeV_eq B k hk] at *
  rw [List.getElem?_toArray]
  have hj : j < 3 := by
    rcases Nat.lt_or_ge j 3 with h | h
    · exact h
    · rw [List.getElem?_eq_none (by simpa using h)] at hv; cases hv
  rw [linesV, flat_at (n := 3) (fun _ => rfl) (List.range 15) k j (by simpa using hk) hj]
  rw [List.getElem_range]
  exact hv
theorem textS_no (s : S) (hs : SmallS s) (w : World) (HR : Rows w s) (h : rightS s = false) :
    Calls Tryz.prog 6 #[.agg #[.slice s.na s.nodes.length s.nc, .slice s.pa s.parts.length s.pc, .slice s.qa s.queues.length s.qc, .int .i64 s.users, .int .i64 s.age, .int .i64 s.size, .int .i64 s.qos, .int .i64 s.share, .int .i64 s.decay, .int .i64 s.mode, .int .i64 s.jobs, .int .i64 s.ids, .int .i64 s.versions, .int .i64 s.linger, .int .i64 s.keep, .int .i64 s.inn, .int .i64 s.out, .int .i64 s.cache]] w fun e w' => e = .returned (.tuple #[.string ⟨#[]⟩, .int .i64 2]) ∧ Below w.heap.size w w' := by
  have K := fun w' hr => sright s hs w' hr
  rw [h] at K
  have HK := Lib.hid K
  have HR' := Lib.hid HR
  have HX := Lib.hid (Box.new w s 28)
  clear K h HR hs
  go_enter Tryz.func6, Tryz.ntmps6
  go_wp2_with (with_reducible refine wpList_load_box (s := s) rfl (.tmp 1) rfl rfl HX.out ?_)
  have hb0 : Below w.heap.size w (w.alloc (.cells #[.slice s.na s.nodes.length s.nc, .slice s.pa s.parts.length s.pc, .slice s.qa s.queues.length s.qc, .int .i64 s.users, .int .i64 s.age, .int .i64 s.size, .int .i64 s.qos, .int .i64 s.share, .int .i64 s.decay, .int .i64 s.mode, .int .i64 s.jobs, .int .i64 s.ids, .int .i64 s.versions, .int .i64 s.linger, .int .i64 s.keep, .int .i64 s.inn, .int .i64 s.out, .int .i64 s.cache] 28)) := (Below.refl _ w).alloc (Nat.le_refl _) _
  refine (HK.out _ (HR'.out.later hb0)).mono ?_; rintro e w1 ⟨rfl, hb1⟩
  have hW : Below w.heap.size w w1 := hb0.trans (hb1.mono hb0.size)
  go_wp2
  go_ret2
  exact ⟨rfl, hW⟩
set_option maxRecDepth 100000 in
set_option maxHeartbeats 4000000 in
theorem textS_yes (s : S) (hs : SmallS s) (w : World) (hS : Std w) (HR : Rows w s) (hcap : ∀ q ∈ s.queues, q.users.a = none → q.users.cap = 0) (h : rightS s = true) :
    Calls Tryz.prog 6 #[.agg #[.slice s.na s.nodes.length s.nc, .slice s.pa s.parts.length s.pc, .slice s.qa s.queues.length s.qc, .int .i64 s.users, .int .i64 s.age, .int .i64 s.size, .int .i64 s.qos, .int .i64 s.share, .int .i64 s.decay, .int .i64 s.mode, .int .i64 s.jobs, .int .i64 s.ids, .int .i64 s.versions, .int .i64 s.linger, .int .i64 s.keep, .int .i64 s.inn, .int .i64 s.out, .int .i64 s.cache]] w fun e w' => e = .returned (.tuple #[.string (bs (textT (tOf s))), .int .i64 0]) ∧ Below w.heap.size w w' := by
  have K := fun w' hr => sright s hs w' hr
  rw [h] at K
  have HK := Lib.hid K
  have hR := right_is (of_decide_eq_true h)
  have HR' := Lib.hid HR
  have HT := Lib.hid hS
  have HSd := Lib.hid (fun g w' hS' HB HR' => said s g w' hS' HB HR' hR hcap)
  have HSin := Lib.hid say_in
  have HLa := Lib.hid (fun (n : Nat) (B : Nat → Nat) (W : World) h (k : Nat) hk => line_at (W := W) (n := n) (B := B) h (k := k) hk)
  have hlen := text_len (right_tok hR)
  have HW := Lib.hid writeString
  have HStr := Lib.hid Tryz.Builder_String_k
  have HX : Hid ((w.alloc (.cells #[.slice s.na s.nodes.length s.nc, .slice s.pa s.parts.length s.pc, .slice s.qa s.queues.length s.qc, .int .i64 s.users, .int .i64 s.age, .int .i64 s.size, .int .i64 s.qos, .int .i64 s.share, .int .i64 s.decay, .int .i64 s.mode, .int .i64 s.jobs, .int .i64 s.ids, .int .i64 s.versions, .int .i64 s.linger, .int .i64 s.keep, .int .i64 s.inn, .int .i64 s.out, .int .i64 s.cache] 28)).heap[w.heap.size]? = some (.cells #[.slice s.na s.nodes.length s.nc, .slice s.pa s.parts.length s.pc, .slice s.qa s.queues.length s.qc, .int .i64 s.users, .int .i64 s.age, .int .i64 s.size, .int .i64 s.qos, .int .i64 s.share, .int .i64 s.decay, .int .i64 s.mode, .int .i64 s.jobs, .int .i64 s.ids, .int .i64 s.versions, .int .i64 s.linger, .int .i64 s.keep, .int .i64 s.inn, .int .i64 s.out, .int .i64 s.cache] 28 (0, 0))) := Lib.hid (heap_alloc_new w _)
  obtain ⟨t, ht⟩ : ∃ t, t = tOf s := ⟨_, rfl⟩
  rw [← ht] at hlen HSd ⊢
  have HPL : Hid (∀ k i, k < 15 → (textOf (partTo t k i)).length ≤ 2048) := Lib.hid (fun k i hk => Nat.le_trans (textOf_le (partTo_pre t hk)) hlen)
  have HPT := Lib.hid (partTo_text t)
  have HPA := Lib.hid (partTo_all t)
  have HPZ := Lib.hid (partTo_zero t)
  clear K h HR hs hS hR hcap ht
  go_enter Tryz.func6, Tryz.ntmps6
  go_wp2_with (with_reducible refine wpList_load_box (s := s) rfl (.tmp 1) rfl rfl (box_row HX.out) ?_)
  have hb0 : Below w.heap.size w (w.alloc (.cells #[.slice s.na s.nodes.length s.nc, .slice s.pa s.parts.length s.pc, .slice s.qa s.queues.length s.qc, .int .i64 s.users, .int .i64 s.age, .int .i64 s.size, .int .i64 s.qos, .int .i64 s.share, .int .i64 s.decay, .int .i64 s.mode, .int .i64 s.jobs, .int .i64 s.ids, .int .i64 s.versions, .int .i64 s.linger, .int .i64 s.keep, .int .i64 s.inn, .int .i64 s.out, .int .i64 s.cache] 28)) := (Below.refl _ w).alloc (Nat.le_refl _) _
  generalize World.alloc w _ = w0 at HX hb0 ⊢
  refine (HK.out _ (HR'.out.later hb0)).mono ?_; rintro e w1 ⟨rfl, hb1⟩
  have HX1 := Lib.hid (hcarry hb1 HX.out)
  have hW1 : Below w.heap.size w w1 := hb0.trans (hb1.mono hb0.size)
  have hz1 := hW1.size
  clear HX hb0 hb1 HK
  go_wp2_with fail
  have HBu' : Lib.IsBuilderF 49 5 w.heap.size w1.heap.size (Lib.byteCells []) (w1.alloc (.cells #[.pointer none, .slice none 0 0] 49)) :=
    Lib.IsBuilderF.of (Or.inl ⟨hz1, .slice none 0 0, heap_alloc_new w1 _, World.ownsRow_nil _ _ _ _, by simp [Value.ownBlock]⟩)
  have hb2 : Below w1.heap.size w1 (w1.alloc (.cells #[.pointer none, .slice none 0 0] 49)) := (Below.refl _ _).alloc (Nat.le_refl _) _
  obtain ⟨bb, hbb⟩ : ∃ bb, bb = w1.heap.size := ⟨_, rfl⟩
  generalize w1.alloc (.cells #[.pointer none, .slice none 0 0] 49) = w2 at HBu' hb2 ⊢
  rw [← hbb] at HBu' ⊢
  have HBu := Lib.hid HBu'
  have HX2 := Lib.hid (hcarry hb2 HX1.out)
  have hW2 : Below w.heap.size w w2 := hW1.trans (hb2.mono hz1)
  have HBB := Lib.hid hbb
  clear hbb HBu' hb2 HX1
  refine (lines w2).mono ?_; rintro e w3 ⟨n, B, rfl, hn3, hrow3, hbk3, hb3⟩
  have HL3 := Lib.hid hrow3
  have HK3 := Lib.hid (fun k hk => (hbk3 k hk).2.2)
  have HBu3 : Hid (Lib.IsBuilderF 49 5 w.heap.size bb (Lib.byteCells (textOf (partTo t 0 0))) w3) := Lib.hid (builder_on HBu.out hb3)
  have HX3 := Lib.hid (hcarry hb3 HX2.out)
  have hW3 : Below w.heap.size w w3 := hW2.trans (hb3.mono hW2.size)
  clear hrow3 hbk3 hb3 HBu HX2 hW2 hn3
  go_wp2_with fail
  go_loopw [14] (fun v14 wr => ∃ k : Nat, k ≤ 15 ∧ v14 = .int .i64 (k : Int) ∧ Hid (Lib.IsBuilderF 49 5 w.heap.size bb (Lib.byteCells (textOf (partTo t k 0))) wr) ∧ Hid (wr.heap[n]? = some (.cells (linesV B).toArray 55 (0, 0))) ∧ Hid (∀ k, numKind k → wr.heap[B k]? = some (.cells #[.func (.func (placeF k)) #[] #[]] 79 (0, 0))) ∧ Hid (wr.heap[w.heap.size]? = some (.cells #[.slice s.na s.nodes.length s.nc, .slice s.pa s.parts.length s.pc, .slice s.qa s.queues.length s.qc, .int .i64 s.users, .int .i64 s.age, .int .i64 s.size, .int .i64 s.qos, .int .i64 s.share, .int .i64 s.decay, .int .i64 s.mode, .int .i64 s.jobs, .int .i64 s.ids, .int .i64 s.versions, .int .i64 s.linger, .int .i64 s.keep, .int .i64 s.inn, .int .i64 s.out, .int .i64 s.cache] 28 (0, 0))) ∧ Below w.heap.size w wr) (fun v14 _ => 15 - (intOf v14).toNat)
  case atStart => exact ⟨0, Nat.zero_le _, rfl, HBu3, HL3, HK3, HX3, hW3⟩
  case round =>
    obtain ⟨k, hk, rfl, HB, HL, HK, HX, hbw⟩ := hrel
    have hz := hbw.size
    clear HBu3 HL3 HK3 HX3
    by_cases hlt : k < 15
    · have HLK := HLa.out n B wr HL.out k hlt
      have l0 : wr.cell? ⟨n, k * 3, none⟩ = some (.string (bs (kindW k))) := HLK 0 _ rfl
      have l1 : wr.cell? ⟨n, k * 3 + 1, none⟩ = some (.func (.func (sayF k)) #[] (sayC B k)) := HLK 1 _ rfl
      have l2 : wr.cell? ⟨n, k * 3 + 2, none⟩ = some (.func (.func (takeF k)) #[] (sayC B k)) := HLK 2 _ rfl
      have HSDK := Lib.hid (fun g w' hS' HB' HR' hB' => HSd.out g w' hS' HB' HR' B hB' k hlt)
      have hin := fun args w => HSin.out args w k hlt
      have HPTk := Lib.hid (fun i hi => HPT.out k i hi)
      have HPAk := Lib.hid (HPA.out k)
      have HPZk := Lib.hid (HPZ.out (k + 1))
      have HPLk := Lib.hid (fun i => HPL.out k i hlt)
      have HLKH := Lib.hid HLK
      generalize sayF k = f at l1 HSDK hin HLKH
      generalize sayC B k = C at l1 l2 HSDK HLKH
      generalize takeF k = f2 at l2 HLKH
      generalize kindW k = kw at l0 HPTk HLKH
      have hLl := say_len hlen hlt
      obtain ⟨L, hL⟩ : ∃ L, L = sayS t k := ⟨_, rfl⟩
      have HPT2 : Hid (∀ i (hi : i < L.length), textOf (partTo t k (i + 1)) = textOf (partTo t k i) ++ (kw ++ [32] ++ L[i] ++ [10])) := Lib.hid (by subst hL; exact HPTk.out)
      rw [← hL] at HSDK HPAk hLl
      clear HPTk hL HLK
      go_wp2_with fail
      obtain ⟨b6, hb6⟩ : ∃ b6, b6 = wr.heap.size := ⟨_, rfl⟩
      have HKr4 : Hid ((wr.alloc (.cells #[.string (bs kw), .func (.func f) #[] C, .func (.func f2) #[] C] 55)).heap[wr.heap.size]? = some (.cells #[.string (bs kw), .func (.func f) #[] C, .func (.func f2) #[] C] 55 (0, 0))) := Lib.hid (heap_alloc_new wr _)
      have hb4 : Below wr.heap.size wr (wr.alloc (.cells #[.string (bs kw), .func (.func f) #[] C, .func (.func f2) #[] C] 55)) := (Below.refl _ _).alloc (Nat.le_refl _) _
      generalize wr.alloc (.cells #[.string (bs kw), .func (.func f) #[] C, .func (.func f2) #[] C] 55) = w4 at HKr4 hb4 ⊢
      rw [← hb6] at HKr4 ⊢
      have HB4 := Lib.hid (builder_on HB.out hb4)
      have HL4 := Lib.hid (hcarry hb4 HL.out)
      have HK4 := Lib.hid (fun k hk => hcarry hb4 (HK.out k hk))
      have HX4 := Lib.hid (hcarry hb4 HX.out)
      have hW4 : Below w.heap.size w w4 := hbw.trans (hb4.mono hz)
      have HB6 := Lib.hid hb6
      clear HB HL HK HX hb4 l0 l1 l2 hb6
      refine (HSDK.out w.heap.size w4 (HT.out.on hW4) (box_row HX4.out) (HR'.out.later hW4) (fun k hk => cell_at (HK4.out k hk))).mono ?_; rintro e w5 ⟨v5, rfl, hown5, hb5⟩
      obtain ⟨a5, c5, rfl, htx5⟩ := texts_of hown5
      have HTx5 := Lib.hid htx5
      have HB5 := Lib.hid (builder_on HB4.out hb5)
      have HL5 := Lib.hid (hcarry hb5 HL4.out)
      have HK5 := Lib.hid (fun k hk => hcarry hb5 (HK4.out k hk))
      have HX5 := Lib.hid (hcarry hb5 HX4.out)
      have HKr5 := Lib.hid (hcarry hb5 HKr4.out)
      have hW5 : Below w.heap.size w w5 := hW4.trans (hb5.mono hW4.size)
      clear hown5 htx5 hb5 HB4 HL4 HK4 HX4 HKr4 hW4 HSDK hin
      go_wp2_with fail
      go_loopw [22] (fun v22 wq => ∃ i : Nat, i ≤ L.length ∧ v22 = .int .i64 (i : Int) ∧ Hid (Lib.IsBuilderF 49 5 w.heap.size bb (Lib.byteCells (textOf (partTo t k i))) wq) ∧ Hid (wq.heap[n]? = some (.cells (linesV B).toArray 55 (0, 0))) ∧ Hid (∀ k, numKind k → wq.heap[B k]? = some (.cells #[.func (.func (placeF k)) #[] #[]] 79 (0, 0))) ∧ Hid (wq.heap[w.heap.size]? = some (.cells #[.slice s.na s.nodes.length s.nc, .slice s.pa s.parts.length s.pc, .slice s.qa s.queues.length s.qc, .int .i64 s.users, .int .i64 s.age, .int .i64 s.size, .int .i64 s.qos, .int .i64 s.share, .int .i64 s.decay, .int .i64 s.mode, .int .i64 s.jobs, .int .i64 s.ids, .int .i64 s.versions, .int .i64 s.linger, .int .i64 s.keep, .int .i64 s.inn, .int .i64 s.out, .int .i64 s.cache] 28 (0, 0))) ∧ Hid (wq.heap[b6]? = some (.cells #[.string (bs kw), .func (.func f) #[] C, .func (.func f2) #[] C] 55 (0, 0))) ∧ Hid (TextsAt wq a5 L) ∧ Below w.heap.size w wq) (fun v22 _ => L.length - (intOf v22).toNat)
      case atStart => exact ⟨0, Nat.zero_le _, rfl, HB5, HL5, HK5, HX5, HKr5, HTx5, hW5⟩
      case round =>
        obtain ⟨i, hi, rfl, HB, HL, HK, HX, HKr, HTx, hbw⟩ := hrel
        have hzq := hbw.size
        clear HB5 HL5 HK5 HX5 HKr5 HTx5 hW5
        by_cases hil : i < L.length
        · obtain ⟨gL, cur, ha5, hgL, hcur⟩ := HTx.out i hil
          have m0 : wr.cell? ⟨gL, i, none⟩ = some (.string (bs L[i])) := (cell_of_row _ _ _ _ _ _ hgL).trans hcur
          have m1 : wr.cell? ⟨b6, 0, none⟩ = some (.string (bs kw)) := (cell_of_row _ _ _ _ _ _ HKr.out).trans rfl
          have hpt := HPT2.out i hil
          have hpl := HPLk.out (i + 1)
          rw [hpt, List.length_append] at hpl
          have HPT3 := Lib.hid hpt
          have HA5 := Lib.hid ha5
          generalize L[i] = x at m0 hpl HPT3
          obtain ⟨y1, hy1⟩ : ∃ y1, y1 = bs (kw ++ [32]) := ⟨_, rfl⟩
          obtain ⟨y2, hy2⟩ : ∃ y2, y2 = bs (kw ++ [32] ++ x) := ⟨_, rfl⟩
          obtain ⟨z, hzz⟩ : ∃ z, z = kw ++ [32] ++ x ++ [10] := ⟨_, rfl⟩
          obtain ⟨y3, hy3⟩ : ∃ y3, y3 = bs z := ⟨_, rfl⟩
          have hzl : z.length = kw.length + 1 + x.length + 1 := by rw [hzz]; simp; omega
          rw [← hzz] at HPT3 hpl
          have s1 : ∀ W : World, (Op.stringOp .add (bs kw) ⟨#[32]⟩).run Tryz.prog W = .ok (.string y1) W := fun W => by rw [hy1]; exact add_bs W kw [32] (by simp; omega)
          have s2 : ∀ W : World, (Op.stringOp .add y1 (bs x)).run Tryz.prog W = .ok (.string y2) W := fun W => by rw [hy1, hy2]; exact add_bs W (kw ++ [32]) x (by simp; omega)
          have s3 : ∀ W : World, (Op.stringOp .add y2 ⟨#[10]⟩).run Tryz.prog W = .ok (.string y3) W := fun W => by rw [hy2, hy3, hzz]; exact add_bs W (kw ++ [32] ++ x) [10] (by simp; omega)
          have K := HW.out w.heap.size bb (textOf (partTo t k i)) z wr HB.out (by omega) hzq
          rw [← hy3] at K
          clear hpt ha5 hgL hcur hy1 hy2 hy3 hzz hzl hpl
          have HIL := Lib.hid hil
          obtain rfl := HA5.out
          go_wp2_with fail
          refine K.mono ?_; rintro e w6 ⟨rfl, hB6, hb6, hk6⟩
          have HBn : Hid (Lib.IsBuilderF 49 5 w.heap.size bb (Lib.byteCells (textOf (partTo t k (i + 1)))) w6) := Lib.hid (by rw [HPT3.out]; exact hB6)
          have HLn := Lib.hid (kept_row HB.out hk6 HL.out (by decide) (by decide))
          have HKn := Lib.hid (fun k hk => kept_row HB.out hk6 (HK.out k hk) (by decide) (by decide))
          have HXn := Lib.hid (kept_row HB.out hk6 HX.out (by decide) (by decide))
          have HKrn := Lib.hid (kept_row HB.out hk6 HKr.out (by decide) (by decide))
          have HTxn := Lib.hid (HTx.out.kept HB.out hk6 (by decide) (by decide))
          have hWn : Below w.heap.size w w6 := hbw.trans hb6
          clear K hB6 hb6 hk6 HB HL HK HX HKr HTx m0 m1 s1 s2 s3
          go_wp2
          go_roundw
          case rel => exact ⟨i + 1, HIL.out, by go_num, HBn, HLn, HKn, HXn, HKrn, HTxn, hWn⟩
          case measure => have := HIL.out; simp [intOf]; omega
        · have hil2 : i = L.length := by omega
          subst hil2
          have HBn : Hid (Lib.IsBuilderF 49 5 w.heap.size bb (Lib.byteCells (textOf (partTo t (k + 1) 0))) wr) := Lib.hid (by rw [HPZk.out, ← HPAk.out]; exact HB.out)
          clear HB HKr HTx
          go_wp2
          go_roundw
          case rel => exact ⟨k + 1, by omega, by go_num, HBn, HL, HK, HX, hbw⟩
          case measure => simp [intOf]; omega
    · have hk15 : k = 15 := by omega
      subst hk15
      have HF : Hid (Lib.IsBuilderF 49 5 w.heap.size bb (Lib.byteCells (textT t)) wr) := Lib.hid (by
        have := HB.out
        rw [HPZ.out 15, linesTo_all] at this
        exact this)
      clear HB HL HK HX
      go_wp2_with fail
      refine (HStr.out w.heap.size bb (textT t) wr HF.out text_ne).mono ?_; rintro e w6 ⟨rfl, _, hb6, _⟩
      go_wp2
      go_ret2
      exact ⟨rfl, hbw.trans hb6⟩
end Go.Proofs.YtgopjpnlpcmldaaGreatDoor.W


/-
  What each kind of a text's lines puts into a set-up: the table's functions, each by its contract.
-/
namespace Go.Proofs.YtgopjpnlpcmldaaGreatDoor.W
set_option linter.unusedVariables false
set_option linter.unusedSimpArgs false
open Go.ChangeShapes Go.WideShapes Go.ChangeAt Go.RowKit

theorem take_in (args : Array Value) (w : World) : ∀ k, k < 15 → (callFunc (takeF k) args).run Tryz.prog w = .ok (.enter (takeF k) args) w
  | 0, _ => run_enter Tryz.func29 (by kernel_rfl) rfl args w
  | 1, _ => run_enter Tryz.func31 (by kernel_rfl) rfl args w
  | 2, _ => run_enter Tryz.func82 (by kernel_rfl) rfl args w
  | 3, _ => run_enter Tryz.func35 (by kernel_rfl) rfl args w
  | 4, _ => run_enter Tryz.func37 (by kernel_rfl) rfl args w
  | 5, _ => run_enter Tryz.func82 (by kernel_rfl) rfl args w
  | 6, _ => run_enter Tryz.func40 (by kernel_rfl) rfl args w
  | 7, _ => run_enter Tryz.func82 (by kernel_rfl) rfl args w
  | 8, _ => run_enter Tryz.func82 (by kernel_rfl) rfl args w
  | 9, _ => run_enter Tryz.func82 (by kernel_rfl) rfl args w
  | 10, _ => run_enter Tryz.func82 (by kernel_rfl) rfl args w
  | 11, _ => run_enter Tryz.func82 (by kernel_rfl) rfl args w
  | 12, _ => run_enter Tryz.func82 (by kernel_rfl) rfl args w
  | 13, _ => run_enter Tryz.func82 (by kernel_rfl) rfl args w
  | 14, _ => run_enter Tryz.func82 (by kernel_rfl) rfl args w
theorem taken (E D g : Nat) (s : S) (hN : s.nodes.length ≤ 5000) (hP : s.parts.length ≤ 5000) (hU : s.queues.length ≤ 5000) (l : List UInt8) (hl : l.length ≤ 100000) (w : World) (hS : Std w) (hE : StdE w) (hM : Built E D g s w) (B : Nat → Nat)
    (hBk : ∀ k, numKind k → w.heap[B k]? = some (.cells #[.func (.func (placeF k)) #[] #[]] 79 (0, 0))) : ∀ k, k < 15 → Calls Tryz.prog (takeF k) (#[.pointer (some ⟨g, 0, none⟩), .string (bs l)] ++ sayC B k) w (Took E D g w (takeS (tOf s) l k)) := by
  intro k hk
  match k, hk with
  | 0, _ => exact takeNode_ E D g s hN l hl w hS hM
  | 1, _ => exact takePart_ E D g s hP l hl w hS hE hM
  | 3, _ => exact takeQueue_ E D g s hU l hl w hS hE hM
  | 4, _ => exact takeWeights_ E D g s l hl w hS hE hM
  | 6, _ => exact takeMode_ E D g s l w hM
  | 2, _ => exact takeNumber 33 3 E D g (B 2) s (fun n => { s with users := n }) l hl w hS hE hM (hBk 2 (by simp [numKind])) (place_in 2 (by simp [numKind])) (fun w => place1 g w) s.users rfl (fun _ => rfl) (fun _ _ h => ⟨h.1, h.2, h.3, h.4, h.5⟩)
  | 5, _ => exact takeNumber 38 8 E D g (B 5) s (fun n => { s with decay := n }) l hl w hS hE hM (hBk 5 (by simp [numKind])) (place_in 5 (by simp [numKind])) (fun w => place2 g w) s.decay rfl (fun _ => rfl) (fun _ _ h => ⟨h.1, h.2, h.3, h.4, h.5⟩)
  | 7, _ => exact takeNumber 41 10 E D g (B 7) s (fun n => { s with jobs := n }) l hl w hS hE hM (hBk 7 (by simp [numKind])) (place_in 7 (by simp [numKind])) (fun w => place3 g w) s.jobs rfl (fun _ => rfl) (fun _ _ h => ⟨h.1, h.2, h.3, h.4, h.5⟩)
  | 8, _ => exact takeNumber 42 11 E D g (B 8) s (fun n => { s with ids := n }) l hl w hS hE hM (hBk 8 (by simp [numKind])) (place_in 8 (by simp [numKind])) (fun w => place4 g w) s.ids rfl (fun _ => rfl) (fun _ _ h => ⟨h.1, h.2, h.3, h.4, h.5⟩)
  | 9, _ => exact takeNumber 43 12 E D g (B 9) s (fun n => { s with versions := n }) l hl w hS hE hM (hBk 9 (by simp [numKind])) (place_in 9 (by simp [numKind])) (fun w => place5 g w) s.versions rfl (fun _ => rfl) (fun _ _ h => ⟨h.1, h.2, h.3, h.4, h.5⟩)
  | 10, _ => exact takeNumber 44 13 E D g (B 10) s (fun n => { s with linger := n }) l hl w hS hE hM (hBk 10 (by simp [numKind])) (place_in 10 (by simp [numKind])) (fun w => place6 g w) s.linger rfl (fun _ => rfl) (fun _ _ h => ⟨h.1, h.2, h.3, h.4, h.5⟩)
  | 11, _ => exact takeNumber 45 14 E D g (B 11) s (fun n => { s with keep := n }) l hl w hS hE hM (hBk 11 (by simp [numKind])) (place_in 11 (by simp [numKind])) (fun w => place7 g w) s.keep rfl (fun _ => rfl) (fun _ _ h => ⟨h.1, h.2, h.3, h.4, h.5⟩)
  | 12, _ => exact takeNumber 46 15 E D g (B 12) s (fun n => { s with inn := n }) l hl w hS hE hM (hBk 12 (by simp [numKind])) (place_in 12 (by simp [numKind])) (fun w => place8 g w) s.inn rfl (fun _ => rfl) (fun _ _ h => ⟨h.1, h.2, h.3, h.4, h.5⟩)
  | 13, _ => exact takeNumber 47 16 E D g (B 13) s (fun n => { s with out := n }) l hl w hS hE hM (hBk 13 (by simp [numKind])) (place_in 13 (by simp [numKind])) (fun w => place9 g w) s.out rfl (fun _ => rfl) (fun _ _ h => ⟨h.1, h.2, h.3, h.4, h.5⟩)
  | 14, _ => exact takeNumber 48 17 E D g (B 14) s (fun n => { s with cache := n }) l hl w hS hE hM (hBk 14 (by simp [numKind])) (place_in 14 (by simp [numKind])) (fun w => place10 g w) s.cache rfl (fun _ => rfl) (fun _ _ h => ⟨h.1, h.2, h.3, h.4, h.5⟩)
end Go.Proofs.YtgopjpnlpcmldaaGreatDoor.W
