/-
  Several texts in one: TextReadT, TextRead2, TextRNums.
-/
import Derived.Test.YtgopjpnlpcmldaaGreatDoorJ41
import Derived.Test.YtgopjpnlpcmldaaGreatDoorJ29
import Derived.Test.YtgopjpnlpcmldaaGreatDoorSpecMem
import Derived.Test.YtgopjpnlpcmldaaGreatDoorJ31
import Derived.Deep.QuietTactic
import Derived.BigQuiet

/-
  The lists that lines put into a set-up are no longer than the lines.
-/
namespace Go.Proofs.YtgopjpnlpcmldaaGreatDoor.W
set_option linter.unusedVariables false
set_option linter.unusedSimpArgs false
open Go.ChangeShapes Go.WideShapes Go.ChangeAt Go.RowKit

theorem parted_len {l : List UInt8} {ns : List Int} (h : partedS l = some ns) : ns.length ≤ l.length + 1 := by
  have h1 := allO_len h
  have h2 := (splitAll_len 32 l).1
  omega
def Short (t : T) (n : Nat) : Prop := (∀ p ∈ t.parts, p.length ≤ n) ∧ ∀ q ∈ t.queues, q.users.length ≤ n
theorem takeS_short {t u : T} {n : Nat} {l : List UInt8} (k : Nat) (hl : l.length + 1 ≤ n) (h : Short t n) (hu : takeS t l k = some u) : Short u n := by
  obtain ⟨h1, h2⟩ := h
  have keep : ∀ v : T, v.parts = t.parts → v.queues = t.queues → Short v n := fun v e1 e2 => ⟨by rw [e1]; exact h1, by rw [e2]; exact h2⟩
  unfold takeS at hu
  split at hu
  case h_2 =>
    obtain ⟨p, hp, rfl⟩ := Option.map_eq_some_iff.1 hu
    refine ⟨fun q hq => ?_, h2⟩
    rcases List.mem_append.1 hq with hq | hq
    · exact h1 q hq
    · rw [List.mem_singleton.1 hq]
      have := parted_len hp
      omega
  case h_4 =>
    split at hu
    · next a b c d e r hp =>
      cases hu
      refine ⟨h1, fun q hq => ?_⟩
      rcases List.mem_append.1 hq with hq | hq
      · exact h2 q hq
      · rw [List.mem_singleton.1 hq]
        have := parted_len hp
        simp at this ⊢
        omega
    · cases hu
  all_goals first
    | (obtain ⟨v, _, rfl⟩ := Option.map_eq_some_iff.1 hu; exact keep _ rfl rfl)
    | (split at hu <;> first | (cases hu; exact keep _ rfl rfl) | (cases hu) | (split at hu <;> first | (cases hu; exact keep _ rfl rfl) | (cases hu)))
theorem takes_short : ∀ {ls : List (List UInt8)} {t u : T} {n : Nat}, (∀ l ∈ ls, l.length + 1 ≤ n) → Short t n → takes ls t = some u → Short u n
  | [], t, u, n, _, h, hu => by
    simp only [takes, Option.some.injEq] at hu
    subst hu
    exact h
  | l :: r, t, u, n, hl, h, hu => by
    simp only [takes] at hu
    cases he : takeL t l with
    | none => rw [he] at hu; cases hu
    | some v =>
      rw [he] at hu
      refine takes_short (fun x hx => hl x (by simp [hx])) ?_ hu
      unfold takeL at he
      split at he
      · cases he
      · exact takeS_short _ (by have := (cutAt_lens 32 l).2; have := hl l (by simp); omega) h he
theorem small_of {l : List UInt8} {s : S} (hl : l.length ≤ 2048) (h : takes (linesOf l) T.none = some (tOf s)) : SmallS s := by
  have hs := takes_short (n := 2049) (fun x hx => by
    rw [linesE_bare] at hx
    obtain ⟨y, hy, rfl⟩ := List.mem_map.1 hx
    have := (linesE_len l).2 y hy
    have := bare_len y
    omega) ⟨fun p hp => by simp [T.none] at hp, fun q hq => by simp [T.none] at hq⟩ h
  refine ⟨fun p hp => ?_, fun q hq => ?_⟩
  · have := hs.1 p.l (List.mem_map.2 ⟨p, hp, rfl⟩)
    omega
  · have := hs.2 (qOf q) (List.mem_map.2 ⟨q, hq, rfl⟩)
    simp only [qOf] at this
    omega
end Go.Proofs.YtgopjpnlpcmldaaGreatDoor.W


/-
  Contract of spec.Read, of a text that is not too long.
-/
namespace Go.Proofs.YtgopjpnlpcmldaaGreatDoor.W
set_option linter.unusedVariables false
set_option linter.unusedSimpArgs false
open Go.ChangeShapes Go.WideShapes Go.ChangeAt Go.RowKit
attribute [local go_sem] Oper.semAt_some

theorem grown_setRow (w : World) (g : Nat) (cs : Array Value) : w.grownBy (w.setRow g cs) (some g) :=
  ⟨rfl, rfl, rfl, by simp [World.setRow], fun k _ hk => setRow_other _ _ _ _ (fun e => hk (by rw [e]))⟩
theorem Lists.more {D E : Nat} {w : World} {s : S} (h : Lists E w s) (hD : D ≤ E) : Lists D w s :=
  have key : ∀ {e : TypeId} {k n : Nat} {v : Value} {xs : List Value}, w.ownsRow E e k v n xs → w.ownsRow D e k v n xs := fun ho => ⟨ho.1, ho.2.imp id (fun ⟨g, cap, cur, h1, h2, h3⟩ => ⟨g, cap, cur, h1, Nat.le_trans hD h2, h3⟩)⟩
  ⟨key h.nodes, key h.parts, fun p hp => key (h.part p hp), key h.queues, fun q hq => key (h.users q hq)⟩
theorem cTrim (x : List UInt8) (hl : x.length ≤ 100000) (w : World) : Calls Tryz.prog 21 #[.string (bs x), .string (bs [10])] w fun e w' => e = .returned (.string (bs (bare x))) ∧ w' = w := by
  refine (Tryz.strings_TrimSuffix (bs x) (bs [10]) w (by rw [bs_size]; omega)).mono ?_
  rintro e w' ⟨rfl, rfl⟩
  rw [bs_list, bs_list, bare_trim]
  exact ⟨rfl, rfl⟩
set_option maxHeartbeats 4000000 in
set_option maxRecDepth 100000 in
theorem read_short (l : List UInt8) (hl : l.length ≤ 2048) (w : World) (hS : Std w) (hE : StdE w) :
    Calls Tryz.prog 8 #[.string (bs l)] w fun e w' => ((∃ s, TOk (tOf s) ∧ textT (tOf s) = l ∧ e = .returned (.tuple #[.agg #[.slice s.na s.nodes.length s.nc, .slice s.pa s.parts.length s.pc, .slice s.qa s.queues.length s.qc, .int .i64 s.users, .int .i64 s.age, .int .i64 s.size, .int .i64 s.qos, .int .i64 s.share, .int .i64 s.decay, .int .i64 s.mode, .int .i64 s.jobs, .int .i64 s.ids, .int .i64 s.versions, .int .i64 s.linger, .int .i64 s.keep, .int .i64 s.inn, .int .i64 s.out, .int .i64 s.cache], .int .i64 0]) ∧ Lists w.heap.size w' s) ∨
      ((∀ t, TOk t → textT t ≠ l) ∧ e = .returned (.tuple #[.agg #[.slice sZero.na sZero.nodes.length sZero.nc, .slice sZero.pa sZero.parts.length sZero.pc, .slice sZero.qa sZero.queues.length sZero.qc, .int .i64 sZero.users, .int .i64 sZero.age, .int .i64 sZero.size, .int .i64 sZero.qos, .int .i64 sZero.share, .int .i64 sZero.decay, .int .i64 sZero.mode, .int .i64 sZero.jobs, .int .i64 sZero.ids, .int .i64 sZero.versions, .int .i64 sZero.linger, .int .i64 sZero.keep, .int .i64 sZero.inn, .int .i64 sZero.out, .int .i64 sZero.cache], .int .i64 11]))) ∧ Below w.heap.size w w' := by
  have hz := bs_size l
  have h1 : ¬ ((2048 : Int) < ((bs l).size : Int)) := by omega
  have HL := fun w => callsIn_wide (n := 7) |>.2 (cLines l w)
  refine callsIn_wide (n := 8) |>.1 ?_
  refine callsIn_of_wp_marks Tryz.func8 rfl trivial ?_ rfl
  simp only [Tryz.ntmps8, List.size_toArray, List.length_cons, List.length_nil, Nat.reduceAdd, Nat.reduceSub, Array.replicate_succ, Array.replicate_zero, List.push_toArray, List.append_toArray, List.nil_append, List.cons_append]
  gi_wp2
  refine ⟨trivial, ?_⟩
  have c2 : Row (((w.alloc (.cells #[.slice sZero.na sZero.nodes.length sZero.nc, .slice sZero.pa sZero.parts.length sZero.pc, .slice sZero.qa sZero.queues.length sZero.qc, .int .i64 sZero.users, .int .i64 sZero.age, .int .i64 sZero.size, .int .i64 sZero.qos, .int .i64 sZero.share, .int .i64 sZero.decay, .int .i64 sZero.mode, .int .i64 sZero.jobs, .int .i64 sZero.ids, .int .i64 sZero.versions, .int .i64 sZero.linger, .int .i64 sZero.keep, .int .i64 sZero.inn, .int .i64 sZero.out, .int .i64 sZero.cache] 28)).alloc (.cells #[.int .i64 0] 31)).alloc (.cells #[.slice sZero.na sZero.nodes.length sZero.nc, .slice sZero.pa sZero.parts.length sZero.pc, .slice sZero.qa sZero.queues.length sZero.qc, .int .i64 sZero.users, .int .i64 sZero.age, .int .i64 sZero.size, .int .i64 sZero.qos, .int .i64 sZero.share, .int .i64 sZero.decay, .int .i64 sZero.mode, .int .i64 sZero.jobs, .int .i64 sZero.ids, .int .i64 sZero.versions, .int .i64 sZero.linger, .int .i64 sZero.keep, .int .i64 sZero.inn, .int .i64 sZero.out, .int .i64 sZero.cache] 28)) w.heap.size 28 #[.slice sZero.na sZero.nodes.length sZero.nc, .slice sZero.pa sZero.parts.length sZero.pc, .slice sZero.qa sZero.queues.length sZero.qc, .int .i64 sZero.users, .int .i64 sZero.age, .int .i64 sZero.size, .int .i64 sZero.qos, .int .i64 sZero.share, .int .i64 sZero.decay, .int .i64 sZero.mode, .int .i64 sZero.jobs, .int .i64 sZero.ids, .int .i64 sZero.versions, .int .i64 sZero.linger, .int .i64 sZero.keep, .int .i64 sZero.inn, .int .i64 sZero.out, .int .i64 sZero.cache] := ((Row.new rfl _ _).alloc _).alloc _
  have c3 : Row (((w.alloc (.cells #[.slice sZero.na sZero.nodes.length sZero.nc, .slice sZero.pa sZero.parts.length sZero.pc, .slice sZero.qa sZero.queues.length sZero.qc, .int .i64 sZero.users, .int .i64 sZero.age, .int .i64 sZero.size, .int .i64 sZero.qos, .int .i64 sZero.share, .int .i64 sZero.decay, .int .i64 sZero.mode, .int .i64 sZero.jobs, .int .i64 sZero.ids, .int .i64 sZero.versions, .int .i64 sZero.linger, .int .i64 sZero.keep, .int .i64 sZero.inn, .int .i64 sZero.out, .int .i64 sZero.cache] 28)).alloc (.cells #[.int .i64 0] 31)).alloc (.cells #[.slice sZero.na sZero.nodes.length sZero.nc, .slice sZero.pa sZero.parts.length sZero.pc, .slice sZero.qa sZero.queues.length sZero.qc, .int .i64 sZero.users, .int .i64 sZero.age, .int .i64 sZero.size, .int .i64 sZero.qos, .int .i64 sZero.share, .int .i64 sZero.decay, .int .i64 sZero.mode, .int .i64 sZero.jobs, .int .i64 sZero.ids, .int .i64 sZero.versions, .int .i64 sZero.linger, .int .i64 sZero.keep, .int .i64 sZero.inn, .int .i64 sZero.out, .int .i64 sZero.cache] 28)) (w.heap.size + 1) 31 #[.int .i64 0] := (Row.new (by simp) _ _).alloc _
  have c4 : Row (((w.alloc (.cells #[.slice sZero.na sZero.nodes.length sZero.nc, .slice sZero.pa sZero.parts.length sZero.pc, .slice sZero.qa sZero.queues.length sZero.qc, .int .i64 sZero.users, .int .i64 sZero.age, .int .i64 sZero.size, .int .i64 sZero.qos, .int .i64 sZero.share, .int .i64 sZero.decay, .int .i64 sZero.mode, .int .i64 sZero.jobs, .int .i64 sZero.ids, .int .i64 sZero.versions, .int .i64 sZero.linger, .int .i64 sZero.keep, .int .i64 sZero.inn, .int .i64 sZero.out, .int .i64 sZero.cache] 28)).alloc (.cells #[.int .i64 0] 31)).alloc (.cells #[.slice sZero.na sZero.nodes.length sZero.nc, .slice sZero.pa sZero.parts.length sZero.pc, .slice sZero.qa sZero.queues.length sZero.qc, .int .i64 sZero.users, .int .i64 sZero.age, .int .i64 sZero.size, .int .i64 sZero.qos, .int .i64 sZero.share, .int .i64 sZero.decay, .int .i64 sZero.mode, .int .i64 sZero.jobs, .int .i64 sZero.ids, .int .i64 sZero.versions, .int .i64 sZero.linger, .int .i64 sZero.keep, .int .i64 sZero.inn, .int .i64 sZero.out, .int .i64 sZero.cache] 28)) (w.heap.size + 2) 28 #[.slice sZero.na sZero.nodes.length sZero.nc, .slice sZero.pa sZero.parts.length sZero.pc, .slice sZero.qa sZero.queues.length sZero.qc, .int .i64 sZero.users, .int .i64 sZero.age, .int .i64 sZero.size, .int .i64 sZero.qos, .int .i64 sZero.share, .int .i64 sZero.decay, .int .i64 sZero.mode, .int .i64 sZero.jobs, .int .i64 sZero.ids, .int .i64 sZero.versions, .int .i64 sZero.linger, .int .i64 sZero.keep, .int .i64 sZero.inn, .int .i64 sZero.out, .int .i64 sZero.cache] := Row.new (by simp) _ _
  have hb0 : Below w.heap.size w (((w.alloc (.cells #[.slice sZero.na sZero.nodes.length sZero.nc, .slice sZero.pa sZero.parts.length sZero.pc, .slice sZero.qa sZero.queues.length sZero.qc, .int .i64 sZero.users, .int .i64 sZero.age, .int .i64 sZero.size, .int .i64 sZero.qos, .int .i64 sZero.share, .int .i64 sZero.decay, .int .i64 sZero.mode, .int .i64 sZero.jobs, .int .i64 sZero.ids, .int .i64 sZero.versions, .int .i64 sZero.linger, .int .i64 sZero.keep, .int .i64 sZero.inn, .int .i64 sZero.out, .int .i64 sZero.cache] 28)).alloc (.cells #[.int .i64 0] 31)).alloc (.cells #[.slice sZero.na sZero.nodes.length sZero.nc, .slice sZero.pa sZero.parts.length sZero.pc, .slice sZero.qa sZero.queues.length sZero.qc, .int .i64 sZero.users, .int .i64 sZero.age, .int .i64 sZero.size, .int .i64 sZero.qos, .int .i64 sZero.share, .int .i64 sZero.decay, .int .i64 sZero.mode, .int .i64 sZero.jobs, .int .i64 sZero.ids, .int .i64 sZero.versions, .int .i64 sZero.linger, .int .i64 sZero.keep, .int .i64 sZero.inn, .int .i64 sZero.out, .int .i64 sZero.cache] 28)) := (by repeat' (first | exact Below.refl _ _ | assumption | exact And.left (by assumption) | refine Below.drew ?_ | refine below_drewN ?_ _ | refine Below.setCell ?_ (by first | (simp; done) | (simp; omega) | omega) _ | refine Below.alloc ?_ (by first | (simp; done) | (simp; omega) | omega) _ | refine after (by assumption) (by first | (simp; done) | (simp; omega) | omega) ?_))
  have hz0 : (((w.alloc (.cells #[.slice sZero.na sZero.nodes.length sZero.nc, .slice sZero.pa sZero.parts.length sZero.pc, .slice sZero.qa sZero.queues.length sZero.qc, .int .i64 sZero.users, .int .i64 sZero.age, .int .i64 sZero.size, .int .i64 sZero.qos, .int .i64 sZero.share, .int .i64 sZero.decay, .int .i64 sZero.mode, .int .i64 sZero.jobs, .int .i64 sZero.ids, .int .i64 sZero.versions, .int .i64 sZero.linger, .int .i64 sZero.keep, .int .i64 sZero.inn, .int .i64 sZero.out, .int .i64 sZero.cache] 28)).alloc (.cells #[.int .i64 0] 31)).alloc (.cells #[.slice sZero.na sZero.nodes.length sZero.nc, .slice sZero.pa sZero.parts.length sZero.pc, .slice sZero.qa sZero.queues.length sZero.qc, .int .i64 sZero.users, .int .i64 sZero.age, .int .i64 sZero.size, .int .i64 sZero.qos, .int .i64 sZero.share, .int .i64 sZero.decay, .int .i64 sZero.mode, .int .i64 sZero.jobs, .int .i64 sZero.ids, .int .i64 sZero.versions, .int .i64 sZero.linger, .int .i64 sZero.keep, .int .i64 sZero.inn, .int .i64 sZero.out, .int .i64 sZero.cache] 28)).heap.size = w.heap.size + 3 := by simp
  change CallsIn _ _ _ _ _ (((w.alloc (.cells #[.slice sZero.na sZero.nodes.length sZero.nc, .slice sZero.pa sZero.parts.length sZero.pc, .slice sZero.qa sZero.queues.length sZero.qc, .int .i64 sZero.users, .int .i64 sZero.age, .int .i64 sZero.size, .int .i64 sZero.qos, .int .i64 sZero.share, .int .i64 sZero.decay, .int .i64 sZero.mode, .int .i64 sZero.jobs, .int .i64 sZero.ids, .int .i64 sZero.versions, .int .i64 sZero.linger, .int .i64 sZero.keep, .int .i64 sZero.inn, .int .i64 sZero.out, .int .i64 sZero.cache] 28)).alloc (.cells #[.int .i64 0] 31)).alloc (.cells #[.slice sZero.na sZero.nodes.length sZero.nc, .slice sZero.pa sZero.parts.length sZero.pc, .slice sZero.qa sZero.queues.length sZero.qc, .int .i64 sZero.users, .int .i64 sZero.age, .int .i64 sZero.size, .int .i64 sZero.qos, .int .i64 sZero.share, .int .i64 sZero.decay, .int .i64 sZero.mode, .int .i64 sZero.jobs, .int .i64 sZero.ids, .int .i64 sZero.versions, .int .i64 sZero.linger, .int .i64 sZero.keep, .int .i64 sZero.inn, .int .i64 sZero.out, .int .i64 sZero.cache] 28)) _
  generalize ((w.alloc (.cells #[.slice sZero.na sZero.nodes.length sZero.nc, .slice sZero.pa sZero.parts.length sZero.pc, .slice sZero.qa sZero.queues.length sZero.qc, .int .i64 sZero.users, .int .i64 sZero.age, .int .i64 sZero.size, .int .i64 sZero.qos, .int .i64 sZero.share, .int .i64 sZero.decay, .int .i64 sZero.mode, .int .i64 sZero.jobs, .int .i64 sZero.ids, .int .i64 sZero.versions, .int .i64 sZero.linger, .int .i64 sZero.keep, .int .i64 sZero.inn, .int .i64 sZero.out, .int .i64 sZero.cache] 28)).alloc (.cells #[.int .i64 0] 31)).alloc (.cells #[.slice sZero.na sZero.nodes.length sZero.nc, .slice sZero.pa sZero.parts.length sZero.pc, .slice sZero.qa sZero.queues.length sZero.qc, .int .i64 sZero.users, .int .i64 sZero.age, .int .i64 sZero.size, .int .i64 sZero.qos, .int .i64 sZero.share, .int .i64 sZero.decay, .int .i64 sZero.mode, .int .i64 sZero.jobs, .int .i64 sZero.ids, .int .i64 sZero.versions, .int .i64 sZero.linger, .int .i64 sZero.keep, .int .i64 sZero.inn, .int .i64 sZero.out, .int .i64 sZero.cache] 28) = w0 at c2 c3 c4 hb0 hz0 ⊢
  refine (HL w0).mono ?_
  rintro e w1 ⟨Bs, rfl, hBs, hrow, hb1⟩
  have d2 := c2.on hb1
  have d3 := c3.on hb1
  have d4 := c4.on hb1
  have hbw : Below w.heap.size w w1 := hb0.trans (hb1.mono (by omega))
  have hsz := hb1.size
  have lB := hrow.lt
  rw [hz0] at hBs hsz
  clear c2 c3 c4 HL hb0 hb1
  have hI0 : ReadI w w1.heap.size sZero w1 := ⟨⟨d4, by omega, ⟨World.ownsRow_nil .., World.ownsRow_nil .., (fun p hp => nomatch hp), World.ownsRow_nil .., (fun q hq => nomatch hq)⟩, by omega, Nat.le_refl _⟩, d2, d3, hbw⟩
  clear d2 d3 d4
  gi_wp2
  refine range_box (n := 8) rfl (by omega) (gf := 54) (lb := #[.pointer (some ⟨Bs, 0, none⟩)]) rfl trivial (enters_of Tryz.func54 (by kernel_rfl) rfl)
    (lines_gives 7 (by omega) Bs l (by omega) w1 hrow) (fun _ => rfl) lB (by rintro k rfl; exact lB)
    (fun pre W => ∃ s, takes (pre.map bare) T.none = some (tOf s) ∧ ReadI w w1.heap.size s W) (fun _ pre W => takes (linesOf l) T.none = none ∧ ReadX w W) ?hI ?hIx ?hIs ?h0
    (fun x => { tmps := #[.string (bs l), undef, .pointer (some ⟨w.heap.size, 0, none⟩), .pointer (some ⟨w.heap.size + 1, 0, none⟩), .pointer (some ⟨w.heap.size + 1 + 1, 0, none⟩), .string (bs x), undef, undef, .string (bs l), .int .i64 (l.length : Int), .bool (decide (2048 < (l.length : Int))), undef, .string (bs l),
      .func (.func 54) #[] #[.pointer (some ⟨Bs, 0, none⟩)], .string (bs x), undef, undef, undef, undef, undef, undef, undef, undef, undef, undef, undef, undef, undef, undef, undef, undef, undef, undef, undef], defers := [] }) ?assign ?body ?done ?stop
  case hI =>
    rintro s W W' row ⟨s', ht, h⟩ hg hr
    exact ⟨s', ht, h.kept hg (fun r e => ⟨by have := (hr r e).1; omega, .inr (hr r e).2⟩)⟩
  case hIx =>
    rintro s W W' row ⟨ha, h⟩ hg hr
    exact ⟨ha, h.kept hg (fun r e => by have := (hr r e).1; omega)⟩
  case hIs =>
    rintro s W W' ⟨s', ht, h⟩ hg
    exact ⟨s', ht, h.kept hg (fun r e => by injection e with e; subst e; exact ⟨hBs, .inl lB⟩)⟩
  case h0 => exact ⟨sZero, rfl, hI0⟩
  case assign =>
    intro y x W K hK
    gi_wp2
    exact hK
  case body =>
    rintro y pre x W ⟨s, ht, hI⟩ ⟨rest, hG⟩ ⟨o1, ho1, ko1⟩ ⟨o2, ho2, ko2⟩
    have hx := (linesE_len l).2 x (by rw [hG]; simp)
    have hn := (linesE_len l).1
    rw [hG, List.length_append, List.length_cons] at hn
    have hup := takes_upto (n := 0) (t := T.none) ⟨Nat.le_refl _, Nat.le_refl _, Nat.le_refl _⟩ ht
    rw [List.length_map] at hup
    obtain ⟨u1, u2, u3⟩ := hup
    have v1 : s.nodes.length ≤ 5000 := by have : (tOf s).nodes = s.nodes := rfl; rw [this] at u1; omega
    have v2 : s.parts.length ≤ 5000 := by have : (tOf s).parts.length = s.parts.length := by simp [tOf]
                                          omega
    have v3 : s.queues.length ≤ 5000 := by have : (tOf s).queues.length = s.queues.length := by simp [tOf]
                                           omega
    have hlo : linesOf l = pre.map bare ++ bare x :: rest.map bare := by rw [linesE_bare, hG]; simp
    have hSW := hS.on (hI.below)
    have hEW := hE.below hI.below hS.size
    have HT := CallsIn.inRound y (callsIn_wide (n := 5) |>.2 (cTrim x (by omega) W))
    have HK := CallsIn.inRound y (callsIn_wide (n := 5) |>.2 (take_ w1.heap.size w.heap.size (w.heap.size + 1 + 1) s v1 v2 v3 (bare x) (by have := bare_len x; omega) W hSW hEW hI.built))
    clear v1 v2 v3 u1 u2 u3 hn hx hSW hEW
    gi_wp2
    refine ⟨trivial, ?_⟩
    refine HT.mono ?_
    rintro e W2 ⟨rfl, hW2⟩
    have hW2' := hW2.symm
    subst hW2'
    gi_wp2
    refine ⟨trivial, ?_⟩
    refine HK.mono ?_
    clear HT HK
    rintro e W3 ⟨hb3, hf3, ⟨s', hr3, rfl, hM3⟩ | ⟨hr3, rfl⟩⟩
    · have hI3 := hI.took hb3 hf3 hM3
      have hoth : ∀ k o, W.heap[k]? = some o → o.isCells = false → k ≠ w.heap.size + 2 → W3.heap[k]? = W.heap[k]? := fun k o h1 h2 h3 => (hf3.kept k o h1 h3 (.inr fun cs t fr e => by subst e; cases h2)).trans h1.symm
      have hlow : W3.heap[Bs]? = W.heap[Bs]? := by
        have hBW : Bs < W.heap.size := by have := hI.built.top; omega
        exact (hf3.kept Bs _ (Array.getElem?_eq_getElem hBW) (by omega) (.inl lB)).trans (Array.getElem?_eq_getElem hBW).symm
      have ht3 : takes ((pre ++ [x]).map bare) T.none = some (tOf s') := by
        rw [List.map_append]
        exact (takes_snoc ht).trans hr3
      gi_wp2
      exact ⟨⟨hoth _ _ ho1 ko1 (by omega), hoth _ _ ho2 ko2 (by omega)⟩, (by rintro k rfl; exact hlow), s', ht3, hI3⟩
    · have hoth : ∀ k o, W.heap[k]? = some o → o.isCells = false → k ≠ w.heap.size + 2 → W3.heap[k]? = W.heap[k]? := fun k o h1 h2 h3 => (hf3.kept k o h1 h3 (.inr fun cs t fr e => by subst e; cases h2)).trans h1.symm
      have g2 : Row W3 w.heap.size 28 #[.slice sZero.na sZero.nodes.length sZero.nc, .slice sZero.pa sZero.parts.length sZero.pc, .slice sZero.qa sZero.queues.length sZero.qc, .int .i64 sZero.users, .int .i64 sZero.age, .int .i64 sZero.size, .int .i64 sZero.qos, .int .i64 sZero.share, .int .i64 sZero.decay, .int .i64 sZero.mode, .int .i64 sZero.jobs, .int .i64 sZero.ids, .int .i64 sZero.versions, .int .i64 sZero.linger, .int .i64 sZero.keep, .int .i64 sZero.inn, .int .i64 sZero.out, .int .i64 sZero.cache] := hf3.kept _ _ hI.r2 (by omega) (.inr fun cs t fr e => by cases e; unfold ListT; decide)
      have g3 : Row W3 (w.heap.size + 1) 31 #[.int .i64 0] := hf3.kept _ _ hI.r3 (by omega) (.inr fun cs t fr e => by cases e; unfold ListT; decide)
      have hb4 : Below w.heap.size w W3 := hI.below.trans hb3
      have hbad : takes (linesOf l) T.none = none := by rw [hlo]; exact takes_bad ht hr3
      have k1 := hoth _ _ ho1 ko1 (by omega)
      have k2 := hoth _ _ ho2 ko2 (by omega)
      clear hoth hI hf3 hb3 hr3 hlo ht ho1 ho2
      simp only [sZero, List.length_nil] at g2
      gi_wp2_with (refine wpListIn_store_row rfl 28 (.tmp 2) (.tmp 19) rfl w.heap.size _ rfl rfl 28 _ g2 (by kernel_rfl) (by simp) (by simp [Value.oneCell']) ?_
                   generalize hw4 : World.setRow _ _ _ = W4
                   have g4 : Row W4 w.heap.size 28 #[.slice sZero.na sZero.nodes.length sZero.nc, .slice sZero.pa sZero.parts.length sZero.pc, .slice sZero.qa sZero.queues.length sZero.qc, .int .i64 sZero.users, .int .i64 sZero.age, .int .i64 sZero.size, .int .i64 sZero.qos, .int .i64 sZero.share, .int .i64 sZero.decay, .int .i64 sZero.mode, .int .i64 sZero.jobs, .int .i64 sZero.ids, .int .i64 sZero.versions, .int .i64 sZero.linger, .int .i64 sZero.keep, .int .i64 sZero.inn, .int .i64 sZero.out, .int .i64 sZero.cache] := by rw [← hw4]; exact setRow_heap _ _ _ _ _ _ g2
                   have g5 : Row W4 (w.heap.size + 1) 31 #[.int .i64 0] := by rw [← hw4]; exact (setRow_other _ _ _ _ (by omega)).trans g3
                   have hb5 : Below w.heap.size w W4 := by rw [← hw4]; exact below_setRowT hb4 (Nat.le_refl _)
                   have k3 : W4.heap[w1.heap.size]? = W.heap[w1.heap.size]? := by rw [← hw4]; exact (setRow_other _ _ _ _ (by omega)).trans k1
                   have k4 : W4.heap[w1.heap.size + 1]? = W.heap[w1.heap.size + 1]? := by rw [← hw4]; exact (setRow_other _ _ _ _ (by omega)).trans k2
                   have c5 : W4.cell? ⟨w.heap.size + 1, 0, none⟩ = some (.int .i64 0) := g5.cell 0
                   have f5 := g5.thaw 0
                   clear hw4 g2 g3 hb4)
      have hfar : ∀ k, w.heap.size + 3 ≤ k → (W4.setCell ⟨w.heap.size + 1, 0, none⟩ (.int .i64 11)).heap[k]? = W4.heap[k]? := fun k h => Below.heap_setCell _ ⟨w.heap.size + 1, 0, none⟩ _ k (by simp; omega)
      exact ⟨⟨(hfar _ (by omega)).trans k3, (hfar _ (by omega)).trans k4⟩, hbad, g4.far (p := ⟨w.heap.size + 1, 0, none⟩) (by simp) _, g5.put 0 _, hb5.setCell (p := ⟨w.heap.size + 1, 0, none⟩) (by simp) _⟩
  case done =>
    rintro xs W rfl ⟨s, ht, hI⟩ hK
    have hpl : takes (linesOf l) T.none = some (tOf s) := by rw [linesE_bare]; exact ht
    have hsm := small_of hl hpl
    have hSW := hS.on hI.below
    have hb := row_box hI.built.row
    have hlt := lt_of_at hK
    have hzs := hI.below.size
    cases hr : rightS s with
    | false =>
      have HT := callsIn_wide (n := 7) |>.2 (textS_no s hsm W hI.built.lists.rows hr)
      have hno : ∀ t, TOk t → textT t ≠ l := fun t h e => by
        have hp := parse_text h.fine
        rw [e] at hp
        unfold parseS at hp
        rw [hpl] at hp
        injection hp with hp
        have : rightS s = true := decide_eq_true (is_right (tok_right (hp ▸ h)))
        rw [hr] at this
        cases this
      gi_wp2_with (refine wpListIn_load_box (s := s) rfl (.tmp 4) rfl rfl hb ?_)
      refine ⟨trivial, ?_⟩
      refine HT.mono ?_
      rintro e W2 ⟨rfl, hb2⟩
      have g2 : Row W2 w.heap.size 28 #[.slice sZero.na sZero.nodes.length sZero.nc, .slice sZero.pa sZero.parts.length sZero.pc, .slice sZero.qa sZero.queues.length sZero.qc, .int .i64 sZero.users, .int .i64 sZero.age, .int .i64 sZero.size, .int .i64 sZero.qos, .int .i64 sZero.share, .int .i64 sZero.decay, .int .i64 sZero.mode, .int .i64 sZero.jobs, .int .i64 sZero.ids, .int .i64 sZero.versions, .int .i64 sZero.linger, .int .i64 sZero.keep, .int .i64 sZero.inn, .int .i64 sZero.out, .int .i64 sZero.cache] := hI.r2.on hb2
      have g3 : Row W2 (w.heap.size + 1) 31 #[.int .i64 0] := hI.r3.on hb2
      have hb4 : Below w.heap.size w W2 := hI.below.trans (hb2.mono hzs)
      have hK2 : W2.heap[w1.heap.size]? = some (.deferred (some [])) := (hb2.block _ hlt).trans hK
      clear HT hb hI hK hb2
      simp only [sZero, List.length_nil] at g2
      gi_wp2_with (refine wpListIn_store_row rfl 28 (.tmp 2) (.tmp 32) rfl w.heap.size _ rfl rfl 28 _ g2 (by kernel_rfl) (by simp) (by simp [Value.oneCell']) ?_
                   generalize hw4 : World.setRow _ _ _ = W4
                   have g4 : Row W4 w.heap.size 28 #[.slice sZero.na sZero.nodes.length sZero.nc, .slice sZero.pa sZero.parts.length sZero.pc, .slice sZero.qa sZero.queues.length sZero.qc, .int .i64 sZero.users, .int .i64 sZero.age, .int .i64 sZero.size, .int .i64 sZero.qos, .int .i64 sZero.share, .int .i64 sZero.decay, .int .i64 sZero.mode, .int .i64 sZero.jobs, .int .i64 sZero.ids, .int .i64 sZero.versions, .int .i64 sZero.linger, .int .i64 sZero.keep, .int .i64 sZero.inn, .int .i64 sZero.out, .int .i64 sZero.cache] := by rw [← hw4]; exact setRow_heap _ _ _ _ _ _ g2
                   have g5 : Row W4 (w.heap.size + 1) 31 #[.int .i64 0] := by rw [← hw4]; exact (setRow_other _ _ _ _ (by omega)).trans g3
                   have hb5 : Below w.heap.size w W4 := by rw [← hw4]; exact below_setRowT hb4 (Nat.le_refl _)
                   have hK4 : W4.heap[w1.heap.size]? = some (.deferred (some [])) := by rw [← hw4]; exact (setRow_other _ _ _ _ (by omega)).trans hK2
                   have c5 : W4.cell? ⟨w.heap.size + 1, 0, none⟩ = some (.int .i64 0) := g5.cell 0
                   have f5 := g5.thaw 0
                   clear hw4 g2 g3 hb4 hK2)
      have hX : ReadX w (W4.setCell ⟨w.heap.size + 1, 0, none⟩ (.int .i64 11)) := ⟨g4.far (p := ⟨w.heap.size + 1, 0, none⟩) (by simp) _, g5.put 0 _, hb5.setCell (p := ⟨w.heap.size + 1, 0, none⟩) (by simp) _⟩
      have hK5 : (W4.setCell ⟨w.heap.size + 1, 0, none⟩ (.int .i64 11)).heap[w1.heap.size]? = some (.deferred (some [])) := (Below.heap_setCell _ ⟨w.heap.size + 1, 0, none⟩ _ _ (by simp; omega)).trans hK4
      generalize W4.setCell ⟨w.heap.size + 1, 0, none⟩ (.int .i64 11) = W5 at hX hK5 ⊢
      refine ⟨by simp, .inl ⟨_, _, rfl, run_takeDeferred hK5, ?_⟩⟩
      have hX' := hX.kept (grownBy_putObj' W5 w1.heap.size (.deferred none)) (fun r e => by injection e with e; omega)
      generalize W5.putObj w1.heap.size (.deferred none) = W'' at hX' ⊢
      have c3 : W''.cell? ⟨w.heap.size + 1, 0, none⟩ = some (.int .i64 11) := hX'.r3.cell 0
      have q := run_loadVar_row (P := Tryz.prog) W'' w.heap.size 28 28 _ (0, 0) _ hX'.r2 Tryz.underlying28 rfl (by kernel_rfl)
      have q2 : (loadVar 31 ⟨w.heap.size + 1, 0, none⟩).run Tryz.prog W'' = .ok (.int .i64 11) W'' := by simp [go_sem, c3]
      exact ⟨_, results_cells (p := 2) (u := 3) Tryz.results8 _ _ rfl rfl q q2, .inr ⟨hno, rfl⟩, hX'.below⟩
    | true =>
      have hR : RightIs s := right_is (of_decide_eq_true hr)
      have HT := callsIn_wide (n := 7) |>.2 (textS_yes s hsm W hSW hI.built.lists.rows hI.built.lists.cap hr)
      have heq := eq_bsT (textT (tOf s)) l
      by_cases he : textT (tOf s) = l
      · have htk := right_tok hR
        rw [decide_eq_true he] at heq
        have HE := Lib.hid he
        clear he hR hr
        generalize textT (tOf s) = tx at HT heq
        gi_wp2_with (refine wpListIn_load_box (s := s) rfl (.tmp 4) rfl rfl hb ?_)
        refine ⟨trivial, ?_⟩
        refine HT.mono ?_
        rintro e W2 ⟨rfl, hb2⟩
        have g2 : Row W2 w.heap.size 28 #[.slice sZero.na sZero.nodes.length sZero.nc, .slice sZero.pa sZero.parts.length sZero.pc, .slice sZero.qa sZero.queues.length sZero.qc, .int .i64 sZero.users, .int .i64 sZero.age, .int .i64 sZero.size, .int .i64 sZero.qos, .int .i64 sZero.share, .int .i64 sZero.decay, .int .i64 sZero.mode, .int .i64 sZero.jobs, .int .i64 sZero.ids, .int .i64 sZero.versions, .int .i64 sZero.linger, .int .i64 sZero.keep, .int .i64 sZero.inn, .int .i64 sZero.out, .int .i64 sZero.cache] := hI.r2.on hb2
        have g3 : Row W2 (w.heap.size + 1) 31 #[.int .i64 0] := hI.r3.on hb2
        have hM2 := hI.built.on hb2
        have hbx2 := row_box hM2.row
        have hb4 : Below w.heap.size w W2 := hI.below.trans (hb2.mono hzs)
        have hK2 : W2.heap[w1.heap.size]? = some (.deferred (some [])) := (hb2.block _ hlt).trans hK
        clear HT hb hI hK hb2
        simp only [sZero, List.length_nil] at g2
        gi_wp2_with (first
          | (refine wpListIn_load_box (s := s) rfl (.tmp 4) rfl rfl hbx2 ?_)
          | (refine wpListIn_store_row rfl 28 (.tmp 2) (.tmp 33) rfl w.heap.size _ rfl rfl 28 _ g2 (by kernel_rfl) (by simp) (by simp [Value.oneCell']) ?_
             generalize hw4 : World.setRow _ _ _ = W4
             have g4 : Row W4 w.heap.size 28 #[.slice s.na s.nodes.length s.nc, .slice s.pa s.parts.length s.pc, .slice s.qa s.queues.length s.qc, .int .i64 s.users, .int .i64 s.age, .int .i64 s.size, .int .i64 s.qos, .int .i64 s.share, .int .i64 s.decay, .int .i64 s.mode, .int .i64 s.jobs, .int .i64 s.ids, .int .i64 s.versions, .int .i64 s.linger, .int .i64 s.keep, .int .i64 s.inn, .int .i64 s.out, .int .i64 s.cache] := by rw [← hw4]; exact setRow_heap _ _ _ _ _ _ g2
             have g5 : Row W4 (w.heap.size + 1) 31 #[.int .i64 0] := by rw [← hw4]; exact (setRow_other _ _ _ _ (by omega)).trans g3
             have hb5 : Below w.heap.size w W4 := by rw [← hw4]; exact below_setRowT hb4 (Nat.le_refl _)
             have hK4 : W4.heap[w1.heap.size]? = some (.deferred (some [])) := by rw [← hw4]; exact (setRow_other _ _ _ _ (by omega)).trans hK2
             have hL4 : Lists w1.heap.size W4 s := by rw [← hw4]; exact lists_kept hM2.lists (grown_setRow _ _ _) (fun r e => by injection e with e; exact .inl (by omega))
             have c5 : W4.cell? ⟨w.heap.size + 1, 0, none⟩ = some (.int .i64 0) := g5.cell 0
             have f5 := g5.thaw 0
             clear hw4 g2 g3 hb4 hK2))
        have r2 := g4.far (p := ⟨w.heap.size + 1, 0, none⟩) (by simp) (.int .i64 0)
        have r3 := g5.put 0 (.int .i64 0)
        have rb := hb5.setCell (p := ⟨w.heap.size + 1, 0, none⟩) (by simp) (.int .i64 0)
        have rl := lists_kept hL4 (grownBy_setCell' W4 (w.heap.size + 1) (.int .i64 0)) (fun r e => by injection e with e; exact .inl (by omega))
        have hK5 : (W4.setCell ⟨w.heap.size + 1, 0, none⟩ (.int .i64 0)).heap[w1.heap.size]? = some (.deferred (some [])) := (Below.heap_setCell _ ⟨w.heap.size + 1, 0, none⟩ _ _ (by simp; omega)).trans hK4
        generalize W4.setCell ⟨w.heap.size + 1, 0, none⟩ (.int .i64 0) = W5 at r2 r3 rb rl hK5 ⊢
        refine ⟨by simp, .inl ⟨_, _, rfl, run_takeDeferred hK5, ?_⟩⟩
        have hgp := grownBy_putObj' W5 w1.heap.size (.deferred none)
        have s2 := row_kept r2 hgp (by simp; omega)
        have s3 := row_kept r3 hgp (by simp; omega)
        have sl := lists_kept rl hgp (fun r e => by injection e with e; subst e; exact .inr ⟨_, hK5, rfl⟩)
        have sb : Below w.heap.size w (W5.putObj w1.heap.size (.deferred none)) := rb.grown hgp rb.size (fun k e => by injection e with e; omega)
        generalize W5.putObj w1.heap.size (.deferred none) = W'' at s2 s3 sl sb ⊢
        have c3 : W''.cell? ⟨w.heap.size + 1, 0, none⟩ = some (.int .i64 0) := s3.cell 0
        have q := run_loadVar_row (P := Tryz.prog) W'' w.heap.size 28 28 _ (0, 0) _ s2 Tryz.underlying28 rfl (by kernel_rfl)
        have q2 : (loadVar 31 ⟨w.heap.size + 1, 0, none⟩).run Tryz.prog W'' = .ok (.int .i64 0) W'' := by simp [go_sem, c3]
        exact ⟨_, results_cells (p := 2) (u := 3) Tryz.results8 _ _ rfl rfl q q2, .inl ⟨s, htk, HE.out, rfl, sl.more (by omega)⟩, sb⟩
      · have hno : ∀ t, TOk t → textT t ≠ l := fun t h e => by
          have hp := parse_text h.fine
          rw [e] at hp
          unfold parseS at hp
          rw [hpl] at hp
          injection hp with hp
          exact he (hp ▸ e)
        rw [decide_eq_false he] at heq
        clear he hR hr
        generalize textT (tOf s) = tx at HT heq
        gi_wp2_with (refine wpListIn_load_box (s := s) rfl (.tmp 4) rfl rfl hb ?_)
        refine ⟨trivial, ?_⟩
        refine HT.mono ?_
        rintro e W2 ⟨rfl, hb2⟩
        have g2 : Row W2 w.heap.size 28 #[.slice sZero.na sZero.nodes.length sZero.nc, .slice sZero.pa sZero.parts.length sZero.pc, .slice sZero.qa sZero.queues.length sZero.qc, .int .i64 sZero.users, .int .i64 sZero.age, .int .i64 sZero.size, .int .i64 sZero.qos, .int .i64 sZero.share, .int .i64 sZero.decay, .int .i64 sZero.mode, .int .i64 sZero.jobs, .int .i64 sZero.ids, .int .i64 sZero.versions, .int .i64 sZero.linger, .int .i64 sZero.keep, .int .i64 sZero.inn, .int .i64 sZero.out, .int .i64 sZero.cache] := hI.r2.on hb2
        have g3 : Row W2 (w.heap.size + 1) 31 #[.int .i64 0] := hI.r3.on hb2
        have hb4 : Below w.heap.size w W2 := hI.below.trans (hb2.mono hzs)
        have hK2 : W2.heap[w1.heap.size]? = some (.deferred (some [])) := (hb2.block _ hlt).trans hK
        clear HT hb hI hK hb2
        simp only [sZero, List.length_nil] at g2
        gi_wp2_with (refine wpListIn_store_row rfl 28 (.tmp 2) (.tmp 32) rfl w.heap.size _ rfl rfl 28 _ g2 (by kernel_rfl) (by simp) (by simp [Value.oneCell']) ?_
                     generalize hw4 : World.setRow _ _ _ = W4
                     have g4 : Row W4 w.heap.size 28 #[.slice sZero.na sZero.nodes.length sZero.nc, .slice sZero.pa sZero.parts.length sZero.pc, .slice sZero.qa sZero.queues.length sZero.qc, .int .i64 sZero.users, .int .i64 sZero.age, .int .i64 sZero.size, .int .i64 sZero.qos, .int .i64 sZero.share, .int .i64 sZero.decay, .int .i64 sZero.mode, .int .i64 sZero.jobs, .int .i64 sZero.ids, .int .i64 sZero.versions, .int .i64 sZero.linger, .int .i64 sZero.keep, .int .i64 sZero.inn, .int .i64 sZero.out, .int .i64 sZero.cache] := by rw [← hw4]; exact setRow_heap _ _ _ _ _ _ g2
                     have g5 : Row W4 (w.heap.size + 1) 31 #[.int .i64 0] := by rw [← hw4]; exact (setRow_other _ _ _ _ (by omega)).trans g3
                     have hb5 : Below w.heap.size w W4 := by rw [← hw4]; exact below_setRowT hb4 (Nat.le_refl _)
                     have hK4 : W4.heap[w1.heap.size]? = some (.deferred (some [])) := by rw [← hw4]; exact (setRow_other _ _ _ _ (by omega)).trans hK2
                     have c5 : W4.cell? ⟨w.heap.size + 1, 0, none⟩ = some (.int .i64 0) := g5.cell 0
                     have f5 := g5.thaw 0
                     clear hw4 g2 g3 hb4 hK2)
        have hX : ReadX w (W4.setCell ⟨w.heap.size + 1, 0, none⟩ (.int .i64 11)) := ⟨g4.far (p := ⟨w.heap.size + 1, 0, none⟩) (by simp) _, g5.put 0 _, hb5.setCell (p := ⟨w.heap.size + 1, 0, none⟩) (by simp) _⟩
        have hK5 : (W4.setCell ⟨w.heap.size + 1, 0, none⟩ (.int .i64 11)).heap[w1.heap.size]? = some (.deferred (some [])) := (Below.heap_setCell _ ⟨w.heap.size + 1, 0, none⟩ _ _ (by simp; omega)).trans hK4
        generalize W4.setCell ⟨w.heap.size + 1, 0, none⟩ (.int .i64 11) = W5 at hX hK5 ⊢
        refine ⟨by simp, .inl ⟨_, _, rfl, run_takeDeferred hK5, ?_⟩⟩
        have hX' := hX.kept (grownBy_putObj' W5 w1.heap.size (.deferred none)) (fun r e => by injection e with e; omega)
        generalize W5.putObj w1.heap.size (.deferred none) = W'' at hX' ⊢
        have c3 : W''.cell? ⟨w.heap.size + 1, 0, none⟩ = some (.int .i64 11) := hX'.r3.cell 0
        have q := run_loadVar_row (P := Tryz.prog) W'' w.heap.size 28 28 _ (0, 0) _ hX'.r2 Tryz.underlying28 rfl (by kernel_rfl)
        have q2 : (loadVar 31 ⟨w.heap.size + 1, 0, none⟩).run Tryz.prog W'' = .ok (.int .i64 11) W'' := by simp [go_sem, c3]
        exact ⟨_, results_cells (p := 2) (u := 3) Tryz.results8 _ _ rfl rfl q q2, .inr ⟨hno, rfl⟩, hX'.below⟩
  case stop =>
    rintro xs W _ ⟨ha, hX⟩ hK
    gi_wp2
    refine ⟨by simp, .inl ⟨_, _, rfl, run_takeDeferred hK, ?_⟩⟩
    have hX' := hX.kept (grownBy_putObj' W w1.heap.size (.deferred none)) (fun r e => by injection e with e; omega)
    generalize W.putObj w1.heap.size (.deferred none) = W'' at hX' ⊢
    have c3 : W''.cell? ⟨w.heap.size + 1, 0, none⟩ = some (.int .i64 11) := hX'.r3.cell 0
    have q := run_loadVar_row (P := Tryz.prog) W'' w.heap.size 28 28 _ (0, 0) _ hX'.r2 Tryz.underlying28 rfl (by kernel_rfl)
    have q2 : (loadVar 31 ⟨w.heap.size + 1, 0, none⟩).run Tryz.prog W'' = .ok (.int .i64 11) W'' := by simp [go_sem, c3]
    refine ⟨_, results_cells (p := 2) (u := 3) Tryz.results8 _ _ rfl rfl q q2, .inr ⟨fun t h e => ?_, rfl⟩, hX'.below⟩
    have hp := parse_text h.fine
    rw [e] at hp
    unfold parseS at hp
    rw [ha] at hp
    cases hp
end Go.Proofs.YtgopjpnlpcmldaaGreatDoor.W


/-
  Contracts of the document's nums (numbers, each with a blank ahead) and of its comparison of two lists of numbers.
-/
namespace Go.Proofs.YtgopjpnlpcmldaaGreatDoor.W
set_option linter.unusedVariables false
set_option linter.unusedSimpArgs false
open Go.ChangeShapes Go.WideShapes Go.ChangeAt Go.RowKit

def numsT : List Int → List UInt8
  | [] => []
  | n :: r => 32 :: decI n ++ numsT r
theorem numsT_app : ∀ (a b : List Int), numsT (a ++ b) = numsT a ++ numsT b
  | [], b => rfl
  | n :: r, b => by simp [numsT, numsT_app r b]
theorem numsT_join : ∀ (l : List Int), l ≠ [] → numsT l = 32 :: joinN l
  | [], h => absurd rfl h
  | n :: r, _ => by
    unfold numsT joinN
    by_cases hr : r = []
    · subst hr; simp [numsT]
    · rw [if_neg hr, numsT_join r hr]; simp
theorem decI_len7 {n : Int} (h : Num n) : (decI n).length ≤ 7 := by
  unfold decI
  rw [if_neg (by have := h.1; omega)]
  exact dec_len 6 n.toNat (by have h1 := h.2; have h0 := h.1; omega)
theorem numsT_len : ∀ (l : List Int), (∀ n ∈ l, Num n) → (numsT l).length ≤ l.length * 8
  | [], _ => Nat.zero_le _
  | n :: r, h => by
    have h1 := decI_len7 (h n (by simp))
    have h2 := numsT_len r (fun m hm => h m (by simp [hm]))
    simp only [numsT, List.length_cons, List.length_append]
    omega
set_option maxHeartbeats 2000000 in
theorem rNums (a : Option Addr) (cap : Nat) (l : List Int) (hl : l.length ≤ 1000) (hn : ∀ n ∈ l, Num n) (w : World) (hA : RowAt w a (vals l)) :
    Calls Tryz.prog 23 #[.slice a l.length cap] w fun e w' => e = .returned (.string (bs (numsT l))) ∧ Below w.heap.size w w' := by
  have HA := Lib.hid hA
  have HN := Lib.hid hn
  clear hA hn
  go_enter Tryz.func23, Tryz.ntmps23
  go_wp2
  go_loopw [3, 4] (fun s x wr => ∃ k : Nat, k ≤ l.length ∧ x = .int .i64 (k : Int) ∧ s = .string (bs (numsT (l.take k))) ∧ Below w.heap.size w wr) (fun _ x _ => l.length - (intOf x).toNat)
  case atStart => exact ⟨0, Nat.zero_le _, rfl, rfl, Below.refl _ _⟩
  case round =>
    obtain ⟨k, hk, rfl, rfl, hb⟩ := hrel
    by_cases hlt : k < l.length
    · obtain ⟨b, off, ea, hbl, qc⟩ := (HA.out.later hb).row (by rw [vals_len]; omega)
      have qk := qc k _ (vals_at l k hlt)
      have hnk : Num l[k] := HN.out _ (List.getElem_mem hlt)
      have HX : Hid (numsT (l.take (k + 1)) = (numsT (l.take k) ++ [32]) ++ decI l[k]) := Lib.hid (by rw [List.take_succ_eq_append_getElem hlt, numsT_app]; simp [numsT])
      have hlen : (numsT (l.take k)).length ≤ 8000 := by
        have := numsT_len (l.take k) (fun n hn => HN.out n (List.mem_of_mem_take hn))
        have h2 : (l.take k).length ≤ l.length := by rw [List.length_take]; omega
        omega
      have hdl := decI_len7 hnk
      subst ea
      clear qc
      generalize l[k] = x at qk HX hnk hdl
      obtain ⟨n0, rfl⟩ : ∃ n0 : Nat, x = (n0 : Int) := ⟨x.toNat, by have := hnk.1; omega⟩
      have hn0 : n0 ≤ 1048576 := by have := hnk.2; omega
      have HD := Lib.hid (fun w' => digits n0 hn0 w')
      have hde : decI (n0 : Int) = Lib.decDigits n0 := by unfold decI; rw [if_neg (by omega)]; simp
      rw [hde] at HX hdl
      generalize Lib.decDigits n0 = d at HX HD hdl
      generalize numsT (l.take k) = s at HX hlen
      have hadd1 : ∀ w' : World, _ := fun w' => add_bs w' s [32] (by simp; omega)
      have hadd2 : ∀ w' : World, _ := fun w' => add_bs w' (s ++ [32]) d (by simp; omega)
      have HX := HX
      generalize hs1 : s ++ [32] = s1 at hadd1 hadd2 HX
      generalize hs2 : s1 ++ d = s2 at hadd2 HX
      clear hnk hde hs1 hs2
      have hb32 : (⟨#[32]⟩ : ByteArray) = bs [32] := rfl
      go_wp2_with fail
      refine (HD.out _).mono ?_; rintro e w2 ⟨rfl, hb2⟩
      go_wp2
      go_roundw
      case rel => exact ⟨k + 1, by omega, by go_num, by rw [HX.out], hb.trans (hb2.mono hb.size)⟩
      case measure => simp [intOf]; omega
    · have hkl : k = l.length := by omega
      subst hkl
      rw [List.take_length]
      go_wp2
      go_ret
      exact ⟨rfl, hb⟩
set_option maxHeartbeats 1000000 in
theorem rInts (a b : Option Addr) (ca cb : Nat) (l : List Int) (hl : l.length ≤ 100000) (w : World) (ha : RowAt w a (vals l)) (hb : RowAt w b (vals l)) :
    Calls Tryz.prog 24 #[.slice a l.length ca, .slice b l.length cb] w fun e w' => e = .returned (.bool true) ∧ Below w.heap.size w w' := by
  have HA := Lib.hid ha
  have HB := Lib.hid hb
  clear ha hb
  go_enter Tryz.func24, Tryz.ntmps24
  go_wp2
  go_loopw [5] (fun i wr => ∃ k : Nat, k ≤ l.length ∧ i = .int .i64 (k : Int) ∧ Below w.heap.size w wr) (fun i _ => l.length - (intOf i).toNat)
  case atStart => exact ⟨0, Nat.zero_le _, rfl, Below.refl _ _⟩
  case round =>
    obtain ⟨k, hk, rfl, hbw⟩ := hrel
    by_cases hlt : k < l.length
    · obtain ⟨b1, o1, e1, _, c1⟩ := (HA.out.later hbw).row (by rw [vals_len]; omega)
      obtain ⟨b2, o2, e2, _, d1⟩ := (HB.out.later hbw).row (by rw [vals_len]; omega)
      have c2 := c1 k _ (vals_at l k hlt)
      have d2 := d1 k _ (vals_at l k hlt)
      subst e1
      subst e2
      clear c1 d1
      generalize l[k] = x at c2 d2
      go_wp2_with fail
      go_quiet (fail)
      go_wp2
      go_roundw
      case rel => exact ⟨k + 1, by omega, by go_num, below_drewN hbw _⟩
      case measure => simp [intOf]; omega
    · have hkl : k = l.length := by omega
      subst hkl
      go_wp2
      go_ret
      exact ⟨rfl, hbw⟩
end Go.Proofs.YtgopjpnlpcmldaaGreatDoor.W
