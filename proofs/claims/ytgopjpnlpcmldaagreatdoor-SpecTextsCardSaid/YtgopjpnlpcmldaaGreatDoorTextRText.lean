/-
  The document's Text of a right set-up.
-/
import Derived.Test.YtgopjpnlpcmldaaGreatDoorJ38
import Derived.Test.YtgopjpnlpcmldaaGreatDoorJ42
import Derived.Test.YtgopjpnlpcmldaaGreatDoorTextRSame
import Derived.Test.YtgopjpnlpcmldaaGreatDoorUnitsRText
namespace Go.Proofs.YtgopjpnlpcmldaaGreatDoor.W
set_option linter.unusedVariables false
set_option linter.unusedSimpArgs false
open Go.ChangeShapes Go.WideShapes Go.ChangeAt Go.RowKit

/-- the numbers of the last eight lines -/
def lastN (s : S) : Nat → Int
  | 0 => s.jobs
  | 1 => s.ids
  | 2 => s.versions
  | 3 => s.linger
  | 4 => s.keep
  | 5 => s.inn
  | 6 => s.out
  | _ => s.cache
/-- the text so far: when so many kinds are written, and of one more so many -/
structure TextX (s : S) (X : Nat → Nat → List UInt8) : Prop where
  len : ∀ k i, k < 15 → (X k i).length ≤ 2048
  zero : X 0 0 = []
  nodes : ∀ i (h : i < s.nodes.length), X 0 (i + 1) = X 0 i ++ ([110, 111, 100, 101, 32] ++ utext s.nodes[i].ns ++ [10])
  e0 : X 0 s.nodes.length = X 1 0
  parts : ∀ i (h : i < s.parts.length), X 1 (i + 1) = X 1 i ++ ([112, 97, 114, 116] ++ numsT s.parts[i].l ++ [10])
  e1 : X 1 s.parts.length = X 2 0
  users : X 3 0 = X 2 0 ++ ([117, 115, 101, 114, 115] ++ numsT [s.users] ++ [10])
  queues : ∀ i (h : i < s.queues.length), X 3 (i + 1) = X 3 i ++ ([113, 117, 101, 117, 101] ++ (numsT [s.queues[i].part, s.queues[i].mj, s.queues[i].mr, s.queues[i].mu, s.queues[i].qos] ++ numsT s.queues[i].users.l) ++ [10])
  e3 : X 3 s.queues.length = X 4 0
  weights : X 5 0 = X 4 0 ++ ([119, 101, 105, 103, 104, 116, 115] ++ numsT [s.age, s.size, s.qos, s.share] ++ [10])
  decay : X 6 0 = X 5 0 ++ ([100, 101, 99, 97, 121] ++ numsT [s.decay] ++ [10])
  easy : s.mode = 1 → X 7 0 = X 6 0 ++ [109, 111, 100, 101, 32, 101, 97, 115, 121, 10]
  cons : s.mode = 2 → X 7 0 = X 6 0 ++ [109, 111, 100, 101, 32, 99, 111, 110, 115, 101, 114, 118, 97, 116, 105, 118, 101, 10]
  last : ∀ j, j < 8 → X (7 + (j + 1)) 0 = X (7 + j) 0 ++ (kindW (7 + j) ++ numsT [lastN s j] ++ [10])
  llen : ∀ j, j < 8 → (X (7 + (j + 1)) 0).length ≤ 2048
theorem textX (s : S) (h : RightIs s) : ∃ X, TextX s X ∧ X 15 0 = textT (tOf s) := by
  have hT := right_tok h
  have next : ∀ k i (hi : i < (sayS (tOf s) k).length), textOf (partTo (tOf s) k (i + 1)) = textOf (partTo (tOf s) k i) ++ (kindW k ++ [32] ++ (sayS (tOf s) k)[i] ++ [10]) := fun k i hi => partTo_text _ k i hi
  have fin : ∀ k, textOf (partTo (tOf s) k (sayS (tOf s) k).length) = textOf (partTo (tOf s) (k + 1) 0) := fun k => by rw [partTo_all, partTo_zero]
  have one : ∀ k (x : List UInt8), sayS (tOf s) k = [x] → textOf (partTo (tOf s) (k + 1) 0) = textOf (partTo (tOf s) k 0) ++ (kindW k ++ [32] ++ x ++ [10]) := fun k x e => by
    have h1 := next k 0 (by rw [e]; simp)
    have h2 := fin k
    rw [e] at h2
    simp only [List.length_cons, List.length_nil] at h2
    rw [← h2, h1]
    simp [e]
  have nj : ∀ (A : List UInt8) (l : List Int), l ≠ [] → A ++ [32] ++ joinN l ++ [10] = A ++ numsT l ++ [10] := fun A l e => by rw [numsT_join l e]; simp
  have len : ∀ k i, k < 15 → (textOf (partTo (tOf s) k i)).length ≤ 2048 := fun k i hk => Nat.le_trans (textOf_le (partTo_pre _ hk)) (text_len hT)
  have fin15 : textOf (partTo (tOf s) 15 0) = textT (tOf s) := by rw [partTo_zero, linesTo_all]; rfl
  have last : ∀ j, j < 8 → textOf (partTo (tOf s) (7 + (j + 1)) 0) = textOf (partTo (tOf s) (7 + j) 0) ++ (kindW (7 + j) ++ numsT [lastN s j] ++ [10]) := fun j hj => by
    rw [← nj _ _ (by simp)]
    match j, hj with
    | 0, _ | 1, _ | 2, _ | 3, _ | 4, _ | 5, _ | 6, _ | 7, _ => exact one _ _ rfl
    | n + 8, h => omega
  refine ⟨fun k i => textOf (partTo (tOf s) k i), { len := len, zero := rfl, nodes := fun i hi => ?_, e0 := ?_, parts := fun i hi => ?_, e1 := ?_, users := ?_, queues := fun i hi => ?_, e3 := ?_, weights := ?_, decay := ?_, easy := fun hm => ?_, cons := fun hm => ?_, last := last, llen := fun j hj => ?_ }, fin15⟩
  · have h1 := next 0 i (by simpa [sayS, tOf] using hi)
    rw [h1]
    simp [sayS, tOf, kindW, vtext, vnums, V.ns]
  · have := fin 0
    simpa [sayS, tOf] using this
  · have h1 := next 1 i (by simpa [sayS, tOf] using hi)
    rw [h1, show (sayS (tOf s) 1)[i]'(by simpa [sayS, tOf] using hi) = joinN s.parts[i].l by simp [sayS, tOf], nj _ _ (h.parts.2 _ (List.getElem_mem hi)).1]
    rfl
  · have := fin 1
    simpa [sayS, tOf] using this
  · rw [← nj _ _ (by simp)]
    exact one 2 _ rfl
  · have h1 := next 3 i (by simpa [sayS, tOf] using hi)
    rw [h1, show (sayS (tOf s) 3)[i]'(by simpa [sayS, tOf] using hi) = joinN ([s.queues[i].part, s.queues[i].mj, s.queues[i].mr, s.queues[i].mu, s.queues[i].qos] ++ s.queues[i].users.l) by simp [sayS, tOf, qnums, qOf], nj _ _ (by simp), numsT_app]
    rfl
  · have := fin 3
    simpa [sayS, tOf] using this
  · rw [← nj _ _ (by simp)]
    exact one 4 _ rfl
  · rw [← nj _ _ (by simp)]
    exact one 5 _ rfl
  · have := one 6 kEasy (by simp [sayS, tOf, hm])
    rw [this]
    rfl
  · have := one 6 kCons (by simp [sayS, tOf, hm])
    rw [this]
    rfl
  · by_cases e : j = 7
    · subst e
      show (textOf (partTo (tOf s) 15 0)).length ≤ 2048
      rw [fin15]
      exact text_len hT
    · exact len _ _ (by omega)
/-- a line's four sums of texts -/
theorem line_adds {x A N y : List UInt8} (h : y = x ++ (A ++ N ++ [10])) (hy : y.length ≤ 2048) : ∃ x1 x2, (∀ W, (Op.stringOp .add (bs x) (bs A)).run Tryz.prog W = .ok (.string (bs x1)) W) ∧
    (∀ W, (Op.stringOp .add (bs x1) (bs N)).run Tryz.prog W = .ok (.string (bs x2)) W) ∧ (∀ W, (Op.stringOp .add (bs x2) (bs [10])).run Tryz.prog W = .ok (.string (bs y)) W) := by
  subst h
  simp only [List.length_append, List.length_cons, List.length_nil] at hy
  refine ⟨x ++ A, x ++ A ++ N, fun W => add_bs W x A (by omega), fun W => add_bs W (x ++ A) N (by simp; omega), fun W => ?_⟩
  rw [add_bs W (x ++ A ++ N) [10] (by simp; omega)]
  simp
theorem line_adds2 {x A N N2 y : List UInt8} (h : y = x ++ (A ++ (N ++ N2) ++ [10])) (hy : y.length ≤ 2048) : ∃ x1 x2 x3, (∀ W, (Op.stringOp .add (bs x) (bs A)).run Tryz.prog W = .ok (.string (bs x1)) W) ∧
    (∀ W, (Op.stringOp .add (bs x1) (bs N)).run Tryz.prog W = .ok (.string (bs x2)) W) ∧ (∀ W, (Op.stringOp .add (bs x2) (bs N2)).run Tryz.prog W = .ok (.string (bs x3)) W) ∧ (∀ W, (Op.stringOp .add (bs x3) (bs [10])).run Tryz.prog W = .ok (.string (bs y)) W) := by
  subst h
  simp only [List.length_append, List.length_cons, List.length_nil] at hy
  refine ⟨x ++ A, x ++ A ++ N, x ++ A ++ N ++ N2, fun W => add_bs W x A (by omega), fun W => add_bs W (x ++ A) N (by simp; omega), fun W => add_bs W (x ++ A ++ N) N2 (by simp; omega), fun W => ?_⟩
  rw [add_bs W (x ++ A ++ N ++ N2) [10] (by simp; omega)]
  simp
theorem RowAt.one {w : World} {g k : Nat} {L : List Int} {v : Int} (h : RowAt w (some ⟨g, 0, none⟩) (vals L)) (hk : L[k]? = some v) : RowAt w (some ⟨g, k, none⟩) (vals [v]) := by
  obtain ⟨b, off, e, hl, hc⟩ := h.row (by rw [vals_len]; have := (List.getElem?_eq_some_iff.1 hk).1; omega)
  injection e with e
  injection e with e1 e2
  subst e1 e2
  refine .inr ⟨g, k, rfl, hl, fun i u hu => ?_⟩
  match i, hu with
  | 0, hu =>
    have h1 := hc k (.int .i64 v) (by simp [vals, hk])
    rw [Nat.zero_add] at h1
    simp [vals] at hu
    subst hu
    exact h1
  | n + 1, hu => simp [vals] at hu
theorem cut_eight (g k : Nat) (hk : k < 8) (W : World) : (Instr.slice 43 (.slice (some ⟨g, 0, none⟩) 8 8) (some (.int .i64 (k : Int))) (some (.int .i64 ((k : Int) + 1))) none).run Tryz.prog W = .ok (.slice (some ⟨g, k, none⟩) 1 (8 - k)) W := by
  have : k = 0 ∨ k = 1 ∨ k = 2 ∨ k = 3 ∨ k = 4 ∨ k = 5 ∨ k = 6 ∨ k = 7 := by omega
  rcases this with h | h | h | h | h | h | h | h
  all_goals (subst h; show _ = _; kernel_rfl)
theorem last_at (s : S) (k : Nat) (hk : k < 8) : [s.jobs, s.ids, s.versions, s.linger, s.keep, s.inn, s.out, s.cache][k]? = some (lastN s k) := by
  match k, hk with
  | 0, _ | 1, _ | 2, _ | 3, _ | 4, _ | 5, _ | 6, _ | 7, _ => rfl
  | n + 8, h => omega
theorem last_num (s : S) (k : Nat) (hk : k < 8) (h : ∀ n ∈ [s.users, s.age, s.size, s.qos, s.share, s.decay, s.jobs, s.ids, s.versions, s.linger, s.keep, s.inn, s.out, s.cache], Num n) : Num (lastN s k) := by
  have := List.mem_of_getElem? (last_at s k hk)
  exact h _ (by simp at this ⊢; rcases this with h | h | h | h | h | h | h | h <;> simp [h])
theorem line_add {x A y : List UInt8} (h : y = x ++ A) (hy : y.length ≤ 2048) (W : World) : (Op.stringOp .add (bs x) (bs A)).run Tryz.prog W = .ok (.string (bs y)) W := by
  subst h
  simp only [List.length_append] at hy
  exact add_bs W x A (by omega)
def txSpQ (g : Nat) (x1 x2 x3 n1 n2 x y : List UInt8) (qp qj qr qm qq : Int) (ua : Option Addr) (un uc : Nat) : List Sp :=
  [Sp.cl (.string (bs x)) [] [20],
   Sp.c (.string (bs x1)) [0],
   Sp.c (.pointer (some ⟨g, 0, none⟩)) [],
   Sp.c (.int .i64 qp) [2],
   Sp.c (.pointer (some ⟨g, 2, none⟩)) [],
   Sp.c (.int .i64 qj) [4],
   Sp.c (.pointer (some ⟨g, 3, none⟩)) [],
   Sp.c (.int .i64 qr) [6],
   Sp.c (.pointer (some ⟨g, 4, none⟩)) [],
   Sp.c (.int .i64 qm) [8],
   Sp.c (.pointer (some ⟨g, 5, none⟩)) [],
   Sp.c (.int .i64 qq) [10],
   Sp.m true (fun v z => ∃ y1, v = .slice (some ⟨y1, 0, none⟩) 5 5 ∧ RowAt z (some ⟨y1, 0, none⟩) (vals [qp, qj, qr, qm, qq])) [3, 5, 7, 9, 11],
   Sp.c (.string (bs n1)) [12],
   Sp.c (.string (bs x2)) [1, 13],
   Sp.c (.pointer (some ⟨g, 1, none⟩)) [],
   Sp.c (.slice ua un uc) [15],
   Sp.c (.string (bs n2)) [16],
   Sp.c (.string (bs x3)) [14, 17],
   Sp.c (.string (bs y)) [18],
   Sp.c (.string (bs y)) [19]]
def txSpW (g h : Nat) (x1 x2 x3 x4 x5 n1 n2 x y : List UInt8) (wa wb wc wd de : Int) : List Sp :=
  [Sp.cl (.string (bs x)) [] [21],
   Sp.c (.string (bs x1)) [0],
   Sp.c (.pointer (some ⟨h, 0, none⟩)) [],
   Sp.c (.int .i64 wa) [2],
   Sp.c (.pointer (some ⟨h, 1, none⟩)) [],
   Sp.c (.int .i64 wb) [4],
   Sp.c (.pointer (some ⟨h, 2, none⟩)) [],
   Sp.c (.int .i64 wc) [6],
   Sp.c (.pointer (some ⟨h, 3, none⟩)) [],
   Sp.c (.int .i64 wd) [8],
   Sp.m true (fun v z => ∃ y1, v = .slice (some ⟨y1, 0, none⟩) 4 4 ∧ RowAt z (some ⟨y1, 0, none⟩) (vals [wa, wb, wc, wd])) [3, 5, 7, 9],
   Sp.c (.string (bs n1)) [10],
   Sp.c (.string (bs x2)) [1, 11],
   Sp.c (.string (bs x3)) [12],
   Sp.c (.string (bs x4)) [13],
   Sp.c (.pointer (some ⟨g, 8, none⟩)) [],
   Sp.c (.int .i64 de) [15],
   Sp.m true (fun v z => ∃ y1, v = .slice (some ⟨y1, 0, none⟩) 1 1 ∧ RowAt z (some ⟨y1, 0, none⟩) (vals [de])) [16],
   Sp.c (.string (bs n2)) [17],
   Sp.c (.string (bs x5)) [14, 18],
   Sp.c (.string (bs y)) [19],
   Sp.c (.string (bs y)) [20]]
def txSpN (g h k : Nat) (a x1 x2 n1 x y : List UInt8) : List Sp :=
  [Sp.cl (.string (bs x)) [] [14],
   Sp.c (.slice (some ⟨g, 0, none⟩) 8 8) [],
   Sp.c (.int .i64 k) [],
   Sp.c (.pointer (some ⟨g, k, none⟩)) [1, 2],
   Sp.c (.string (bs a)) [3],
   Sp.c (.string (bs x1)) [0, 4],
   Sp.c (.slice (some ⟨h, 0, none⟩) 8 8) [],
   Sp.c (.int .i64 k) [],
   Sp.c (.int .i64 k) [],
   Sp.c (.int .i64 ((k : Int) + 1)) [8],
   Sp.c (.slice (some ⟨h, k, none⟩) 1 (8 - k)) [6, 7, 9],
   Sp.c (.string (bs n1)) [10],
   Sp.c (.string (bs x2)) [5, 11],
   Sp.c (.string (bs y)) [12],
   Sp.c (.string (bs y)) [13]]
set_option maxHeartbeats 4000000 in
set_option maxRecDepth 100000 in
theorem rText7 (s : S) (na pa qa : Option Addr) (e1 : s.na = na) (e3 : s.pa = pa) (e5 : s.qa = qa) (h : RightIs s) (w : World) (ha : Rows w s) :
    Calls Tryz.prog 9 #[.agg #[.slice s.na s.nodes.length s.nc, .slice s.pa s.parts.length s.pc, .slice s.qa s.queues.length s.qc, .int .i64 s.users, .int .i64 s.age, .int .i64 s.size, .int .i64 s.qos, .int .i64 s.share, .int .i64 s.decay, .int .i64 s.mode, .int .i64 s.jobs, .int .i64 s.ids, .int .i64 s.versions, .int .i64 s.linger, .int .i64 s.keep, .int .i64 s.inn, .int .i64 s.out, .int .i64 s.cache]] w fun e w' => e = .returned (.string (bs (textT (tOf s)))) ∧ Below w.heap.size w w' := by
  obtain ⟨X, hX, hend⟩ := textX s h
  rw [e1, e3, e5, ← hend]
  have hF : Fine (tOf s) := (right_tok h).fine
  have hn16 := h.nodes.1.2
  have hp8 := h.parts.1.2
  have hq8 := h.queues.1.2
  have HOK := Lib.hid h.nodes.2
  have HPN := Lib.hid (fun (p : Sl) (hp : p ∈ s.parts) => (⟨by have := rise_len (h.parts.2 p hp).2; omega, (hF.parts p.l (by simp only [tOf]; exact List.mem_map_of_mem hp)).2⟩ : p.l.length ≤ 1000 ∧ ∀ n ∈ p.l, Num n))
  have HQN := Lib.hid (fun (q : QR) (hq : q ∈ s.queues) => (⟨by have := rise_len (h.queues.2 q hq).2.1; have := h.users; omega, hF.queues (qOf q) (by simp only [tOf]; exact List.mem_map_of_mem hq)⟩ : q.users.l.length ≤ 1000 ∧ ∀ n ∈ qnums (qOf q), Num n))
  have HNU := Lib.hid hF.nums
  have HMO := Lib.hid h.mode
  have HT := Lib.hid hX
  have HA := Lib.hid ha
  have E1 := Lib.hid e1
  have E3 := Lib.hid e3
  have E5 := Lib.hid e5
  have hb0 : (⟨#[]⟩ : ByteArray) = bs [] := rfl
  have HZ := Lib.hid hX.zero
  clear e1 e3 e5 h ha hF hX hend
  go_enter Tryz.func9, Tryz.ntmps9
  go_wp2
  generalize hw0 : World.alloc w _ = w0
  have hb0' : Below w.heap.size w w0 := by rw [← hw0]; exact (by repeat' (first | exact Below.refl _ _ | assumption | exact And.left (by assumption) | refine Below.drew ?_ | refine below_drewN ?_ _ | refine Below.setCell ?_ (by first | (simp; done) | (simp; omega) | omega) _ | refine Below.alloc ?_ (by first | (simp; done) | (simp; omega) | omega) _ | refine after (by assumption) (by first | (simp; done) | (simp; omega) | omega) ?_))
  have c0 : w0.cell? ⟨w.heap.size, 0, none⟩ = some (.slice na s.nodes.length s.nc) := by rw [← hw0]; simp [go_sem]
  have c1 : w0.cell? ⟨w.heap.size, 1, none⟩ = some (.slice pa s.parts.length s.pc) := by rw [← hw0]; simp [go_sem]
  have c2 : w0.cell? ⟨w.heap.size, 2, none⟩ = some (.slice qa s.queues.length s.qc) := by rw [← hw0]; simp [go_sem]
  have c3 : w0.cell? ⟨w.heap.size, 3, none⟩ = some (.int .i64 s.users) := by rw [← hw0]; simp [go_sem]
  have c4 : w0.cell? ⟨w.heap.size, 4, none⟩ = some (.int .i64 s.age) := by rw [← hw0]; simp [go_sem]
  have c5 : w0.cell? ⟨w.heap.size, 5, none⟩ = some (.int .i64 s.size) := by rw [← hw0]; simp [go_sem]
  have c6 : w0.cell? ⟨w.heap.size, 6, none⟩ = some (.int .i64 s.qos) := by rw [← hw0]; simp [go_sem]
  have c7 : w0.cell? ⟨w.heap.size, 7, none⟩ = some (.int .i64 s.share) := by rw [← hw0]; simp [go_sem]
  have c8 : w0.cell? ⟨w.heap.size, 8, none⟩ = some (.int .i64 s.decay) := by rw [← hw0]; simp [go_sem]
  have c9 : w0.cell? ⟨w.heap.size, 9, none⟩ = some (.int .i64 s.mode) := by rw [← hw0]; simp [go_sem]
  have c10 : w0.cell? ⟨w.heap.size, 10, none⟩ = some (.int .i64 s.jobs) := by rw [← hw0]; simp [go_sem]
  have c11 : w0.cell? ⟨w.heap.size, 11, none⟩ = some (.int .i64 s.ids) := by rw [← hw0]; simp [go_sem]
  have c12 : w0.cell? ⟨w.heap.size, 12, none⟩ = some (.int .i64 s.versions) := by rw [← hw0]; simp [go_sem]
  have c13 : w0.cell? ⟨w.heap.size, 13, none⟩ = some (.int .i64 s.linger) := by rw [← hw0]; simp [go_sem]
  have c14 : w0.cell? ⟨w.heap.size, 14, none⟩ = some (.int .i64 s.keep) := by rw [← hw0]; simp [go_sem]
  have c15 : w0.cell? ⟨w.heap.size, 15, none⟩ = some (.int .i64 s.inn) := by rw [← hw0]; simp [go_sem]
  have c16 : w0.cell? ⟨w.heap.size, 16, none⟩ = some (.int .i64 s.out) := by rw [← hw0]; simp [go_sem]
  have c17 : w0.cell? ⟨w.heap.size, 17, none⟩ = some (.int .i64 s.cache) := by rw [← hw0]; simp [go_sem]
  have hz0 := hb0'.size
  clear hw0 hb0
  go_loopw [3, 4] (fun t x wr => ∃ k : Nat, k ≤ s.nodes.length ∧ x = .int .i64 (k : Int) ∧ t = .string (bs (X 0 k)) ∧ Below w0.heap.size w0 wr) (fun _ x _ => s.nodes.length - (intOf x).toNat)
  case atStart => exact ⟨0, Nat.zero_le _, rfl, by rw [HZ.out]; rfl, Below.refl _ _⟩
  case round =>
    obtain ⟨k, hk, rfl, rfl, hbw⟩ := hrel
    have hb : Below w.heap.size w wr := hb0'.trans (hbw.mono hz0)
    have f0 := carry hbw c0
    by_cases hlt : k < s.nodes.length
    · obtain ⟨b1, o1, ea, _, x0, x1, x2, x3⟩ := (HA.out.later hb).node hlt
      rw [E1.out] at ea
      subst ea
      obtain ⟨t1, t2, a1, a2, a3⟩ := line_adds (HT.out.nodes k hlt) (HT.out.len 0 (k + 1) (by omega))
      have hok := HOK.out _ (List.getElem_mem hlt)
      generalize s.nodes[k] = v at x0 x1 x2 x3 a2 hok
      have HU := Lib.hid (fun w' => rText v hok w')
      have hbN : (⟨#[110, 111, 100, 101, 32]⟩ : ByteArray) = bs [110, 111, 100, 101, 32] := rfl
      have hb10 : (⟨#[10]⟩ : ByteArray) = bs [10] := rfl
      clear hok
      go_wp2_with fail
      refine (HU.out _).mono ?_
      rintro e w2 ⟨rfl, hb2⟩
      go_wp2
      go_roundw
      case rel => exact ⟨k + 1, by omega, by go_num, rfl, hbw.trans (hb2.mono hbw.size)⟩
      case measure => simp [intOf]; omega
    · have hkl : k = s.nodes.length := by omega
      subst hkl
      rw [HT.out.e0]
      clear hlt hk
      go_wp2
      rename World => w1
      go_loopw [3, 5] (fun t x wr => ∃ k : Nat, k ≤ s.parts.length ∧ x = .int .i64 (k : Int) ∧ t = .string (bs (X 1 k)) ∧ Below w0.heap.size w0 wr) (fun _ x _ => s.parts.length - (intOf x).toNat)
      case atStart => exact ⟨0, Nat.zero_le _, rfl, rfl, hbw⟩
      case round =>
        obtain ⟨k, hk, rfl, rfl, hbu⟩ := hrel
        have hb : Below w.heap.size w wr := hb0'.trans (hbu.mono hz0)
        have f1 := carry hbu c1
        by_cases hlt : k < s.parts.length
        · obtain ⟨b1, o1, ea, _, k1⟩ := (HA.out.later hb).part_ hlt
          rw [E3.out] at ea
          subst ea
          obtain ⟨t1, t2, a1, a2, a3⟩ := line_adds (HT.out.parts k hlt) (HT.out.len 1 (k + 1) (by omega))
          have hpn := HPN.out _ (List.getElem_mem hlt)
          have hsl := HA.out.part _ (List.getElem_mem hlt)
          generalize s.parts[k] = p at k1 a2 hpn hsl
          have HR := Lib.hid (show RowAt w p.a (vals p.l) from hsl)
          have HU := Lib.hid (fun w' (z : RowAt w' p.a (vals p.l)) => rNums p.a p.cap p.l hpn.1 hpn.2 w' z)
          have hk0 : (0 : Int) ≤ k := by omega
          have hk1 : (k : Int) < s.parts.length := by omega
          have hbN : (⟨#[112, 97, 114, 116]⟩ : ByteArray) = bs [112, 97, 114, 116] := rfl
          have hb10 : (⟨#[10]⟩ : ByteArray) = bs [10] := rfl
          clear hpn hsl
          go_wp2_with fail
          refine (HU.out _ (HR.out.later hb)).mono ?_
          rintro e w2 ⟨rfl, hb2⟩
          go_wp2
          go_roundw
          case rel => exact ⟨k + 1, by omega, by go_num, rfl, hbu.trans (hb2.mono hbu.size)⟩
          case measure => simp [intOf]; omega
        · have hkl : k = s.parts.length := by omega
          subst hkl
          rw [HT.out.e1]
          clear hlt hk
          have f3 := carry hbu c3
          obtain ⟨t1, t2, a1, a2, a3⟩ := line_adds HT.out.users (HT.out.len 3 0 (by omega))
          have HU := Lib.hid (fun w' a (z : RowAt w' a (vals [s.users])) => rNums a 1 [s.users] (by simp) (fun n hn => HNU.out n (by simp at hn; subst hn; simp [tOf])) w' z)
          have hbN : (⟨#[117, 115, 101, 114, 115]⟩ : ByteArray) = bs [117, 115, 101, 114, 115] := rfl
          have hb10 : (⟨#[10]⟩ : ByteArray) = bs [10] := rfl
          go_wp2_with fail
          refine (HU.out _ _ (row_new _ _ _)).mono ?_
          rintro e w2 ⟨rfl, hb2⟩
          have hbq : Below w0.heap.size w0 w2 := (hbu.alloc hbu.size _).trans (hb2.mono (by rw [World.size_alloc]; have := hbu.size; omega))
          clear f1 f3
          go_wp2
          go_loopw [3, 6] (fun t x wr => ∃ k : Nat, k ≤ s.queues.length ∧ x = .int .i64 (k : Int) ∧ t = .string (bs (X 3 k)) ∧ Below w0.heap.size w0 wr) (fun _ x _ => s.queues.length - (intOf x).toNat)
          case atStart => exact ⟨0, Nat.zero_le _, rfl, rfl, hbq⟩
          case round =>
            obtain ⟨k, hk, rfl, rfl, hbx⟩ := hrel
            have hb : Below w.heap.size w wr := hb0'.trans (hbx.mono hz0)
            have f2 := carry hbx c2
            by_cases hlt : k < s.queues.length
            · obtain ⟨b1, o1, ea, _, x0, x1, x2, x3, x4, x5⟩ := (HA.out.later hb).queue hlt
              rw [E5.out] at ea
              subst ea
              obtain ⟨t1, t2, t3, a1, a2, a3, a4⟩ := line_adds2 (HT.out.queues k hlt) (HT.out.len 3 (k + 1) (by omega))
              have hqn := HQN.out _ (List.getElem_mem hlt)
              have hsl := HA.out.users _ (List.getElem_mem hlt)
              generalize s.queues[k] = q at x0 x1 x2 x3 x4 x5 a2 a3 hqn hsl
              obtain ⟨n1, hn1⟩ : ∃ n1, n1 = numsT [q.part, q.mj, q.mr, q.mu, q.qos] := ⟨_, rfl⟩
              obtain ⟨n2, hn2⟩ : ∃ n2, n2 = numsT q.users.l := ⟨_, rfl⟩
              have HQ1 : Hid (∀ (w' : World) (a : Option Addr), RowAt w' a (vals [q.part, q.mj, q.mr, q.mu, q.qos]) → Calls Tryz.prog 23 #[.slice a 5 5] w' fun e w2 => e = .returned (.string (bs n1)) ∧ Below w'.heap.size w' w2) := Lib.hid (fun w' a z => hn1 ▸ rNums a 5 [q.part, q.mj, q.mr, q.mu, q.qos] (by simp) (fun n hn => hqn.2 n (by simp only [qnums, qOf]; exact List.mem_append_left _ hn)) w' z)
              have HQ2 := Lib.hid (fun w' (z : RowAt w' q.users.a (vals q.users.l)) => hn2 ▸ rNums q.users.a q.users.cap q.users.l hqn.1 (fun n hn => hqn.2 n (by simp only [qnums, qOf]; exact List.mem_append_right _ hn)) w' z)
              rw [← hn1] at a2
              rw [← hn2] at a3
              have HUS := Lib.hid (show RowAt w q.users.a (vals q.users.l) from hsl)
              have hk0 : (0 : Int) ≤ k := by omega
              have hk1 : (k : Int) < s.queues.length := by omega
              have hl1 := World.block_lt_of_cell? _ _ f2
              have hl3 := World.block_lt_of_cell? _ _ x0
              simp only at hl1 hl3
              have hbN : (⟨#[113, 117, 101, 117, 101]⟩ : ByteArray) = bs [113, 117, 101, 117, 101] := rfl
              have hb10 : (⟨#[10]⟩ : ByteArray) = bs [10] := rfl
              clear hqn hsl hn1 hn2
              go_wp2_with fail
              generalize hw4 : wr.alloc _ = w4
              have hb4 : Below wr.heap.size wr w4 := by rw [← hw4]; exact (by repeat' (first | exact Below.refl _ _ | assumption | exact And.left (by assumption) | refine Below.drew ?_ | refine below_drewN ?_ _ | refine Below.setCell ?_ (by first | (simp; done) | (simp; omega) | omega) _ | refine Below.alloc ?_ (by first | (simp; done) | (simp; omega) | omega) _ | refine after (by assumption) (by first | (simp; done) | (simp; omega) | omega) ?_))
              have k0 : w4.cell? ⟨wr.heap.size, 0, none⟩ = some (.int .i64 q.part) := by rw [← hw4]; simp [go_sem]
              have k1 : w4.cell? ⟨wr.heap.size, 1, none⟩ = some (.slice q.users.a q.users.l.length q.users.cap) := by rw [← hw4]; simp [go_sem]
              have k2 : w4.cell? ⟨wr.heap.size, 2, none⟩ = some (.int .i64 q.mj) := by rw [← hw4]; simp [go_sem]
              have k3 : w4.cell? ⟨wr.heap.size, 3, none⟩ = some (.int .i64 q.mr) := by rw [← hw4]; simp [go_sem]
              have k4 : w4.cell? ⟨wr.heap.size, 4, none⟩ = some (.int .i64 q.mu) := by rw [← hw4]; simp [go_sem]
              have k5 : w4.cell? ⟨wr.heap.size, 5, none⟩ = some (.int .i64 q.qos) := by rw [← hw4]; simp [go_sem]
              have HUR := Lib.hid (HUS.out.later (hb.trans (hb4.mono hb.size)))
              clear hw4 x0 x1 x2 x3 x4 x5
              refine region_mono (txSpQ wr.heap.size t1 t2 t3 n1 n2 (X 3 k) (X 3 (k + 1)) q.part q.mj q.mr q.mu q.qos q.users.a q.users.l.length q.users.cap) [66, 67, 68, 69, 70, 71, 72, 73, 74, 75, 76, 77, 78, 79, 80, 81, 82, 83, 84, 85, 3] (by kernel_rfl) (by kernel_rfl) (by kernel_rfl) (by kernel_rfl) (stables_cons (Sp.cl_stable _ _ _) (stables_cons (Sp.c_stable _ _) (stables_cons (Sp.c_stable _ _) (stables_cons (Sp.c_stable _ _) (stables_cons (Sp.c_stable _ _) (stables_cons (Sp.c_stable _ _) (stables_cons (Sp.c_stable _ _) (stables_cons (Sp.c_stable _ _) (stables_cons (Sp.c_stable _ _) (stables_cons (Sp.c_stable _ _) (stables_cons (Sp.c_stable _ _) (stables_cons (Sp.c_stable _ _) (stables_cons (Sp.m_stable _ _ _ (fun _ _ _ ⟨y1, e, y2⟩ hb => ⟨y1, e, y2.later hb⟩)) (stables_cons (Sp.c_stable _ _) (stables_cons (Sp.c_stable _ _) (stables_cons (Sp.c_stable _ _) (stables_cons (Sp.c_stable _ _) (stables_cons (Sp.c_stable _ _) (stables_cons (Sp.c_stable _ _) (stables_cons (Sp.c_stable _ _) (stables_cons (Sp.c_stable _ _) (trivial)))))))))))))))))))))) ?_ ?_
              · intro am wm L hbm hbase hbase2
                have s7 : am.tmps.getD 7 undef = .pointer (some ⟨wr.heap.size, 0, none⟩) := (hbase 7 rfl).trans (by simp only [Array.getD_eq_getD_getElem?, List.getElem?_toArray, List.getElem?_cons_succ, List.getElem?_cons_zero, Option.getD_some])
                clear hbase
                have m0 := carry hbm k0
                have m1 := carry hbm k1
                have m2 := carry hbm k2
                have m3 := carry hbm k3
                have m4 := carry hbm k4
                have m5 := carry hbm k5
                have ur := (HUR.out).later hbm
                refine steps_cons (fun hn hl => ?_) fun H0 => ?_
                · skip
                  have h3 : am.tmps.getD 3 undef = .string (bs (X 3 k)) := (hbase2 20 3 rfl (hl 20 (show 20 ∈ [20] from .head _))).trans (by simp only [Array.getD_eq_getD_getElem?, List.getElem?_toArray, List.getElem?_cons_succ, List.getElem?_cons_zero, Option.getD_some])
                  clear hbase2
                  clear hn hl 
                  refine stepL (wanted_free rfl) fun K hK => ?_
                  go_simp
                  exact hK _ (Below.refl _ _)
                refine steps_cons (fun hn hl => ?_) fun H1 => ?_
                · skip
                  have h66 := Sp.of_cl (H0 (hn 0 (show 0 ∈ [0] from .head _)))
                  clear hn hl H0
                  refine stepC (wanted_free rfl) fun K hK => ?_
                  go_simp
                  exact hK _ (Below.refl _ _)
                refine steps_cons (fun hn hl => ?_) fun H2 => ?_
                · skip
                  clear hn hl H0 H1
                  refine stepC (wanted_free rfl) fun K hK => ?_
                  go_simp
                  exact hK _ (Below.refl _ _)
                refine steps_cons (fun hn hl => ?_) fun H3 => ?_
                · skip
                  have h68 := Sp.of_c (H2 (hn 2 (show 2 ∈ [2] from .head _)))
                  clear hn hl H0 H1 H2
                  refine stepC (wanted_free rfl) fun K hK => ?_
                  go_simp
                  exact hK _ (Below.refl _ _)
                refine steps_cons (fun hn hl => ?_) fun H4 => ?_
                · skip
                  clear hn hl H0 H1 H2 H3
                  refine stepC (wanted_free rfl) fun K hK => ?_
                  go_simp
                  exact hK _ (Below.refl _ _)
                refine steps_cons (fun hn hl => ?_) fun H5 => ?_
                · skip
                  have h70 := Sp.of_c (H4 (hn 4 (show 4 ∈ [4] from .head _)))
                  clear hn hl H0 H1 H2 H3 H4
                  refine stepC (wanted_free rfl) fun K hK => ?_
                  go_simp
                  exact hK _ (Below.refl _ _)
                refine steps_cons (fun hn hl => ?_) fun H6 => ?_
                · skip
                  clear hn hl H0 H1 H2 H3 H4 H5
                  refine stepC (wanted_free rfl) fun K hK => ?_
                  go_simp
                  exact hK _ (Below.refl _ _)
                refine steps_cons (fun hn hl => ?_) fun H7 => ?_
                · skip
                  have h72 := Sp.of_c (H6 (hn 6 (show 6 ∈ [6] from .head _)))
                  clear hn hl H0 H1 H2 H3 H4 H5 H6
                  refine stepC (wanted_free rfl) fun K hK => ?_
                  go_simp
                  exact hK _ (Below.refl _ _)
                refine steps_cons (fun hn hl => ?_) fun H8 => ?_
                · skip
                  clear hn hl H0 H1 H2 H3 H4 H5 H6 H7
                  refine stepC (wanted_free rfl) fun K hK => ?_
                  go_simp
                  exact hK _ (Below.refl _ _)
                refine steps_cons (fun hn hl => ?_) fun H9 => ?_
                · skip
                  have h74 := Sp.of_c (H8 (hn 8 (show 8 ∈ [8] from .head _)))
                  clear hn hl H0 H1 H2 H3 H4 H5 H6 H7 H8
                  refine stepC (wanted_free rfl) fun K hK => ?_
                  go_simp
                  exact hK _ (Below.refl _ _)
                refine steps_cons (fun hn hl => ?_) fun H10 => ?_
                · skip
                  clear hn hl H0 H1 H2 H3 H4 H5 H6 H7 H8 H9
                  refine stepC (wanted_free rfl) fun K hK => ?_
                  go_simp
                  exact hK _ (Below.refl _ _)
                refine steps_cons (fun hn hl => ?_) fun H11 => ?_
                · skip
                  have h76 := Sp.of_c (H10 (hn 10 (show 10 ∈ [10] from .head _)))
                  clear hn hl H0 H1 H2 H3 H4 H5 H6 H7 H8 H9 H10
                  refine stepC (wanted_free rfl) fun K hK => ?_
                  go_simp
                  exact hK _ (Below.refl _ _)
                refine steps_cons (fun hn hl => ?_) fun H12 => ?_
                · skip
                  have h69 := Sp.of_c (H3 (hn 3 (show 3 ∈ [3, 5, 7, 9, 11] from .head _)))
                  have h71 := Sp.of_c (H5 (hn 5 (show 5 ∈ [3, 5, 7, 9, 11] from .tail _ (.head _))))
                  have h73 := Sp.of_c (H7 (hn 7 (show 7 ∈ [3, 5, 7, 9, 11] from .tail _ (.tail _ (.head _)))))
                  have h75 := Sp.of_c (H9 (hn 9 (show 9 ∈ [3, 5, 7, 9, 11] from .tail _ (.tail _ (.tail _ (.head _))))))
                  have h77 := Sp.of_c (H11 (hn 11 (show 11 ∈ [3, 5, 7, 9, 11] from .tail _ (.tail _ (.tail _ (.tail _ (.head _)))))))
                  clear hn hl H0 H1 H2 H3 H4 H5 H6 H7 H8 H9 H10 H11
                  refine stepR (wanted_free rfl) fun K hK => ?_
                  simp only [Array.getD_eq_getD_getElem?] at h69 h71 h73 h75 h77
                  go_simp
                  exact hK _ _ ((Below.refl _ _).alloc (Nat.le_refl _) _) ⟨_, rfl, row_new _ _ _⟩
                refine steps_cons (fun hn hl => ?_) fun H13 => ?_
                · skip
                  obtain ⟨y1, h78, y2⟩ := Sp.of_m (H12 (hn 12 (show 12 ∈ [12] from .head _))) rfl
                  clear hn hl H0 H1 H2 H3 H4 H5 H6 H7 H8 H9 H10 H11 H12
                  refine stepC (wanted_free rfl) fun K hK => ?_
                  go_simp
                  first
                    | ((with_reducible refine (HQ1.out _ _ y2).mono ?_); rintro e w6 ⟨rfl, hb6⟩; exact hK _ hb6)
                    | ((with_reducible refine (HQ2.out _ ur).mono ?_); rintro e w6 ⟨rfl, hb6⟩; exact hK _ hb6)
                refine steps_cons (fun hn hl => ?_) fun H14 => ?_
                · skip
                  have h67 := Sp.of_c (H1 (hn 1 (show 1 ∈ [1, 13] from .head _)))
                  have h79 := Sp.of_c (H13 (hn 13 (show 13 ∈ [1, 13] from .tail _ (.head _))))
                  clear hn hl H0 H1 H2 H3 H4 H5 H6 H7 H8 H9 H10 H11 H12 H13
                  refine stepC (wanted_free rfl) fun K hK => ?_
                  go_simp
                  exact hK _ (Below.refl _ _)
                refine steps_cons (fun hn hl => ?_) fun H15 => ?_
                · skip
                  clear hn hl H0 H1 H2 H3 H4 H5 H6 H7 H8 H9 H10 H11 H12 H13 H14
                  refine stepC (wanted_free rfl) fun K hK => ?_
                  go_simp
                  exact hK _ (Below.refl _ _)
                refine steps_cons (fun hn hl => ?_) fun H16 => ?_
                · skip
                  have h81 := Sp.of_c (H15 (hn 15 (show 15 ∈ [15] from .head _)))
                  clear hn hl H0 H1 H2 H3 H4 H5 H6 H7 H8 H9 H10 H11 H12 H13 H14 H15
                  refine stepC (wanted_free rfl) fun K hK => ?_
                  go_simp
                  exact hK _ (Below.refl _ _)
                refine steps_cons (fun hn hl => ?_) fun H17 => ?_
                · skip
                  have h82 := Sp.of_c (H16 (hn 16 (show 16 ∈ [16] from .head _)))
                  clear hn hl H0 H1 H2 H3 H4 H5 H6 H7 H8 H9 H10 H11 H12 H13 H14 H15 H16
                  refine stepC (wanted_free rfl) fun K hK => ?_
                  go_simp
                  first
                    | ((with_reducible refine (HQ1.out _ _ y2).mono ?_); rintro e w6 ⟨rfl, hb6⟩; exact hK _ hb6)
                    | ((with_reducible refine (HQ2.out _ ur).mono ?_); rintro e w6 ⟨rfl, hb6⟩; exact hK _ hb6)
                refine steps_cons (fun hn hl => ?_) fun H18 => ?_
                · skip
                  have h80 := Sp.of_c (H14 (hn 14 (show 14 ∈ [14, 17] from .head _)))
                  have h83 := Sp.of_c (H17 (hn 17 (show 17 ∈ [14, 17] from .tail _ (.head _))))
                  clear hn hl H0 H1 H2 H3 H4 H5 H6 H7 H8 H9 H10 H11 H12 H13 H14 H15 H16 H17
                  refine stepC (wanted_free rfl) fun K hK => ?_
                  go_simp
                  exact hK _ (Below.refl _ _)
                refine steps_cons (fun hn hl => ?_) fun H19 => ?_
                · skip
                  have h84 := Sp.of_c (H18 (hn 18 (show 18 ∈ [18] from .head _)))
                  clear hn hl H0 H1 H2 H3 H4 H5 H6 H7 H8 H9 H10 H11 H12 H13 H14 H15 H16 H17 H18
                  refine stepC (wanted_free rfl) fun K hK => ?_
                  go_simp
                  exact hK _ (Below.refl _ _)
                refine steps_cons (fun hn hl => ?_) fun H20 => ?_
                · skip
                  have h85 := Sp.of_c (H19 (hn 19 (show 19 ∈ [19] from .head _)))
                  clear hn hl H0 H1 H2 H3 H4 H5 H6 H7 H8 H9 H10 H11 H12 H13 H14 H15 H16 H17 H18 H19
                  refine stepC (wanted_free rfl) fun K hK => ?_
                  go_simp
                  exact hK _ (Below.refl _ _)
                exact trivial
              · intro w5 hb5
                have hz5 := hb5.size
                refine end_cons ?_; rintro _ rfl
                refine end_cons ?_; rintro _ rfl
                refine end_cons ?_; rintro _ rfl
                refine end_cons ?_; rintro _ rfl
                refine end_cons ?_; rintro _ rfl
                refine end_cons ?_; rintro _ rfl
                refine end_cons ?_; rintro _ rfl
                refine end_cons ?_; rintro _ rfl
                refine end_cons ?_; rintro _ rfl
                refine end_cons ?_; rintro _ rfl
                refine end_cons ?_; rintro _ rfl
                refine end_cons ?_; rintro _ rfl
                refine end_cons ?_; rintro _ ⟨y78_1, rfl, y78_2⟩
                refine end_cons ?_; rintro _ rfl
                refine end_cons ?_; rintro _ rfl
                refine end_cons ?_; rintro _ rfl
                refine end_cons ?_; rintro _ rfl
                refine end_cons ?_; rintro _ rfl
                refine end_cons ?_; rintro _ rfl
                refine end_cons ?_; rintro _ rfl
                refine end_cons ?_; rintro _ rfl
                refine end_nil ?_
                simp only [List.setIfInBounds_toArray, List.set_cons_succ, List.set_cons_zero, Bool.not_false, Bool.not_true, Bool.true_or, Bool.or_true, Bool.false_or, Bool.or_false]
                go_wp2
                go_roundw
                case rel => exact ⟨k + 1, by omega, by go_num, rfl, hbx.trans ((hb4.trans (hb5.mono hb4.size)).mono hbx.size)⟩
                case measure => simp [intOf]; omega
            · have hkl : k = s.queues.length := by omega
              subst hkl
              rw [HT.out.e3]
              clear hlt hk
              rename World => w3
              have f4 := carry hbx c4
              have f5 := carry hbx c5
              have f6 := carry hbx c6
              have f7 := carry hbx c7
              have f8 := carry hbx c8
              obtain ⟨t1, t2, a1, a2, a3⟩ := line_adds HT.out.weights (HT.out.len 5 0 (by omega))
              obtain ⟨t4, t5, a4, a5, a6⟩ := line_adds HT.out.decay (HT.out.len 6 0 (by omega))
              obtain ⟨n1, hn1⟩ : ∃ n1, n1 = numsT [s.age, s.size, s.qos, s.share] := ⟨_, rfl⟩
              obtain ⟨n2, hn2⟩ : ∃ n2, n2 = numsT [s.decay] := ⟨_, rfl⟩
              have HW1 : Hid (∀ (w' : World) (a : Option Addr), RowAt w' a (vals [s.age, s.size, s.qos, s.share]) → Calls Tryz.prog 23 #[.slice a 4 4] w' fun e w2 => e = .returned (.string (bs n1)) ∧ Below w'.heap.size w' w2) := Lib.hid (fun w' a z => hn1 ▸ rNums a 4 [s.age, s.size, s.qos, s.share] (by simp) (fun n hn => HNU.out n (by simp at hn; rcases hn with rfl | rfl | rfl | rfl <;> simp [tOf])) w' z)
              have HW2 : Hid (∀ (w' : World) (a : Option Addr), RowAt w' a (vals [s.decay]) → Calls Tryz.prog 23 #[.slice a 1 1] w' fun e w2 => e = .returned (.string (bs n2)) ∧ Below w'.heap.size w' w2) := Lib.hid (fun w' a z => hn2 ▸ rNums a 1 [s.decay] (by simp) (fun n hn => HNU.out n (by simp at hn; subst hn; simp [tOf])) w' z)
              rw [← hn1] at a2
              rw [← hn2] at a5
              have hl1 := World.block_lt_of_cell? _ _ f4
              simp only at hl1
              have hbN : (⟨#[119, 101, 105, 103, 104, 116, 115]⟩ : ByteArray) = bs [119, 101, 105, 103, 104, 116, 115] := rfl
              have hbD : (⟨#[100, 101, 99, 97, 121]⟩ : ByteArray) = bs [100, 101, 99, 97, 121] := rfl
              have hb10 : (⟨#[10]⟩ : ByteArray) = bs [10] := rfl
              clear hn1 hn2
              go_wp2_with fail
              generalize hw4 : World.alloc _ _ = w4
              have hb4 : Below w3.heap.size w3 w4 := by rw [← hw4]; exact (by repeat' (first | exact Below.refl _ _ | assumption | exact And.left (by assumption) | refine Below.drew ?_ | refine below_drewN ?_ _ | refine Below.setCell ?_ (by first | (simp; done) | (simp; omega) | omega) _ | refine Below.alloc ?_ (by first | (simp; done) | (simp; omega) | omega) _ | refine after (by assumption) (by first | (simp; done) | (simp; omega) | omega) ?_))
              have k0 : w4.cell? ⟨w3.heap.size, 0, none⟩ = some (.int .i64 s.age) := by rw [← hw4]; simp [go_sem]
              have k1 : w4.cell? ⟨w3.heap.size, 1, none⟩ = some (.int .i64 s.size) := by rw [← hw4]; simp [go_sem]
              have k2 : w4.cell? ⟨w3.heap.size, 2, none⟩ = some (.int .i64 s.qos) := by rw [← hw4]; simp [go_sem]
              have k3 : w4.cell? ⟨w3.heap.size, 3, none⟩ = some (.int .i64 s.share) := by rw [← hw4]; simp [go_sem]
              replace f8 := carry hb4 f8
              clear hw4 f4 f5 f6 f7
              refine region_mono (txSpW w.heap.size w3.heap.size t1 t2 (X 5 0) t4 t5 n1 n2 (X 4 0) (X 6 0) s.age s.size s.qos s.share s.decay) [88, 89, 90, 91, 92, 93, 94, 95, 96, 97, 98, 99, 100, 101, 102, 103, 104, 105, 106, 107, 108, 3] (by kernel_rfl) (by kernel_rfl) (by kernel_rfl) (by kernel_rfl) (stables_cons (Sp.cl_stable _ _ _) (stables_cons (Sp.c_stable _ _) (stables_cons (Sp.c_stable _ _) (stables_cons (Sp.c_stable _ _) (stables_cons (Sp.c_stable _ _) (stables_cons (Sp.c_stable _ _) (stables_cons (Sp.c_stable _ _) (stables_cons (Sp.c_stable _ _) (stables_cons (Sp.c_stable _ _) (stables_cons (Sp.c_stable _ _) (stables_cons (Sp.m_stable _ _ _ (fun _ _ _ ⟨y1, e, y2⟩ hb => ⟨y1, e, y2.later hb⟩)) (stables_cons (Sp.c_stable _ _) (stables_cons (Sp.c_stable _ _) (stables_cons (Sp.c_stable _ _) (stables_cons (Sp.c_stable _ _) (stables_cons (Sp.c_stable _ _) (stables_cons (Sp.c_stable _ _) (stables_cons (Sp.m_stable _ _ _ (fun _ _ _ ⟨y1, e, y2⟩ hb => ⟨y1, e, y2.later hb⟩)) (stables_cons (Sp.c_stable _ _) (stables_cons (Sp.c_stable _ _) (stables_cons (Sp.c_stable _ _) (stables_cons (Sp.c_stable _ _) (trivial))))))))))))))))))))))) ?_ ?_
              · intro am wm L hbm hbase hbase2
                have s1 : am.tmps.getD 1 undef = .pointer (some ⟨w.heap.size, 0, none⟩) := (hbase 1 rfl).trans (by simp only [Array.getD_eq_getD_getElem?, List.getElem?_toArray, List.getElem?_cons_succ, List.getElem?_cons_zero, Option.getD_some])
                have s8 : am.tmps.getD 8 undef = .pointer (some ⟨w3.heap.size, 0, none⟩) := (hbase 8 rfl).trans (by simp only [Array.getD_eq_getD_getElem?, List.getElem?_toArray, List.getElem?_cons_succ, List.getElem?_cons_zero, Option.getD_some])
                clear hbase
                have m0 := carry hbm k0
                have m1 := carry hbm k1
                have m2 := carry hbm k2
                have m3 := carry hbm k3
                have m8 := carry hbm f8
                refine steps_cons (fun hn hl => ?_) fun H0 => ?_
                · skip
                  have h3 : am.tmps.getD 3 undef = .string (bs (X 4 0)) := (hbase2 21 3 rfl (hl 21 (show 21 ∈ [21] from .head _))).trans (by simp only [Array.getD_eq_getD_getElem?, List.getElem?_toArray, List.getElem?_cons_succ, List.getElem?_cons_zero, Option.getD_some])
                  clear hbase2
                  clear hn hl 
                  refine stepL (wanted_free rfl) fun K hK => ?_
                  go_simp
                  exact hK _ (Below.refl _ _)
                refine steps_cons (fun hn hl => ?_) fun H1 => ?_
                · skip
                  have h88 := Sp.of_cl (H0 (hn 0 (show 0 ∈ [0] from .head _)))
                  clear hn hl H0
                  refine stepC (wanted_free rfl) fun K hK => ?_
                  go_simp
                  exact hK _ (Below.refl _ _)
                refine steps_cons (fun hn hl => ?_) fun H2 => ?_
                · skip
                  clear hn hl H0 H1
                  refine stepC (wanted_free rfl) fun K hK => ?_
                  go_simp
                  exact hK _ (Below.refl _ _)
                refine steps_cons (fun hn hl => ?_) fun H3 => ?_
                · skip
                  have h90 := Sp.of_c (H2 (hn 2 (show 2 ∈ [2] from .head _)))
                  clear hn hl H0 H1 H2
                  refine stepC (wanted_free rfl) fun K hK => ?_
                  go_simp
                  exact hK _ (Below.refl _ _)
                refine steps_cons (fun hn hl => ?_) fun H4 => ?_
                · skip
                  clear hn hl H0 H1 H2 H3
                  refine stepC (wanted_free rfl) fun K hK => ?_
                  go_simp
                  exact hK _ (Below.refl _ _)
                refine steps_cons (fun hn hl => ?_) fun H5 => ?_
                · skip
                  have h92 := Sp.of_c (H4 (hn 4 (show 4 ∈ [4] from .head _)))
                  clear hn hl H0 H1 H2 H3 H4
                  refine stepC (wanted_free rfl) fun K hK => ?_
                  go_simp
                  exact hK _ (Below.refl _ _)
                refine steps_cons (fun hn hl => ?_) fun H6 => ?_
                · skip
                  clear hn hl H0 H1 H2 H3 H4 H5
                  refine stepC (wanted_free rfl) fun K hK => ?_
                  go_simp
                  exact hK _ (Below.refl _ _)
                refine steps_cons (fun hn hl => ?_) fun H7 => ?_
                · skip
                  have h94 := Sp.of_c (H6 (hn 6 (show 6 ∈ [6] from .head _)))
                  clear hn hl H0 H1 H2 H3 H4 H5 H6
                  refine stepC (wanted_free rfl) fun K hK => ?_
                  go_simp
                  exact hK _ (Below.refl _ _)
                refine steps_cons (fun hn hl => ?_) fun H8 => ?_
                · skip
                  clear hn hl H0 H1 H2 H3 H4 H5 H6 H7
                  refine stepC (wanted_free rfl) fun K hK => ?_
                  go_simp
                  exact hK _ (Below.refl _ _)
                refine steps_cons (fun hn hl => ?_) fun H9 => ?_
                · skip
                  have h96 := Sp.of_c (H8 (hn 8 (show 8 ∈ [8] from .head _)))
                  clear hn hl H0 H1 H2 H3 H4 H5 H6 H7 H8
                  refine stepC (wanted_free rfl) fun K hK => ?_
                  go_simp
                  exact hK _ (Below.refl _ _)
                refine steps_cons (fun hn hl => ?_) fun H10 => ?_
                · skip
                  have h91 := Sp.of_c (H3 (hn 3 (show 3 ∈ [3, 5, 7, 9] from .head _)))
                  have h93 := Sp.of_c (H5 (hn 5 (show 5 ∈ [3, 5, 7, 9] from .tail _ (.head _))))
                  have h95 := Sp.of_c (H7 (hn 7 (show 7 ∈ [3, 5, 7, 9] from .tail _ (.tail _ (.head _)))))
                  have h97 := Sp.of_c (H9 (hn 9 (show 9 ∈ [3, 5, 7, 9] from .tail _ (.tail _ (.tail _ (.head _))))))
                  clear hn hl H0 H1 H2 H3 H4 H5 H6 H7 H8 H9
                  refine stepR (wanted_free rfl) fun K hK => ?_
                  simp only [Array.getD_eq_getD_getElem?] at h91 h93 h95 h97
                  go_simp
                  exact hK _ _ ((Below.refl _ _).alloc (Nat.le_refl _) _) ⟨_, rfl, row_new _ _ _⟩
                refine steps_cons (fun hn hl => ?_) fun H11 => ?_
                · skip
                  obtain ⟨y1, h98, y2⟩ := Sp.of_m (H10 (hn 10 (show 10 ∈ [10] from .head _))) rfl
                  clear hn hl H0 H1 H2 H3 H4 H5 H6 H7 H8 H9 H10
                  refine stepC (wanted_free rfl) fun K hK => ?_
                  go_simp
                  first
                    | ((with_reducible refine (HW1.out _ _ y2).mono ?_); rintro e w6 ⟨rfl, hb6⟩; exact hK _ hb6)
                    | ((with_reducible refine (HW2.out _ _ y2).mono ?_); rintro e w6 ⟨rfl, hb6⟩; exact hK _ hb6)
                refine steps_cons (fun hn hl => ?_) fun H12 => ?_
                · skip
                  have h89 := Sp.of_c (H1 (hn 1 (show 1 ∈ [1, 11] from .head _)))
                  have h99 := Sp.of_c (H11 (hn 11 (show 11 ∈ [1, 11] from .tail _ (.head _))))
                  clear hn hl H0 H1 H2 H3 H4 H5 H6 H7 H8 H9 H10 H11
                  refine stepC (wanted_free rfl) fun K hK => ?_
                  go_simp
                  exact hK _ (Below.refl _ _)
                refine steps_cons (fun hn hl => ?_) fun H13 => ?_
                · skip
                  have h100 := Sp.of_c (H12 (hn 12 (show 12 ∈ [12] from .head _)))
                  clear hn hl H0 H1 H2 H3 H4 H5 H6 H7 H8 H9 H10 H11 H12
                  refine stepC (wanted_free rfl) fun K hK => ?_
                  go_simp
                  exact hK _ (Below.refl _ _)
                refine steps_cons (fun hn hl => ?_) fun H14 => ?_
                · skip
                  have h101 := Sp.of_c (H13 (hn 13 (show 13 ∈ [13] from .head _)))
                  clear hn hl H0 H1 H2 H3 H4 H5 H6 H7 H8 H9 H10 H11 H12 H13
                  refine stepC (wanted_free rfl) fun K hK => ?_
                  go_simp
                  exact hK _ (Below.refl _ _)
                refine steps_cons (fun hn hl => ?_) fun H15 => ?_
                · skip
                  clear hn hl H0 H1 H2 H3 H4 H5 H6 H7 H8 H9 H10 H11 H12 H13 H14
                  refine stepC (wanted_free rfl) fun K hK => ?_
                  go_simp
                  exact hK _ (Below.refl _ _)
                refine steps_cons (fun hn hl => ?_) fun H16 => ?_
                · skip
                  have h103 := Sp.of_c (H15 (hn 15 (show 15 ∈ [15] from .head _)))
                  clear hn hl H0 H1 H2 H3 H4 H5 H6 H7 H8 H9 H10 H11 H12 H13 H14 H15
                  refine stepC (wanted_free rfl) fun K hK => ?_
                  go_simp
                  exact hK _ (Below.refl _ _)
                refine steps_cons (fun hn hl => ?_) fun H17 => ?_
                · skip
                  have h104 := Sp.of_c (H16 (hn 16 (show 16 ∈ [16] from .head _)))
                  clear hn hl H0 H1 H2 H3 H4 H5 H6 H7 H8 H9 H10 H11 H12 H13 H14 H15 H16
                  refine stepR (wanted_free rfl) fun K hK => ?_
                  simp only [Array.getD_eq_getD_getElem?] at h104
                  go_simp
                  exact hK _ _ ((Below.refl _ _).alloc (Nat.le_refl _) _) ⟨_, rfl, row_new _ _ _⟩
                refine steps_cons (fun hn hl => ?_) fun H18 => ?_
                · skip
                  obtain ⟨y1, h105, y2⟩ := Sp.of_m (H17 (hn 17 (show 17 ∈ [17] from .head _))) rfl
                  clear hn hl H0 H1 H2 H3 H4 H5 H6 H7 H8 H9 H10 H11 H12 H13 H14 H15 H16 H17
                  refine stepC (wanted_free rfl) fun K hK => ?_
                  go_simp
                  first
                    | ((with_reducible refine (HW1.out _ _ y2).mono ?_); rintro e w6 ⟨rfl, hb6⟩; exact hK _ hb6)
                    | ((with_reducible refine (HW2.out _ _ y2).mono ?_); rintro e w6 ⟨rfl, hb6⟩; exact hK _ hb6)
                refine steps_cons (fun hn hl => ?_) fun H19 => ?_
                · skip
                  have h102 := Sp.of_c (H14 (hn 14 (show 14 ∈ [14, 18] from .head _)))
                  have h106 := Sp.of_c (H18 (hn 18 (show 18 ∈ [14, 18] from .tail _ (.head _))))
                  clear hn hl H0 H1 H2 H3 H4 H5 H6 H7 H8 H9 H10 H11 H12 H13 H14 H15 H16 H17 H18
                  refine stepC (wanted_free rfl) fun K hK => ?_
                  go_simp
                  exact hK _ (Below.refl _ _)
                refine steps_cons (fun hn hl => ?_) fun H20 => ?_
                · skip
                  have h107 := Sp.of_c (H19 (hn 19 (show 19 ∈ [19] from .head _)))
                  clear hn hl H0 H1 H2 H3 H4 H5 H6 H7 H8 H9 H10 H11 H12 H13 H14 H15 H16 H17 H18 H19
                  refine stepC (wanted_free rfl) fun K hK => ?_
                  go_simp
                  exact hK _ (Below.refl _ _)
                refine steps_cons (fun hn hl => ?_) fun H21 => ?_
                · skip
                  have h108 := Sp.of_c (H20 (hn 20 (show 20 ∈ [20] from .head _)))
                  clear hn hl H0 H1 H2 H3 H4 H5 H6 H7 H8 H9 H10 H11 H12 H13 H14 H15 H16 H17 H18 H19 H20
                  refine stepC (wanted_free rfl) fun K hK => ?_
                  go_simp
                  exact hK _ (Below.refl _ _)
                exact trivial
              · intro w5 hb5
                have hz5 := hb5.size
                refine end_cons ?_; rintro _ rfl
                refine end_cons ?_; rintro _ rfl
                refine end_cons ?_; rintro _ rfl
                refine end_cons ?_; rintro _ rfl
                refine end_cons ?_; rintro _ rfl
                refine end_cons ?_; rintro _ rfl
                refine end_cons ?_; rintro _ rfl
                refine end_cons ?_; rintro _ rfl
                refine end_cons ?_; rintro _ rfl
                refine end_cons ?_; rintro _ rfl
                refine end_cons ?_; rintro _ ⟨y98_1, rfl, y98_2⟩
                refine end_cons ?_; rintro _ rfl
                refine end_cons ?_; rintro _ rfl
                refine end_cons ?_; rintro _ rfl
                refine end_cons ?_; rintro _ rfl
                refine end_cons ?_; rintro _ rfl
                refine end_cons ?_; rintro _ rfl
                refine end_cons ?_; rintro _ ⟨y105_1, rfl, y105_2⟩
                refine end_cons ?_; rintro _ rfl
                refine end_cons ?_; rintro _ rfl
                refine end_cons ?_; rintro _ rfl
                refine end_cons ?_; rintro _ rfl
                refine end_nil ?_
                simp only [List.setIfInBounds_toArray, List.set_cons_succ, List.set_cons_zero, Bool.not_false, Bool.not_true, Bool.true_or, Bool.or_true, Bool.false_or, Bool.or_false]
                have hby : Below w0.heap.size w0 w5 := hbx.trans ((hb4.trans (hb5.mono hb4.size)).mono hbx.size)
                have f9 := carry hby c9
                have g10 := carry hby c10
                have g11 := carry hby c11
                have g12 := carry hby c12
                have g13 := carry hby c13
                have g14 := carry hby c14
                have g15 := carry hby c15
                have g16 := carry hby c16
                have g17 := carry hby c17
                have hmo := HMO.out
                have hl9 := World.block_lt_of_cell? _ _ f9
                simp only at hl9
                clear hz5 f8 k0 k1 k2 k3
                by_cases hmm : s.mode = 1
                · skip
                  have hm : s.mode = 1 := by omega
                  have am := line_add (HT.out.easy hm) (HT.out.len 7 0 (by omega))
                  rw [hm] at f9
                  have hbM : (⟨#[109, 111, 100, 101, 32, 101, 97, 115, 121, 10]⟩ : ByteArray) = bs [109, 111, 100, 101, 32, 101, 97, 115, 121, 10] := rfl
                  clear hm hmo hmm
                  go_wp2
                  generalize hw8 : World.alloc (World.alloc w5 _) _ = w8
                  have hb8 : Below w5.heap.size w5 w8 := by rw [← hw8]; exact (by repeat' (first | exact Below.refl _ _ | assumption | exact And.left (by assumption) | refine Below.drew ?_ | refine below_drewN ?_ _ | refine Below.setCell ?_ (by first | (simp; done) | (simp; omega) | omega) _ | refine Below.alloc ?_ (by first | (simp; done) | (simp; omega) | omega) _ | refine after (by assumption) (by first | (simp; done) | (simp; omega) | omega) ?_))
                  have hby8 : Below w0.heap.size w0 w8 := hby.trans (hb8.mono hby.size)
                  have HNM : Hid (∀ j, j < 8 → w8.cell? ⟨w5.heap.size, j, none⟩ = some (.string (bs (kindW (7 + j))))) := Lib.hid (fun j hj => by
                    match j, hj with
                    | 0, _ | 1, _ | 2, _ | 3, _ | 4, _ | 5, _ | 6, _ | 7, _ => rw [← hw8]; simp [go_sem]; rfl
                    | n + 8, h => omega)
                  have HRW : Hid (RowAt w8 (some ⟨w5.heap.size + 1, 0, none⟩) (vals [s.jobs, s.ids, s.versions, s.linger, s.keep, s.inn, s.out, s.cache])) := Lib.hid (by
                    have h1 := row_new (w5.alloc (.cells #[.string ⟨#[106, 111, 98, 115]⟩, .string ⟨#[105, 100, 115]⟩, .string ⟨#[118, 101, 114, 115, 105, 111, 110, 115]⟩, .string ⟨#[108, 105, 110, 103, 101, 114]⟩, .string ⟨#[107, 101, 101, 112]⟩, .string ⟨#[105, 110]⟩, .string ⟨#[111, 117, 116]⟩, .string ⟨#[99, 97, 99, 104, 101]⟩] 9)) #[.int .i64 s.jobs, .int .i64 s.ids, .int .i64 s.versions, .int .i64 s.linger, .int .i64 s.keep, .int .i64 s.inn, .int .i64 s.out, .int .i64 s.cache] 3
                    rw [hw8, World.size_alloc] at h1
                    exact h1)
                  clear hw8 am hbM g10 g11 g12 g13 g14 g15 g16 g17 f9
                  have hz8 := hb8.size
                  go_loopw [3, 11] (fun t x wr => ∃ k : Nat, k ≤ 8 ∧ x = .int .i64 (k : Int) ∧ t = .string (bs (X (7 + k) 0)) ∧ Below w8.heap.size w8 wr) (fun _ x _ => 8 - (intOf x).toNat)
                  case atStart => exact ⟨0, Nat.zero_le _, rfl, rfl, Below.refl _ _⟩
                  case round =>
                    obtain ⟨k, hk, rfl, rfl, hbz⟩ := hrel
                    by_cases hlt : k < 8
                    · have c9 := carry hbz (HNM.out k hlt)
                      obtain ⟨t1, t2, a1, a2, a3⟩ := line_adds (HT.out.last k hlt) (HT.out.llen k hlt)
                      have hln := last_num s k hlt HNU.out
                      have HUR := Lib.hid ((HRW.out.later hbz).one (last_at s k hlt))
                      generalize lastN s k = v at a2 hln HUR
                      generalize kindW (7 + k) = a at c9 a1
                      obtain ⟨n1, hn1⟩ : ∃ n1, n1 = numsT [v] := ⟨_, rfl⟩
                      have HN1 : Hid (∀ (w' : World), RowAt w' (some ⟨w5.heap.size + 1, k, none⟩) (vals [v]) → Calls Tryz.prog 23 #[.slice (some ⟨w5.heap.size + 1, k, none⟩) 1 (8 - k)] w' fun e w2 => e = .returned (.string (bs n1)) ∧ Below w'.heap.size w' w2) := Lib.hid (fun w' z => hn1 ▸ rNums _ (8 - k) [v] (by simp) (fun n hn => by simp at hn; subst hn; exact hln) w' z)
                      rw [← hn1] at a2
                      have hcut := fun W => cut_eight (w5.heap.size + 1) k hlt W
                      have hwr : IntKind.i64.wrap ((k : Int) + 1) = (k : Int) + 1 := IntWalk.i64_in _ (by omega)
                      have hk0 : (0 : Int) ≤ k := by omega
                      have hk1 : (k : Int) < 8 := by omega
                      have hb10 : (⟨#[10]⟩ : ByteArray) = bs [10] := rfl
                      clear hln hn1
                      go_wp2_with fail
                      refine region_mono (txSpN w5.heap.size (w5.heap.size + 1) k a t1 t2 n1 (X (7 + k) 0) (X (7 + (k + 1)) 0)) [138, 139, 140, 141, 142, 143, 144, 145, 146, 147, 148, 149, 150, 151, 3] (by kernel_rfl) (by kernel_rfl) (by kernel_rfl) (by kernel_rfl) (stables_cons (Sp.cl_stable _ _ _) (stables_cons (Sp.c_stable _ _) (stables_cons (Sp.c_stable _ _) (stables_cons (Sp.c_stable _ _) (stables_cons (Sp.c_stable _ _) (stables_cons (Sp.c_stable _ _) (stables_cons (Sp.c_stable _ _) (stables_cons (Sp.c_stable _ _) (stables_cons (Sp.c_stable _ _) (stables_cons (Sp.c_stable _ _) (stables_cons (Sp.c_stable _ _) (stables_cons (Sp.c_stable _ _) (stables_cons (Sp.c_stable _ _) (stables_cons (Sp.c_stable _ _) (stables_cons (Sp.c_stable _ _) (trivial)))))))))))))))) ?_ ?_
                      · intro am wm L hbm hbase hbase2
                        have s9 : am.tmps.getD 9 undef = .slice (some ⟨w5.heap.size, 0, none⟩) 8 8 := (hbase 9 rfl).trans (by simp only [Array.getD_eq_getD_getElem?, List.getElem?_toArray, List.getElem?_cons_succ, List.getElem?_cons_zero, Option.getD_some])
                        have s10 : am.tmps.getD 10 undef = .slice (some ⟨(w5.heap.size + 1), 0, none⟩) 8 8 := (hbase 10 rfl).trans (by simp only [Array.getD_eq_getD_getElem?, List.getElem?_toArray, List.getElem?_cons_succ, List.getElem?_cons_zero, Option.getD_some])
                        have s11 : am.tmps.getD 11 undef = .int .i64 k := (hbase 11 rfl).trans (by simp only [Array.getD_eq_getD_getElem?, List.getElem?_toArray, List.getElem?_cons_succ, List.getElem?_cons_zero, Option.getD_some])
                        clear hbase
                        have m0 := carry hbm c9
                        have ur := HUR.out.later hbm
                        refine steps_cons (fun hn hl => ?_) fun H0 => ?_
                        · skip
                          have h3 : am.tmps.getD 3 undef = .string (bs (X (7 + k) 0)) := (hbase2 14 3 rfl (hl 14 (show 14 ∈ [14] from .head _))).trans (by simp only [Array.getD_eq_getD_getElem?, List.getElem?_toArray, List.getElem?_cons_succ, List.getElem?_cons_zero, Option.getD_some])
                          clear hbase2
                          clear hn hl 
                          refine stepL (wanted_free rfl) fun K hK => ?_
                          go_simp
                          exact hK _ (Below.refl _ _)
                        refine steps_cons (fun hn hl => ?_) fun H1 => ?_
                        · skip
                          clear hn hl H0
                          refine stepC (wanted_free rfl) fun K hK => ?_
                          go_simp
                          exact hK _ (Below.refl _ _)
                        refine steps_cons (fun hn hl => ?_) fun H2 => ?_
                        · skip
                          clear hn hl H0 H1
                          refine stepC (wanted_free rfl) fun K hK => ?_
                          go_simp
                          exact hK _ (Below.refl _ _)
                        refine steps_cons (fun hn hl => ?_) fun H3 => ?_
                        · skip
                          have h139 := Sp.of_c (H1 (hn 1 (show 1 ∈ [1, 2] from .head _)))
                          have h140 := Sp.of_c (H2 (hn 2 (show 2 ∈ [1, 2] from .tail _ (.head _))))
                          clear hn hl H0 H1 H2
                          refine stepC (wanted_free rfl) fun K hK => ?_
                          go_simp
                          exact hK _ (Below.refl _ _)
                        refine steps_cons (fun hn hl => ?_) fun H4 => ?_
                        · skip
                          have h141 := Sp.of_c (H3 (hn 3 (show 3 ∈ [3] from .head _)))
                          clear hn hl H0 H1 H2 H3
                          refine stepC (wanted_free rfl) fun K hK => ?_
                          go_simp
                          exact hK _ (Below.refl _ _)
                        refine steps_cons (fun hn hl => ?_) fun H5 => ?_
                        · skip
                          have h138 := Sp.of_cl (H0 (hn 0 (show 0 ∈ [0, 4] from .head _)))
                          have h142 := Sp.of_c (H4 (hn 4 (show 4 ∈ [0, 4] from .tail _ (.head _))))
                          clear hn hl H0 H1 H2 H3 H4
                          refine stepC (wanted_free rfl) fun K hK => ?_
                          go_simp
                          exact hK _ (Below.refl _ _)
                        refine steps_cons (fun hn hl => ?_) fun H6 => ?_
                        · skip
                          clear hn hl H0 H1 H2 H3 H4 H5
                          refine stepC (wanted_free rfl) fun K hK => ?_
                          go_simp
                          exact hK _ (Below.refl _ _)
                        refine steps_cons (fun hn hl => ?_) fun H7 => ?_
                        · skip
                          clear hn hl H0 H1 H2 H3 H4 H5 H6
                          refine stepC (wanted_free rfl) fun K hK => ?_
                          go_simp
                          exact hK _ (Below.refl _ _)
                        refine steps_cons (fun hn hl => ?_) fun H8 => ?_
                        · skip
                          clear hn hl H0 H1 H2 H3 H4 H5 H6 H7
                          refine stepC (wanted_free rfl) fun K hK => ?_
                          go_simp
                          exact hK _ (Below.refl _ _)
                        refine steps_cons (fun hn hl => ?_) fun H9 => ?_
                        · skip
                          have h146 := Sp.of_c (H8 (hn 8 (show 8 ∈ [8] from .head _)))
                          clear hn hl H0 H1 H2 H3 H4 H5 H6 H7 H8
                          refine stepC (wanted_free rfl) fun K hK => ?_
                          go_simp
                          exact hK _ (Below.refl _ _)
                        refine steps_cons (fun hn hl => ?_) fun H10 => ?_
                        · skip
                          have h144 := Sp.of_c (H6 (hn 6 (show 6 ∈ [6, 7, 9] from .head _)))
                          have h145 := Sp.of_c (H7 (hn 7 (show 7 ∈ [6, 7, 9] from .tail _ (.head _))))
                          have h147 := Sp.of_c (H9 (hn 9 (show 9 ∈ [6, 7, 9] from .tail _ (.tail _ (.head _)))))
                          clear hn hl H0 H1 H2 H3 H4 H5 H6 H7 H8 H9
                          refine stepC (wanted_free rfl) fun K hK => ?_
                          go_simp
                          exact hK _ (Below.refl _ _)
                        refine steps_cons (fun hn hl => ?_) fun H11 => ?_
                        · skip
                          have h148 := Sp.of_c (H10 (hn 10 (show 10 ∈ [10] from .head _)))
                          clear hn hl H0 H1 H2 H3 H4 H5 H6 H7 H8 H9 H10
                          refine stepC (wanted_free rfl) fun K hK => ?_
                          go_simp
                          first
                            | ((with_reducible refine (HN1.out _ ur).mono ?_); rintro e w6 ⟨rfl, hb6⟩; exact hK _ hb6)
                        refine steps_cons (fun hn hl => ?_) fun H12 => ?_
                        · skip
                          have h143 := Sp.of_c (H5 (hn 5 (show 5 ∈ [5, 11] from .head _)))
                          have h149 := Sp.of_c (H11 (hn 11 (show 11 ∈ [5, 11] from .tail _ (.head _))))
                          clear hn hl H0 H1 H2 H3 H4 H5 H6 H7 H8 H9 H10 H11
                          refine stepC (wanted_free rfl) fun K hK => ?_
                          go_simp
                          exact hK _ (Below.refl _ _)
                        refine steps_cons (fun hn hl => ?_) fun H13 => ?_
                        · skip
                          have h150 := Sp.of_c (H12 (hn 12 (show 12 ∈ [12] from .head _)))
                          clear hn hl H0 H1 H2 H3 H4 H5 H6 H7 H8 H9 H10 H11 H12
                          refine stepC (wanted_free rfl) fun K hK => ?_
                          go_simp
                          exact hK _ (Below.refl _ _)
                        refine steps_cons (fun hn hl => ?_) fun H14 => ?_
                        · skip
                          have h151 := Sp.of_c (H13 (hn 13 (show 13 ∈ [13] from .head _)))
                          clear hn hl H0 H1 H2 H3 H4 H5 H6 H7 H8 H9 H10 H11 H12 H13
                          refine stepC (wanted_free rfl) fun K hK => ?_
                          go_simp
                          exact hK _ (Below.refl _ _)
                        exact trivial
                      · intro w9 hb9
                        have hz9 := hb9.size
                        refine end_cons ?_; rintro _ rfl
                        refine end_cons ?_; rintro _ rfl
                        refine end_cons ?_; rintro _ rfl
                        refine end_cons ?_; rintro _ rfl
                        refine end_cons ?_; rintro _ rfl
                        refine end_cons ?_; rintro _ rfl
                        refine end_cons ?_; rintro _ rfl
                        refine end_cons ?_; rintro _ rfl
                        refine end_cons ?_; rintro _ rfl
                        refine end_cons ?_; rintro _ rfl
                        refine end_cons ?_; rintro _ rfl
                        refine end_cons ?_; rintro _ rfl
                        refine end_cons ?_; rintro _ rfl
                        refine end_cons ?_; rintro _ rfl
                        refine end_cons ?_; rintro _ rfl
                        refine end_nil ?_
                        simp only [List.setIfInBounds_toArray, List.set_cons_succ, List.set_cons_zero, Bool.not_false, Bool.not_true, Bool.true_or, Bool.or_true, Bool.false_or, Bool.or_false]
                        go_wp2
                        go_roundw
                        case rel => exact ⟨k + 1, by omega, by go_num, rfl, hbz.trans (hb9.mono hbz.size)⟩
                        case measure => simp [intOf]; omega
                    · have hkl : k = 8 := by omega
                      subst hkl
                      go_wp2
                      go_ret
                      exact ⟨rfl, hb0'.trans ((hby8.trans (hbz.mono hby8.size)).mono hz0)⟩
                · skip
                  have hm : s.mode = 2 := by omega
                  have am := line_add (HT.out.cons hm) (HT.out.len 7 0 (by omega))
                  rw [hm] at f9
                  have hbM : (⟨#[109, 111, 100, 101, 32, 99, 111, 110, 115, 101, 114, 118, 97, 116, 105, 118, 101, 10]⟩ : ByteArray) = bs [109, 111, 100, 101, 32, 99, 111, 110, 115, 101, 114, 118, 97, 116, 105, 118, 101, 10] := rfl
                  clear hm hmo hmm
                  go_wp2
                  generalize hw8 : World.alloc (World.alloc w5 _) _ = w8
                  have hb8 : Below w5.heap.size w5 w8 := by rw [← hw8]; exact (by repeat' (first | exact Below.refl _ _ | assumption | exact And.left (by assumption) | refine Below.drew ?_ | refine below_drewN ?_ _ | refine Below.setCell ?_ (by first | (simp; done) | (simp; omega) | omega) _ | refine Below.alloc ?_ (by first | (simp; done) | (simp; omega) | omega) _ | refine after (by assumption) (by first | (simp; done) | (simp; omega) | omega) ?_))
                  have hby8 : Below w0.heap.size w0 w8 := hby.trans (hb8.mono hby.size)
                  have HNM : Hid (∀ j, j < 8 → w8.cell? ⟨w5.heap.size, j, none⟩ = some (.string (bs (kindW (7 + j))))) := Lib.hid (fun j hj => by
                    match j, hj with
                    | 0, _ | 1, _ | 2, _ | 3, _ | 4, _ | 5, _ | 6, _ | 7, _ => rw [← hw8]; simp [go_sem]; rfl
                    | n + 8, h => omega)
                  have HRW : Hid (RowAt w8 (some ⟨w5.heap.size + 1, 0, none⟩) (vals [s.jobs, s.ids, s.versions, s.linger, s.keep, s.inn, s.out, s.cache])) := Lib.hid (by
                    have h1 := row_new (w5.alloc (.cells #[.string ⟨#[106, 111, 98, 115]⟩, .string ⟨#[105, 100, 115]⟩, .string ⟨#[118, 101, 114, 115, 105, 111, 110, 115]⟩, .string ⟨#[108, 105, 110, 103, 101, 114]⟩, .string ⟨#[107, 101, 101, 112]⟩, .string ⟨#[105, 110]⟩, .string ⟨#[111, 117, 116]⟩, .string ⟨#[99, 97, 99, 104, 101]⟩] 9)) #[.int .i64 s.jobs, .int .i64 s.ids, .int .i64 s.versions, .int .i64 s.linger, .int .i64 s.keep, .int .i64 s.inn, .int .i64 s.out, .int .i64 s.cache] 3
                    rw [hw8, World.size_alloc] at h1
                    exact h1)
                  clear hw8 am hbM g10 g11 g12 g13 g14 g15 g16 g17 f9
                  have hz8 := hb8.size
                  go_loopw [3, 11] (fun t x wr => ∃ k : Nat, k ≤ 8 ∧ x = .int .i64 (k : Int) ∧ t = .string (bs (X (7 + k) 0)) ∧ Below w8.heap.size w8 wr) (fun _ x _ => 8 - (intOf x).toNat)
                  case atStart => exact ⟨0, Nat.zero_le _, rfl, rfl, Below.refl _ _⟩
                  case round =>
                    obtain ⟨k, hk, rfl, rfl, hbz⟩ := hrel
                    by_cases hlt : k < 8
                    · have c9 := carry hbz (HNM.out k hlt)
                      obtain ⟨t1, t2, a1, a2, a3⟩ := line_adds (HT.out.last k hlt) (HT.out.llen k hlt)
                      have hln := last_num s k hlt HNU.out
                      have HUR := Lib.hid ((HRW.out.later hbz).one (last_at s k hlt))
                      generalize lastN s k = v at a2 hln HUR
                      generalize kindW (7 + k) = a at c9 a1
                      obtain ⟨n1, hn1⟩ : ∃ n1, n1 = numsT [v] := ⟨_, rfl⟩
                      have HN1 : Hid (∀ (w' : World), RowAt w' (some ⟨w5.heap.size + 1, k, none⟩) (vals [v]) → Calls Tryz.prog 23 #[.slice (some ⟨w5.heap.size + 1, k, none⟩) 1 (8 - k)] w' fun e w2 => e = .returned (.string (bs n1)) ∧ Below w'.heap.size w' w2) := Lib.hid (fun w' z => hn1 ▸ rNums _ (8 - k) [v] (by simp) (fun n hn => by simp at hn; subst hn; exact hln) w' z)
                      rw [← hn1] at a2
                      have hcut := fun W => cut_eight (w5.heap.size + 1) k hlt W
                      have hwr : IntKind.i64.wrap ((k : Int) + 1) = (k : Int) + 1 := IntWalk.i64_in _ (by omega)
                      have hk0 : (0 : Int) ≤ k := by omega
                      have hk1 : (k : Int) < 8 := by omega
                      have hb10 : (⟨#[10]⟩ : ByteArray) = bs [10] := rfl
                      clear hln hn1
                      go_wp2_with fail
                      refine region_mono (txSpN w5.heap.size (w5.heap.size + 1) k a t1 t2 n1 (X (7 + k) 0) (X (7 + (k + 1)) 0)) [138, 139, 140, 141, 142, 143, 144, 145, 146, 147, 148, 149, 150, 151, 3] (by kernel_rfl) (by kernel_rfl) (by kernel_rfl) (by kernel_rfl) (stables_cons (Sp.cl_stable _ _ _) (stables_cons (Sp.c_stable _ _) (stables_cons (Sp.c_stable _ _) (stables_cons (Sp.c_stable _ _) (stables_cons (Sp.c_stable _ _) (stables_cons (Sp.c_stable _ _) (stables_cons (Sp.c_stable _ _) (stables_cons (Sp.c_stable _ _) (stables_cons (Sp.c_stable _ _) (stables_cons (Sp.c_stable _ _) (stables_cons (Sp.c_stable _ _) (stables_cons (Sp.c_stable _ _) (stables_cons (Sp.c_stable _ _) (stables_cons (Sp.c_stable _ _) (stables_cons (Sp.c_stable _ _) (trivial)))))))))))))))) ?_ ?_
                      · intro am wm L hbm hbase hbase2
                        have s9 : am.tmps.getD 9 undef = .slice (some ⟨w5.heap.size, 0, none⟩) 8 8 := (hbase 9 rfl).trans (by simp only [Array.getD_eq_getD_getElem?, List.getElem?_toArray, List.getElem?_cons_succ, List.getElem?_cons_zero, Option.getD_some])
                        have s10 : am.tmps.getD 10 undef = .slice (some ⟨(w5.heap.size + 1), 0, none⟩) 8 8 := (hbase 10 rfl).trans (by simp only [Array.getD_eq_getD_getElem?, List.getElem?_toArray, List.getElem?_cons_succ, List.getElem?_cons_zero, Option.getD_some])
                        have s11 : am.tmps.getD 11 undef = .int .i64 k := (hbase 11 rfl).trans (by simp only [Array.getD_eq_getD_getElem?, List.getElem?_toArray, List.getElem?_cons_succ, List.getElem?_cons_zero, Option.getD_some])
                        clear hbase
                        have m0 := carry hbm c9
                        have ur := HUR.out.later hbm
                        refine steps_cons (fun hn hl => ?_) fun H0 => ?_
                        · skip
                          have h3 : am.tmps.getD 3 undef = .string (bs (X (7 + k) 0)) := (hbase2 14 3 rfl (hl 14 (show 14 ∈ [14] from .head _))).trans (by simp only [Array.getD_eq_getD_getElem?, List.getElem?_toArray, List.getElem?_cons_succ, List.getElem?_cons_zero, Option.getD_some])
                          clear hbase2
                          clear hn hl 
                          refine stepL (wanted_free rfl) fun K hK => ?_
                          go_simp
                          exact hK _ (Below.refl _ _)
                        refine steps_cons (fun hn hl => ?_) fun H1 => ?_
                        · skip
                          clear hn hl H0
                          refine stepC (wanted_free rfl) fun K hK => ?_
                          go_simp
                          exact hK _ (Below.refl _ _)
                        refine steps_cons (fun hn hl => ?_) fun H2 => ?_
                        · skip
                          clear hn hl H0 H1
                          refine stepC (wanted_free rfl) fun K hK => ?_
                          go_simp
                          exact hK _ (Below.refl _ _)
                        refine steps_cons (fun hn hl => ?_) fun H3 => ?_
                        · skip
                          have h139 := Sp.of_c (H1 (hn 1 (show 1 ∈ [1, 2] from .head _)))
                          have h140 := Sp.of_c (H2 (hn 2 (show 2 ∈ [1, 2] from .tail _ (.head _))))
                          clear hn hl H0 H1 H2
                          refine stepC (wanted_free rfl) fun K hK => ?_
                          go_simp
                          exact hK _ (Below.refl _ _)
                        refine steps_cons (fun hn hl => ?_) fun H4 => ?_
                        · skip
                          have h141 := Sp.of_c (H3 (hn 3 (show 3 ∈ [3] from .head _)))
                          clear hn hl H0 H1 H2 H3
                          refine stepC (wanted_free rfl) fun K hK => ?_
                          go_simp
                          exact hK _ (Below.refl _ _)
                        refine steps_cons (fun hn hl => ?_) fun H5 => ?_
                        · skip
                          have h138 := Sp.of_cl (H0 (hn 0 (show 0 ∈ [0, 4] from .head _)))
                          have h142 := Sp.of_c (H4 (hn 4 (show 4 ∈ [0, 4] from .tail _ (.head _))))
                          clear hn hl H0 H1 H2 H3 H4
                          refine stepC (wanted_free rfl) fun K hK => ?_
                          go_simp
                          exact hK _ (Below.refl _ _)
                        refine steps_cons (fun hn hl => ?_) fun H6 => ?_
                        · skip
                          clear hn hl H0 H1 H2 H3 H4 H5
                          refine stepC (wanted_free rfl) fun K hK => ?_
                          go_simp
                          exact hK _ (Below.refl _ _)
                        refine steps_cons (fun hn hl => ?_) fun H7 => ?_
                        · skip
                          clear hn hl H0 H1 H2 H3 H4 H5 H6
                          refine stepC (wanted_free rfl) fun K hK => ?_
                          go_simp
                          exact hK _ (Below.refl _ _)
                        refine steps_cons (fun hn hl => ?_) fun H8 => ?_
                        · skip
                          clear hn hl H0 H1 H2 H3 H4 H5 H6 H7
                          refine stepC (wanted_free rfl) fun K hK => ?_
                          go_simp
                          exact hK _ (Below.refl _ _)
                        refine steps_cons (fun hn hl => ?_) fun H9 => ?_
                        · skip
                          have h146 := Sp.of_c (H8 (hn 8 (show 8 ∈ [8] from .head _)))
                          clear hn hl H0 H1 H2 H3 H4 H5 H6 H7 H8
                          refine stepC (wanted_free rfl) fun K hK => ?_
                          go_simp
                          exact hK _ (Below.refl _ _)
                        refine steps_cons (fun hn hl => ?_) fun H10 => ?_
                        · skip
                          have h144 := Sp.of_c (H6 (hn 6 (show 6 ∈ [6, 7, 9] from .head _)))
                          have h145 := Sp.of_c (H7 (hn 7 (show 7 ∈ [6, 7, 9] from .tail _ (.head _))))
                          have h147 := Sp.of_c (H9 (hn 9 (show 9 ∈ [6, 7, 9] from .tail _ (.tail _ (.head _)))))
                          clear hn hl H0 H1 H2 H3 H4 H5 H6 H7 H8 H9
                          refine stepC (wanted_free rfl) fun K hK => ?_
                          go_simp
                          exact hK _ (Below.refl _ _)
                        refine steps_cons (fun hn hl => ?_) fun H11 => ?_
                        · skip
                          have h148 := Sp.of_c (H10 (hn 10 (show 10 ∈ [10] from .head _)))
                          clear hn hl H0 H1 H2 H3 H4 H5 H6 H7 H8 H9 H10
                          refine stepC (wanted_free rfl) fun K hK => ?_
                          go_simp
                          first
                            | ((with_reducible refine (HN1.out _ ur).mono ?_); rintro e w6 ⟨rfl, hb6⟩; exact hK _ hb6)
                        refine steps_cons (fun hn hl => ?_) fun H12 => ?_
                        · skip
                          have h143 := Sp.of_c (H5 (hn 5 (show 5 ∈ [5, 11] from .head _)))
                          have h149 := Sp.of_c (H11 (hn 11 (show 11 ∈ [5, 11] from .tail _ (.head _))))
                          clear hn hl H0 H1 H2 H3 H4 H5 H6 H7 H8 H9 H10 H11
                          refine stepC (wanted_free rfl) fun K hK => ?_
                          go_simp
                          exact hK _ (Below.refl _ _)
                        refine steps_cons (fun hn hl => ?_) fun H13 => ?_
                        · skip
                          have h150 := Sp.of_c (H12 (hn 12 (show 12 ∈ [12] from .head _)))
                          clear hn hl H0 H1 H2 H3 H4 H5 H6 H7 H8 H9 H10 H11 H12
                          refine stepC (wanted_free rfl) fun K hK => ?_
                          go_simp
                          exact hK _ (Below.refl _ _)
                        refine steps_cons (fun hn hl => ?_) fun H14 => ?_
                        · skip
                          have h151 := Sp.of_c (H13 (hn 13 (show 13 ∈ [13] from .head _)))
                          clear hn hl H0 H1 H2 H3 H4 H5 H6 H7 H8 H9 H10 H11 H12 H13
                          refine stepC (wanted_free rfl) fun K hK => ?_
                          go_simp
                          exact hK _ (Below.refl _ _)
                        exact trivial
                      · intro w9 hb9
                        have hz9 := hb9.size
                        refine end_cons ?_; rintro _ rfl
                        refine end_cons ?_; rintro _ rfl
                        refine end_cons ?_; rintro _ rfl
                        refine end_cons ?_; rintro _ rfl
                        refine end_cons ?_; rintro _ rfl
                        refine end_cons ?_; rintro _ rfl
                        refine end_cons ?_; rintro _ rfl
                        refine end_cons ?_; rintro _ rfl
                        refine end_cons ?_; rintro _ rfl
                        refine end_cons ?_; rintro _ rfl
                        refine end_cons ?_; rintro _ rfl
                        refine end_cons ?_; rintro _ rfl
                        refine end_cons ?_; rintro _ rfl
                        refine end_cons ?_; rintro _ rfl
                        refine end_cons ?_; rintro _ rfl
                        refine end_nil ?_
                        simp only [List.setIfInBounds_toArray, List.set_cons_succ, List.set_cons_zero, Bool.not_false, Bool.not_true, Bool.true_or, Bool.or_true, Bool.false_or, Bool.or_false]
                        go_wp2
                        go_roundw
                        case rel => exact ⟨k + 1, by omega, by go_num, rfl, hbz.trans (hb9.mono hbz.size)⟩
                        case measure => simp [intOf]; omega
                    · have hkl : k = 8 := by omega
                      subst hkl
                      go_wp2
                      go_ret
                      exact ⟨rfl, hb0'.trans ((hby8.trans (hbz.mono hby8.size)).mono hz0)⟩
end Go.Proofs.YtgopjpnlpcmldaaGreatDoor.W
