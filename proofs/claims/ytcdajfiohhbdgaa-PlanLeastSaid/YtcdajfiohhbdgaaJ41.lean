/-
  Several texts in one: BkMeets, BkAlone, BkRight.
-/
import Derived.Test.YtcdajfiohhbdgaaBkMem
import Derived.Deep.QuietTactic
import Derived.BigQuiet
import Derived.Test.YtcdajfiohhbdgaaMono

/-
  Contracts of book.Meets, book.alone; of the document's Meets, One.
-/
namespace Go.Proofs.Ytcdajfiohhbdgaa.W
set_option linter.unusedVariables false
set_option linter.unusedSimpArgs false
open Go.ChangeShapes Go.WideShapes Go.ChangeAt Go.RowKit

theorem meets_next {l : List Bk} {k : Nat} (hk : k < l.length) {n f t : Int} : Meets (l.drop k) n f t ↔ Meet l[k] n f t ∨ Meets (l.drop (k + 1)) n f t := by
  rw [drop_at l k hk]
  generalize l[k] = x
  unfold Meets
  constructor
  · rintro ⟨b, hb, hm⟩
    rcases List.mem_cons.1 hb with rfl | hb
    · exact .inl hm
    · exact .inr ⟨b, hb, hm⟩
  · rintro (h | ⟨b, hb, hm⟩)
    · exact ⟨x, by simp, h⟩
    · exact ⟨b, List.mem_cons_of_mem _ hb, hm⟩
def mxK (b : Bk) (f : Int) : Int := if b.frm < f then f else b.frm
def mnK (b : Bk) (t : Int) : Int := if t < b.til then t else b.til
theorem meet_mx (b : Bk) (n f t : Int) : Meet b n f t ↔ b.node = n ∧ mxK b f < mnK b t := by
  unfold Meet mxK mnK
  constructor
  · rintro ⟨h0, h1, h2, h3, h4⟩
    refine ⟨h0, ?_⟩
    split <;> split <;> omega
  · rintro ⟨h0, h1⟩
    refine ⟨h0, ?_⟩
    split at h1 <;> split at h1 <;> omega
set_option maxHeartbeats 1000000 in
theorem bMeets (a : Option Addr) (cap : Nat) (l : List Bk) (hl : l.length ≤ 100000) (n f t : Int) (w : World) (HA : BkAt w a cap l) :
    Calls Try.prog 36 #[.slice a l.length cap, .int .i64 n, .int .i64 f, .int .i64 t] w fun e w' => e = .returned (.bool (meetsB l n f t)) ∧ Below w.heap.size w w' := by
  have HR := Lib.hid HA
  clear HA
  go_enter Try.func36, Try.ntmps36
  go_wp2
  go_loopw [13] (fun x wr => ∃ k : Nat, k ≤ l.length ∧ x = .int .i64 k ∧ Below w.heap.size w wr ∧ Hid (Meets l n f t ↔ Meets (l.drop k) n f t)) (fun x _ => l.length - (intOf x).toNat)
  case atStart => exact ⟨0, Nat.zero_le _, rfl, (by repeat' (first | exact Below.refl _ _ | assumption | exact And.left (by assumption) | refine Below.drew ?_ | refine below_drewN ?_ _ | refine Below.setCell ?_ (by first | (simp; done) | (simp; omega) | omega) _ | refine Below.alloc ?_ (by first | (simp; done) | (simp; omega) | omega) _ | refine after (by assumption) (by first | (simp; done) | (simp; omega) | omega) ?_)), Lib.hid (by simp)⟩
  case round =>
    obtain ⟨k, hk, rfl, hb, HI⟩ := hrel
    have hz := hb.size
    by_cases hlt : k < l.length
    · obtain ⟨b, off, ea, hbl, q0, q1, q2, q3⟩ := (HR.out.later hb).row.bk hlt
      subst ea
      have HN : Hid (Meets l n f t ↔ (l[k].node = n ∧ mxK l[k] f < mnK l[k] t) ∨ Meets (l.drop (k + 1)) n f t) := Lib.hid (by rw [HI.out, meets_next hlt, meet_mx])
      clear HI
      generalize l[k] = s at q0 q1 q2 q3 HN
      have hmx : ∀ ts ty W, (Builtin.max_ ts ty #[.int .i64 s.frm, .int .i64 f]).run Try.prog W = .ok (.int .i64 (mxK s f)) W := fun ts ty W => max2_run _ ts ty _ _ W
      have hmn : ∀ ts ty W, (Builtin.min_ ts ty #[.int .i64 s.til, .int .i64 t]).run Try.prog W = .ok (.int .i64 (mnK s t)) W := fun ts ty W => least_run _ ts ty _ _ W
      generalize mxK s f = mx at hmx HN
      generalize mnK s t = mn at hmn HN
      by_cases h0 : s.node = n
      · have g0 : (s.node == n) = true := by simpa using h0
        by_cases h1 : mx < mn
        · have g1 : decide (mx < mn) = true := decide_eq_true h1
          have E : Hid (meetsB l n f t = true) := Lib.hid (decide_eq_true (HN.out.2 (.inl ⟨h0, h1⟩)))
          clear HN h0 h1
          go_wp2
          go_ret
          exact ⟨by rw [E.out]; rfl, (by repeat' (first | exact Below.refl _ _ | assumption | exact And.left (by assumption) | refine Below.drew ?_ | refine below_drewN ?_ _ | refine Below.setCell ?_ (by first | (simp; done) | (simp; omega) | omega) _ | refine Below.alloc ?_ (by first | (simp; done) | (simp; omega) | omega) _ | refine after (by assumption) (by first | (simp; done) | (simp; omega) | omega) ?_))⟩
        · have g1 : decide (mx < mn) = false := decide_eq_false h1
          have HX : Hid (Meets l n f t ↔ Meets (l.drop (k + 1)) n f t) := Lib.hid (by rw [HN.out]; exact ⟨fun x => x.elim (fun y => absurd y.2 h1) id, .inr⟩)
          clear HN h0 h1
          go_wp2
          go_roundw
          case rel => exact ⟨k + 1, by omega, by go_num, (by repeat' (first | exact Below.refl _ _ | assumption | exact And.left (by assumption) | refine Below.drew ?_ | refine below_drewN ?_ _ | refine Below.setCell ?_ (by first | (simp; done) | (simp; omega) | omega) _ | refine Below.alloc ?_ (by first | (simp; done) | (simp; omega) | omega) _ | refine after (by assumption) (by first | (simp; done) | (simp; omega) | omega) ?_)), HX⟩
          case measure => simp [intOf]; omega
      · have g0 : (s.node == n) = false := by simpa using h0
        have HX : Hid (Meets l n f t ↔ Meets (l.drop (k + 1)) n f t) := Lib.hid (by rw [HN.out]; exact ⟨fun x => x.elim (fun y => absurd y.1 h0) id, .inr⟩)
        clear HN h0
        go_wp2
        go_roundw
        case rel => exact ⟨k + 1, by omega, by go_num, (by repeat' (first | exact Below.refl _ _ | assumption | exact And.left (by assumption) | refine Below.drew ?_ | refine below_drewN ?_ _ | refine Below.setCell ?_ (by first | (simp; done) | (simp; omega) | omega) _ | refine Below.alloc ?_ (by first | (simp; done) | (simp; omega) | omega) _ | refine after (by assumption) (by first | (simp; done) | (simp; omega) | omega) ?_)), HX⟩
        case measure => simp [intOf]; omega
    · have hkl : k = l.length := by omega
      subst hkl
      have E : Hid (meetsB l n f t = false) := Lib.hid (decide_eq_false (by
        rw [HI.out, List.drop_length]; rintro ⟨_, h, _⟩; cases h))
      clear HI
      go_wp2
      go_ret
      exact ⟨by rw [E.out]; rfl, (by repeat' (first | exact Below.refl _ _ | assumption | exact And.left (by assumption) | refine Below.drew ?_ | refine below_drewN ?_ _ | refine Below.setCell ?_ (by first | (simp; done) | (simp; omega) | omega) _ | refine Below.alloc ?_ (by first | (simp; done) | (simp; omega) | omega) _ | refine after (by assumption) (by first | (simp; done) | (simp; omega) | omega) ?_))⟩

end Go.Proofs.Ytcdajfiohhbdgaa.W


/-
  Contracts of book.alone; of the document's One.
-/
namespace Go.Proofs.Ytcdajfiohhbdgaa.W
set_option linter.unusedVariables false
set_option linter.unusedSimpArgs false
open Go.ChangeShapes Go.WideShapes Go.ChangeAt Go.RowKit

def okB (n : Int) (b : Bk) : Bool := decide (BkOk n b)
/-- the first question that goes the other way -/
theorem ok_first {n : Int} {b : Bk} (h : ¬ BkOk n b) : decide (0 < b.id) = false ∨ (decide (0 < b.id) = true ∧ decide (b.id ≤ 281474976710656) = false) ∨ (decide (0 < b.id) = true ∧ decide (b.id ≤ 281474976710656) = true ∧ decide (0 ≤ b.node) = false) ∨
    (decide (0 < b.id) = true ∧ decide (b.id ≤ 281474976710656) = true ∧ decide (0 ≤ b.node) = true ∧ decide (b.node < n) = false) ∨
    (decide (0 < b.id) = true ∧ decide (b.id ≤ 281474976710656) = true ∧ decide (0 ≤ b.node) = true ∧ decide (b.node < n) = true ∧ decide (0 ≤ b.frm) = false) ∨
    (decide (0 < b.id) = true ∧ decide (b.id ≤ 281474976710656) = true ∧ decide (0 ≤ b.node) = true ∧ decide (b.node < n) = true ∧ decide (0 ≤ b.frm) = true ∧ decide (b.frm < b.til) = false) ∨
    (decide (0 < b.id) = true ∧ decide (b.id ≤ 281474976710656) = true ∧ decide (0 ≤ b.node) = true ∧ decide (b.node < n) = true ∧ decide (0 ≤ b.frm) = true ∧ decide (b.frm < b.til) = true ∧ decide (b.til ≤ 1099511627776) = false) := by
  unfold BkOk at h
  by_cases h0 : 0 < b.id
  · by_cases h1 : b.id ≤ 281474976710656
    · by_cases h2 : 0 ≤ b.node
      · by_cases h3 : b.node < n
        · by_cases h4 : 0 ≤ b.frm
          · by_cases h5 : b.frm < b.til
            · by_cases h6 : b.til ≤ 1099511627776
              · exact absurd ⟨⟨h0, h1⟩, ⟨h2, h3⟩, h4, h5, h6⟩ h
              · simp [h0, h1, h2, h3, h4, h5, h6]
            · simp [h0, h1, h2, h3, h4, h5]
          · simp [h0, h1, h2, h3, h4]
        · simp [h0, h1, h2, h3]
      · simp [h0, h1, h2]
    · simp [h0, h1]
  · simp [h0]
theorem one_le (x : Int) : decide (1 ≤ x) = decide (0 < x) := by rw [decide_eq_decide]; omega
set_option maxHeartbeats 2000000 in
theorem bAlone (b : Bk) (n : Int) (w : World) :
    Calls Try.prog 35 #[.agg #[.int .i64 b.id, .int .i64 b.node, .int .i64 b.frm, .int .i64 b.til], .int .i64 n] w fun e w' => e = .returned (.bool (okB n b)) ∧ Below w.heap.size w w' := by
  by_cases h : BkOk n b
  · rw [show okB n b = true from decide_eq_true h]
    obtain ⟨⟨h0, h1⟩, ⟨h2, h3⟩, h4, h5, h6⟩ := h
    have g0 : decide (1 ≤ b.id) = true := decide_eq_true h0
    have g1 := decide_eq_true h1
    have g2 := decide_eq_true h2
    have g3 := decide_eq_true h3
    have g4 := decide_eq_true h4
    have g5 := decide_eq_true h5
    have g6 := decide_eq_true h6
    clear h0 h1 h2 h3 h4 h5 h6
    go_enter Try.func35, Try.ntmps35
    go_wp2
    go_ret
    exact ⟨by simp [g6], (by repeat' (first | exact Below.refl _ _ | assumption | exact And.left (by assumption) | refine Below.drew ?_ | refine below_drewN ?_ _ | refine Below.setCell ?_ (by first | (simp; done) | (simp; omega) | omega) _ | refine Below.alloc ?_ (by first | (simp; done) | (simp; omega) | omega) _ | refine after (by assumption) (by first | (simp; done) | (simp; omega) | omega) ?_))⟩
  · rw [show okB n b = false from decide_eq_false h]
    have key := ok_first h
    rw [← one_le] at key
    clear h
    rcases key with g0 | ⟨g0, g1⟩ | ⟨g0, g1, g2⟩ | ⟨g0, g1, g2, g3⟩ | ⟨g0, g1, g2, g3, g4⟩ | ⟨g0, g1, g2, g3, g4, g5⟩ | ⟨g0, g1, g2, g3, g4, g5, g6⟩
    all_goals
      go_enter Try.func35, Try.ntmps35
      go_wp2
      go_ret
      exact ⟨by simp [*], (by repeat' (first | exact Below.refl _ _ | assumption | exact And.left (by assumption) | refine Below.drew ?_ | refine below_drewN ?_ _ | refine Below.setCell ?_ (by first | (simp; done) | (simp; omega) | omega) _ | refine Below.alloc ?_ (by first | (simp; done) | (simp; omega) | omega) _ | refine after (by assumption) (by first | (simp; done) | (simp; omega) | omega) ?_))⟩

end Go.Proofs.Ytcdajfiohhbdgaa.W


/-
  Contract of book.Right.
-/
namespace Go.Proofs.Ytcdajfiohhbdgaa.W
set_option linter.unusedVariables false
set_option linter.unusedSimpArgs false
open Go.ChangeShapes Go.WideShapes Go.ChangeAt Go.RowKit

/-- those ahead: the greatest number among them, if there are any -/
def Top (pre : List Bk) (d : Int) : Prop := (∀ c ∈ pre, c.id ≤ d) ∧ (d = 0 ∨ ∃ c ∈ pre, c.id = d)
theorem behind_top {n : Int} {pre : List Bk} {d : Int} (h : Top pre d) (b : Bk) : Behind n pre b ↔ ¬ b.id ≤ d ∧ BkOk n b ∧ ¬ Meets pre b.node b.frm b.til := by
  constructor
  · rintro ⟨h0, h1⟩
    refine ⟨fun h2 => ?_, h0, fun ⟨c, hc, hm⟩ => (h1 c hc).2 hm⟩
    rcases h.2 with h3 | ⟨c, hc, h3⟩
    · have := h0.1.1; omega
    · have := (h1 c hc).1; omega
  · rintro ⟨h0, h1, h2⟩
    exact ⟨h1, fun c hc => ⟨by have := h.1 c hc; omega, fun hm => h2 ⟨c, hc, hm⟩⟩⟩
theorem top_next {pre : List Bk} {d : Int} (h : Top pre d) {b : Bk} (hb : ¬ b.id ≤ d) : Top (pre ++ [b]) b.id := by
  refine ⟨fun c hc => ?_, .inr ⟨b, by simp, rfl⟩⟩
  rcases List.mem_append.1 hc with hc | hc
  · have := h.1 c hc; omega
  · rw [List.mem_singleton.1 hc]; exact Int.le_refl _
theorem rightK_next {n : Int} {l : List Bk} {k : Nat} (hk : k < l.length) : RightK n (l.take k) (l.drop k) ↔ Behind n (l.take k) l[k] ∧ RightK n (l.take (k + 1)) (l.drop (k + 1)) := by
  rw [drop_at l k hk, take_app l k hk]
  exact Iff.rfl
def brSp (b off L cap g k : Nat) (n d : Int) (s : Bk) (p o m : Bool) : List Sp :=
  [Sp.c (.pointer (some ⟨g, 0, none⟩)) [],
   Sp.c (.int .i64 s.id) [0],
   Sp.c (.int .i64 d) [],
   Sp.c (.bool p) [1, 2],
   Sp.c (.bool p) [3],
   Sp.g (!p) (.agg #[.int .i64 s.id, .int .i64 s.node, .int .i64 s.frm, .int .i64 s.til]) [4],
   Sp.g (!p) (.int .i64 n) [4],
   Sp.g (!p) (.bool o) [5, 6, 4],
   Sp.g (!p) (.bool (!o)) [7, 4],
   Sp.c (.bool (p || !o)) [4, 8],
   Sp.c (.bool (p || !o)) [9],
   Sp.g (!p && o) (.slice (some ⟨b, off, none⟩) L cap) [10],
   Sp.g (!p && o) (.int .i64 (k : Int)) [10],
   Sp.g (!p && o) (.slice (some ⟨b, off, none⟩) k cap) [11, 12, 10],
   Sp.g (!p && o) (.pointer (some ⟨g, 1, none⟩)) [10],
   Sp.g (!p && o) (.int .i64 s.node) [14, 10],
   Sp.g (!p && o) (.pointer (some ⟨g, 2, none⟩)) [10],
   Sp.g (!p && o) (.int .i64 s.frm) [16, 10],
   Sp.g (!p && o) (.pointer (some ⟨g, 3, none⟩)) [10],
   Sp.g (!p && o) (.int .i64 s.til) [18, 10],
   Sp.g (!p && o) (.bool m) [13, 15, 17, 19, 10],
   Sp.c (.bool (p || !o || m)) [10, 20]]
set_option maxRecDepth 100000 in
set_option maxHeartbeats 8000000 in
theorem bRight (a : Option Addr) (cap : Nat) (l : List Bk) (hl : l.length ≤ 100000) (n : Int) (w : World) (HA : BkAt w a cap l) :
    Calls Try.prog 21 #[.slice a l.length cap, .int .i64 n] w fun e w' => e = .returned (.bool (rightBk l n)) ∧ Below w.heap.size w w' := by
  by_cases h16 : 16 < l.length
  · have E : Hid (rightBk l n = false) := Lib.hid (decide_eq_false (fun x => by have := x.2; omega))
    clear HA
    go_enter Try.func21, Try.ntmps21
    go_wp2
    go_ret
    exact ⟨by rw [E.out]; rfl, (by repeat' (first | exact Below.refl _ _ | assumption | exact And.left (by assumption) | refine Below.drew ?_ | refine below_drewN ?_ _ | refine Below.setCell ?_ (by first | (simp; done) | (simp; omega) | omega) _ | refine Below.alloc ?_ (by first | (simp; done) | (simp; omega) | omega) _ | refine after (by assumption) (by first | (simp; done) | (simp; omega) | omega) ?_))⟩
  · have HR := Lib.hid HA
    clear HA
    go_enter Try.func21, Try.ntmps21
    go_wp2
    go_loopw [5, 13] (fun v5 x wr => ∃ k : Nat, k ≤ l.length ∧ x = .int .i64 k ∧ ∃ d : Int, v5 = .int .i64 d ∧ Below w.heap.size w wr ∧ Hid ((RightK n [] l ↔ RightK n (l.take k) (l.drop k)) ∧ Top (l.take k) d)) (fun _ x _ => l.length - (intOf x).toNat)
    case atStart => exact ⟨0, Nat.zero_le _, rfl, 0, rfl, (by repeat' (first | exact Below.refl _ _ | assumption | exact And.left (by assumption) | refine Below.drew ?_ | refine below_drewN ?_ _ | refine Below.setCell ?_ (by first | (simp; done) | (simp; omega) | omega) _ | refine Below.alloc ?_ (by first | (simp; done) | (simp; omega) | omega) _ | refine after (by assumption) (by first | (simp; done) | (simp; omega) | omega) ?_)), Lib.hid ⟨by simp, by simp [Top]⟩⟩
    case round =>
      obtain ⟨k, hk, rfl, d, rfl, hb, HI⟩ := hrel
      have hz := hb.size
      by_cases hlt : k < l.length
      · have hcur := (HR.out.later hb)
        obtain ⟨b, off, ea, hbl, q0, q1, q2, q3⟩ := hcur.row.bk hlt
        have HN : Hid (RightK n [] l ↔ (d < l[k].id ∧ BkOk n l[k] ∧ ¬ Meets (l.take k) l[k].node l[k].frm l[k].til) ∧ RightK n (l.take (k + 1)) (l.drop (k + 1))) := Lib.hid (by rw [HI.out.1, rightK_next hlt, behind_top HI.out.2, Int.not_le])
        have HP : Hid (d < l[k].id → Top (l.take (k + 1)) l[k].id) := Lib.hid (fun x => by rw [take_app l k hlt]; exact top_next HI.out.2 (by omega))
        have htl : (l.take k).length = k := by rw [List.length_take]; omega
        have ht := hcur.take k
        have HM := Lib.hid (fun n' f' t' w' h' => bMeets a cap (l.take k) (by omega) n' f' t' w' h')
        rw [htl] at HM
        subst ea
        have HT0 := Lib.hid ht
        clear HI hcur ht htl
        generalize l.take k = pre at HM HN HT0
        generalize l[k] = s at q0 q1 q2 q3 HN HP
        replace HM := Lib.hid (HM.out s.node s.frm s.til)
        have HO := Lib.hid (fun w' => bAlone s n w')
        have hk0 : (0 : Int) ≤ k := by omega
        have hk1 : (k : Int) ≤ l.length := by omega
        have hkt : ((k : Int)).toNat = k := by omega
        have hkc : (k : Int) ≤ cap := by have := HR.out.le; omega
        go_wp2_with fail
        generalize hwx : World.alloc wr _ = wx
        have hbx : Below wr.heap.size wr wx := by rw [← hwx]; exact (by repeat' (first | exact Below.refl _ _ | assumption | exact And.left (by assumption) | refine Below.drew ?_ | refine below_drewN ?_ _ | refine Below.setCell ?_ (by first | (simp; done) | (simp; omega) | omega) _ | refine Below.alloc ?_ (by first | (simp; done) | (simp; omega) | omega) _ | refine after (by assumption) (by first | (simp; done) | (simp; omega) | omega) ?_))
        have y0 : wx.cell? ⟨wr.heap.size, 0, none⟩ = some (.int .i64 s.id) := by rw [← hwx]; simp [go_sem]
        have y1 : wx.cell? ⟨wr.heap.size, 1, none⟩ = some (.int .i64 s.node) := by rw [← hwx]; simp [go_sem]
        have y2 : wx.cell? ⟨wr.heap.size, 2, none⟩ = some (.int .i64 s.frm) := by rw [← hwx]; simp [go_sem]
        have y3 : wx.cell? ⟨wr.heap.size, 3, none⟩ = some (.int .i64 s.til) := by rw [← hwx]; simp [go_sem]
        clear hwx
        have kx := hb.trans (hbx.mono hz)
        have HT := Lib.hid (HT0.out.later hbx)
        clear HT0 q0 q1 q2 q3
        generalize wr.heap.size = g at y0 y1 y2 y3 ⊢
        by_cases hp : s.id ≤ d
        · have hpp : decide (s.id ≤ d) = true := decide_eq_true hp
          have E : Hid (rightBk l n = false) := Lib.hid (decide_eq_false (fun x => by have := (HN.out.1 x.1).1.1; omega))
          clear HN HP hp
          refine region_mono (brSp b off l.length cap g k n d s true false false) [18, 19, 20, 21, 22, 23, 24, 25, 26, 27, 28, 29, 30, 31, 32, 33, 34, 35, 36, 37, 38, 39] (by kernel_rfl) (by kernel_rfl) (by kernel_rfl) (by kernel_rfl) (stables_cons (Sp.c_stable _ _) (stables_cons (Sp.c_stable _ _) (stables_cons (Sp.c_stable _ _) (stables_cons (Sp.c_stable _ _) (stables_cons (Sp.c_stable _ _) (stables_cons (Sp.g_stable _ _ _) (stables_cons (Sp.g_stable _ _ _) (stables_cons (Sp.g_stable _ _ _) (stables_cons (Sp.g_stable _ _ _) (stables_cons (Sp.c_stable _ _) (stables_cons (Sp.c_stable _ _) (stables_cons (Sp.g_stable _ _ _) (stables_cons (Sp.g_stable _ _ _) (stables_cons (Sp.g_stable _ _ _) (stables_cons (Sp.g_stable _ _ _) (stables_cons (Sp.g_stable _ _ _) (stables_cons (Sp.g_stable _ _ _) (stables_cons (Sp.g_stable _ _ _) (stables_cons (Sp.g_stable _ _ _) (stables_cons (Sp.g_stable _ _ _) (stables_cons (Sp.g_stable _ _ _) (stables_cons (Sp.c_stable _ _) (trivial))))))))))))))))))))))) ?_ ?_
          · intro am wm L hbm hbase hbase2
            have s0 : am.tmps.getD 0 undef = .slice (some ⟨b, off, none⟩) l.length cap := (hbase 0 rfl).trans (by simp only [Array.getD_eq_getD_getElem?, List.getElem?_toArray, List.getElem?_cons_succ, List.getElem?_cons_zero, Option.getD_some])
            have s1 : am.tmps.getD 1 undef = .int .i64 n := (hbase 1 rfl).trans (by simp only [Array.getD_eq_getD_getElem?, List.getElem?_toArray, List.getElem?_cons_succ, List.getElem?_cons_zero, Option.getD_some])
            have s5 : am.tmps.getD 5 undef = .int .i64 d := (hbase 5 rfl).trans (by simp only [Array.getD_eq_getD_getElem?, List.getElem?_toArray, List.getElem?_cons_succ, List.getElem?_cons_zero, Option.getD_some])
            have s6 : am.tmps.getD 6 undef = .int .i64 (k : Int) := (hbase 6 rfl).trans (by simp only [Array.getD_eq_getD_getElem?, List.getElem?_toArray, List.getElem?_cons_succ, List.getElem?_cons_zero, Option.getD_some])
            have s7 : am.tmps.getD 7 undef = .pointer (some ⟨g, 0, none⟩) := (hbase 7 rfl).trans (by simp only [Array.getD_eq_getD_getElem?, List.getElem?_toArray, List.getElem?_cons_succ, List.getElem?_cons_zero, Option.getD_some])
            clear hbase hbase2
            have m0 := carry hbm y0
            have m1 := carry hbm y1
            have m2 := carry hbm y2
            have m3 := carry hbm y3
            refine steps_cons (fun hn hl => ?_) fun H0 => ?_
            · skip
              clear hn hl 
              refine stepC (wanted_free rfl) fun K hK => ?_
              go_simp
              exact hK _ (Below.refl _ _)
            refine steps_cons (fun hn hl => ?_) fun H1 => ?_
            · skip
              have h18 := Sp.of_c (H0 (hn 0 (show 0 ∈ [0] from .head _)))
              clear hn hl H0
              refine stepC (wanted_free rfl) fun K hK => ?_
              go_simp
              exact hK _ (Below.refl _ _)
            refine steps_cons (fun hn hl => ?_) fun H2 => ?_
            · skip
              clear hn hl H0 H1
              refine stepC (wanted_free rfl) fun K hK => ?_
              go_simp
              exact hK _ (Below.refl _ _)
            refine steps_cons (fun hn hl => ?_) fun H3 => ?_
            · skip
              have h19 := Sp.of_c (H1 (hn 1 (show 1 ∈ [1, 2] from .head _)))
              have h20 := Sp.of_c (H2 (hn 2 (show 2 ∈ [1, 2] from .tail _ (.head _))))
              clear hn hl H0 H1 H2
              refine stepC (wanted_free rfl) fun K hK => ?_
              go_simp
              exact hK _ (Below.refl _ _)
            refine steps_cons (fun hn hl => ?_) fun H4 => ?_
            · skip
              have h21 := Sp.of_c (H3 (hn 3 (show 3 ∈ [3] from .head _)))
              clear hn hl H0 H1 H2 H3
              refine stepC (wanted_free rfl) fun K hK => ?_
              go_simp
              exact hK _ (Below.refl _ _)
            refine steps_cons (fun hn hl => ?_) fun H5 => ?_
            · skip
              have h22 := Sp.of_c (H4 (hn 4 (show 4 ∈ [4] from .head _)))
              clear hn hl H0 H1 H2 H3 H4
              exact stepN (unwanted_guard rfl rfl h22 rfl)
            refine steps_cons (fun hn hl => ?_) fun H6 => ?_
            · skip
              have h22 := Sp.of_c (H4 (hn 4 (show 4 ∈ [4] from .head _)))
              clear hn hl H0 H1 H2 H3 H4 H5
              exact stepN (unwanted_guard rfl rfl h22 rfl)
            refine steps_cons (fun hn hl => ?_) fun H7 => ?_
            · skip
              have h23 := Sp.of_off (H5 (hn 5 (show 5 ∈ [5, 6, 4] from .head _))) rfl
              have h24 := Sp.of_off (H6 (hn 6 (show 6 ∈ [5, 6, 4] from .tail _ (.head _)))) rfl
              have h22 := Sp.of_c (H4 (hn 4 (show 4 ∈ [5, 6, 4] from .tail _ (.tail _ (.head _)))))
              clear hn hl H0 H1 H2 H3 H4 H5 H6
              exact stepN (unwanted_guard rfl rfl h22 rfl)
            refine steps_cons (fun hn hl => ?_) fun H8 => ?_
            · skip
              have h25 := Sp.of_off (H7 (hn 7 (show 7 ∈ [7, 4] from .head _))) rfl
              have h22 := Sp.of_c (H4 (hn 4 (show 4 ∈ [7, 4] from .tail _ (.head _))))
              clear hn hl H0 H1 H2 H3 H4 H5 H6 H7
              exact stepN (unwanted_guard rfl rfl h22 rfl)
            refine steps_cons (fun hn hl => ?_) fun H9 => ?_
            · skip
              have h22 := Sp.of_c (H4 (hn 4 (show 4 ∈ [4, 8] from .head _)))
              have h26 := Sp.of_off (H8 (hn 8 (show 8 ∈ [4, 8] from .tail _ (.head _)))) rfl
              clear hn hl H0 H1 H2 H3 H4 H5 H6 H7 H8
              refine stepC (wanted_free rfl) fun K hK => ?_
              go_simp
              exact hK _ (Below.refl _ _)
            refine steps_cons (fun hn hl => ?_) fun H10 => ?_
            · skip
              have h27 := Sp.of_c (H9 (hn 9 (show 9 ∈ [9] from .head _)))
              clear hn hl H0 H1 H2 H3 H4 H5 H6 H7 H8 H9
              refine stepC (wanted_free rfl) fun K hK => ?_
              go_simp
              exact hK _ (Below.refl _ _)
            refine steps_cons (fun hn hl => ?_) fun H11 => ?_
            · skip
              have h28 := Sp.of_c (H10 (hn 10 (show 10 ∈ [10] from .head _)))
              clear hn hl H0 H1 H2 H3 H4 H5 H6 H7 H8 H9 H10
              exact stepN (unwanted_guard rfl rfl h28 rfl)
            refine steps_cons (fun hn hl => ?_) fun H12 => ?_
            · skip
              have h28 := Sp.of_c (H10 (hn 10 (show 10 ∈ [10] from .head _)))
              clear hn hl H0 H1 H2 H3 H4 H5 H6 H7 H8 H9 H10 H11
              exact stepN (unwanted_guard rfl rfl h28 rfl)
            refine steps_cons (fun hn hl => ?_) fun H13 => ?_
            · skip
              have h29 := Sp.of_off (H11 (hn 11 (show 11 ∈ [11, 12, 10] from .head _))) rfl
              have h30 := Sp.of_off (H12 (hn 12 (show 12 ∈ [11, 12, 10] from .tail _ (.head _)))) rfl
              have h28 := Sp.of_c (H10 (hn 10 (show 10 ∈ [11, 12, 10] from .tail _ (.tail _ (.head _)))))
              clear hn hl H0 H1 H2 H3 H4 H5 H6 H7 H8 H9 H10 H11 H12
              exact stepN (unwanted_guard rfl rfl h28 rfl)
            refine steps_cons (fun hn hl => ?_) fun H14 => ?_
            · skip
              have h28 := Sp.of_c (H10 (hn 10 (show 10 ∈ [10] from .head _)))
              clear hn hl H0 H1 H2 H3 H4 H5 H6 H7 H8 H9 H10 H11 H12 H13
              exact stepN (unwanted_guard rfl rfl h28 rfl)
            refine steps_cons (fun hn hl => ?_) fun H15 => ?_
            · skip
              have h32 := Sp.of_off (H14 (hn 14 (show 14 ∈ [14, 10] from .head _))) rfl
              have h28 := Sp.of_c (H10 (hn 10 (show 10 ∈ [14, 10] from .tail _ (.head _))))
              clear hn hl H0 H1 H2 H3 H4 H5 H6 H7 H8 H9 H10 H11 H12 H13 H14
              exact stepN (unwanted_guard rfl rfl h28 rfl)
            refine steps_cons (fun hn hl => ?_) fun H16 => ?_
            · skip
              have h28 := Sp.of_c (H10 (hn 10 (show 10 ∈ [10] from .head _)))
              clear hn hl H0 H1 H2 H3 H4 H5 H6 H7 H8 H9 H10 H11 H12 H13 H14 H15
              exact stepN (unwanted_guard rfl rfl h28 rfl)
            refine steps_cons (fun hn hl => ?_) fun H17 => ?_
            · skip
              have h34 := Sp.of_off (H16 (hn 16 (show 16 ∈ [16, 10] from .head _))) rfl
              have h28 := Sp.of_c (H10 (hn 10 (show 10 ∈ [16, 10] from .tail _ (.head _))))
              clear hn hl H0 H1 H2 H3 H4 H5 H6 H7 H8 H9 H10 H11 H12 H13 H14 H15 H16
              exact stepN (unwanted_guard rfl rfl h28 rfl)
            refine steps_cons (fun hn hl => ?_) fun H18 => ?_
            · skip
              have h28 := Sp.of_c (H10 (hn 10 (show 10 ∈ [10] from .head _)))
              clear hn hl H0 H1 H2 H3 H4 H5 H6 H7 H8 H9 H10 H11 H12 H13 H14 H15 H16 H17
              exact stepN (unwanted_guard rfl rfl h28 rfl)
            refine steps_cons (fun hn hl => ?_) fun H19 => ?_
            · skip
              have h36 := Sp.of_off (H18 (hn 18 (show 18 ∈ [18, 10] from .head _))) rfl
              have h28 := Sp.of_c (H10 (hn 10 (show 10 ∈ [18, 10] from .tail _ (.head _))))
              clear hn hl H0 H1 H2 H3 H4 H5 H6 H7 H8 H9 H10 H11 H12 H13 H14 H15 H16 H17 H18
              exact stepN (unwanted_guard rfl rfl h28 rfl)
            refine steps_cons (fun hn hl => ?_) fun H20 => ?_
            · skip
              have h31 := Sp.of_off (H13 (hn 13 (show 13 ∈ [13, 15, 17, 19, 10] from .head _))) rfl
              have h33 := Sp.of_off (H15 (hn 15 (show 15 ∈ [13, 15, 17, 19, 10] from .tail _ (.head _)))) rfl
              have h35 := Sp.of_off (H17 (hn 17 (show 17 ∈ [13, 15, 17, 19, 10] from .tail _ (.tail _ (.head _))))) rfl
              have h37 := Sp.of_off (H19 (hn 19 (show 19 ∈ [13, 15, 17, 19, 10] from .tail _ (.tail _ (.tail _ (.head _)))))) rfl
              have h28 := Sp.of_c (H10 (hn 10 (show 10 ∈ [13, 15, 17, 19, 10] from .tail _ (.tail _ (.tail _ (.tail _ (.head _)))))))
              clear hn hl H0 H1 H2 H3 H4 H5 H6 H7 H8 H9 H10 H11 H12 H13 H14 H15 H16 H17 H18 H19
              exact stepN (unwanted_guard rfl rfl h28 rfl)
            refine steps_cons (fun hn hl => ?_) fun H21 => ?_
            · skip
              have h28 := Sp.of_c (H10 (hn 10 (show 10 ∈ [10, 20] from .head _)))
              have h38 := Sp.of_off (H20 (hn 20 (show 20 ∈ [10, 20] from .tail _ (.head _)))) rfl
              clear hn hl H0 H1 H2 H3 H4 H5 H6 H7 H8 H9 H10 H11 H12 H13 H14 H15 H16 H17 H18 H19 H20
              refine stepC (wanted_free rfl) fun K hK => ?_
              go_simp
              exact hK _ (Below.refl _ _)
            exact trivial
          · intro w5 hb5
            have hz5 := hb5.size
            refine end_cons ?_; rintro _ rfl
            refine end_cons ?_; rintro _ rfl
            refine end_cons ?_; rintro _ rfl
            refine end_cons ?_; rintro _ rfl
            refine end_cons ?_; rintro _ rfl
            refine end_cons ?_; rintro _ rfl
            refine end_cons ?_; rintro _ rfl
            refine end_cons ?_; rintro _ rfl
            refine end_cons ?_; rintro _ rfl
            refine end_cons ?_; rintro _ rfl
            refine end_cons ?_; rintro _ rfl
            refine end_cons ?_; rintro _ rfl
            refine end_cons ?_; rintro _ rfl
            refine end_cons ?_; rintro _ rfl
            refine end_cons ?_; rintro _ rfl
            refine end_cons ?_; rintro _ rfl
            refine end_cons ?_; rintro _ rfl
            refine end_cons ?_; rintro _ rfl
            refine end_cons ?_; rintro _ rfl
            refine end_cons ?_; rintro _ rfl
            refine end_cons ?_; rintro _ rfl
            refine end_cons ?_; rintro _ rfl
            refine end_nil ?_
            simp only [List.setIfInBounds_toArray, List.set_cons_succ, List.set_cons_zero, Bool.not_false, Bool.not_true, Bool.true_or, Bool.or_true, Bool.false_or, Bool.or_false]
            go_wp2
            go_ret
            exact ⟨by rw [E.out]; rfl, kx.trans (hb5.mono kx.size)⟩
        · have hpp : decide (s.id ≤ d) = false := decide_eq_false hp
          by_cases ho : BkOk n s
          · rw [show okB n s = true from decide_eq_true ho] at HO
            by_cases hm : Meets pre s.node s.frm s.til
            · rw [show meetsB pre s.node s.frm s.til = true from decide_eq_true hm] at HM
              have E : Hid (rightBk l n = false) := Lib.hid (decide_eq_false (fun x => (HN.out.1 x.1).1.2.2 hm))
              clear HN HP hp ho hm
              refine region_mono (brSp b off l.length cap g k n d s false true true) [18, 19, 20, 21, 22, 23, 24, 25, 26, 27, 28, 29, 30, 31, 32, 33, 34, 35, 36, 37, 38, 39] (by kernel_rfl) (by kernel_rfl) (by kernel_rfl) (by kernel_rfl) (stables_cons (Sp.c_stable _ _) (stables_cons (Sp.c_stable _ _) (stables_cons (Sp.c_stable _ _) (stables_cons (Sp.c_stable _ _) (stables_cons (Sp.c_stable _ _) (stables_cons (Sp.g_stable _ _ _) (stables_cons (Sp.g_stable _ _ _) (stables_cons (Sp.g_stable _ _ _) (stables_cons (Sp.g_stable _ _ _) (stables_cons (Sp.c_stable _ _) (stables_cons (Sp.c_stable _ _) (stables_cons (Sp.g_stable _ _ _) (stables_cons (Sp.g_stable _ _ _) (stables_cons (Sp.g_stable _ _ _) (stables_cons (Sp.g_stable _ _ _) (stables_cons (Sp.g_stable _ _ _) (stables_cons (Sp.g_stable _ _ _) (stables_cons (Sp.g_stable _ _ _) (stables_cons (Sp.g_stable _ _ _) (stables_cons (Sp.g_stable _ _ _) (stables_cons (Sp.g_stable _ _ _) (stables_cons (Sp.c_stable _ _) (trivial))))))))))))))))))))))) ?_ ?_
              · intro am wm L hbm hbase hbase2
                have s0 : am.tmps.getD 0 undef = .slice (some ⟨b, off, none⟩) l.length cap := (hbase 0 rfl).trans (by simp only [Array.getD_eq_getD_getElem?, List.getElem?_toArray, List.getElem?_cons_succ, List.getElem?_cons_zero, Option.getD_some])
                have s1 : am.tmps.getD 1 undef = .int .i64 n := (hbase 1 rfl).trans (by simp only [Array.getD_eq_getD_getElem?, List.getElem?_toArray, List.getElem?_cons_succ, List.getElem?_cons_zero, Option.getD_some])
                have s5 : am.tmps.getD 5 undef = .int .i64 d := (hbase 5 rfl).trans (by simp only [Array.getD_eq_getD_getElem?, List.getElem?_toArray, List.getElem?_cons_succ, List.getElem?_cons_zero, Option.getD_some])
                have s6 : am.tmps.getD 6 undef = .int .i64 (k : Int) := (hbase 6 rfl).trans (by simp only [Array.getD_eq_getD_getElem?, List.getElem?_toArray, List.getElem?_cons_succ, List.getElem?_cons_zero, Option.getD_some])
                have s7 : am.tmps.getD 7 undef = .pointer (some ⟨g, 0, none⟩) := (hbase 7 rfl).trans (by simp only [Array.getD_eq_getD_getElem?, List.getElem?_toArray, List.getElem?_cons_succ, List.getElem?_cons_zero, Option.getD_some])
                clear hbase hbase2
                have m0 := carry hbm y0
                have m1 := carry hbm y1
                have m2 := carry hbm y2
                have m3 := carry hbm y3
                refine steps_cons (fun hn hl => ?_) fun H0 => ?_
                · skip
                  clear hn hl 
                  refine stepC (wanted_free rfl) fun K hK => ?_
                  go_simp
                  exact hK _ (Below.refl _ _)
                refine steps_cons (fun hn hl => ?_) fun H1 => ?_
                · skip
                  have h18 := Sp.of_c (H0 (hn 0 (show 0 ∈ [0] from .head _)))
                  clear hn hl H0
                  refine stepC (wanted_free rfl) fun K hK => ?_
                  go_simp
                  exact hK _ (Below.refl _ _)
                refine steps_cons (fun hn hl => ?_) fun H2 => ?_
                · skip
                  clear hn hl H0 H1
                  refine stepC (wanted_free rfl) fun K hK => ?_
                  go_simp
                  exact hK _ (Below.refl _ _)
                refine steps_cons (fun hn hl => ?_) fun H3 => ?_
                · skip
                  have h19 := Sp.of_c (H1 (hn 1 (show 1 ∈ [1, 2] from .head _)))
                  have h20 := Sp.of_c (H2 (hn 2 (show 2 ∈ [1, 2] from .tail _ (.head _))))
                  clear hn hl H0 H1 H2
                  refine stepC (wanted_free rfl) fun K hK => ?_
                  go_simp
                  exact hK _ (Below.refl _ _)
                refine steps_cons (fun hn hl => ?_) fun H4 => ?_
                · skip
                  have h21 := Sp.of_c (H3 (hn 3 (show 3 ∈ [3] from .head _)))
                  clear hn hl H0 H1 H2 H3
                  refine stepC (wanted_free rfl) fun K hK => ?_
                  go_simp
                  exact hK _ (Below.refl _ _)
                refine steps_cons (fun hn hl => ?_) fun H5 => ?_
                · skip
                  have h22 := Sp.of_c (H4 (hn 4 (show 4 ∈ [4] from .head _)))
                  clear hn hl H0 H1 H2 H3 H4
                  refine stepC (wanted_guard rfl rfl h22 rfl) fun K hK => ?_
                  go_simp
                  exact hK _ (Below.refl _ _)
                refine steps_cons (fun hn hl => ?_) fun H6 => ?_
                · skip
                  have h22 := Sp.of_c (H4 (hn 4 (show 4 ∈ [4] from .head _)))
                  clear hn hl H0 H1 H2 H3 H4 H5
                  refine stepC (wanted_guard rfl rfl h22 rfl) fun K hK => ?_
                  go_simp
                  exact hK _ (Below.refl _ _)
                refine steps_cons (fun hn hl => ?_) fun H7 => ?_
                · skip
                  have h23 := Sp.of_g (H5 (hn 5 (show 5 ∈ [5, 6, 4] from .head _))) rfl
                  have h24 := Sp.of_g (H6 (hn 6 (show 6 ∈ [5, 6, 4] from .tail _ (.head _)))) rfl
                  have h22 := Sp.of_c (H4 (hn 4 (show 4 ∈ [5, 6, 4] from .tail _ (.tail _ (.head _)))))
                  clear hn hl H0 H1 H2 H3 H4 H5 H6
                  refine stepC (wanted_guard rfl rfl h22 rfl) fun K hK => ?_
                  go_simp
                  first
                    | ((with_reducible refine (HO.out _).mono ?_); rintro e w6 ⟨rfl, hb6⟩; exact hK _ hb6)
                    | ((with_reducible refine (HM.out _ (HT.out.later hbm)).mono ?_); rintro e w6 ⟨rfl, hb6⟩; exact hK _ hb6)
                refine steps_cons (fun hn hl => ?_) fun H8 => ?_
                · skip
                  have h25 := Sp.of_g (H7 (hn 7 (show 7 ∈ [7, 4] from .head _))) rfl
                  have h22 := Sp.of_c (H4 (hn 4 (show 4 ∈ [7, 4] from .tail _ (.head _))))
                  clear hn hl H0 H1 H2 H3 H4 H5 H6 H7
                  refine stepC (wanted_guard rfl rfl h22 rfl) fun K hK => ?_
                  go_simp
                  exact hK _ (Below.refl _ _)
                refine steps_cons (fun hn hl => ?_) fun H9 => ?_
                · skip
                  have h22 := Sp.of_c (H4 (hn 4 (show 4 ∈ [4, 8] from .head _)))
                  have h26 := Sp.of_g (H8 (hn 8 (show 8 ∈ [4, 8] from .tail _ (.head _)))) rfl
                  clear hn hl H0 H1 H2 H3 H4 H5 H6 H7 H8
                  refine stepC (wanted_free rfl) fun K hK => ?_
                  go_simp
                  exact hK _ (Below.refl _ _)
                refine steps_cons (fun hn hl => ?_) fun H10 => ?_
                · skip
                  have h27 := Sp.of_c (H9 (hn 9 (show 9 ∈ [9] from .head _)))
                  clear hn hl H0 H1 H2 H3 H4 H5 H6 H7 H8 H9
                  refine stepC (wanted_free rfl) fun K hK => ?_
                  go_simp
                  exact hK _ (Below.refl _ _)
                refine steps_cons (fun hn hl => ?_) fun H11 => ?_
                · skip
                  have h28 := Sp.of_c (H10 (hn 10 (show 10 ∈ [10] from .head _)))
                  clear hn hl H0 H1 H2 H3 H4 H5 H6 H7 H8 H9 H10
                  refine stepC (wanted_guard rfl rfl h28 rfl) fun K hK => ?_
                  go_simp
                  exact hK _ (Below.refl _ _)
                refine steps_cons (fun hn hl => ?_) fun H12 => ?_
                · skip
                  have h28 := Sp.of_c (H10 (hn 10 (show 10 ∈ [10] from .head _)))
                  clear hn hl H0 H1 H2 H3 H4 H5 H6 H7 H8 H9 H10 H11
                  refine stepC (wanted_guard rfl rfl h28 rfl) fun K hK => ?_
                  go_simp
                  exact hK _ (Below.refl _ _)
                refine steps_cons (fun hn hl => ?_) fun H13 => ?_
                · skip
                  have h29 := Sp.of_g (H11 (hn 11 (show 11 ∈ [11, 12, 10] from .head _))) rfl
                  have h30 := Sp.of_g (H12 (hn 12 (show 12 ∈ [11, 12, 10] from .tail _ (.head _)))) rfl
                  have h28 := Sp.of_c (H10 (hn 10 (show 10 ∈ [11, 12, 10] from .tail _ (.tail _ (.head _)))))
                  clear hn hl H0 H1 H2 H3 H4 H5 H6 H7 H8 H9 H10 H11 H12
                  refine stepC (wanted_guard rfl rfl h28 rfl) fun K hK => ?_
                  go_simp
                  exact hK _ (Below.refl _ _)
                refine steps_cons (fun hn hl => ?_) fun H14 => ?_
                · skip
                  have h28 := Sp.of_c (H10 (hn 10 (show 10 ∈ [10] from .head _)))
                  clear hn hl H0 H1 H2 H3 H4 H5 H6 H7 H8 H9 H10 H11 H12 H13
                  refine stepC (wanted_guard rfl rfl h28 rfl) fun K hK => ?_
                  go_simp
                  exact hK _ (Below.refl _ _)
                refine steps_cons (fun hn hl => ?_) fun H15 => ?_
                · skip
                  have h32 := Sp.of_g (H14 (hn 14 (show 14 ∈ [14, 10] from .head _))) rfl
                  have h28 := Sp.of_c (H10 (hn 10 (show 10 ∈ [14, 10] from .tail _ (.head _))))
                  clear hn hl H0 H1 H2 H3 H4 H5 H6 H7 H8 H9 H10 H11 H12 H13 H14
                  refine stepC (wanted_guard rfl rfl h28 rfl) fun K hK => ?_
                  go_simp
                  exact hK _ (Below.refl _ _)
                refine steps_cons (fun hn hl => ?_) fun H16 => ?_
                · skip
                  have h28 := Sp.of_c (H10 (hn 10 (show 10 ∈ [10] from .head _)))
                  clear hn hl H0 H1 H2 H3 H4 H5 H6 H7 H8 H9 H10 H11 H12 H13 H14 H15
                  refine stepC (wanted_guard rfl rfl h28 rfl) fun K hK => ?_
                  go_simp
                  exact hK _ (Below.refl _ _)
                refine steps_cons (fun hn hl => ?_) fun H17 => ?_
                · skip
                  have h34 := Sp.of_g (H16 (hn 16 (show 16 ∈ [16, 10] from .head _))) rfl
                  have h28 := Sp.of_c (H10 (hn 10 (show 10 ∈ [16, 10] from .tail _ (.head _))))
                  clear hn hl H0 H1 H2 H3 H4 H5 H6 H7 H8 H9 H10 H11 H12 H13 H14 H15 H16
                  refine stepC (wanted_guard rfl rfl h28 rfl) fun K hK => ?_
                  go_simp
                  exact hK _ (Below.refl _ _)
                refine steps_cons (fun hn hl => ?_) fun H18 => ?_
                · skip
                  have h28 := Sp.of_c (H10 (hn 10 (show 10 ∈ [10] from .head _)))
                  clear hn hl H0 H1 H2 H3 H4 H5 H6 H7 H8 H9 H10 H11 H12 H13 H14 H15 H16 H17
                  refine stepC (wanted_guard rfl rfl h28 rfl) fun K hK => ?_
                  go_simp
                  exact hK _ (Below.refl _ _)
                refine steps_cons (fun hn hl => ?_) fun H19 => ?_
                · skip
                  have h36 := Sp.of_g (H18 (hn 18 (show 18 ∈ [18, 10] from .head _))) rfl
                  have h28 := Sp.of_c (H10 (hn 10 (show 10 ∈ [18, 10] from .tail _ (.head _))))
                  clear hn hl H0 H1 H2 H3 H4 H5 H6 H7 H8 H9 H10 H11 H12 H13 H14 H15 H16 H17 H18
                  refine stepC (wanted_guard rfl rfl h28 rfl) fun K hK => ?_
                  go_simp
                  exact hK _ (Below.refl _ _)
                refine steps_cons (fun hn hl => ?_) fun H20 => ?_
                · skip
                  have h31 := Sp.of_g (H13 (hn 13 (show 13 ∈ [13, 15, 17, 19, 10] from .head _))) rfl
                  have h33 := Sp.of_g (H15 (hn 15 (show 15 ∈ [13, 15, 17, 19, 10] from .tail _ (.head _)))) rfl
                  have h35 := Sp.of_g (H17 (hn 17 (show 17 ∈ [13, 15, 17, 19, 10] from .tail _ (.tail _ (.head _))))) rfl
                  have h37 := Sp.of_g (H19 (hn 19 (show 19 ∈ [13, 15, 17, 19, 10] from .tail _ (.tail _ (.tail _ (.head _)))))) rfl
                  have h28 := Sp.of_c (H10 (hn 10 (show 10 ∈ [13, 15, 17, 19, 10] from .tail _ (.tail _ (.tail _ (.tail _ (.head _)))))))
                  clear hn hl H0 H1 H2 H3 H4 H5 H6 H7 H8 H9 H10 H11 H12 H13 H14 H15 H16 H17 H18 H19
                  refine stepC (wanted_guard rfl rfl h28 rfl) fun K hK => ?_
                  go_simp
                  first
                    | ((with_reducible refine (HO.out _).mono ?_); rintro e w6 ⟨rfl, hb6⟩; exact hK _ hb6)
                    | ((with_reducible refine (HM.out _ (HT.out.later hbm)).mono ?_); rintro e w6 ⟨rfl, hb6⟩; exact hK _ hb6)
                refine steps_cons (fun hn hl => ?_) fun H21 => ?_
                · skip
                  have h28 := Sp.of_c (H10 (hn 10 (show 10 ∈ [10, 20] from .head _)))
                  have h38 := Sp.of_g (H20 (hn 20 (show 20 ∈ [10, 20] from .tail _ (.head _)))) rfl
                  clear hn hl H0 H1 H2 H3 H4 H5 H6 H7 H8 H9 H10 H11 H12 H13 H14 H15 H16 H17 H18 H19 H20
                  refine stepC (wanted_free rfl) fun K hK => ?_
                  go_simp
                  exact hK _ (Below.refl _ _)
                exact trivial
              · intro w5 hb5
                have hz5 := hb5.size
                refine end_cons ?_; rintro _ rfl
                refine end_cons ?_; rintro _ rfl
                refine end_cons ?_; rintro _ rfl
                refine end_cons ?_; rintro _ rfl
                refine end_cons ?_; rintro _ rfl
                refine end_cons ?_; rintro _ rfl
                refine end_cons ?_; rintro _ rfl
                refine end_cons ?_; rintro _ rfl
                refine end_cons ?_; rintro _ rfl
                refine end_cons ?_; rintro _ rfl
                refine end_cons ?_; rintro _ rfl
                refine end_cons ?_; rintro _ rfl
                refine end_cons ?_; rintro _ rfl
                refine end_cons ?_; rintro _ rfl
                refine end_cons ?_; rintro _ rfl
                refine end_cons ?_; rintro _ rfl
                refine end_cons ?_; rintro _ rfl
                refine end_cons ?_; rintro _ rfl
                refine end_cons ?_; rintro _ rfl
                refine end_cons ?_; rintro _ rfl
                refine end_cons ?_; rintro _ rfl
                refine end_cons ?_; rintro _ rfl
                refine end_nil ?_
                simp only [List.setIfInBounds_toArray, List.set_cons_succ, List.set_cons_zero, Bool.not_false, Bool.not_true, Bool.true_or, Bool.or_true, Bool.false_or, Bool.or_false]
                go_wp2
                go_ret
                exact ⟨by rw [E.out]; rfl, kx.trans (hb5.mono kx.size)⟩
            · rw [show meetsB pre s.node s.frm s.til = false from decide_eq_false hm] at HM
              have HX : Hid ((RightK n [] l ↔ RightK n (l.take (k + 1)) (l.drop (k + 1))) ∧ Top (l.take (k + 1)) s.id) := Lib.hid ⟨HN.out.trans ⟨fun x => x.2, fun x => ⟨⟨by omega, ho, hm⟩, x⟩⟩, HP.out (by omega)⟩
              clear HN HP hp ho hm
              refine region_mono (brSp b off l.length cap g k n d s false true false) [18, 19, 20, 21, 22, 23, 24, 25, 26, 27, 28, 29, 30, 31, 32, 33, 34, 35, 36, 37, 38, 39] (by kernel_rfl) (by kernel_rfl) (by kernel_rfl) (by kernel_rfl) (stables_cons (Sp.c_stable _ _) (stables_cons (Sp.c_stable _ _) (stables_cons (Sp.c_stable _ _) (stables_cons (Sp.c_stable _ _) (stables_cons (Sp.c_stable _ _) (stables_cons (Sp.g_stable _ _ _) (stables_cons (Sp.g_stable _ _ _) (stables_cons (Sp.g_stable _ _ _) (stables_cons (Sp.g_stable _ _ _) (stables_cons (Sp.c_stable _ _) (stables_cons (Sp.c_stable _ _) (stables_cons (Sp.g_stable _ _ _) (stables_cons (Sp.g_stable _ _ _) (stables_cons (Sp.g_stable _ _ _) (stables_cons (Sp.g_stable _ _ _) (stables_cons (Sp.g_stable _ _ _) (stables_cons (Sp.g_stable _ _ _) (stables_cons (Sp.g_stable _ _ _) (stables_cons (Sp.g_stable _ _ _) (stables_cons (Sp.g_stable _ _ _) (stables_cons (Sp.g_stable _ _ _) (stables_cons (Sp.c_stable _ _) (trivial))))))))))))))))))))))) ?_ ?_
              · intro am wm L hbm hbase hbase2
                have s0 : am.tmps.getD 0 undef = .slice (some ⟨b, off, none⟩) l.length cap := (hbase 0 rfl).trans (by simp only [Array.getD_eq_getD_getElem?, List.getElem?_toArray, List.getElem?_cons_succ, List.getElem?_cons_zero, Option.getD_some])
                have s1 : am.tmps.getD 1 undef = .int .i64 n := (hbase 1 rfl).trans (by simp only [Array.getD_eq_getD_getElem?, List.getElem?_toArray, List.getElem?_cons_succ, List.getElem?_cons_zero, Option.getD_some])
                have s5 : am.tmps.getD 5 undef = .int .i64 d := (hbase 5 rfl).trans (by simp only [Array.getD_eq_getD_getElem?, List.getElem?_toArray, List.getElem?_cons_succ, List.getElem?_cons_zero, Option.getD_some])
                have s6 : am.tmps.getD 6 undef = .int .i64 (k : Int) := (hbase 6 rfl).trans (by simp only [Array.getD_eq_getD_getElem?, List.getElem?_toArray, List.getElem?_cons_succ, List.getElem?_cons_zero, Option.getD_some])
                have s7 : am.tmps.getD 7 undef = .pointer (some ⟨g, 0, none⟩) := (hbase 7 rfl).trans (by simp only [Array.getD_eq_getD_getElem?, List.getElem?_toArray, List.getElem?_cons_succ, List.getElem?_cons_zero, Option.getD_some])
                clear hbase hbase2
                have m0 := carry hbm y0
                have m1 := carry hbm y1
                have m2 := carry hbm y2
                have m3 := carry hbm y3
                refine steps_cons (fun hn hl => ?_) fun H0 => ?_
                · skip
                  clear hn hl 
                  refine stepC (wanted_free rfl) fun K hK => ?_
                  go_simp
                  exact hK _ (Below.refl _ _)
                refine steps_cons (fun hn hl => ?_) fun H1 => ?_
                · skip
                  have h18 := Sp.of_c (H0 (hn 0 (show 0 ∈ [0] from .head _)))
                  clear hn hl H0
                  refine stepC (wanted_free rfl) fun K hK => ?_
                  go_simp
                  exact hK _ (Below.refl _ _)
                refine steps_cons (fun hn hl => ?_) fun H2 => ?_
                · skip
                  clear hn hl H0 H1
                  refine stepC (wanted_free rfl) fun K hK => ?_
                  go_simp
                  exact hK _ (Below.refl _ _)
                refine steps_cons (fun hn hl => ?_) fun H3 => ?_
                · skip
                  have h19 := Sp.of_c (H1 (hn 1 (show 1 ∈ [1, 2] from .head _)))
                  have h20 := Sp.of_c (H2 (hn 2 (show 2 ∈ [1, 2] from .tail _ (.head _))))
                  clear hn hl H0 H1 H2
                  refine stepC (wanted_free rfl) fun K hK => ?_
                  go_simp
                  exact hK _ (Below.refl _ _)
                refine steps_cons (fun hn hl => ?_) fun H4 => ?_
                · skip
                  have h21 := Sp.of_c (H3 (hn 3 (show 3 ∈ [3] from .head _)))
                  clear hn hl H0 H1 H2 H3
                  refine stepC (wanted_free rfl) fun K hK => ?_
                  go_simp
                  exact hK _ (Below.refl _ _)
                refine steps_cons (fun hn hl => ?_) fun H5 => ?_
                · skip
                  have h22 := Sp.of_c (H4 (hn 4 (show 4 ∈ [4] from .head _)))
                  clear hn hl H0 H1 H2 H3 H4
                  refine stepC (wanted_guard rfl rfl h22 rfl) fun K hK => ?_
                  go_simp
                  exact hK _ (Below.refl _ _)
                refine steps_cons (fun hn hl => ?_) fun H6 => ?_
                · skip
                  have h22 := Sp.of_c (H4 (hn 4 (show 4 ∈ [4] from .head _)))
                  clear hn hl H0 H1 H2 H3 H4 H5
                  refine stepC (wanted_guard rfl rfl h22 rfl) fun K hK => ?_
                  go_simp
                  exact hK _ (Below.refl _ _)
                refine steps_cons (fun hn hl => ?_) fun H7 => ?_
                · skip
                  have h23 := Sp.of_g (H5 (hn 5 (show 5 ∈ [5, 6, 4] from .head _))) rfl
                  have h24 := Sp.of_g (H6 (hn 6 (show 6 ∈ [5, 6, 4] from .tail _ (.head _)))) rfl
                  have h22 := Sp.of_c (H4 (hn 4 (show 4 ∈ [5, 6, 4] from .tail _ (.tail _ (.head _)))))
                  clear hn hl H0 H1 H2 H3 H4 H5 H6
                  refine stepC (wanted_guard rfl rfl h22 rfl) fun K hK => ?_
                  go_simp
                  first
                    | ((with_reducible refine (HO.out _).mono ?_); rintro e w6 ⟨rfl, hb6⟩; exact hK _ hb6)
                    | ((with_reducible refine (HM.out _ (HT.out.later hbm)).mono ?_); rintro e w6 ⟨rfl, hb6⟩; exact hK _ hb6)
                refine steps_cons (fun hn hl => ?_) fun H8 => ?_
                · skip
                  have h25 := Sp.of_g (H7 (hn 7 (show 7 ∈ [7, 4] from .head _))) rfl
                  have h22 := Sp.of_c (H4 (hn 4 (show 4 ∈ [7, 4] from .tail _ (.head _))))
                  clear hn hl H0 H1 H2 H3 H4 H5 H6 H7
                  refine stepC (wanted_guard rfl rfl h22 rfl) fun K hK => ?_
                  go_simp
                  exact hK _ (Below.refl _ _)
                refine steps_cons (fun hn hl => ?_) fun H9 => ?_
                · skip
                  have h22 := Sp.of_c (H4 (hn 4 (show 4 ∈ [4, 8] from .head _)))
                  have h26 := Sp.of_g (H8 (hn 8 (show 8 ∈ [4, 8] from .tail _ (.head _)))) rfl
                  clear hn hl H0 H1 H2 H3 H4 H5 H6 H7 H8
                  refine stepC (wanted_free rfl) fun K hK => ?_
                  go_simp
                  exact hK _ (Below.refl _ _)
                refine steps_cons (fun hn hl => ?_) fun H10 => ?_
                · skip
                  have h27 := Sp.of_c (H9 (hn 9 (show 9 ∈ [9] from .head _)))
                  clear hn hl H0 H1 H2 H3 H4 H5 H6 H7 H8 H9
                  refine stepC (wanted_free rfl) fun K hK => ?_
                  go_simp
                  exact hK _ (Below.refl _ _)
                refine steps_cons (fun hn hl => ?_) fun H11 => ?_
                · skip
                  have h28 := Sp.of_c (H10 (hn 10 (show 10 ∈ [10] from .head _)))
                  clear hn hl H0 H1 H2 H3 H4 H5 H6 H7 H8 H9 H10
                  refine stepC (wanted_guard rfl rfl h28 rfl) fun K hK => ?_
                  go_simp
                  exact hK _ (Below.refl _ _)
                refine steps_cons (fun hn hl => ?_) fun H12 => ?_
                · skip
                  have h28 := Sp.of_c (H10 (hn 10 (show 10 ∈ [10] from .head _)))
                  clear hn hl H0 H1 H2 H3 H4 H5 H6 H7 H8 H9 H10 H11
                  refine stepC (wanted_guard rfl rfl h28 rfl) fun K hK => ?_
                  go_simp
                  exact hK _ (Below.refl _ _)
                refine steps_cons (fun hn hl => ?_) fun H13 => ?_
                · skip
                  have h29 := Sp.of_g (H11 (hn 11 (show 11 ∈ [11, 12, 10] from .head _))) rfl
                  have h30 := Sp.of_g (H12 (hn 12 (show 12 ∈ [11, 12, 10] from .tail _ (.head _)))) rfl
                  have h28 := Sp.of_c (H10 (hn 10 (show 10 ∈ [11, 12, 10] from .tail _ (.tail _ (.head _)))))
                  clear hn hl H0 H1 H2 H3 H4 H5 H6 H7 H8 H9 H10 H11 H12
                  refine stepC (wanted_guard rfl rfl h28 rfl) fun K hK => ?_
                  go_simp
                  exact hK _ (Below.refl _ _)
                refine steps_cons (fun hn hl => ?_) fun H14 => ?_
                · skip
                  have h28 := Sp.of_c (H10 (hn 10 (show 10 ∈ [10] from .head _)))
                  clear hn hl H0 H1 H2 H3 H4 H5 H6 H7 H8 H9 H10 H11 H12 H13
                  refine stepC (wanted_guard rfl rfl h28 rfl) fun K hK => ?_
                  go_simp
                  exact hK _ (Below.refl _ _)
                refine steps_cons (fun hn hl => ?_) fun H15 => ?_
                · skip
                  have h32 := Sp.of_g (H14 (hn 14 (show 14 ∈ [14, 10] from .head _))) rfl
                  have h28 := Sp.of_c (H10 (hn 10 (show 10 ∈ [14, 10] from .tail _ (.head _))))
                  clear hn hl H0 H1 H2 H3 H4 H5 H6 H7 H8 H9 H10 H11 H12 H13 H14
                  refine stepC (wanted_guard rfl rfl h28 rfl) fun K hK => ?_
                  go_simp
                  exact hK _ (Below.refl _ _)
                refine steps_cons (fun hn hl => ?_) fun H16 => ?_
                · skip
                  have h28 := Sp.of_c (H10 (hn 10 (show 10 ∈ [10] from .head _)))
                  clear hn hl H0 H1 H2 H3 H4 H5 H6 H7 H8 H9 H10 H11 H12 H13 H14 H15
                  refine stepC (wanted_guard rfl rfl h28 rfl) fun K hK => ?_
                  go_simp
                  exact hK _ (Below.refl _ _)
                refine steps_cons (fun hn hl => ?_) fun H17 => ?_
                · skip
                  have h34 := Sp.of_g (H16 (hn 16 (show 16 ∈ [16, 10] from .head _))) rfl
                  have h28 := Sp.of_c (H10 (hn 10 (show 10 ∈ [16, 10] from .tail _ (.head _))))
                  clear hn hl H0 H1 H2 H3 H4 H5 H6 H7 H8 H9 H10 H11 H12 H13 H14 H15 H16
                  refine stepC (wanted_guard rfl rfl h28 rfl) fun K hK => ?_
                  go_simp
                  exact hK _ (Below.refl _ _)
                refine steps_cons (fun hn hl => ?_) fun H18 => ?_
                · skip
                  have h28 := Sp.of_c (H10 (hn 10 (show 10 ∈ [10] from .head _)))
                  clear hn hl H0 H1 H2 H3 H4 H5 H6 H7 H8 H9 H10 H11 H12 H13 H14 H15 H16 H17
                  refine stepC (wanted_guard rfl rfl h28 rfl) fun K hK => ?_
                  go_simp
                  exact hK _ (Below.refl _ _)
                refine steps_cons (fun hn hl => ?_) fun H19 => ?_
                · skip
                  have h36 := Sp.of_g (H18 (hn 18 (show 18 ∈ [18, 10] from .head _))) rfl
                  have h28 := Sp.of_c (H10 (hn 10 (show 10 ∈ [18, 10] from .tail _ (.head _))))
                  clear hn hl H0 H1 H2 H3 H4 H5 H6 H7 H8 H9 H10 H11 H12 H13 H14 H15 H16 H17 H18
                  refine stepC (wanted_guard rfl rfl h28 rfl) fun K hK => ?_
                  go_simp
                  exact hK _ (Below.refl _ _)
                refine steps_cons (fun hn hl => ?_) fun H20 => ?_
                · skip
                  have h31 := Sp.of_g (H13 (hn 13 (show 13 ∈ [13, 15, 17, 19, 10] from .head _))) rfl
                  have h33 := Sp.of_g (H15 (hn 15 (show 15 ∈ [13, 15, 17, 19, 10] from .tail _ (.head _)))) rfl
                  have h35 := Sp.of_g (H17 (hn 17 (show 17 ∈ [13, 15, 17, 19, 10] from .tail _ (.tail _ (.head _))))) rfl
                  have h37 := Sp.of_g (H19 (hn 19 (show 19 ∈ [13, 15, 17, 19, 10] from .tail _ (.tail _ (.tail _ (.head _)))))) rfl
                  have h28 := Sp.of_c (H10 (hn 10 (show 10 ∈ [13, 15, 17, 19, 10] from .tail _ (.tail _ (.tail _ (.tail _ (.head _)))))))
                  clear hn hl H0 H1 H2 H3 H4 H5 H6 H7 H8 H9 H10 H11 H12 H13 H14 H15 H16 H17 H18 H19
                  refine stepC (wanted_guard rfl rfl h28 rfl) fun K hK => ?_
                  go_simp
                  first
                    | ((with_reducible refine (HO.out _).mono ?_); rintro e w6 ⟨rfl, hb6⟩; exact hK _ hb6)
                    | ((with_reducible refine (HM.out _ (HT.out.later hbm)).mono ?_); rintro e w6 ⟨rfl, hb6⟩; exact hK _ hb6)
                refine steps_cons (fun hn hl => ?_) fun H21 => ?_
                · skip
                  have h28 := Sp.of_c (H10 (hn 10 (show 10 ∈ [10, 20] from .head _)))
                  have h38 := Sp.of_g (H20 (hn 20 (show 20 ∈ [10, 20] from .tail _ (.head _)))) rfl
                  clear hn hl H0 H1 H2 H3 H4 H5 H6 H7 H8 H9 H10 H11 H12 H13 H14 H15 H16 H17 H18 H19 H20
                  refine stepC (wanted_free rfl) fun K hK => ?_
                  go_simp
                  exact hK _ (Below.refl _ _)
                exact trivial
              · intro w5 hb5
                have hz5 := hb5.size
                refine end_cons ?_; rintro _ rfl
                refine end_cons ?_; rintro _ rfl
                refine end_cons ?_; rintro _ rfl
                refine end_cons ?_; rintro _ rfl
                refine end_cons ?_; rintro _ rfl
                refine end_cons ?_; rintro _ rfl
                refine end_cons ?_; rintro _ rfl
                refine end_cons ?_; rintro _ rfl
                refine end_cons ?_; rintro _ rfl
                refine end_cons ?_; rintro _ rfl
                refine end_cons ?_; rintro _ rfl
                refine end_cons ?_; rintro _ rfl
                refine end_cons ?_; rintro _ rfl
                refine end_cons ?_; rintro _ rfl
                refine end_cons ?_; rintro _ rfl
                refine end_cons ?_; rintro _ rfl
                refine end_cons ?_; rintro _ rfl
                refine end_cons ?_; rintro _ rfl
                refine end_cons ?_; rintro _ rfl
                refine end_cons ?_; rintro _ rfl
                refine end_cons ?_; rintro _ rfl
                refine end_cons ?_; rintro _ rfl
                refine end_nil ?_
                simp only [List.setIfInBounds_toArray, List.set_cons_succ, List.set_cons_zero, Bool.not_false, Bool.not_true, Bool.true_or, Bool.or_true, Bool.false_or, Bool.or_false]
                have y0' := carry hb5 y0
                go_wp2
                go_roundw
                case rel => exact ⟨k + 1, by omega, by go_num, s.id, rfl, kx.trans (hb5.mono kx.size), HX⟩
                case measure => simp [intOf]; omega
          · rw [show okB n s = false from decide_eq_false ho] at HO
            have E : Hid (rightBk l n = false) := Lib.hid (decide_eq_false (fun x => ho (HN.out.1 x.1).1.2.1))
            clear HN HP hp ho
            refine region_mono (brSp b off l.length cap g k n d s false false false) [18, 19, 20, 21, 22, 23, 24, 25, 26, 27, 28, 29, 30, 31, 32, 33, 34, 35, 36, 37, 38, 39] (by kernel_rfl) (by kernel_rfl) (by kernel_rfl) (by kernel_rfl) (stables_cons (Sp.c_stable _ _) (stables_cons (Sp.c_stable _ _) (stables_cons (Sp.c_stable _ _) (stables_cons (Sp.c_stable _ _) (stables_cons (Sp.c_stable _ _) (stables_cons (Sp.g_stable _ _ _) (stables_cons (Sp.g_stable _ _ _) (stables_cons (Sp.g_stable _ _ _) (stables_cons (Sp.g_stable _ _ _) (stables_cons (Sp.c_stable _ _) (stables_cons (Sp.c_stable _ _) (stables_cons (Sp.g_stable _ _ _) (stables_cons (Sp.g_stable _ _ _) (stables_cons (Sp.g_stable _ _ _) (stables_cons (Sp.g_stable _ _ _) (stables_cons (Sp.g_stable _ _ _) (stables_cons (Sp.g_stable _ _ _) (stables_cons (Sp.g_stable _ _ _) (stables_cons (Sp.g_stable _ _ _) (stables_cons (Sp.g_stable _ _ _) (stables_cons (Sp.g_stable _ _ _) (stables_cons (Sp.c_stable _ _) (trivial))))))))))))))))))))))) ?_ ?_
            · intro am wm L hbm hbase hbase2
              have s0 : am.tmps.getD 0 undef = .slice (some ⟨b, off, none⟩) l.length cap := (hbase 0 rfl).trans (by simp only [Array.getD_eq_getD_getElem?, List.getElem?_toArray, List.getElem?_cons_succ, List.getElem?_cons_zero, Option.getD_some])
              have s1 : am.tmps.getD 1 undef = .int .i64 n := (hbase 1 rfl).trans (by simp only [Array.getD_eq_getD_getElem?, List.getElem?_toArray, List.getElem?_cons_succ, List.getElem?_cons_zero, Option.getD_some])
              have s5 : am.tmps.getD 5 undef = .int .i64 d := (hbase 5 rfl).trans (by simp only [Array.getD_eq_getD_getElem?, List.getElem?_toArray, List.getElem?_cons_succ, List.getElem?_cons_zero, Option.getD_some])
              have s6 : am.tmps.getD 6 undef = .int .i64 (k : Int) := (hbase 6 rfl).trans (by simp only [Array.getD_eq_getD_getElem?, List.getElem?_toArray, List.getElem?_cons_succ, List.getElem?_cons_zero, Option.getD_some])
              have s7 : am.tmps.getD 7 undef = .pointer (some ⟨g, 0, none⟩) := (hbase 7 rfl).trans (by simp only [Array.getD_eq_getD_getElem?, List.getElem?_toArray, List.getElem?_cons_succ, List.getElem?_cons_zero, Option.getD_some])
              clear hbase hbase2
              have m0 := carry hbm y0
              have m1 := carry hbm y1
              have m2 := carry hbm y2
              have m3 := carry hbm y3
              refine steps_cons (fun hn hl => ?_) fun H0 => ?_
              · skip
                clear hn hl 
                refine stepC (wanted_free rfl) fun K hK => ?_
                go_simp
                exact hK _ (Below.refl _ _)
              refine steps_cons (fun hn hl => ?_) fun H1 => ?_
              · skip
                have h18 := Sp.of_c (H0 (hn 0 (show 0 ∈ [0] from .head _)))
                clear hn hl H0
                refine stepC (wanted_free rfl) fun K hK => ?_
                go_simp
                exact hK _ (Below.refl _ _)
              refine steps_cons (fun hn hl => ?_) fun H2 => ?_
              · skip
                clear hn hl H0 H1
                refine stepC (wanted_free rfl) fun K hK => ?_
                go_simp
                exact hK _ (Below.refl _ _)
              refine steps_cons (fun hn hl => ?_) fun H3 => ?_
              · skip
                have h19 := Sp.of_c (H1 (hn 1 (show 1 ∈ [1, 2] from .head _)))
                have h20 := Sp.of_c (H2 (hn 2 (show 2 ∈ [1, 2] from .tail _ (.head _))))
                clear hn hl H0 H1 H2
                refine stepC (wanted_free rfl) fun K hK => ?_
                go_simp
                exact hK _ (Below.refl _ _)
              refine steps_cons (fun hn hl => ?_) fun H4 => ?_
              · skip
                have h21 := Sp.of_c (H3 (hn 3 (show 3 ∈ [3] from .head _)))
                clear hn hl H0 H1 H2 H3
                refine stepC (wanted_free rfl) fun K hK => ?_
                go_simp
                exact hK _ (Below.refl _ _)
              refine steps_cons (fun hn hl => ?_) fun H5 => ?_
              · skip
                have h22 := Sp.of_c (H4 (hn 4 (show 4 ∈ [4] from .head _)))
                clear hn hl H0 H1 H2 H3 H4
                refine stepC (wanted_guard rfl rfl h22 rfl) fun K hK => ?_
                go_simp
                exact hK _ (Below.refl _ _)
              refine steps_cons (fun hn hl => ?_) fun H6 => ?_
              · skip
                have h22 := Sp.of_c (H4 (hn 4 (show 4 ∈ [4] from .head _)))
                clear hn hl H0 H1 H2 H3 H4 H5
                refine stepC (wanted_guard rfl rfl h22 rfl) fun K hK => ?_
                go_simp
                exact hK _ (Below.refl _ _)
              refine steps_cons (fun hn hl => ?_) fun H7 => ?_
              · skip
                have h23 := Sp.of_g (H5 (hn 5 (show 5 ∈ [5, 6, 4] from .head _))) rfl
                have h24 := Sp.of_g (H6 (hn 6 (show 6 ∈ [5, 6, 4] from .tail _ (.head _)))) rfl
                have h22 := Sp.of_c (H4 (hn 4 (show 4 ∈ [5, 6, 4] from .tail _ (.tail _ (.head _)))))
                clear hn hl H0 H1 H2 H3 H4 H5 H6
                refine stepC (wanted_guard rfl rfl h22 rfl) fun K hK => ?_
                go_simp
                first
                  | ((with_reducible refine (HO.out _).mono ?_); rintro e w6 ⟨rfl, hb6⟩; exact hK _ hb6)
                  | ((with_reducible refine (HM.out _ (HT.out.later hbm)).mono ?_); rintro e w6 ⟨rfl, hb6⟩; exact hK _ hb6)
              refine steps_cons (fun hn hl => ?_) fun H8 => ?_
              · skip
                have h25 := Sp.of_g (H7 (hn 7 (show 7 ∈ [7, 4] from .head _))) rfl
                have h22 := Sp.of_c (H4 (hn 4 (show 4 ∈ [7, 4] from .tail _ (.head _))))
                clear hn hl H0 H1 H2 H3 H4 H5 H6 H7
                refine stepC (wanted_guard rfl rfl h22 rfl) fun K hK => ?_
                go_simp
                exact hK _ (Below.refl _ _)
              refine steps_cons (fun hn hl => ?_) fun H9 => ?_
              · skip
                have h22 := Sp.of_c (H4 (hn 4 (show 4 ∈ [4, 8] from .head _)))
                have h26 := Sp.of_g (H8 (hn 8 (show 8 ∈ [4, 8] from .tail _ (.head _)))) rfl
                clear hn hl H0 H1 H2 H3 H4 H5 H6 H7 H8
                refine stepC (wanted_free rfl) fun K hK => ?_
                go_simp
                exact hK _ (Below.refl _ _)
              refine steps_cons (fun hn hl => ?_) fun H10 => ?_
              · skip
                have h27 := Sp.of_c (H9 (hn 9 (show 9 ∈ [9] from .head _)))
                clear hn hl H0 H1 H2 H3 H4 H5 H6 H7 H8 H9
                refine stepC (wanted_free rfl) fun K hK => ?_
                go_simp
                exact hK _ (Below.refl _ _)
              refine steps_cons (fun hn hl => ?_) fun H11 => ?_
              · skip
                have h28 := Sp.of_c (H10 (hn 10 (show 10 ∈ [10] from .head _)))
                clear hn hl H0 H1 H2 H3 H4 H5 H6 H7 H8 H9 H10
                exact stepN (unwanted_guard rfl rfl h28 rfl)
              refine steps_cons (fun hn hl => ?_) fun H12 => ?_
              · skip
                have h28 := Sp.of_c (H10 (hn 10 (show 10 ∈ [10] from .head _)))
                clear hn hl H0 H1 H2 H3 H4 H5 H6 H7 H8 H9 H10 H11
                exact stepN (unwanted_guard rfl rfl h28 rfl)
              refine steps_cons (fun hn hl => ?_) fun H13 => ?_
              · skip
                have h29 := Sp.of_off (H11 (hn 11 (show 11 ∈ [11, 12, 10] from .head _))) rfl
                have h30 := Sp.of_off (H12 (hn 12 (show 12 ∈ [11, 12, 10] from .tail _ (.head _)))) rfl
                have h28 := Sp.of_c (H10 (hn 10 (show 10 ∈ [11, 12, 10] from .tail _ (.tail _ (.head _)))))
                clear hn hl H0 H1 H2 H3 H4 H5 H6 H7 H8 H9 H10 H11 H12
                exact stepN (unwanted_guard rfl rfl h28 rfl)
              refine steps_cons (fun hn hl => ?_) fun H14 => ?_
              · skip
                have h28 := Sp.of_c (H10 (hn 10 (show 10 ∈ [10] from .head _)))
                clear hn hl H0 H1 H2 H3 H4 H5 H6 H7 H8 H9 H10 H11 H12 H13
                exact stepN (unwanted_guard rfl rfl h28 rfl)
              refine steps_cons (fun hn hl => ?_) fun H15 => ?_
              · skip
                have h32 := Sp.of_off (H14 (hn 14 (show 14 ∈ [14, 10] from .head _))) rfl
                have h28 := Sp.of_c (H10 (hn 10 (show 10 ∈ [14, 10] from .tail _ (.head _))))
                clear hn hl H0 H1 H2 H3 H4 H5 H6 H7 H8 H9 H10 H11 H12 H13 H14
                exact stepN (unwanted_guard rfl rfl h28 rfl)
              refine steps_cons (fun hn hl => ?_) fun H16 => ?_
              · skip
                have h28 := Sp.of_c (H10 (hn 10 (show 10 ∈ [10] from .head _)))
                clear hn hl H0 H1 H2 H3 H4 H5 H6 H7 H8 H9 H10 H11 H12 H13 H14 H15
                exact stepN (unwanted_guard rfl rfl h28 rfl)
              refine steps_cons (fun hn hl => ?_) fun H17 => ?_
              · skip
                have h34 := Sp.of_off (H16 (hn 16 (show 16 ∈ [16, 10] from .head _))) rfl
                have h28 := Sp.of_c (H10 (hn 10 (show 10 ∈ [16, 10] from .tail _ (.head _))))
                clear hn hl H0 H1 H2 H3 H4 H5 H6 H7 H8 H9 H10 H11 H12 H13 H14 H15 H16
                exact stepN (unwanted_guard rfl rfl h28 rfl)
              refine steps_cons (fun hn hl => ?_) fun H18 => ?_
              · skip
                have h28 := Sp.of_c (H10 (hn 10 (show 10 ∈ [10] from .head _)))
                clear hn hl H0 H1 H2 H3 H4 H5 H6 H7 H8 H9 H10 H11 H12 H13 H14 H15 H16 H17
                exact stepN (unwanted_guard rfl rfl h28 rfl)
              refine steps_cons (fun hn hl => ?_) fun H19 => ?_
              · skip
                have h36 := Sp.of_off (H18 (hn 18 (show 18 ∈ [18, 10] from .head _))) rfl
                have h28 := Sp.of_c (H10 (hn 10 (show 10 ∈ [18, 10] from .tail _ (.head _))))
                clear hn hl H0 H1 H2 H3 H4 H5 H6 H7 H8 H9 H10 H11 H12 H13 H14 H15 H16 H17 H18
                exact stepN (unwanted_guard rfl rfl h28 rfl)
              refine steps_cons (fun hn hl => ?_) fun H20 => ?_
              · skip
                have h31 := Sp.of_off (H13 (hn 13 (show 13 ∈ [13, 15, 17, 19, 10] from .head _))) rfl
                have h33 := Sp.of_off (H15 (hn 15 (show 15 ∈ [13, 15, 17, 19, 10] from .tail _ (.head _)))) rfl
                have h35 := Sp.of_off (H17 (hn 17 (show 17 ∈ [13, 15, 17, 19, 10] from .tail _ (.tail _ (.head _))))) rfl
                have h37 := Sp.of_off (H19 (hn 19 (show 19 ∈ [13, 15, 17, 19, 10] from .tail _ (.tail _ (.tail _ (.head _)))))) rfl
                have h28 := Sp.of_c (H10 (hn 10 (show 10 ∈ [13, 15, 17, 19, 10] from .tail _ (.tail _ (.tail _ (.tail _ (.head _)))))))
                clear hn hl H0 H1 H2 H3 H4 H5 H6 H7 H8 H9 H10 H11 H12 H13 H14 H15 H16 H17 H18 H19
                exact stepN (unwanted_guard rfl rfl h28 rfl)
              refine steps_cons (fun hn hl => ?_) fun H21 => ?_
              · skip
                have h28 := Sp.of_c (H10 (hn 10 (show 10 ∈ [10, 20] from .head _)))
                have h38 := Sp.of_off (H20 (hn 20 (show 20 ∈ [10, 20] from .tail _ (.head _)))) rfl
                clear hn hl H0 H1 H2 H3 H4 H5 H6 H7 H8 H9 H10 H11 H12 H13 H14 H15 H16 H17 H18 H19 H20
                refine stepC (wanted_free rfl) fun K hK => ?_
                go_simp
                exact hK _ (Below.refl _ _)
              exact trivial
            · intro w5 hb5
              have hz5 := hb5.size
              refine end_cons ?_; rintro _ rfl
              refine end_cons ?_; rintro _ rfl
              refine end_cons ?_; rintro _ rfl
              refine end_cons ?_; rintro _ rfl
              refine end_cons ?_; rintro _ rfl
              refine end_cons ?_; rintro _ rfl
              refine end_cons ?_; rintro _ rfl
              refine end_cons ?_; rintro _ rfl
              refine end_cons ?_; rintro _ rfl
              refine end_cons ?_; rintro _ rfl
              refine end_cons ?_; rintro _ rfl
              refine end_cons ?_; rintro _ rfl
              refine end_cons ?_; rintro _ rfl
              refine end_cons ?_; rintro _ rfl
              refine end_cons ?_; rintro _ rfl
              refine end_cons ?_; rintro _ rfl
              refine end_cons ?_; rintro _ rfl
              refine end_cons ?_; rintro _ rfl
              refine end_cons ?_; rintro _ rfl
              refine end_cons ?_; rintro _ rfl
              refine end_cons ?_; rintro _ rfl
              refine end_cons ?_; rintro _ rfl
              refine end_nil ?_
              simp only [List.setIfInBounds_toArray, List.set_cons_succ, List.set_cons_zero, Bool.not_false, Bool.not_true, Bool.true_or, Bool.or_true, Bool.false_or, Bool.or_false]
              go_wp2
              go_ret
              exact ⟨by rw [E.out]; rfl, kx.trans (hb5.mono kx.size)⟩
      · have hkl : k = l.length := by omega
        subst hkl
        have E : Hid (rightBk l n = true) := Lib.hid (decide_eq_true ⟨by
          rw [HI.out.1, List.drop_length]; exact trivial, by omega⟩)
        clear HI
        go_wp2
        go_ret
        exact ⟨by rw [E.out]; rfl, (by repeat' (first | exact Below.refl _ _ | assumption | exact And.left (by assumption) | refine Below.drew ?_ | refine below_drewN ?_ _ | refine Below.setCell ?_ (by first | (simp; done) | (simp; omega) | omega) _ | refine Below.alloc ?_ (by first | (simp; done) | (simp; omega) | omega) _ | refine after (by assumption) (by first | (simp; done) | (simp; omega) | omega) ?_))⟩
end Go.Proofs.Ytcdajfiohhbdgaa.W
