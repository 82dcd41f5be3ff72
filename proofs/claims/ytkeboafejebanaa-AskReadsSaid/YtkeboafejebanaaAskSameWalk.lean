/-
  The walk of AskSame.
-/
import Derived.Test.YtkeboafejebanaaAskAwake
import Derived.Test.YtkeboafejebanaaAskBytes
import Derived.Test.YtkeboafejebanaaRefSame
import Derived.Test.YtkeboafejebanaaFrameReq
import Derived.Test.YtkeboafejebanaaAskReadS
namespace Go.Proofs.Ytkeboafejebanaa.W
set_option linter.unusedVariables false
set_option linter.unusedSimpArgs false
open Go.ChangeShapes Go.WideShapes Go.ChangeAt Go.RowKit

/-- a request is loaded whole, where it is wanted as it turned out -/
theorem wpList_load_q_g {ops : Array Oper} {rest : List Oper} {o : Oper} {a : Act} {w : World} {Q : Exit → Act → World → Prop} {g : Nat} {q : Rq} (x : Operand) (ho : o.op = .load 26 x)
    (hx : a.eval x = .pointer (some ⟨g, 0, none⟩)) (hb : BoxQ w g q) (hw : Region.wanted o (yielded ops a.tmps) = true) (h : wpList Try.prog ops Q rest (a.put o.dst (.agg #[.int .i64 q.kind, .int .i64 q.key, .int .i64 (q.n 1), .int .i64 (q.n 2), .int .i64 (q.n 3), .int .i64 (q.n 4), .int .i64 (q.n 5), .int .i64 (q.n 6), .int .i64 (q.n 7), .int .i64 (q.n 8), .int .i64 (q.n 9), .int .i64 (q.n 10), .slice q.aa q.af.length q.ac, .int .i64 (q.n 11), .int .i64 (q.n 12), .int .i64 (q.n 13), .int .i64 (q.n 14)])) w) : wpList Try.prog ops Q (o :: rest) a w :=
  wpList_step fun K hK => by
    simp only [hw, if_true]
    exact wp_load_box x ho hx hb (hK _ _ h)
/-- what Write comes to, of any request -/
def WriteTo (q : Rq) (w : World) (e : Ending) (w' : World) : Prop :=
  Below w.heap.size w w' ∧ ((rightQ q = true ∧ ∃ A c, e = .returned (.tuple #[.slice A (writeQ q).length c, .int .i64 0]) ∧ (A = none → c = 0) ∧ RowAt w' A (bytesV (writeQ q))) ∨ (rightQ q = false ∧ e = .returned (.tuple #[.slice none 0 0, .int .i64 2])))
theorem askWrite (q : Rq) (hl : q.l.length = 15) (w : World) (ha : RowAt w q.aa (depsV q.af)) : Calls Try.prog 7 #[.agg #[.int .i64 q.kind, .int .i64 q.key, .int .i64 (q.n 1), .int .i64 (q.n 2), .int .i64 (q.n 3), .int .i64 (q.n 4), .int .i64 (q.n 5), .int .i64 (q.n 6), .int .i64 (q.n 7), .int .i64 (q.n 8), .int .i64 (q.n 9), .int .i64 (q.n 10), .slice q.aa q.af.length q.ac, .int .i64 (q.n 11), .int .i64 (q.n 12), .int .i64 (q.n 13), .int .i64 (q.n 14)]] w (WriteTo q w) := by
  cases h : rightQ q with
  | true =>
    refine (write_yes q hl w ha h).mono ?_
    rintro e w' ⟨v, rfl, hown, hb⟩
    obtain ⟨A, c, rfl, _, hrow, hn⟩ := RowT.of hown
    exact ⟨hb, .inl ⟨h, A, c, rfl, hn, hrow.row⟩⟩
  | false =>
    refine (write_no q hl w ha h).mono ?_
    rintro e w' ⟨rfl, hb⟩
    exact ⟨hb, .inr ⟨h, rfl⟩⟩
theorem askSame_many (a b : Rq) (w : World) (h : 50 < a.af.length ∨ (¬ 50 < a.af.length ∧ 50 < b.af.length)) :
    Calls Try.prog 5 #[.agg #[.int .i64 a.kind, .int .i64 a.key, .int .i64 (a.n 1), .int .i64 (a.n 2), .int .i64 (a.n 3), .int .i64 (a.n 4), .int .i64 (a.n 5), .int .i64 (a.n 6), .int .i64 (a.n 7), .int .i64 (a.n 8), .int .i64 (a.n 9), .int .i64 (a.n 10), .slice a.aa a.af.length a.ac, .int .i64 (a.n 11), .int .i64 (a.n 12), .int .i64 (a.n 13), .int .i64 (a.n 14)], .agg #[.int .i64 b.kind, .int .i64 b.key, .int .i64 (b.n 1), .int .i64 (b.n 2), .int .i64 (b.n 3), .int .i64 (b.n 4), .int .i64 (b.n 5), .int .i64 (b.n 6), .int .i64 (b.n 7), .int .i64 (b.n 8), .int .i64 (b.n 9), .int .i64 (b.n 10), .slice b.aa b.af.length b.ac, .int .i64 (b.n 11), .int .i64 (b.n 12), .int .i64 (b.n 13), .int .i64 (b.n 14)]] w fun e w' => e = .returned (.bool true) ∧ Below w.heap.size w w' := by
  have HW := Lib.hid awake8
  rcases h with h | ⟨h, h'⟩
  · have d1 : decide ((50 : Int) < (a.af.length : Int)) = true := decide_eq_true (by omega)
    clear h
    go_enter Try.func5, Try.ntmps5
    go_wp2_with fail
    refine (HW.out _).mono ?_; rintro e w1 ⟨rfl, hb1⟩; obtain ⟨hc1, hf1⟩ := bcell hb1; have hz1 := hb1.size; (try simp at hz1); have lt_w1_0 : w.heap.size < w1.heap.size := (by omega); have lt_w1_1 : w.heap.size + 1 < w1.heap.size := (by omega)
    go_wp2
    go_ret
    exact ⟨rfl, (by repeat' (first | exact Below.refl _ _ | assumption | exact And.left (by assumption) | refine Below.drew ?_ | refine below_drewN ?_ _ | refine Below.setCell ?_ (by first | (simp; done) | (simp; omega) | omega) _ | refine Below.alloc ?_ (by first | (simp; done) | (simp; omega) | omega) _ | refine after (by assumption) (by first | (simp; done) | (simp; omega) | omega) ?_))⟩
  · have d1 : decide ((50 : Int) < (a.af.length : Int)) = false := decide_eq_false (by omega)
    have d2 : decide ((50 : Int) < (b.af.length : Int)) = true := decide_eq_true (by omega)
    clear h h'
    go_enter Try.func5, Try.ntmps5
    go_wp2_with fail
    refine (HW.out _).mono ?_; rintro e w1 ⟨rfl, hb1⟩; obtain ⟨hc1, hf1⟩ := bcell hb1; have hz1 := hb1.size; (try simp at hz1); have lt_w1_0 : w.heap.size < w1.heap.size := (by omega); have lt_w1_1 : w.heap.size + 1 < w1.heap.size := (by omega)
    go_wp2
    go_ret
    exact ⟨rfl, (by repeat' (first | exact Below.refl _ _ | assumption | exact And.left (by assumption) | refine Below.drew ?_ | refine below_drewN ?_ _ | refine Below.setCell ?_ (by first | (simp; done) | (simp; omega) | omega) _ | refine Below.alloc ?_ (by first | (simp; done) | (simp; omega) | omega) _ | refine after (by assumption) (by first | (simp; done) | (simp; omega) | omega) ?_))⟩
set_option maxRecDepth 100000 in
set_option maxHeartbeats 3000000 in
theorem askSame_few (a b : Rq) (hla : a.l.length = 15) (hlb : b.l.length = 15) (hfa : a.af.length ≤ 50) (hfb : b.af.length ≤ 50) (w : World) (ha : RowAt w a.aa (depsV a.af)) (hb : RowAt w b.aa (depsV b.af)) (s : Bool) (hs : sameQ a b = s) :
    Calls Try.prog 5 #[.agg #[.int .i64 a.kind, .int .i64 a.key, .int .i64 (a.n 1), .int .i64 (a.n 2), .int .i64 (a.n 3), .int .i64 (a.n 4), .int .i64 (a.n 5), .int .i64 (a.n 6), .int .i64 (a.n 7), .int .i64 (a.n 8), .int .i64 (a.n 9), .int .i64 (a.n 10), .slice a.aa a.af.length a.ac, .int .i64 (a.n 11), .int .i64 (a.n 12), .int .i64 (a.n 13), .int .i64 (a.n 14)], .agg #[.int .i64 b.kind, .int .i64 b.key, .int .i64 (b.n 1), .int .i64 (b.n 2), .int .i64 (b.n 3), .int .i64 (b.n 4), .int .i64 (b.n 5), .int .i64 (b.n 6), .int .i64 (b.n 7), .int .i64 (b.n 8), .int .i64 (b.n 9), .int .i64 (b.n 10), .slice b.aa b.af.length b.ac, .int .i64 (b.n 11), .int .i64 (b.n 12), .int .i64 (b.n 13), .int .i64 (b.n 14)]] w fun e w' => e = .returned (.bool true) ∧ Below w.heap.size w w' := by
  have HAW := Lib.hid awake8
  have hs2 : sameQ b a = s := by rw [sameQ_symm]; exact hs
  have HS1 := Lib.hid (fun w' h1 h2 => askSame1 a b (by omega) (by omega) w' h1 h2)
  have HS2 := Lib.hid (fun w' h1 h2 => refSame a b (by omega) w' h1 h2)
  have HS3 := Lib.hid (fun w' h1 => askSame1 a a (by omega) (by omega) w' h1 h1)
  have HS4 := Lib.hid (fun w' h1 h2 => askSame1 b a (by omega) (by omega) w' h1 h2)
  rw [hs] at HS1 HS2
  rw [hs2] at HS4
  rw [sameQ_refl] at HS3
  have HWA := Lib.hid (fun w' h => askWrite a hla w' h)
  have HWB := Lib.hid (fun w' h => askWrite b hlb w' h)
  have HBY := Lib.hid (fun A B ca cb hl w' h1 h2 => bytesD A B ca cb (writeQ a) (writeQ b) hl w' h1 h2)
  have HSB : Hid (rightQ a = true → rightQ b = true → s = decide (writeQ a = writeQ b)) := Lib.hid (fun h1 h2 => by rw [← hs]; exact same_bytes (right_is h1) (right_is h2))
  have HWL : Hid (rightQ a = true → (writeQ a).length ≤ 133) := Lib.hid (fun h => (write_len (right_is h)).2)
  have HA := Lib.hid ha
  have HB := Lib.hid hb
  have d1 : decide ((50 : Int) < (a.af.length : Int)) = false := decide_eq_false (by omega)
  have d2 : decide ((50 : Int) < (b.af.length : Int)) = false := decide_eq_false (by omega)
  have hss : (s != s) = false := by cases s <;> rfl
  have hss2 : (s == s) = true := by cases s <;> rfl
  clear hs hs2 ha hb hla hlb hfa hfb
  go_enter Try.func5, Try.ntmps5
  go_wp2_with fail
  have HX' : BoxQ ((w.alloc (.cells #[.int .i64 a.kind, .int .i64 a.key, .int .i64 (a.n 1), .int .i64 (a.n 2), .int .i64 (a.n 3), .int .i64 (a.n 4), .int .i64 (a.n 5), .int .i64 (a.n 6), .int .i64 (a.n 7), .int .i64 (a.n 8), .int .i64 (a.n 9), .int .i64 (a.n 10), .slice a.aa a.af.length a.ac, .int .i64 (a.n 11), .int .i64 (a.n 12), .int .i64 (a.n 13), .int .i64 (a.n 14)] 26)).alloc (.cells #[.int .i64 b.kind, .int .i64 b.key, .int .i64 (b.n 1), .int .i64 (b.n 2), .int .i64 (b.n 3), .int .i64 (b.n 4), .int .i64 (b.n 5), .int .i64 (b.n 6), .int .i64 (b.n 7), .int .i64 (b.n 8), .int .i64 (b.n 9), .int .i64 (b.n 10), .slice b.aa b.af.length b.ac, .int .i64 (b.n 11), .int .i64 (b.n 12), .int .i64 (b.n 13), .int .i64 (b.n 14)] 26)) w.heap.size a := (BoxQ.new w a).alloc _
  have HY' : BoxQ ((w.alloc (.cells #[.int .i64 a.kind, .int .i64 a.key, .int .i64 (a.n 1), .int .i64 (a.n 2), .int .i64 (a.n 3), .int .i64 (a.n 4), .int .i64 (a.n 5), .int .i64 (a.n 6), .int .i64 (a.n 7), .int .i64 (a.n 8), .int .i64 (a.n 9), .int .i64 (a.n 10), .slice a.aa a.af.length a.ac, .int .i64 (a.n 11), .int .i64 (a.n 12), .int .i64 (a.n 13), .int .i64 (a.n 14)] 26)).alloc (.cells #[.int .i64 b.kind, .int .i64 b.key, .int .i64 (b.n 1), .int .i64 (b.n 2), .int .i64 (b.n 3), .int .i64 (b.n 4), .int .i64 (b.n 5), .int .i64 (b.n 6), .int .i64 (b.n 7), .int .i64 (b.n 8), .int .i64 (b.n 9), .int .i64 (b.n 10), .slice b.aa b.af.length b.ac, .int .i64 (b.n 11), .int .i64 (b.n 12), .int .i64 (b.n 13), .int .i64 (b.n 14)] 26)) (w.heap.size + 1) b := by simpa using BoxQ.new (w.alloc (.cells #[.int .i64 a.kind, .int .i64 a.key, .int .i64 (a.n 1), .int .i64 (a.n 2), .int .i64 (a.n 3), .int .i64 (a.n 4), .int .i64 (a.n 5), .int .i64 (a.n 6), .int .i64 (a.n 7), .int .i64 (a.n 8), .int .i64 (a.n 9), .int .i64 (a.n 10), .slice a.aa a.af.length a.ac, .int .i64 (a.n 11), .int .i64 (a.n 12), .int .i64 (a.n 13), .int .i64 (a.n 14)] 26)) b
  generalize hw0 : World.alloc (World.alloc w _) _ = w0 at HX' HY' ⊢
  have hW0 : Below w.heap.size w w0 := by rw [← hw0]; exact (by repeat' (first | exact Below.refl _ _ | assumption | exact And.left (by assumption) | refine Below.drew ?_ | refine below_drewN ?_ _ | refine Below.setCell ?_ (by first | (simp; done) | (simp; omega) | omega) _ | refine Below.alloc ?_ (by first | (simp; done) | (simp; omega) | omega) _ | refine after (by assumption) (by first | (simp; done) | (simp; omega) | omega) ?_))
  have HX0 := Lib.hid HX'
  have HY0 := Lib.hid HY'
  have HA0 := Lib.hid (HA.out.later hW0)
  have HB0 := Lib.hid (HB.out.later hW0)
  clear hw0 HX' HY' HA HB
  refine (HAW.out w0).mono ?_; rintro e w1 ⟨rfl, hb1⟩
  have HX1 := Lib.hid (HX0.out.on hb1)
  have HA1 := Lib.hid (HA0.out.later hb1)
  have HY1 := Lib.hid (HY0.out.on hb1)
  have HB1 := Lib.hid (HB0.out.later hb1)
  have hW1 : Below w.heap.size w w1 := hW0.trans (hb1.mono hW0.size)
  clear HX0 HA0 HY0 HB0 hb1
  have x12 := HX1.out.c12
  have y12 := HY1.out.c12
  go_wp2_with (first
    | with_reducible refine wpList_load_q (q := a) rfl (.tmp 2) rfl rfl HX1.out ?_
    | with_reducible refine wpList_load_q (q := b) rfl (.tmp 3) rfl rfl HY1.out ?_
    | refine wpList_load_q_g (q := a) (.tmp 2) rfl rfl HX1.out rfl ?_
    | refine wpList_load_q_g (q := b) (.tmp 3) rfl rfl HY1.out rfl ?_)
  clear x12 y12
  refine (HS1.out w1 HA1.out HB1.out).mono ?_; rintro e w2 ⟨rfl, hb2⟩
  have HX2 := Lib.hid (HX1.out.on hb2)
  have HA2 := Lib.hid (HA1.out.later hb2)
  have HY2 := Lib.hid (HY1.out.on hb2)
  have HB2 := Lib.hid (HB1.out.later hb2)
  have hW2 : Below w.heap.size w w2 := hW1.trans (hb2.mono hW1.size)
  clear HX1 HA1 HY1 HB1 hb2
  go_wp2_with (first
    | with_reducible refine wpList_load_q (q := a) rfl (.tmp 2) rfl rfl HX2.out ?_
    | with_reducible refine wpList_load_q (q := b) rfl (.tmp 3) rfl rfl HY2.out ?_
    | refine wpList_load_q_g (q := a) (.tmp 2) rfl rfl HX2.out rfl ?_
    | refine wpList_load_q_g (q := b) (.tmp 3) rfl rfl HY2.out rfl ?_)
  refine (HS2.out w2 HA2.out HB2.out).mono ?_; rintro e w3 ⟨rfl, hb3⟩
  have HX3 := Lib.hid (HX2.out.on hb3)
  have HA3 := Lib.hid (HA2.out.later hb3)
  have HY3 := Lib.hid (HY2.out.on hb3)
  have HB3 := Lib.hid (HB2.out.later hb3)
  have hW3 : Below w.heap.size w w3 := hW2.trans (hb3.mono hW2.size)
  clear HX2 HA2 HY2 HB2 hb3
  go_wp2_with (first
    | with_reducible refine wpList_load_q (q := a) rfl (.tmp 2) rfl rfl HX3.out ?_
    | with_reducible refine wpList_load_q (q := b) rfl (.tmp 3) rfl rfl HY3.out ?_
    | refine wpList_load_q_g (q := a) (.tmp 2) rfl rfl HX3.out rfl ?_
    | refine wpList_load_q_g (q := b) (.tmp 3) rfl rfl HY3.out rfl ?_)
  refine (HS3.out w3 HA3.out).mono ?_; rintro e w4 ⟨rfl, hb4⟩
  have HX4 := Lib.hid (HX3.out.on hb4)
  have HA4 := Lib.hid (HA3.out.later hb4)
  have HY4 := Lib.hid (HY3.out.on hb4)
  have HB4 := Lib.hid (HB3.out.later hb4)
  have hW4 : Below w.heap.size w w4 := hW3.trans (hb4.mono hW3.size)
  clear HX3 HA3 HY3 HB3 hb4
  go_wp2_with (first
    | with_reducible refine wpList_load_q (q := a) rfl (.tmp 2) rfl rfl HX4.out ?_
    | with_reducible refine wpList_load_q (q := b) rfl (.tmp 3) rfl rfl HY4.out ?_
    | refine wpList_load_q_g (q := a) (.tmp 2) rfl rfl HX4.out rfl ?_
    | refine wpList_load_q_g (q := b) (.tmp 3) rfl rfl HY4.out rfl ?_)
  refine (HS4.out w4 HB4.out HA4.out).mono ?_; rintro e w5 ⟨rfl, hb5⟩
  have HX5 := Lib.hid (HX4.out.on hb5)
  have HA5 := Lib.hid (HA4.out.later hb5)
  have HY5 := Lib.hid (HY4.out.on hb5)
  have HB5 := Lib.hid (HB4.out.later hb5)
  have hW5 : Below w.heap.size w w5 := hW4.trans (hb5.mono hW4.size)
  clear HX4 HA4 HY4 HB4 hb5
  go_wp2_with (first
    | with_reducible refine wpList_load_q (q := a) rfl (.tmp 2) rfl rfl HX5.out ?_
    | with_reducible refine wpList_load_q (q := b) rfl (.tmp 3) rfl rfl HY5.out ?_
    | refine wpList_load_q_g (q := a) (.tmp 2) rfl rfl HX5.out rfl ?_
    | refine wpList_load_q_g (q := b) (.tmp 3) rfl rfl HY5.out rfl ?_)
  refine (HWA.out w5 HA5.out).mono ?_; rintro e w6 ⟨hb6, hw6⟩
  have HX6 := Lib.hid (HX5.out.on hb6)
  have HA6 := Lib.hid (HA5.out.later hb6)
  have HY6 := Lib.hid (HY5.out.on hb6)
  have HB6 := Lib.hid (HB5.out.later hb6)
  have hW6 : Below w.heap.size w w6 := hW5.trans (hb6.mono hW5.size)
  clear HX5 HA5 HY5 HB5 hb6
  rcases hw6 with ⟨hra, A6, c6, rfl, _, hrow6⟩ | ⟨hra, rfl⟩
  · have HR6 := Lib.hid hrow6
    have HRA := Lib.hid hra
    clear hrow6 hra
    go_wp2_with (first
    | with_reducible refine wpList_load_q (q := a) rfl (.tmp 2) rfl rfl HX6.out ?_
    | with_reducible refine wpList_load_q (q := b) rfl (.tmp 3) rfl rfl HY6.out ?_
    | refine wpList_load_q_g (q := a) (.tmp 2) rfl rfl HX6.out rfl ?_
    | refine wpList_load_q_g (q := b) (.tmp 3) rfl rfl HY6.out rfl ?_)
    refine (HWB.out w6 HB6.out).mono ?_; rintro e w7 ⟨hb7, hw7⟩
    have HR7 := Lib.hid (HR6.out.later hb7)
    have hW7 : Below w.heap.size w w7 := hW6.trans (hb7.mono hW6.size)
    rcases hw7 with ⟨hrb, A7, c7, rfl, _, hrow7⟩ | ⟨hrb, rfl⟩
    · have K := HBY.out A6 A7 c6 c7 (by have := HWL.out HRA.out; omega) w7 HR7.out hrow7
      rw [← HSB.out HRA.out hrb] at K
      clear hrow7 hrb HR6 HR7 hb7
      go_wp2_with fail
      refine K.mono ?_; rintro e w8 ⟨rfl, hb8⟩
      go_wp2
      go_ret
      exact ⟨rfl, hW7.trans (hb8.mono hW7.size)⟩
    · clear hrb HR6 HR7 hb7
      go_wp2
      go_ret
      exact ⟨rfl, hW7⟩
  · clear hra
    go_wp2_with (first
    | with_reducible refine wpList_load_q (q := a) rfl (.tmp 2) rfl rfl HX6.out ?_
    | with_reducible refine wpList_load_q (q := b) rfl (.tmp 3) rfl rfl HY6.out ?_
    | refine wpList_load_q_g (q := a) (.tmp 2) rfl rfl HX6.out rfl ?_
    | refine wpList_load_q_g (q := b) (.tmp 3) rfl rfl HY6.out rfl ?_)
    refine (HWB.out w6 HB6.out).mono ?_; rintro e w7 ⟨hb7, hw7⟩
    have hW7 : Below w.heap.size w w7 := hW6.trans (hb7.mono hW6.size)
    rcases hw7 with ⟨hrb, A7, c7, rfl, _, hrow7⟩ | ⟨hrb, rfl⟩
    · clear hrow7 hrb hb7
      go_wp2
      go_ret
      exact ⟨rfl, hW7⟩
    · clear hrb hb7
      go_wp2
      go_ret
      exact ⟨rfl, hW7⟩
theorem askSame_walk (v0 v1 : Value) (w : World) (F0 : FReq w v0) (F1 : FReq w v1) :
    Calls Try.prog 5 #[v0, v1] w fun e w' => e = .returned (.bool true) ∧ Below w.heap.size w w' := by
  obtain ⟨a, rfl, hla, ha⟩ := F0
  obtain ⟨b, rfl, hlb, hb⟩ := F1
  by_cases h : 50 < a.af.length
  · exact askSame_many a b w (.inl h)
  · by_cases h' : 50 < b.af.length
    · exact askSame_many a b w (.inr ⟨h, h'⟩)
    · exact askSame_few a b hla hlb (by omega) (by omega) w ha hb _ rfl
end Go.Proofs.Ytkeboafejebanaa.W
