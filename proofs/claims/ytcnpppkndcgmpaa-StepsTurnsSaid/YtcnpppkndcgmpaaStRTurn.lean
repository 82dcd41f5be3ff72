/-
  Contract of the document's Turn.
-/
import Derived.Test.YtcnpppkndcgmpaaStRLeast
import Derived.Test.YtcnpppkndcgmpaaStRPlain
import Derived.Test.YtcnpppkndcgmpaaStChange
import Derived.Deep.RegionLaw
import Derived.BigRegion
namespace Go.Proofs.Ytcnpppkndcgmpaa.W
set_option linter.unusedVariables false
set_option linter.unusedSimpArgs false
open Go.ChangeShapes Go.WideShapes Go.ChangeAt Go.RowKit

/-- an append of elements of several cells, just written out, to a slice of the call's own: a step of a region that draws -/
theorem step_append_big {P : Program} {ops : Array Oper} {o : Oper} {a : Act} {K : Act → World → Prop} {Q : Exit → Act → World → Prop} {E : Prop} (s x : Operand) (t : TypeId)
    (e : TypeId) (size bytes : Nat) (z : Value) (i : TypeInfo) (ht : P.underlying t = some (.slice e)) (hi : P.info? e = some i) (hz : i.zero = some z) (hsize : i.size = size) (hby : i.bytes = bytes) (hzs : z.cells.size = size) (hsz : 0 < size) (hb0 : 0 < bytes)
    (base n m : Nat) (xs : List Value) (us : Array Value) (v : Value) (ty : TypeId) (wr : World) (hgd : o.guard = none)
    (ho : o.op = .call { callee := .builtin .append, args := #[s, x], argTypes := #[t, t] })
    (hs : a.eval s = v) (hx : a.eval x = .slice (some ⟨wr.heap.size, 0, none⟩) m m) (hm : us.size = m * size)
    (hown : wr.ownsRow base e size v n xs) (hbase : base ≤ wr.heap.size)
    (h1 : ∀ u ∈ us.toList, u.oneCell' = true) (hn : (n + m) * bytes ≤ 140737488355328)
    (h : ∀ v' w', w'.ownsRow base e size v' (n + m) (xs ++ us.toList) → (wr.alloc (.cells us ty)).grownBy w' v.ownBlock → K (a.put o.dst v') w') :
    if Region.wanted o (yielded ops a.tmps) = true then Oper.wp P o a (wr.alloc (.cells us ty)) K Q else E := by
  have hw : Region.wanted o (yielded ops a.tmps) = true := by simp [Region.wanted, hgd]
  rw [if_pos hw]
  refine wp_append_own _ s x t ho base e i z size bytes ht hi hz hsize hby hzs hsz v n xs hs (hown.alloc _) ⟨wr.heap.size, 0, none⟩ m m us.toList hx (by simp [hm]) ?_ h1 ?_ hn ?_ ?_
  · intro j y hj
    rw [add_plain, Nat.zero_add, cell_of_row _ _ _ us ty (0, 0) (heap_alloc_new wr _)]
    simpa using hj
  · have : n + m ≤ (n + m) * bytes := Nat.le_mul_of_pos_right _ hb0
    unfold maxLen; omega
  · simp; omega
  · intro v' w' o' g' _
    exact h v' w' o' g'
theorem in64_turn {m : Bool} {a b : V} (ha : a.Ok) (hb : b.Ok) : (a.plus b).in64 ∧ (a.less b).in64 := by
  obtain ⟨h0, h1, h2, h3⟩ := ha; obtain ⟨g0, g1, g2, g3⟩ := hb
  unfold V.in64 V.plus V.less; simp only; omega
set_option maxHeartbeats 4000000 in
theorem rTurn_no (m : Bool) (a : Option Addr) (cap : Nat) (l : List St) (hl : l.length ≤ 900) (f t : Int) (need : V) (w : World) (HA : StAt w a cap l) (hno : ¬ ArgsOk l f t need) :
    Calls Try.prog 22 #[.slice a l.length cap, .agg #[.int .i64 f, .int .i64 t], (.agg #[.int .i64 need.cpu, .int .i64 need.mem, .int .i64 need.gpu, .int .i64 need.lic]), .bool m] w fun e w' => e = .returned (.tuple #[.slice none 0 0, .int .i64 2]) ∧ Below w.heap.size w w' := by
  have HR := Lib.hid HA
  have HP := Lib.hid (fun w' h => rStRight a cap l (by omega) w' h)
  have HV := Lib.hid (fun w' => rright need w')
  have HN := Lib.hid (fun w' => nRight t w')
  by_cases h : OkS l
  · rw [show rightS l = true from decide_eq_true h] at HP
    have hpos : 0 < l.length := List.length_pos_iff.2 h.1
    obtain ⟨b, off, ea, hbl, q0, q1, q2, q3, q4⟩ := HA.row.first hpos
    have hbg := begin_at hpos
    have hnn := begin_nn h
    by_cases hn : need.Ok
    · rw [right_yes hn] at HV
      have hno2 : ¬ (l[0].at_ ≤ f ∧ f < t ∧ t ≤ 281474976710656) := fun x => hno ⟨h, hn, by rw [hbg]; exact x.1, x.2⟩
      rw [hbg] at hnn
      generalize l[0] = s at q0 q1 q2 q3 q4 hno2 hnn
      clear h HA hno hbg hn
      subst ea
      by_cases h0 : s.at_ ≤ f
      · by_cases h1 : f < t
        · have h2 : ¬ (0 ≤ t ∧ t ≤ 281474976710656) := fun x => hno2 ⟨h0, h1, x.2⟩
          rw [show inM t = false from decide_eq_false h2] at HN
          clear hno2 hnn h2
          go_enter Try.func22, Try.ntmps22
          go_wp2_with fail
          refine (HP.out _ (HR.out.later ?_)).mono ?_; exact (by repeat' (first | exact Below.refl _ _ | assumption | exact And.left (by assumption) | refine Below.drew ?_ | refine below_drewN ?_ _ | refine Below.setCell ?_ (by first | (simp; done) | (simp; omega) | omega) _ | refine Below.alloc ?_ (by first | (simp; done) | (simp; omega) | omega) _ | refine after (by assumption) (by first | (simp; done) | (simp; omega) | omega) ?_)); rintro e w1 ⟨rfl, hb1⟩; obtain ⟨hc1, hf1⟩ := bcell hb1; have hz1 := hb1.size; (try simp at hz1); have lt_w1_0 : w.heap.size < w1.heap.size := (by omega); have lt_w1_1 : w.heap.size + 1 < w1.heap.size := (by omega)
          go_wp2_with fail
          refine (HV.out _).mono ?_; rintro e w2 ⟨rfl, hb2⟩; obtain ⟨hc2, hf2⟩ := bcell hb2; have hz2 := hb2.size; (try simp at hz2); have lt_w2_0 : w.heap.size < w2.heap.size := (by omega); have lt_w2_1 : w.heap.size + 1 < w2.heap.size := (by omega)
          have g0 : w2.cell? ⟨b, off, none⟩ = some (.int .i64 s.at_) := carry (show Below w.heap.size w w2 from (by repeat' (first | exact Below.refl _ _ | assumption | exact And.left (by assumption) | refine Below.drew ?_ | refine below_drewN ?_ _ | refine Below.setCell ?_ (by first | (simp; done) | (simp; omega) | omega) _ | refine Below.alloc ?_ (by first | (simp; done) | (simp; omega) | omega) _ | refine after (by assumption) (by first | (simp; done) | (simp; omega) | omega) ?_))) q0
          go_wp2_with fail
          refine (HN.out _).mono ?_; rintro e w' ⟨rfl, rfl⟩
          go_wp2
          go_ret2
          exact ⟨rfl, (by repeat' (first | exact Below.refl _ _ | assumption | exact And.left (by assumption) | refine Below.drew ?_ | refine below_drewN ?_ _ | refine Below.setCell ?_ (by first | (simp; done) | (simp; omega) | omega) _ | refine Below.alloc ?_ (by first | (simp; done) | (simp; omega) | omega) _ | refine after (by assumption) (by first | (simp; done) | (simp; omega) | omega) ?_))⟩
        · clear hno2 hnn
          go_enter Try.func22, Try.ntmps22
          go_wp2_with fail
          refine (HP.out _ (HR.out.later ?_)).mono ?_; exact (by repeat' (first | exact Below.refl _ _ | assumption | exact And.left (by assumption) | refine Below.drew ?_ | refine below_drewN ?_ _ | refine Below.setCell ?_ (by first | (simp; done) | (simp; omega) | omega) _ | refine Below.alloc ?_ (by first | (simp; done) | (simp; omega) | omega) _ | refine after (by assumption) (by first | (simp; done) | (simp; omega) | omega) ?_)); rintro e w1 ⟨rfl, hb1⟩; obtain ⟨hc1, hf1⟩ := bcell hb1; have hz1 := hb1.size; (try simp at hz1); have lt_w1_0 : w.heap.size < w1.heap.size := (by omega); have lt_w1_1 : w.heap.size + 1 < w1.heap.size := (by omega)
          go_wp2_with fail
          refine (HV.out _).mono ?_; rintro e w2 ⟨rfl, hb2⟩; obtain ⟨hc2, hf2⟩ := bcell hb2; have hz2 := hb2.size; (try simp at hz2); have lt_w2_0 : w.heap.size < w2.heap.size := (by omega); have lt_w2_1 : w.heap.size + 1 < w2.heap.size := (by omega)
          have g0 : w2.cell? ⟨b, off, none⟩ = some (.int .i64 s.at_) := carry (show Below w.heap.size w w2 from (by repeat' (first | exact Below.refl _ _ | assumption | exact And.left (by assumption) | refine Below.drew ?_ | refine below_drewN ?_ _ | refine Below.setCell ?_ (by first | (simp; done) | (simp; omega) | omega) _ | refine Below.alloc ?_ (by first | (simp; done) | (simp; omega) | omega) _ | refine after (by assumption) (by first | (simp; done) | (simp; omega) | omega) ?_))) q0
          go_wp2
          go_ret2
          exact ⟨rfl, (by repeat' (first | exact Below.refl _ _ | assumption | exact And.left (by assumption) | refine Below.drew ?_ | refine below_drewN ?_ _ | refine Below.setCell ?_ (by first | (simp; done) | (simp; omega) | omega) _ | refine Below.alloc ?_ (by first | (simp; done) | (simp; omega) | omega) _ | refine after (by assumption) (by first | (simp; done) | (simp; omega) | omega) ?_))⟩
      · clear hno2 hnn
        go_enter Try.func22, Try.ntmps22
        go_wp2_with fail
        refine (HP.out _ (HR.out.later ?_)).mono ?_; exact (by repeat' (first | exact Below.refl _ _ | assumption | exact And.left (by assumption) | refine Below.drew ?_ | refine below_drewN ?_ _ | refine Below.setCell ?_ (by first | (simp; done) | (simp; omega) | omega) _ | refine Below.alloc ?_ (by first | (simp; done) | (simp; omega) | omega) _ | refine after (by assumption) (by first | (simp; done) | (simp; omega) | omega) ?_)); rintro e w1 ⟨rfl, hb1⟩; obtain ⟨hc1, hf1⟩ := bcell hb1; have hz1 := hb1.size; (try simp at hz1); have lt_w1_0 : w.heap.size < w1.heap.size := (by omega); have lt_w1_1 : w.heap.size + 1 < w1.heap.size := (by omega)
        go_wp2_with fail
        refine (HV.out _).mono ?_; rintro e w2 ⟨rfl, hb2⟩; obtain ⟨hc2, hf2⟩ := bcell hb2; have hz2 := hb2.size; (try simp at hz2); have lt_w2_0 : w.heap.size < w2.heap.size := (by omega); have lt_w2_1 : w.heap.size + 1 < w2.heap.size := (by omega)
        have g0 : w2.cell? ⟨b, off, none⟩ = some (.int .i64 s.at_) := carry (show Below w.heap.size w w2 from (by repeat' (first | exact Below.refl _ _ | assumption | exact And.left (by assumption) | refine Below.drew ?_ | refine below_drewN ?_ _ | refine Below.setCell ?_ (by first | (simp; done) | (simp; omega) | omega) _ | refine Below.alloc ?_ (by first | (simp; done) | (simp; omega) | omega) _ | refine after (by assumption) (by first | (simp; done) | (simp; omega) | omega) ?_))) q0
        go_wp2
        go_ret2
        exact ⟨rfl, (by repeat' (first | exact Below.refl _ _ | assumption | exact And.left (by assumption) | refine Below.drew ?_ | refine below_drewN ?_ _ | refine Below.setCell ?_ (by first | (simp; done) | (simp; omega) | omega) _ | refine Below.alloc ?_ (by first | (simp; done) | (simp; omega) | omega) _ | refine after (by assumption) (by first | (simp; done) | (simp; omega) | omega) ?_))⟩
    · rw [right_no hn] at HV
      clear h HA hno hbg hn hnn
      subst ea
      go_enter Try.func22, Try.ntmps22
      go_wp2_with fail
      refine (HP.out _ (HR.out.later ?_)).mono ?_; exact (by repeat' (first | exact Below.refl _ _ | assumption | exact And.left (by assumption) | refine Below.drew ?_ | refine below_drewN ?_ _ | refine Below.setCell ?_ (by first | (simp; done) | (simp; omega) | omega) _ | refine Below.alloc ?_ (by first | (simp; done) | (simp; omega) | omega) _ | refine after (by assumption) (by first | (simp; done) | (simp; omega) | omega) ?_)); rintro e w1 ⟨rfl, hb1⟩; obtain ⟨hc1, hf1⟩ := bcell hb1; have hz1 := hb1.size; (try simp at hz1); have lt_w1_0 : w.heap.size < w1.heap.size := (by omega); have lt_w1_1 : w.heap.size + 1 < w1.heap.size := (by omega)
      go_wp2_with fail
      refine (HV.out _).mono ?_; rintro e w2 ⟨rfl, hb2⟩; obtain ⟨hc2, hf2⟩ := bcell hb2; have hz2 := hb2.size; (try simp at hz2); have lt_w2_0 : w.heap.size < w2.heap.size := (by omega); have lt_w2_1 : w.heap.size + 1 < w2.heap.size := (by omega)
      go_wp2
      go_ret2
      exact ⟨rfl, (by repeat' (first | exact Below.refl _ _ | assumption | exact And.left (by assumption) | refine Below.drew ?_ | refine below_drewN ?_ _ | refine Below.setCell ?_ (by first | (simp; done) | (simp; omega) | omega) _ | refine Below.alloc ?_ (by first | (simp; done) | (simp; omega) | omega) _ | refine after (by assumption) (by first | (simp; done) | (simp; omega) | omega) ?_))⟩
  · rw [show rightS l = false from decide_eq_false h] at HP
    clear h HA hno
    go_enter Try.func22, Try.ntmps22
    go_wp2_with fail
    refine (HP.out _ (HR.out.later ?_)).mono ?_; exact (by repeat' (first | exact Below.refl _ _ | assumption | exact And.left (by assumption) | refine Below.drew ?_ | refine below_drewN ?_ _ | refine Below.setCell ?_ (by first | (simp; done) | (simp; omega) | omega) _ | refine Below.alloc ?_ (by first | (simp; done) | (simp; omega) | omega) _ | refine after (by assumption) (by first | (simp; done) | (simp; omega) | omega) ?_)); rintro e w1 ⟨rfl, hb1⟩; obtain ⟨hc1, hf1⟩ := bcell hb1; have hz1 := hb1.size; (try simp at hz1); have lt_w1_0 : w.heap.size < w1.heap.size := (by omega); have lt_w1_1 : w.heap.size + 1 < w1.heap.size := (by omega)
    go_wp2
    go_ret2
    exact ⟨rfl, (by repeat' (first | exact Below.refl _ _ | assumption | exact And.left (by assumption) | refine Below.drew ?_ | refine below_drewN ?_ _ | refine Below.setCell ?_ (by first | (simp; done) | (simp; omega) | omega) _ | refine Below.alloc ?_ (by first | (simp; done) | (simp; omega) | omega) _ | refine after (by assumption) (by first | (simp; done) | (simp; omega) | omega) ?_))⟩
theorem take_map {g : St → St} {l : List St} {k : Nat} (h : k < l.length) : (l.take (k + 1)).map g = (l.take k).map g ++ [g l[k]] := by
  rw [take_app l k h, List.map_append]; rfl
set_option maxHeartbeats 8000000 in
set_option maxRecDepth 100000 in
theorem rTurn_true (b0 off0 cap : Nat) (l : List St) (hl : l.length ≤ 900) (f t : Int) (need : V) (w : World) (HA : StAt w (some ⟨b0, off0, none⟩) cap l) (hok : ArgsOk l f t need) :
    Calls Try.prog 22 #[.slice (some ⟨b0, off0, none⟩) l.length cap, .agg #[.int .i64 f, .int .i64 t], (.agg #[.int .i64 need.cpu, .int .i64 need.mem, .int .i64 need.gpu, .int .i64 need.lic]), .bool true] w
      fun e w' => ∃ v, e = .returned (.tuple #[v, .int .i64 (turnE true l f t need)]) ∧ w'.ownsRow w.heap.size 34 5 v (turnR true l f t need).length (stsV (turnR true l f t need)) ∧ Below w.heap.size w w' := by
  obtain ⟨i0, hi, hzz, hzs, hzb⟩ := info_parts infoSt
  have HR := Lib.hid HA
  have HP := Lib.hid (fun w' h => rStRight (some ⟨b0, off0, none⟩) cap l (by omega) w' h)
  have HV := Lib.hid (fun w' => rright need w')
  have HN := Lib.hid (fun w' => nRight t w')
  have hok' := hok
  obtain ⟨h, hn, h0, h1, h2⟩ := hok'
  rw [show rightS l = true from decide_eq_true h] at HP
  rw [right_yes hn] at HV
  rw [show inM t = true from decide_eq_true ⟨by have := begin_nn h; omega, h2⟩] at HN
  have hpos : 0 < l.length := List.length_pos_iff.2 h.1
  have HTM0 := Lib.hid (fun bm w' h1 h2 => rTimes (some ⟨b0, off0, none⟩) cap l (by omega) (some bm) 2 [f, t] (by simp) (fun x => (by cases x)) w' h1 h2)
  have hTold := cut2_told h h0 h1 h2
  have HATT := Lib.hid (fun u w' h' => rAt (some ⟨b0, off0, none⟩) cap l (by omega) h u w' h')
  have HATOK := Lib.hid (fun u => at_ok h u)
  have HNOK := Lib.hid hn
  have hcl := cut2_len l f t
  have HGO := Lib.hid (show (∀ s ∈ cut2 l f t, (chg true f t need s).free.Ok) → turnR true l f t need = plainL ((cut2 l f t).map (chg true f t need)) ∧ turnE true l f t need = 0 from fun g => turn_in hok g)
  have HNO := Lib.hid (show ¬ (∀ s ∈ cut2 l f t, (chg true f t need s).free.Ok) → turnR true l f t need = [] ∧ turnE true l f t need = 20 from fun g => turn_over hok g)
  have HCS : Hid (∀ s, s.at_ < f ∨ t ≤ s.at_ → chg true f t need s = s) := Lib.hid (fun s h => if_pos h)
  have HCI : Hid (∀ s, ¬ (s.at_ < f ∨ t ≤ s.at_) → chg true f t need s = ⟨s.at_, s.free.plus need⟩) := Lib.hid (fun s h => if_neg h)
  obtain ⟨b, off, ea, hbl, q0, q1, q2, q3, q4⟩ := HA.row.first hpos
  simp only [Option.some.injEq, Addr.mk.injEq, and_true] at ea
  obtain ⟨rfl, rfl⟩ := ea
  rw [begin_at hpos] at h0
  generalize l[0] = s at q0 q1 q2 q3 q4 h0
  clear h HA hok hn
  have hLT : (cut2 l f t).length = (timesL ([f, t] ++ ats l)).length := by rw [hTold]; simp [told]
  have HLK := Lib.hid (show ∀ k (hk : k < (cut2 l f t).length) (hk2 : k < (timesL ([f, t] ++ ats l)).length), (cut2 l f t)[k] = ⟨(timesL ([f, t] ++ ats l))[k], atL l (timesL ([f, t] ++ ats l))[k]⟩ from fun k hk hk2 => by simp [hTold, told])
  clear hTold
  go_enter Try.func22, Try.ntmps22
  go_wp2_with fail
  generalize hw0 : World.alloc (World.alloc w _) _ = w0
  have hb0 : Below w.heap.size w w0 := by rw [← hw0]; exact (by repeat' (first | exact Below.refl _ _ | assumption | exact And.left (by assumption) | refine Below.drew ?_ | refine below_drewN ?_ _ | refine Below.setCell ?_ (by first | (simp; done) | (simp; omega) | omega) _ | refine Below.alloc ?_ (by first | (simp; done) | (simp; omega) | omega) _ | refine after (by assumption) (by first | (simp; done) | (simp; omega) | omega) ?_))
  have HNE0 : Hid (Res4 w0 (w.heap.size + 1) need) := Lib.hid (by rw [← hw0]; exact ⟨by simp [go_sem], by simp [go_sem], by simp [go_sem], by simp [go_sem], by simp [go_sem], by simp [go_sem], by simp [go_sem], by simp [go_sem]⟩)
  clear hw0
  refine (HP.out w0 (HR.out.later hb0)).mono ?_; rintro e w1 ⟨rfl, hb1⟩
  have hW1 := hb0.trans (hb1.mono hb0.size)
  have HNE1 := Lib.hid (HNE0.out.later hb1)
  obtain ⟨n0, n1, n2, n3, z0, z1, z2, z3⟩ := HNE1.out
  clear z0 z1 z2 z3
  go_wp2_with fail
  refine (HV.out w1).mono ?_; rintro e w2 ⟨rfl, hb2⟩
  have hW2 := hW1.trans (hb2.mono hW1.size)
  have HNE2 := Lib.hid (HNE1.out.later hb2)
  have g0 : w2.cell? ⟨b0, off0, none⟩ = some (.int .i64 s.at_) := carry hW2 q0
  clear n0 n1 n2 n3
  go_wp2_with fail
  refine (HN.out w2).mono ?_; rintro e w' ⟨rfl, rfl⟩
  go_wp2_with fail
  generalize hw3 : World.alloc w2 _ = w3
  have hb3 : Below w2.heap.size w2 w3 := by rw [← hw3]; exact (Below.refl _ _).alloc (Nat.le_refl _) _
  have HM3 : Hid (RowAt w3 (some ⟨w2.heap.size, 0, none⟩) (vals [f, t])) := Lib.hid (by rw [← hw3]; exact row_new w2 _ _)
  have hW3 := hW2.trans (hb3.mono hW2.size)
  clear hw3
  refine (HTM0.out ⟨w2.heap.size, 0, none⟩ w3 (HR.out.later hW3) HM3.out).mono ?_
  rintro e w4 ⟨v4, rfl, hO4, hb4⟩
  have hW4 := hW3.trans (hb4.mono hW3.size)
  have HNE4 := Lib.hid ((HNE2.out.later hb3).later hb4)
  obtain ⟨aT, cT, rfl, hcT, hrT, hnT⟩ := own_form hO4
  have HRT := Lib.hid hrT
  clear hO4 hrT hnT HM3 HTM0 HP HV HN q0 q1 q2 q3 q4 g0
  generalize timesL ([f, t] ++ ats l) = T at *
  generalize cut2 l f t = L at *
  generalize chg true f t need = c at *
  have hTl : T.length ≤ 1000 := by omega
  have hLl : L.length ≤ 1000 := by omega
  have hLT1 : L.length ≤ T.length := by omega
  have hLT2 : T.length ≤ L.length := by omega
  have HLT := Lib.hid hLT
  clear hLT hcl
  go_wp2
  go_loopw [13, 14] (fun s13 x wr => ∃ k : Nat, k ≤ T.length ∧ x = .int .i64 (k : Int) ∧ Hid (wr.ownsRow w4.heap.size 34 5 s13 ((L.take k).map c).length (stsV ((L.take k).map c))) ∧ Hid (∀ s ∈ L.take k, (c s).free.Ok) ∧ Hid (Below w4.heap.size w4 wr)) (fun _ x _ => T.length - (intOf x).toNat)
  case atStart => exact ⟨0, Nat.zero_le _, rfl, Lib.hid (World.ownsRow_nil _ _ _ _), Lib.hid (by simp), Lib.hid (Below.refl _ _)⟩
  case round =>
    obtain ⟨k, hk, rfl, HO, HF0, HB⟩ := hrel
    have hz := HB.out.size
    by_cases hlt : k < T.length
    · have hlt2 : k < L.length := by omega
      obtain ⟨gT, oT, eT, hgT0, qd⟩ := (HRT.out.later HB.out).row (by rw [vals_len]; omega)
      have qk := qd k _ (vals_at T k hlt)
      have HS0 := Lib.hid (HLK.out k hlt2 hlt)
      have HFT := Lib.hid (fun (e : (c L[k]).free.Ok) => fine_take hlt2 HF0.out e)
      have HBAD := Lib.hid (fun (e : ¬ (c L[k]).free.Ok) => HNO.out (fun x => e (x _ (List.getElem_mem hlt2))))
      have HTM := Lib.hid (take_map (g := c) hlt2)
      have hgT : gT < wr.heap.size := hgT0
      subst eT
      clear qd
      generalize L[k] = s1 at HS0 HFT HBAD HTM
      generalize T[k] = u at qk HS0
      have hvok : (atL l u).Ok := HATOK.out u
      have HAT := Lib.hid (fun w' h => HATT.out u w' h)
      generalize atL l u = v at HS0 HAT hvok
      have HS1 := HS0
      have hk1 : (k : Int) < T.length := by omega
      have hk0 : (0 : Int) ≤ k := by omega
      have hkt : ((k : Int)).toNat = k := by omega
      go_wp2_with fail
      refine (HAT.out wr (HR.out.later (hW4.trans (HB.out.mono hW4.size)))).mono ?_; rintro e w5 ⟨rfl, hb5⟩
      have hW5 : Below wr.heap.size wr w5 := hb5
      go_upto_region 11 with fail
      generalize hw6 : World.alloc w5 _ = w6
      have hb6 : Below w5.heap.size w5 w6 := by rw [← hw6]; exact (Below.refl _ _).alloc (Nat.le_refl _) _
      have HR6 : Hid (Res4 w6 w5.heap.size v) := Lib.hid (by rw [← hw6]; exact Res4.fresh _ _ _)
      have hW6 := hW5.trans (hb6.mono hW5.size)
      have HNE6 := Lib.hid ((HNE4.out.later HB.out).later hW6)
      have qk6 := carry hW6 qk
      have hgT6 : gT < w6.heap.size := by have := hW6.size; omega
      clear hw6
      by_cases hu0 : f ≤ u
      · by_cases hu1 : u < t
        · skip
          have HK2 := Lib.hid (fun w' => radd v need w' (in64_turn (m := true) hvok HNOK.out).1)
          have HE1 : Hid (c s1 = ⟨u, v.plus need⟩) := Lib.hid (by rw [HS1.out]; exact HCI.out _ (by show ¬ (u < f ∨ t ≤ u); omega))
          generalize v.plus need = x at HK2 HE1
          obtain ⟨n0, n1, n2, n3, z0, z1, z2, z3⟩ := HNE6.out
          obtain ⟨r0, r1, r2, r3, f0, f1, f2, f3⟩ := HR6.out
          clear z0 z1 z2 z3
          go_wp2_with fail
          refine (HK2.out w6).mono ?_; rintro e w7 ⟨rfl, hb7⟩
          have HR7 := Lib.hid (HR6.out.later hb7)
          have hW7 := hW6.trans (hb7.mono hW6.size)
          have hG7 : w5.heap.size < w7.heap.size := HR7.out.lt
          have hGr : wr.heap.size ≤ w5.heap.size := hW5.size
          obtain ⟨y0, y1, y2, y3, x0, x1, x2, x3⟩ := HR7.out
          clear n0 n1 n2 n3 r0 r1 r2 r3 f0 f1 f2 f3
          go_upto_region 15 with fail
          generalize hw8 : World.setCell (World.setCell (World.setCell (World.setCell w7 _ _) _ _) _ _) _ _ = w8
          have HR8 : Hid (Res4 w8 w5.heap.size x) := Lib.hid (by rw [← hw8]; exact HR7.out.stored x)
          have hW8 : Below wr.heap.size wr w8 := by rw [← hw8]; exact (((hW7.setCell (p := ⟨w5.heap.size, 0, none⟩) hGr _).setCell (p := ⟨w5.heap.size, 1, none⟩) hGr _).setCell (p := ⟨w5.heap.size, 2, none⟩) hGr _).setCell (p := ⟨w5.heap.size, 3, none⟩) hGr _
          clear hw8 y0 y1 y2 y3 x0 x1 x2 x3
          obtain ⟨y0, y1, y2, y3, x0, x1, x2, x3⟩ := HR8.out
          clear x0 x1 x2 x3
          by_cases hox : x.Ok
          · skip
            have HK := Lib.hid (fun w' => rright x w')
            rw [right_yes hox] at HK
            have HF := Lib.hid (HFT.out (by rw [HE1.out]; exact hox))
            have HMN : Hid ((L.take (k + 1)).map c = (L.take k).map c ++ [⟨u, x⟩]) := Lib.hid (by rw [HTM.out, HE1.out])
            clear hox HFT HTM HBAD
            go_wp2_with fail
            refine (HK.out _).mono ?_; rintro e w9 ⟨rfl, hb9⟩
            have HR9 := Lib.hid (HR8.out.later hb9)
            have hW9 := hW8.trans (hb9.mono hW8.size)
            have hB9 := HB.out.trans (hW9.mono hz)
            have HOD := Lib.hid (own_later (own_later HO.out hW9) (below_drew w9))
            have hzz9 := hB9.size
            obtain ⟨y0, y1, y2, y3, x0, x1, x2, x3⟩ := HR9.out
            have qk9 := carry hW9 qk
            have hgT9 : gT < w9.heap.size := by have := hW9.size; omega
            have hG9 : w5.heap.size < w9.heap.size := HR9.out.lt
            clear x0 x1 x2 x3 HK HR8
            generalize hacc : (L.take k).map c = acc at HOD HMN
            have hal : acc.length ≤ 3000 := by rw [← hacc, List.length_map, List.length_take]; omega
            generalize hn : acc.length = n at HOD hal
            have HN := Lib.hid hn
            clear hacc hn
            go_wp2_with fail
            go_region_law (refine step_append_big _ _ 22 34 5 40 _ i0 Try.underlying22 hi hzz hzs hzb rfl (by decide) (by decide) w4.heap.size n 1 _ _ _ _ w9.drew rfl rfl rfl rfl rfl HOD.out (show w4.heap.size ≤ w9.heap.size from hzz9) (by simp [Value.oneCell']) (by omega) ?_
                           intro v' w10 hown' hgrow
                           have HOW := Lib.hid hown'
                           have HGW := Lib.hid (show (w9.drew.alloc (.cells #[.int .i64 u, .int .i64 x.cpu, .int .i64 x.mem, .int .i64 x.gpu, .int .i64 x.lic] 34)).grownBy w10 (Value.ownBlock u13) from hgrow)
                           clear hgrow hown')
            all_goals
              go_wp2
              go_roundw
              case rel => exact ⟨k + 1, by omega, by go_num, Lib.hid (by rw [HMN.out, List.length_append, stsV_app, stsV_one, HN.out]; exact HOW.out), Lib.hid HF.out, Lib.hid (((hB9.drew).alloc (show w4.heap.size ≤ w9.heap.size from hzz9) _).grown HGW.out (by rw [World.size_alloc]; show w4.heap.size ≤ w9.heap.size + 1; omega) (fun q hq => (HOD.out.lt q hq).1))⟩
              case measure => simp [intOf]; omega
          · skip
            have HK := Lib.hid (fun w' => rright x w')
            rw [right_no hox] at HK
            have HX := Lib.hid (HBAD.out (by rw [HE1.out]; exact hox))
            clear hox HFT HTM HBAD
            go_wp2_with fail
            refine (HK.out _).mono ?_; rintro e w9 ⟨rfl, hb9⟩
            have hW9 := hW8.trans (hb9.mono hW8.size)
            go_wp2
            go_ret2
            exact ⟨_, by rw [HX.out.2]; rfl, by rw [HX.out.1]; exact World.ownsRow_nil _ _ _ _, hW4.trans ((HB.out.trans (hW9.mono hz)).mono hW4.size)⟩
        · have HE1 : Hid (c s1 = ⟨u, v⟩) := Lib.hid (by rw [HS1.out]; exact HCS.out _ (.inr (by show t ≤ u; omega)))
          have HR8 := HR6
          have hW8 := hW6
          obtain ⟨x, rfl⟩ : ∃ x, x = v := ⟨_, rfl⟩
          have hox := hvok
          obtain ⟨y0, y1, y2, y3, x0, x1, x2, x3⟩ := HR8.out
          clear x0 x1 x2 x3
          have HK := Lib.hid (fun w' => rright x w')
          rw [right_yes hox] at HK
          have HF := Lib.hid (HFT.out (by rw [HE1.out]; exact hox))
          have HMN : Hid ((L.take (k + 1)).map c = (L.take k).map c ++ [⟨u, x⟩]) := Lib.hid (by rw [HTM.out, HE1.out])
          clear hox HFT HTM HBAD
          go_wp2_with fail
          refine (HK.out _).mono ?_; rintro e w9 ⟨rfl, hb9⟩
          have HR9 := Lib.hid (HR8.out.later hb9)
          have hW9 := hW8.trans (hb9.mono hW8.size)
          have hB9 := HB.out.trans (hW9.mono hz)
          have HOD := Lib.hid (own_later (own_later HO.out hW9) (below_drew w9))
          have hzz9 := hB9.size
          obtain ⟨y0, y1, y2, y3, x0, x1, x2, x3⟩ := HR9.out
          have qk9 := carry hW9 qk
          have hgT9 : gT < w9.heap.size := by have := hW9.size; omega
          have hG9 : w5.heap.size < w9.heap.size := HR9.out.lt
          clear x0 x1 x2 x3 HK HR8
          generalize hacc : (L.take k).map c = acc at HOD HMN
          have hal : acc.length ≤ 3000 := by rw [← hacc, List.length_map, List.length_take]; omega
          generalize hn : acc.length = n at HOD hal
          have HN := Lib.hid hn
          clear hacc hn
          go_wp2_with fail
          go_region_law (refine step_append_big _ _ 22 34 5 40 _ i0 Try.underlying22 hi hzz hzs hzb rfl (by decide) (by decide) w4.heap.size n 1 _ _ _ _ w9.drew rfl rfl rfl rfl rfl HOD.out (show w4.heap.size ≤ w9.heap.size from hzz9) (by simp [Value.oneCell']) (by omega) ?_
                         intro v' w10 hown' hgrow
                         have HOW := Lib.hid hown'
                         have HGW := Lib.hid (show (w9.drew.alloc (.cells #[.int .i64 u, .int .i64 x.cpu, .int .i64 x.mem, .int .i64 x.gpu, .int .i64 x.lic] 34)).grownBy w10 (Value.ownBlock u13) from hgrow)
                         clear hgrow hown')
          all_goals
            go_wp2
            go_roundw
            case rel => exact ⟨k + 1, by omega, by go_num, Lib.hid (by rw [HMN.out, List.length_append, stsV_app, stsV_one, HN.out]; exact HOW.out), Lib.hid HF.out, Lib.hid (((hB9.drew).alloc (show w4.heap.size ≤ w9.heap.size from hzz9) _).grown HGW.out (by rw [World.size_alloc]; show w4.heap.size ≤ w9.heap.size + 1; omega) (fun q hq => (HOD.out.lt q hq).1))⟩
            case measure => simp [intOf]; omega
      · have HE1 : Hid (c s1 = ⟨u, v⟩) := Lib.hid (by rw [HS1.out]; exact HCS.out _ (.inl (by show u < f; omega)))
        have HR8 := HR6
        have hW8 := hW6
        obtain ⟨x, rfl⟩ : ∃ x, x = v := ⟨_, rfl⟩
        have hox := hvok
        obtain ⟨y0, y1, y2, y3, x0, x1, x2, x3⟩ := HR8.out
        clear x0 x1 x2 x3
        have HK := Lib.hid (fun w' => rright x w')
        rw [right_yes hox] at HK
        have HF := Lib.hid (HFT.out (by rw [HE1.out]; exact hox))
        have HMN : Hid ((L.take (k + 1)).map c = (L.take k).map c ++ [⟨u, x⟩]) := Lib.hid (by rw [HTM.out, HE1.out])
        clear hox HFT HTM HBAD
        go_wp2_with fail
        refine (HK.out _).mono ?_; rintro e w9 ⟨rfl, hb9⟩
        have HR9 := Lib.hid (HR8.out.later hb9)
        have hW9 := hW8.trans (hb9.mono hW8.size)
        have hB9 := HB.out.trans (hW9.mono hz)
        have HOD := Lib.hid (own_later (own_later HO.out hW9) (below_drew w9))
        have hzz9 := hB9.size
        obtain ⟨y0, y1, y2, y3, x0, x1, x2, x3⟩ := HR9.out
        have qk9 := carry hW9 qk
        have hgT9 : gT < w9.heap.size := by have := hW9.size; omega
        have hG9 : w5.heap.size < w9.heap.size := HR9.out.lt
        clear x0 x1 x2 x3 HK HR8
        generalize hacc : (L.take k).map c = acc at HOD HMN
        have hal : acc.length ≤ 3000 := by rw [← hacc, List.length_map, List.length_take]; omega
        generalize hn : acc.length = n at HOD hal
        have HN := Lib.hid hn
        clear hacc hn
        go_wp2_with fail
        go_region_law (refine step_append_big _ _ 22 34 5 40 _ i0 Try.underlying22 hi hzz hzs hzb rfl (by decide) (by decide) w4.heap.size n 1 _ _ _ _ w9.drew rfl rfl rfl rfl rfl HOD.out (show w4.heap.size ≤ w9.heap.size from hzz9) (by simp [Value.oneCell']) (by omega) ?_
                       intro v' w10 hown' hgrow
                       have HOW := Lib.hid hown'
                       have HGW := Lib.hid (show (w9.drew.alloc (.cells #[.int .i64 u, .int .i64 x.cpu, .int .i64 x.mem, .int .i64 x.gpu, .int .i64 x.lic] 34)).grownBy w10 (Value.ownBlock u13) from hgrow)
                       clear hgrow hown')
        all_goals
          go_wp2
          go_roundw
          case rel => exact ⟨k + 1, by omega, by go_num, Lib.hid (by rw [HMN.out, List.length_append, stsV_app, stsV_one, HN.out]; exact HOW.out), Lib.hid HF.out, Lib.hid (((hB9.drew).alloc (show w4.heap.size ≤ w9.heap.size from hzz9) _).grown HGW.out (by rw [World.size_alloc]; show w4.heap.size ≤ w9.heap.size + 1; omega) (fun q hq => (HOD.out.lt q hq).1))⟩
          case measure => simp [intOf]; omega
    · have hkl : k = T.length := by omega
      have hall : ∀ s ∈ L, (c s).free.Ok := fun s hs => HF0.out s (by rw [List.take_of_length_le (by omega)]; exact hs)
      obtain ⟨x1, x2⟩ := HGO.out hall
      have hO := HO.out
      rw [List.take_of_length_le (by omega)] at hO
      have hML : (L.map c).length ≤ 1000 := by rw [List.length_map]; exact hLl
      obtain ⟨a5, c5, e5, hs5⟩ := own_st hO
      have HS5 := Lib.hid hs5
      have HPL := Lib.hid (rPlain a5 c5 (L.map c) (by omega) wr hs5)
      rw [← x1] at HPL
      have HT := Lib.hid x2
      subst e5
      clear hall x1 x2 hO HF0 HO hs5
      generalize L.map c = Lc at *
      go_wp2_with fail
      refine HPL.out.mono ?_
      rintro e w5 ⟨v5, rfl, hO5, hb5⟩
      have HO5 := Lib.hid hO5
      clear hO5
      go_wp2
      go_ret2
      have hWr := hW4.trans (HB.out.mono hW4.size)
      exact ⟨v5, by rw [HT.out]; rfl, own_more HO5.out hWr.size, hWr.trans (hb5.mono hWr.size)⟩
set_option maxHeartbeats 8000000 in
set_option maxRecDepth 100000 in
theorem rTurn_false (b0 off0 cap : Nat) (l : List St) (hl : l.length ≤ 900) (f t : Int) (need : V) (w : World) (HA : StAt w (some ⟨b0, off0, none⟩) cap l) (hok : ArgsOk l f t need) :
    Calls Try.prog 22 #[.slice (some ⟨b0, off0, none⟩) l.length cap, .agg #[.int .i64 f, .int .i64 t], (.agg #[.int .i64 need.cpu, .int .i64 need.mem, .int .i64 need.gpu, .int .i64 need.lic]), .bool false] w
      fun e w' => ∃ v, e = .returned (.tuple #[v, .int .i64 (turnE false l f t need)]) ∧ w'.ownsRow w.heap.size 34 5 v (turnR false l f t need).length (stsV (turnR false l f t need)) ∧ Below w.heap.size w w' := by
  obtain ⟨i0, hi, hzz, hzs, hzb⟩ := info_parts infoSt
  have HR := Lib.hid HA
  have HP := Lib.hid (fun w' h => rStRight (some ⟨b0, off0, none⟩) cap l (by omega) w' h)
  have HV := Lib.hid (fun w' => rright need w')
  have HN := Lib.hid (fun w' => nRight t w')
  have hok' := hok
  obtain ⟨h, hn, h0, h1, h2⟩ := hok'
  rw [show rightS l = true from decide_eq_true h] at HP
  rw [right_yes hn] at HV
  rw [show inM t = true from decide_eq_true ⟨by have := begin_nn h; omega, h2⟩] at HN
  have hpos : 0 < l.length := List.length_pos_iff.2 h.1
  have HTM0 := Lib.hid (fun bm w' h1 h2 => rTimes (some ⟨b0, off0, none⟩) cap l (by omega) (some bm) 2 [f, t] (by simp) (fun x => (by cases x)) w' h1 h2)
  have hTold := cut2_told h h0 h1 h2
  have HATT := Lib.hid (fun u w' h' => rAt (some ⟨b0, off0, none⟩) cap l (by omega) h u w' h')
  have HATOK := Lib.hid (fun u => at_ok h u)
  have HNOK := Lib.hid hn
  have hcl := cut2_len l f t
  have HGO := Lib.hid (show (∀ s ∈ cut2 l f t, (chg false f t need s).free.Ok) → turnR false l f t need = plainL ((cut2 l f t).map (chg false f t need)) ∧ turnE false l f t need = 0 from fun g => turn_in hok g)
  have HNO := Lib.hid (show ¬ (∀ s ∈ cut2 l f t, (chg false f t need s).free.Ok) → turnR false l f t need = [] ∧ turnE false l f t need = 20 from fun g => turn_over hok g)
  have HCS : Hid (∀ s, s.at_ < f ∨ t ≤ s.at_ → chg false f t need s = s) := Lib.hid (fun s h => if_pos h)
  have HCI : Hid (∀ s, ¬ (s.at_ < f ∨ t ≤ s.at_) → chg false f t need s = ⟨s.at_, s.free.less need⟩) := Lib.hid (fun s h => if_neg h)
  obtain ⟨b, off, ea, hbl, q0, q1, q2, q3, q4⟩ := HA.row.first hpos
  simp only [Option.some.injEq, Addr.mk.injEq, and_true] at ea
  obtain ⟨rfl, rfl⟩ := ea
  rw [begin_at hpos] at h0
  generalize l[0] = s at q0 q1 q2 q3 q4 h0
  clear h HA hok hn
  have hLT : (cut2 l f t).length = (timesL ([f, t] ++ ats l)).length := by rw [hTold]; simp [told]
  have HLK := Lib.hid (show ∀ k (hk : k < (cut2 l f t).length) (hk2 : k < (timesL ([f, t] ++ ats l)).length), (cut2 l f t)[k] = ⟨(timesL ([f, t] ++ ats l))[k], atL l (timesL ([f, t] ++ ats l))[k]⟩ from fun k hk hk2 => by simp [hTold, told])
  clear hTold
  go_enter Try.func22, Try.ntmps22
  go_wp2_with fail
  generalize hw0 : World.alloc (World.alloc w _) _ = w0
  have hb0 : Below w.heap.size w w0 := by rw [← hw0]; exact (by repeat' (first | exact Below.refl _ _ | assumption | exact And.left (by assumption) | refine Below.drew ?_ | refine below_drewN ?_ _ | refine Below.setCell ?_ (by first | (simp; done) | (simp; omega) | omega) _ | refine Below.alloc ?_ (by first | (simp; done) | (simp; omega) | omega) _ | refine after (by assumption) (by first | (simp; done) | (simp; omega) | omega) ?_))
  have HNE0 : Hid (Res4 w0 (w.heap.size + 1) need) := Lib.hid (by rw [← hw0]; exact ⟨by simp [go_sem], by simp [go_sem], by simp [go_sem], by simp [go_sem], by simp [go_sem], by simp [go_sem], by simp [go_sem], by simp [go_sem]⟩)
  clear hw0
  refine (HP.out w0 (HR.out.later hb0)).mono ?_; rintro e w1 ⟨rfl, hb1⟩
  have hW1 := hb0.trans (hb1.mono hb0.size)
  have HNE1 := Lib.hid (HNE0.out.later hb1)
  obtain ⟨n0, n1, n2, n3, z0, z1, z2, z3⟩ := HNE1.out
  clear z0 z1 z2 z3
  go_wp2_with fail
  refine (HV.out w1).mono ?_; rintro e w2 ⟨rfl, hb2⟩
  have hW2 := hW1.trans (hb2.mono hW1.size)
  have HNE2 := Lib.hid (HNE1.out.later hb2)
  have g0 : w2.cell? ⟨b0, off0, none⟩ = some (.int .i64 s.at_) := carry hW2 q0
  clear n0 n1 n2 n3
  go_wp2_with fail
  refine (HN.out w2).mono ?_; rintro e w' ⟨rfl, rfl⟩
  go_wp2_with fail
  generalize hw3 : World.alloc w2 _ = w3
  have hb3 : Below w2.heap.size w2 w3 := by rw [← hw3]; exact (Below.refl _ _).alloc (Nat.le_refl _) _
  have HM3 : Hid (RowAt w3 (some ⟨w2.heap.size, 0, none⟩) (vals [f, t])) := Lib.hid (by rw [← hw3]; exact row_new w2 _ _)
  have hW3 := hW2.trans (hb3.mono hW2.size)
  clear hw3
  refine (HTM0.out ⟨w2.heap.size, 0, none⟩ w3 (HR.out.later hW3) HM3.out).mono ?_
  rintro e w4 ⟨v4, rfl, hO4, hb4⟩
  have hW4 := hW3.trans (hb4.mono hW3.size)
  have HNE4 := Lib.hid ((HNE2.out.later hb3).later hb4)
  obtain ⟨aT, cT, rfl, hcT, hrT, hnT⟩ := own_form hO4
  have HRT := Lib.hid hrT
  clear hO4 hrT hnT HM3 HTM0 HP HV HN q0 q1 q2 q3 q4 g0
  generalize timesL ([f, t] ++ ats l) = T at *
  generalize cut2 l f t = L at *
  generalize chg false f t need = c at *
  have hTl : T.length ≤ 1000 := by omega
  have hLl : L.length ≤ 1000 := by omega
  have hLT1 : L.length ≤ T.length := by omega
  have hLT2 : T.length ≤ L.length := by omega
  have HLT := Lib.hid hLT
  clear hLT hcl
  go_wp2
  go_loopw [13, 14] (fun s13 x wr => ∃ k : Nat, k ≤ T.length ∧ x = .int .i64 (k : Int) ∧ Hid (wr.ownsRow w4.heap.size 34 5 s13 ((L.take k).map c).length (stsV ((L.take k).map c))) ∧ Hid (∀ s ∈ L.take k, (c s).free.Ok) ∧ Hid (Below w4.heap.size w4 wr)) (fun _ x _ => T.length - (intOf x).toNat)
  case atStart => exact ⟨0, Nat.zero_le _, rfl, Lib.hid (World.ownsRow_nil _ _ _ _), Lib.hid (by simp), Lib.hid (Below.refl _ _)⟩
  case round =>
    obtain ⟨k, hk, rfl, HO, HF0, HB⟩ := hrel
    have hz := HB.out.size
    by_cases hlt : k < T.length
    · have hlt2 : k < L.length := by omega
      obtain ⟨gT, oT, eT, hgT0, qd⟩ := (HRT.out.later HB.out).row (by rw [vals_len]; omega)
      have qk := qd k _ (vals_at T k hlt)
      have HS0 := Lib.hid (HLK.out k hlt2 hlt)
      have HFT := Lib.hid (fun (e : (c L[k]).free.Ok) => fine_take hlt2 HF0.out e)
      have HBAD := Lib.hid (fun (e : ¬ (c L[k]).free.Ok) => HNO.out (fun x => e (x _ (List.getElem_mem hlt2))))
      have HTM := Lib.hid (take_map (g := c) hlt2)
      have hgT : gT < wr.heap.size := hgT0
      subst eT
      clear qd
      generalize L[k] = s1 at HS0 HFT HBAD HTM
      generalize T[k] = u at qk HS0
      have hvok : (atL l u).Ok := HATOK.out u
      have HAT := Lib.hid (fun w' h => HATT.out u w' h)
      generalize atL l u = v at HS0 HAT hvok
      have HS1 := HS0
      have hk1 : (k : Int) < T.length := by omega
      have hk0 : (0 : Int) ≤ k := by omega
      have hkt : ((k : Int)).toNat = k := by omega
      go_wp2_with fail
      refine (HAT.out wr (HR.out.later (hW4.trans (HB.out.mono hW4.size)))).mono ?_; rintro e w5 ⟨rfl, hb5⟩
      have hW5 : Below wr.heap.size wr w5 := hb5
      go_upto_region 11 with fail
      generalize hw6 : World.alloc w5 _ = w6
      have hb6 : Below w5.heap.size w5 w6 := by rw [← hw6]; exact (Below.refl _ _).alloc (Nat.le_refl _) _
      have HR6 : Hid (Res4 w6 w5.heap.size v) := Lib.hid (by rw [← hw6]; exact Res4.fresh _ _ _)
      have hW6 := hW5.trans (hb6.mono hW5.size)
      have HNE6 := Lib.hid ((HNE4.out.later HB.out).later hW6)
      have qk6 := carry hW6 qk
      have hgT6 : gT < w6.heap.size := by have := hW6.size; omega
      clear hw6
      by_cases hu0 : f ≤ u
      · by_cases hu1 : u < t
        · skip
          have HK2 := Lib.hid (fun w' => rsub v need w' (in64_turn (m := true) hvok HNOK.out).2)
          have HE1 : Hid (c s1 = ⟨u, v.less need⟩) := Lib.hid (by rw [HS1.out]; exact HCI.out _ (by show ¬ (u < f ∨ t ≤ u); omega))
          generalize v.less need = x at HK2 HE1
          obtain ⟨n0, n1, n2, n3, z0, z1, z2, z3⟩ := HNE6.out
          obtain ⟨r0, r1, r2, r3, f0, f1, f2, f3⟩ := HR6.out
          clear z0 z1 z2 z3
          go_wp2_with fail
          refine (HK2.out w6).mono ?_; rintro e w7 ⟨rfl, hb7⟩
          have HR7 := Lib.hid (HR6.out.later hb7)
          have hW7 := hW6.trans (hb7.mono hW6.size)
          have hG7 : w5.heap.size < w7.heap.size := HR7.out.lt
          have hGr : wr.heap.size ≤ w5.heap.size := hW5.size
          obtain ⟨y0, y1, y2, y3, x0, x1, x2, x3⟩ := HR7.out
          clear n0 n1 n2 n3 r0 r1 r2 r3 f0 f1 f2 f3
          go_upto_region 15 with fail
          generalize hw8 : World.setCell (World.setCell (World.setCell (World.setCell w7 _ _) _ _) _ _) _ _ = w8
          have HR8 : Hid (Res4 w8 w5.heap.size x) := Lib.hid (by rw [← hw8]; exact HR7.out.stored x)
          have hW8 : Below wr.heap.size wr w8 := by rw [← hw8]; exact (((hW7.setCell (p := ⟨w5.heap.size, 0, none⟩) hGr _).setCell (p := ⟨w5.heap.size, 1, none⟩) hGr _).setCell (p := ⟨w5.heap.size, 2, none⟩) hGr _).setCell (p := ⟨w5.heap.size, 3, none⟩) hGr _
          clear hw8 y0 y1 y2 y3 x0 x1 x2 x3
          obtain ⟨y0, y1, y2, y3, x0, x1, x2, x3⟩ := HR8.out
          clear x0 x1 x2 x3
          by_cases hox : x.Ok
          · skip
            have HK := Lib.hid (fun w' => rright x w')
            rw [right_yes hox] at HK
            have HF := Lib.hid (HFT.out (by rw [HE1.out]; exact hox))
            have HMN : Hid ((L.take (k + 1)).map c = (L.take k).map c ++ [⟨u, x⟩]) := Lib.hid (by rw [HTM.out, HE1.out])
            clear hox HFT HTM HBAD
            go_wp2_with fail
            refine (HK.out _).mono ?_; rintro e w9 ⟨rfl, hb9⟩
            have HR9 := Lib.hid (HR8.out.later hb9)
            have hW9 := hW8.trans (hb9.mono hW8.size)
            have hB9 := HB.out.trans (hW9.mono hz)
            have HOD := Lib.hid (own_later (own_later HO.out hW9) (below_drew w9))
            have hzz9 := hB9.size
            obtain ⟨y0, y1, y2, y3, x0, x1, x2, x3⟩ := HR9.out
            have qk9 := carry hW9 qk
            have hgT9 : gT < w9.heap.size := by have := hW9.size; omega
            have hG9 : w5.heap.size < w9.heap.size := HR9.out.lt
            clear x0 x1 x2 x3 HK HR8
            generalize hacc : (L.take k).map c = acc at HOD HMN
            have hal : acc.length ≤ 3000 := by rw [← hacc, List.length_map, List.length_take]; omega
            generalize hn : acc.length = n at HOD hal
            have HN := Lib.hid hn
            clear hacc hn
            go_wp2_with fail
            go_region_law (refine step_append_big _ _ 22 34 5 40 _ i0 Try.underlying22 hi hzz hzs hzb rfl (by decide) (by decide) w4.heap.size n 1 _ _ _ _ w9.drew rfl rfl rfl rfl rfl HOD.out (show w4.heap.size ≤ w9.heap.size from hzz9) (by simp [Value.oneCell']) (by omega) ?_
                           intro v' w10 hown' hgrow
                           have HOW := Lib.hid hown'
                           have HGW := Lib.hid (show (w9.drew.alloc (.cells #[.int .i64 u, .int .i64 x.cpu, .int .i64 x.mem, .int .i64 x.gpu, .int .i64 x.lic] 34)).grownBy w10 (Value.ownBlock u13) from hgrow)
                           clear hgrow hown')
            all_goals
              go_wp2
              go_roundw
              case rel => exact ⟨k + 1, by omega, by go_num, Lib.hid (by rw [HMN.out, List.length_append, stsV_app, stsV_one, HN.out]; exact HOW.out), Lib.hid HF.out, Lib.hid (((hB9.drew).alloc (show w4.heap.size ≤ w9.heap.size from hzz9) _).grown HGW.out (by rw [World.size_alloc]; show w4.heap.size ≤ w9.heap.size + 1; omega) (fun q hq => (HOD.out.lt q hq).1))⟩
              case measure => simp [intOf]; omega
          · skip
            have HK := Lib.hid (fun w' => rright x w')
            rw [right_no hox] at HK
            have HX := Lib.hid (HBAD.out (by rw [HE1.out]; exact hox))
            clear hox HFT HTM HBAD
            go_wp2_with fail
            refine (HK.out _).mono ?_; rintro e w9 ⟨rfl, hb9⟩
            have hW9 := hW8.trans (hb9.mono hW8.size)
            go_wp2
            go_ret2
            exact ⟨_, by rw [HX.out.2]; rfl, by rw [HX.out.1]; exact World.ownsRow_nil _ _ _ _, hW4.trans ((HB.out.trans (hW9.mono hz)).mono hW4.size)⟩
        · have HE1 : Hid (c s1 = ⟨u, v⟩) := Lib.hid (by rw [HS1.out]; exact HCS.out _ (.inr (by show t ≤ u; omega)))
          have HR8 := HR6
          have hW8 := hW6
          obtain ⟨x, rfl⟩ : ∃ x, x = v := ⟨_, rfl⟩
          have hox := hvok
          obtain ⟨y0, y1, y2, y3, x0, x1, x2, x3⟩ := HR8.out
          clear x0 x1 x2 x3
          have HK := Lib.hid (fun w' => rright x w')
          rw [right_yes hox] at HK
          have HF := Lib.hid (HFT.out (by rw [HE1.out]; exact hox))
          have HMN : Hid ((L.take (k + 1)).map c = (L.take k).map c ++ [⟨u, x⟩]) := Lib.hid (by rw [HTM.out, HE1.out])
          clear hox HFT HTM HBAD
          go_wp2_with fail
          refine (HK.out _).mono ?_; rintro e w9 ⟨rfl, hb9⟩
          have HR9 := Lib.hid (HR8.out.later hb9)
          have hW9 := hW8.trans (hb9.mono hW8.size)
          have hB9 := HB.out.trans (hW9.mono hz)
          have HOD := Lib.hid (own_later (own_later HO.out hW9) (below_drew w9))
          have hzz9 := hB9.size
          obtain ⟨y0, y1, y2, y3, x0, x1, x2, x3⟩ := HR9.out
          have qk9 := carry hW9 qk
          have hgT9 : gT < w9.heap.size := by have := hW9.size; omega
          have hG9 : w5.heap.size < w9.heap.size := HR9.out.lt
          clear x0 x1 x2 x3 HK HR8
          generalize hacc : (L.take k).map c = acc at HOD HMN
          have hal : acc.length ≤ 3000 := by rw [← hacc, List.length_map, List.length_take]; omega
          generalize hn : acc.length = n at HOD hal
          have HN := Lib.hid hn
          clear hacc hn
          go_wp2_with fail
          go_region_law (refine step_append_big _ _ 22 34 5 40 _ i0 Try.underlying22 hi hzz hzs hzb rfl (by decide) (by decide) w4.heap.size n 1 _ _ _ _ w9.drew rfl rfl rfl rfl rfl HOD.out (show w4.heap.size ≤ w9.heap.size from hzz9) (by simp [Value.oneCell']) (by omega) ?_
                         intro v' w10 hown' hgrow
                         have HOW := Lib.hid hown'
                         have HGW := Lib.hid (show (w9.drew.alloc (.cells #[.int .i64 u, .int .i64 x.cpu, .int .i64 x.mem, .int .i64 x.gpu, .int .i64 x.lic] 34)).grownBy w10 (Value.ownBlock u13) from hgrow)
                         clear hgrow hown')
          all_goals
            go_wp2
            go_roundw
            case rel => exact ⟨k + 1, by omega, by go_num, Lib.hid (by rw [HMN.out, List.length_append, stsV_app, stsV_one, HN.out]; exact HOW.out), Lib.hid HF.out, Lib.hid (((hB9.drew).alloc (show w4.heap.size ≤ w9.heap.size from hzz9) _).grown HGW.out (by rw [World.size_alloc]; show w4.heap.size ≤ w9.heap.size + 1; omega) (fun q hq => (HOD.out.lt q hq).1))⟩
            case measure => simp [intOf]; omega
      · have HE1 : Hid (c s1 = ⟨u, v⟩) := Lib.hid (by rw [HS1.out]; exact HCS.out _ (.inl (by show u < f; omega)))
        have HR8 := HR6
        have hW8 := hW6
        obtain ⟨x, rfl⟩ : ∃ x, x = v := ⟨_, rfl⟩
        have hox := hvok
        obtain ⟨y0, y1, y2, y3, x0, x1, x2, x3⟩ := HR8.out
        clear x0 x1 x2 x3
        have HK := Lib.hid (fun w' => rright x w')
        rw [right_yes hox] at HK
        have HF := Lib.hid (HFT.out (by rw [HE1.out]; exact hox))
        have HMN : Hid ((L.take (k + 1)).map c = (L.take k).map c ++ [⟨u, x⟩]) := Lib.hid (by rw [HTM.out, HE1.out])
        clear hox HFT HTM HBAD
        go_wp2_with fail
        refine (HK.out _).mono ?_; rintro e w9 ⟨rfl, hb9⟩
        have HR9 := Lib.hid (HR8.out.later hb9)
        have hW9 := hW8.trans (hb9.mono hW8.size)
        have hB9 := HB.out.trans (hW9.mono hz)
        have HOD := Lib.hid (own_later (own_later HO.out hW9) (below_drew w9))
        have hzz9 := hB9.size
        obtain ⟨y0, y1, y2, y3, x0, x1, x2, x3⟩ := HR9.out
        have qk9 := carry hW9 qk
        have hgT9 : gT < w9.heap.size := by have := hW9.size; omega
        have hG9 : w5.heap.size < w9.heap.size := HR9.out.lt
        clear x0 x1 x2 x3 HK HR8
        generalize hacc : (L.take k).map c = acc at HOD HMN
        have hal : acc.length ≤ 3000 := by rw [← hacc, List.length_map, List.length_take]; omega
        generalize hn : acc.length = n at HOD hal
        have HN := Lib.hid hn
        clear hacc hn
        go_wp2_with fail
        go_region_law (refine step_append_big _ _ 22 34 5 40 _ i0 Try.underlying22 hi hzz hzs hzb rfl (by decide) (by decide) w4.heap.size n 1 _ _ _ _ w9.drew rfl rfl rfl rfl rfl HOD.out (show w4.heap.size ≤ w9.heap.size from hzz9) (by simp [Value.oneCell']) (by omega) ?_
                       intro v' w10 hown' hgrow
                       have HOW := Lib.hid hown'
                       have HGW := Lib.hid (show (w9.drew.alloc (.cells #[.int .i64 u, .int .i64 x.cpu, .int .i64 x.mem, .int .i64 x.gpu, .int .i64 x.lic] 34)).grownBy w10 (Value.ownBlock u13) from hgrow)
                       clear hgrow hown')
        all_goals
          go_wp2
          go_roundw
          case rel => exact ⟨k + 1, by omega, by go_num, Lib.hid (by rw [HMN.out, List.length_append, stsV_app, stsV_one, HN.out]; exact HOW.out), Lib.hid HF.out, Lib.hid (((hB9.drew).alloc (show w4.heap.size ≤ w9.heap.size from hzz9) _).grown HGW.out (by rw [World.size_alloc]; show w4.heap.size ≤ w9.heap.size + 1; omega) (fun q hq => (HOD.out.lt q hq).1))⟩
          case measure => simp [intOf]; omega
    · have hkl : k = T.length := by omega
      have hall : ∀ s ∈ L, (c s).free.Ok := fun s hs => HF0.out s (by rw [List.take_of_length_le (by omega)]; exact hs)
      obtain ⟨x1, x2⟩ := HGO.out hall
      have hO := HO.out
      rw [List.take_of_length_le (by omega)] at hO
      have hML : (L.map c).length ≤ 1000 := by rw [List.length_map]; exact hLl
      obtain ⟨a5, c5, e5, hs5⟩ := own_st hO
      have HS5 := Lib.hid hs5
      have HPL := Lib.hid (rPlain a5 c5 (L.map c) (by omega) wr hs5)
      rw [← x1] at HPL
      have HT := Lib.hid x2
      subst e5
      clear hall x1 x2 hO HF0 HO hs5
      generalize L.map c = Lc at *
      go_wp2_with fail
      refine HPL.out.mono ?_
      rintro e w5 ⟨v5, rfl, hO5, hb5⟩
      have HO5 := Lib.hid hO5
      clear hO5
      go_wp2
      go_ret2
      have hWr := hW4.trans (HB.out.mono hW4.size)
      exact ⟨v5, by rw [HT.out]; rfl, own_more HO5.out hWr.size, hWr.trans (hb5.mono hWr.size)⟩
theorem rTurn (m : Bool) (a : Option Addr) (cap : Nat) (l : List St) (hl : l.length ≤ 900) (f t : Int) (need : V) (w : World) (HA : StAt w a cap l) :
    Calls Try.prog 22 #[.slice a l.length cap, .agg #[.int .i64 f, .int .i64 t], (.agg #[.int .i64 need.cpu, .int .i64 need.mem, .int .i64 need.gpu, .int .i64 need.lic]), .bool m] w
      fun e w' => ∃ v, e = .returned (.tuple #[v, .int .i64 (turnE m l f t need)]) ∧ w'.ownsRow w.heap.size 34 5 v (turnR m l f t need).length (stsV (turnR m l f t need)) ∧ Below w.heap.size w w' := by
  by_cases h : ArgsOk l f t need
  · obtain ⟨b, off, ea, _⟩ := HA.row.first (List.length_pos_iff.2 h.1.1)
    subst ea
    cases m
    · exact rTurn_false b off cap l hl f t need w HA h
    · exact rTurn_true b off cap l hl f t need w HA h
  · rw [(turn_arg h).1, (turn_arg h).2]
    exact (rTurn_no m a cap l hl f t need w HA h).mono fun e w' x => ⟨_, x.1, World.ownsRow_nil _ _ _ _, x.2⟩
end Go.Proofs.Ytcnpppkndcgmpaa.W
