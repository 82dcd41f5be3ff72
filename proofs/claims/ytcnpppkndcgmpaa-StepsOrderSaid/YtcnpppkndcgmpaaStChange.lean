/-
  Contracts of steps.change, steps.Take, steps.Give.
-/
import Derived.Test.YtcnpppkndcgmpaaStPlain
import Derived.Test.YtcnpppkndcgmpaaStCut
import Derived.Test.YtcnpppkndcgmpaaStLeast
import Derived.Test.YtcnpppkndcgmpaaVecAdd
import Derived.Test.YtcnpppkndcgmpaaVecSub
namespace Go.Proofs.Ytcnpppkndcgmpaa.W
set_option linter.unusedVariables false
set_option linter.unusedSimpArgs false
open Go.ChangeShapes Go.WideShapes Go.ChangeAt Go.RowKit

theorem set_free : ∀ (l : List St) (k : Nat) (h : k < l.length) (v : V),
    ((((stsV l).set (k * 5 + 1) (.int .i64 v.cpu)).set (k * 5 + 2) (.int .i64 v.mem)).set (k * 5 + 3) (.int .i64 v.gpu)).set (k * 5 + 4) (.int .i64 v.lic) = stsV (l.set k ⟨l[k].at_, v⟩)
  | s :: r, 0, _, v => rfl
  | s :: r, k + 1, h, v => by
    have e : ∀ j, (k + 1) * 5 + j = (k * 5 + j) + 1 + 1 + 1 + 1 + 1 := fun j => by omega
    rw [e 1, e 2, e 3, e 4]
    have ih := set_free r k (by simpa using h) v
    show ((((stV s ++ stsV r).set _ _).set _ _).set _ _).set _ _ = stV s ++ stsV (r.set k ⟨(r[k]'(by simpa using h)).at_, v⟩)
    rw [← ih]
    rfl
/-- what a store of a step's vector leaves of a row of the call's own -/
theorem own_free {w : World} {B g n c : Nat} {l : List St} (h : w.ownsRow B 34 5 (.slice (some ⟨g, 0, none⟩) n c) n (stsV l)) {k : Nat} (hk : k < l.length) (v : V) :
    ((((w.setCell ⟨g, k * 5 + 1, none⟩ (.int .i64 v.cpu)).setCell ⟨g, k * 5 + 1 + 1, none⟩ (.int .i64 v.mem)).setCell ⟨g, k * 5 + 1 + 2, none⟩ (.int .i64 v.gpu)).setCell ⟨g, k * 5 + 1 + 3, none⟩ (.int .i64 v.lic)).ownsRow B 34 5 (.slice (some ⟨g, 0, none⟩) n c) n (stsV (l.set k ⟨l[k].at_, v⟩)) := by
  rw [← set_free l k hk v]
  exact ((((h.stored (k * 5 + 1) _).1.stored (k * 5 + 2) _).1.stored (k * 5 + 3) _).1.stored (k * 5 + 4) _).1
theorem take_map_skip {g : St → St} {l : List St} {k : Nat} (h : k < l.length) (e : g l[k] = l[k]) : (l.take (k + 1)).map g ++ l.drop (k + 1) = (l.take k).map g ++ l.drop k := by
  rw [take_app l k h, drop_at l k h, List.map_append, List.map_cons, List.map_nil, e]; simp
theorem take_map_set {g : St → St} {l : List St} {k : Nat} (h : k < l.length) (x : St) (e : g l[k] = x) : (l.take (k + 1)).map g ++ l.drop (k + 1) = ((l.take k).map g ++ l.drop k).set k x := by
  have hk : ((l.take k).map g).length = k := by rw [List.length_map, List.length_take]; omega
  rw [List.set_append_right _ _ (by omega), hk, Nat.sub_self, drop_at l k h, take_app l k h, List.map_append, List.map_cons, List.map_nil, e]; simp only [List.append_assoc, List.cons_append, List.nil_append, List.set_cons_zero]
theorem cut_len (l : List St) (t : Int) : (cutL l t).length ≤ l.length + 1 := by
  unfold cutL
  split
  · omega
  · simp only [List.length_append, List.length_take, List.length_cons, List.length_drop]; omega
theorem cut2_len (l : List St) (f t : Int) : (cut2 l f t).length ≤ l.length + 2 := by
  have h1 := cut_len l f
  have h2 := cut_len (cutL l f) t
  unfold cut2; omega
theorem turnR_len (m : Bool) (l : List St) (f t : Int) (need : V) : (turnR m l f t need).length ≤ l.length + 2 := by
  unfold turnR
  split
  · have := plainL_len ((cut2 l f t).map (chg m f t need))
    have := cut2_len l f t
    rw [List.length_map] at *; omega
  · simp
theorem run_enter {P : Program} {f : FuncId} {fn : Func} {c : Code} (hf : P.funcs[f]? = some fn) (hname : (fn.name == "runtime.NumGoroutine") = false) (hb : fn.body = some c) (args : Array Value) (w : World) :
    (callFunc f args).run P w = .ok (.enter f args) w := by
  simp only [callFunc]
  simp [hf, hb]
  intro hn
  simp [hn] at hname
set_option maxHeartbeats 4000000 in
theorem sChange_no (m : Bool) (fn : FuncId) (a : Option Addr) (cap : Nat) (l : List St) (hl : l.length ≤ 80000) (f t : Int) (need : V) (w : World) (HA : StAt w a cap l) (hno : ¬ ArgsOk l f t need) :
    Calls Try.prog 31 #[.slice a l.length cap, .int .i64 f, .int .i64 t, (.agg #[.int .i64 need.cpu, .int .i64 need.mem, .int .i64 need.gpu, .int .i64 need.lic]), .func (.func fn) #[] #[]] w fun e w' => e = .returned (.tuple #[.slice none 0 0, .int .i64 2]) ∧ Below w.heap.size w w' := by
  have HR := Lib.hid HA
  have HP := Lib.hid (fun w' h => sRight a cap l (by omega) w' h)
  have HV := Lib.hid (fun w' => right need w')
  by_cases h : OkS l
  · rw [show rightS l = true from decide_eq_true h] at HP
    have hpos : 0 < l.length := List.length_pos_iff.2 h.1
    obtain ⟨b, off, ea, hbl, q0, q1, q2, q3, q4⟩ := HA.row.first hpos
    have hbg := begin_at hpos
    by_cases hn : need.Ok
    · rw [right_yes hn] at HV
      have hno2 : ¬ (l[0].at_ ≤ f ∧ f < t ∧ t ≤ 281474976710656) := fun x => hno ⟨h, hn, by rw [hbg]; exact x.1, x.2⟩
      generalize l[0] = s at q0 q1 q2 q3 q4 hno2
      clear h HA hno hbg hn
      subst ea
      by_cases h0 : s.at_ ≤ f
      · by_cases h1 : f < t
        · have h2 : ¬ t ≤ 281474976710656 := fun x => hno2 ⟨h0, h1, x⟩
          clear hno2
          go_enter Try.func31, Try.ntmps31
          go_wp2_with fail
          refine (HP.out _ (HR.out.later ?_)).mono ?_; exact (by repeat' (first | exact Below.refl _ _ | assumption | exact And.left (by assumption) | refine Below.drew ?_ | refine below_drewN ?_ _ | refine Below.setCell ?_ (by first | (simp; done) | (simp; omega) | omega) _ | refine Below.alloc ?_ (by first | (simp; done) | (simp; omega) | omega) _ | refine after (by assumption) (by first | (simp; done) | (simp; omega) | omega) ?_)); rintro e w1 ⟨rfl, hb1⟩; obtain ⟨hc1, hf1⟩ := bcell hb1; have hz1 := hb1.size; (try simp at hz1); have lt_w1_0 : w.heap.size < w1.heap.size := (by omega)
          go_wp2_with fail
          refine (HV.out _).mono ?_; rintro e w2 ⟨rfl, hb2⟩; obtain ⟨hc2, hf2⟩ := bcell hb2; have hz2 := hb2.size; (try simp at hz2); have lt_w2_0 : w.heap.size < w2.heap.size := (by omega)
          have g0 : w2.cell? ⟨b, off, none⟩ = some (.int .i64 s.at_) := carry (show Below w.heap.size w w2 from (by repeat' (first | exact Below.refl _ _ | assumption | exact And.left (by assumption) | refine Below.drew ?_ | refine below_drewN ?_ _ | refine Below.setCell ?_ (by first | (simp; done) | (simp; omega) | omega) _ | refine Below.alloc ?_ (by first | (simp; done) | (simp; omega) | omega) _ | refine after (by assumption) (by first | (simp; done) | (simp; omega) | omega) ?_))) q0
          go_wp2
          go_ret2
          exact ⟨rfl, (by repeat' (first | exact Below.refl _ _ | assumption | exact And.left (by assumption) | refine Below.drew ?_ | refine below_drewN ?_ _ | refine Below.setCell ?_ (by first | (simp; done) | (simp; omega) | omega) _ | refine Below.alloc ?_ (by first | (simp; done) | (simp; omega) | omega) _ | refine after (by assumption) (by first | (simp; done) | (simp; omega) | omega) ?_))⟩
        · clear hno2
          go_enter Try.func31, Try.ntmps31
          go_wp2_with fail
          refine (HP.out _ (HR.out.later ?_)).mono ?_; exact (by repeat' (first | exact Below.refl _ _ | assumption | exact And.left (by assumption) | refine Below.drew ?_ | refine below_drewN ?_ _ | refine Below.setCell ?_ (by first | (simp; done) | (simp; omega) | omega) _ | refine Below.alloc ?_ (by first | (simp; done) | (simp; omega) | omega) _ | refine after (by assumption) (by first | (simp; done) | (simp; omega) | omega) ?_)); rintro e w1 ⟨rfl, hb1⟩; obtain ⟨hc1, hf1⟩ := bcell hb1; have hz1 := hb1.size; (try simp at hz1); have lt_w1_0 : w.heap.size < w1.heap.size := (by omega)
          go_wp2_with fail
          refine (HV.out _).mono ?_; rintro e w2 ⟨rfl, hb2⟩; obtain ⟨hc2, hf2⟩ := bcell hb2; have hz2 := hb2.size; (try simp at hz2); have lt_w2_0 : w.heap.size < w2.heap.size := (by omega)
          have g0 : w2.cell? ⟨b, off, none⟩ = some (.int .i64 s.at_) := carry (show Below w.heap.size w w2 from (by repeat' (first | exact Below.refl _ _ | assumption | exact And.left (by assumption) | refine Below.drew ?_ | refine below_drewN ?_ _ | refine Below.setCell ?_ (by first | (simp; done) | (simp; omega) | omega) _ | refine Below.alloc ?_ (by first | (simp; done) | (simp; omega) | omega) _ | refine after (by assumption) (by first | (simp; done) | (simp; omega) | omega) ?_))) q0
          go_wp2
          go_ret2
          exact ⟨rfl, (by repeat' (first | exact Below.refl _ _ | assumption | exact And.left (by assumption) | refine Below.drew ?_ | refine below_drewN ?_ _ | refine Below.setCell ?_ (by first | (simp; done) | (simp; omega) | omega) _ | refine Below.alloc ?_ (by first | (simp; done) | (simp; omega) | omega) _ | refine after (by assumption) (by first | (simp; done) | (simp; omega) | omega) ?_))⟩
      · clear hno2
        go_enter Try.func31, Try.ntmps31
        go_wp2_with fail
        refine (HP.out _ (HR.out.later ?_)).mono ?_; exact (by repeat' (first | exact Below.refl _ _ | assumption | exact And.left (by assumption) | refine Below.drew ?_ | refine below_drewN ?_ _ | refine Below.setCell ?_ (by first | (simp; done) | (simp; omega) | omega) _ | refine Below.alloc ?_ (by first | (simp; done) | (simp; omega) | omega) _ | refine after (by assumption) (by first | (simp; done) | (simp; omega) | omega) ?_)); rintro e w1 ⟨rfl, hb1⟩; obtain ⟨hc1, hf1⟩ := bcell hb1; have hz1 := hb1.size; (try simp at hz1); have lt_w1_0 : w.heap.size < w1.heap.size := (by omega)
        go_wp2_with fail
        refine (HV.out _).mono ?_; rintro e w2 ⟨rfl, hb2⟩; obtain ⟨hc2, hf2⟩ := bcell hb2; have hz2 := hb2.size; (try simp at hz2); have lt_w2_0 : w.heap.size < w2.heap.size := (by omega)
        have g0 : w2.cell? ⟨b, off, none⟩ = some (.int .i64 s.at_) := carry (show Below w.heap.size w w2 from (by repeat' (first | exact Below.refl _ _ | assumption | exact And.left (by assumption) | refine Below.drew ?_ | refine below_drewN ?_ _ | refine Below.setCell ?_ (by first | (simp; done) | (simp; omega) | omega) _ | refine Below.alloc ?_ (by first | (simp; done) | (simp; omega) | omega) _ | refine after (by assumption) (by first | (simp; done) | (simp; omega) | omega) ?_))) q0
        go_wp2
        go_ret2
        exact ⟨rfl, (by repeat' (first | exact Below.refl _ _ | assumption | exact And.left (by assumption) | refine Below.drew ?_ | refine below_drewN ?_ _ | refine Below.setCell ?_ (by first | (simp; done) | (simp; omega) | omega) _ | refine Below.alloc ?_ (by first | (simp; done) | (simp; omega) | omega) _ | refine after (by assumption) (by first | (simp; done) | (simp; omega) | omega) ?_))⟩
    · rw [right_no hn] at HV
      clear h HA hno hbg hn
      subst ea
      go_enter Try.func31, Try.ntmps31
      go_wp2_with fail
      refine (HP.out _ (HR.out.later ?_)).mono ?_; exact (by repeat' (first | exact Below.refl _ _ | assumption | exact And.left (by assumption) | refine Below.drew ?_ | refine below_drewN ?_ _ | refine Below.setCell ?_ (by first | (simp; done) | (simp; omega) | omega) _ | refine Below.alloc ?_ (by first | (simp; done) | (simp; omega) | omega) _ | refine after (by assumption) (by first | (simp; done) | (simp; omega) | omega) ?_)); rintro e w1 ⟨rfl, hb1⟩; obtain ⟨hc1, hf1⟩ := bcell hb1; have hz1 := hb1.size; (try simp at hz1); have lt_w1_0 : w.heap.size < w1.heap.size := (by omega)
      go_wp2_with fail
      refine (HV.out _).mono ?_; rintro e w2 ⟨rfl, hb2⟩; obtain ⟨hc2, hf2⟩ := bcell hb2; have hz2 := hb2.size; (try simp at hz2); have lt_w2_0 : w.heap.size < w2.heap.size := (by omega)
      go_wp2
      go_ret2
      exact ⟨rfl, (by repeat' (first | exact Below.refl _ _ | assumption | exact And.left (by assumption) | refine Below.drew ?_ | refine below_drewN ?_ _ | refine Below.setCell ?_ (by first | (simp; done) | (simp; omega) | omega) _ | refine Below.alloc ?_ (by first | (simp; done) | (simp; omega) | omega) _ | refine after (by assumption) (by first | (simp; done) | (simp; omega) | omega) ?_))⟩
  · rw [show rightS l = false from decide_eq_false h] at HP
    clear h HA hno
    go_enter Try.func31, Try.ntmps31
    go_wp2_with fail
    refine (HP.out _ (HR.out.later ?_)).mono ?_; exact (by repeat' (first | exact Below.refl _ _ | assumption | exact And.left (by assumption) | refine Below.drew ?_ | refine below_drewN ?_ _ | refine Below.setCell ?_ (by first | (simp; done) | (simp; omega) | omega) _ | refine Below.alloc ?_ (by first | (simp; done) | (simp; omega) | omega) _ | refine after (by assumption) (by first | (simp; done) | (simp; omega) | omega) ?_)); rintro e w1 ⟨rfl, hb1⟩; obtain ⟨hc1, hf1⟩ := bcell hb1; have hz1 := hb1.size; (try simp at hz1); have lt_w1_0 : w.heap.size < w1.heap.size := (by omega)
    go_wp2
    go_ret2
    exact ⟨rfl, (by repeat' (first | exact Below.refl _ _ | assumption | exact And.left (by assumption) | refine Below.drew ?_ | refine below_drewN ?_ _ | refine Below.setCell ?_ (by first | (simp; done) | (simp; omega) | omega) _ | refine Below.alloc ?_ (by first | (simp; done) | (simp; omega) | omega) _ | refine after (by assumption) (by first | (simp; done) | (simp; omega) | omega) ?_))⟩
theorem own_some {x : World} {v : Value} {B : Nat} {L : List St} (hL : L ≠ []) (ho : x.ownsRow B 34 5 v L.length (stsV L)) : ∃ g c, v = .slice (some ⟨g, 0, none⟩) L.length c ∧ B ≤ g ∧ g < x.heap.size := by
  obtain ⟨a, c, e, _, hr, _, ha⟩ := own_shape ho
  rcases ha with ha | ⟨g, ha, hg, hg2⟩
  · subst ha
    have := hr.none_
    have : L = [] := List.eq_nil_of_length_eq_zero (by have h3 := congrArg List.length this; rw [stsV_len] at h3; simp at h3; omega)
    exact absurd this hL
  · exact ⟨g, c, by rw [e, ha], hg, hg2⟩
/-- half done: the first of them turned -/
def half (c : St → St) (L : List St) (k : Nat) : List St := (L.take k).map c ++ L.drop k
theorem half_len (c : St → St) (L : List St) (k : Nat) : (half c L k).length = L.length := by unfold half; rw [List.length_append, List.length_map, List.length_take, List.length_drop]; omega
theorem half_at (c : St → St) (L : List St) (k : Nat) (h : k < L.length) : (half c L k)[k]'(by rw [half_len]; exact h) = L[k] := by
  unfold half
  have hk : ((L.take k).map c).length = k := by rw [List.length_map, List.length_take]; omega
  have hm : min k L.length = k := by omega
  rw [List.getElem_append_right (by omega)]
  simp [hm]
theorem half_zero (c : St → St) (L : List St) : half c L 0 = L := by simp [half]
theorem half_all (c : St → St) (L : List St) : half c L L.length = L.map c := by simp [half]
theorem half_skip {c : St → St} {L : List St} {k : Nat} (h : k < L.length) (e : c L[k] = L[k]) : half c L (k + 1) = half c L k := take_map_skip h e
theorem half_set {c : St → St} {L : List St} {k : Nat} (h : k < L.length) (x : St) (e : c L[k] = x) : half c L (k + 1) = (half c L k).set k x := take_map_set h x e
/-- a step's cells, of a row of the call's own -/
theorem half_cells {w : World} {B g n p k : Nat} {c : St → St} {L : List St} (ho : w.ownsRow B 34 5 (.slice (some ⟨g, 0, none⟩) n p) n (stsV (half c L k))) (hk : k < L.length) :
    w.cell? ⟨g, k * 5, none⟩ = some (.int .i64 L[k].at_) ∧ w.cell? ⟨g, k * 5 + 1, none⟩ = some (.int .i64 L[k].free.cpu) ∧ w.cell? ⟨g, k * 5 + 2, none⟩ = some (.int .i64 L[k].free.mem) ∧ w.cell? ⟨g, k * 5 + 3, none⟩ = some (.int .i64 L[k].free.gpu) ∧ w.cell? ⟨g, k * 5 + 4, none⟩ = some (.int .i64 L[k].free.lic) := by
  obtain ⟨a, cc, e, _, hr, _, _⟩ := own_shape ho
  simp only [Value.slice.injEq] at e
  obtain ⟨rfl, _, rfl⟩ := e
  obtain ⟨b', off', ea', _, h0, h1, h2, h3, h4⟩ := hr.step (k := k) (by rw [half_len]; exact hk)
  simp only [Option.some.injEq, Addr.mk.injEq, and_true] at ea'
  obtain ⟨rfl, rfl⟩ := ea'
  rw [half_at c L k hk] at h0 h1 h2 h3 h4
  rw [Nat.zero_add] at h0 h1 h2 h3 h4
  exact ⟨h0, h1, h2, h3, h4⟩
theorem fine_take {c : St → St} {L : List St} {k : Nat} (h : k < L.length) (hp : ∀ s ∈ L.take k, (c s).free.Ok) (hk : (c L[k]).free.Ok) : ∀ s ∈ L.take (k + 1), (c s).free.Ok := by
  intro s hs
  rw [take_app L k h] at hs
  rcases List.mem_append.1 hs with hs | hs
  · exact hp s hs
  · simp at hs; subst hs; exact hk
set_option maxHeartbeats 8000000 in
set_option maxRecDepth 100000 in
theorem sChange_in (m : Bool) (fn : FuncId) (hin : ∀ (args : Array Value) (w : World), (callFunc fn args).run Try.prog w = .ok (.enter fn args) w)
    (hfn : ∀ (a b : V) (w : World), a.Ok → b.Ok → Calls Try.prog fn #[(.agg #[.int .i64 a.cpu, .int .i64 a.mem, .int .i64 a.gpu, .int .i64 a.lic]), (.agg #[.int .i64 b.cpu, .int .i64 b.mem, .int .i64 b.gpu, .int .i64 b.lic])] w fun e w' => e = .returned (.tuple #[(.agg #[.int .i64 (outR (turnV m a b)).cpu, .int .i64 (outR (turnV m a b)).mem, .int .i64 (outR (turnV m a b)).gpu, .int .i64 (outR (turnV m a b)).lic]), .int .i64 (outE (turnV m a b))]) ∧ Below w.heap.size w w')
    (b0 off0 : Nat) (cap : Nat) (l : List St) (hl : l.length ≤ 80000) (f t : Int) (need : V) (w : World) (HA : StAt w (some ⟨b0, off0, none⟩) cap l) (hok : ArgsOk l f t need) :
    Calls Try.prog 31 #[.slice (some ⟨b0, off0, none⟩) l.length cap, .int .i64 f, .int .i64 t, (.agg #[.int .i64 need.cpu, .int .i64 need.mem, .int .i64 need.gpu, .int .i64 need.lic]), .func (.func fn) #[] #[]] w
      fun e w' => ∃ v, e = .returned (.tuple #[v, .int .i64 (turnE m l f t need)]) ∧ w'.ownsRow w.heap.size 34 5 v (turnR m l f t need).length (stsV (turnR m l f t need)) ∧ Below w.heap.size w w' := by
  have HR := Lib.hid HA
  have HP := Lib.hid (fun w' h => sRight (some ⟨b0, off0, none⟩) cap l (by omega) w' h)
  have HV := Lib.hid (fun w' => right need w')
  have hok' := hok
  obtain ⟨h, hn, h0, h1, h2⟩ := hok'
  rw [show rightS l = true from decide_eq_true h] at HP
  rw [right_yes hn] at HV
  have hf : f ≤ 281474976710656 := by omega
  have hpos : 0 < l.length := List.length_pos_iff.2 h.1
  obtain ⟨k0, k1, _⟩ := cut_ok h h0 hf
  obtain ⟨c0, _, _, _⟩ := cut2_ok h h0 h1 h2
  have hlen1 := cut_len l f
  have hlen2 := cut2_len l f t
  have HC1 := Lib.hid (fun w' h' => sCut b0 off0 cap l (by omega) h f h0 w' h')
  have HC2 := Lib.hid (fun b off cap w' h' => sCut b off cap (cutL l f) (by omega) k0 t (by omega) w' h')
  have HCN := Lib.hid k0.1
  have HLN := Lib.hid c0.1
  have HOK := Lib.hid (fun k (hk : k < (cut2 l f t).length) => (rise_mem c0.2 _ (List.getElem_mem hk)).2.2)
  have HGO := Lib.hid (show (∀ s ∈ cut2 l f t, (chg m f t need s).free.Ok) → turnR m l f t need = plainL ((cut2 l f t).map (chg m f t need)) ∧ turnE m l f t need = 0 ∧ OkS ((cut2 l f t).map (chg m f t need)) from fun g => ⟨(turn_in hok g).1, (turn_in hok g).2, (turned_ok hok g).1⟩)
  have HNO := Lib.hid (show ¬ (∀ s ∈ cut2 l f t, (chg m f t need s).free.Ok) → turnR m l f t need = [] ∧ turnE m l f t need = 20 from fun g => turn_over hok g)
  have HNOK := Lib.hid hn
  have HFN := Lib.hid hfn
  obtain ⟨b, off, ea, hbl, q0, q1, q2, q3, q4⟩ := HA.row.first hpos
  simp only [Option.some.injEq, Addr.mk.injEq, and_true] at ea
  obtain ⟨rfl, rfl⟩ := ea
  rw [begin_at hpos] at h0
  generalize l[0] = s at q0 q1 q2 q3 q4 h0
  clear HA hok hn k0 k1 c0 hfn h
  go_enter Try.func31, Try.ntmps31
  go_wp2_with fail
  refine (HP.out _ (HR.out.later ?_)).mono ?_; exact (by repeat' (first | exact Below.refl _ _ | assumption | exact And.left (by assumption) | refine Below.drew ?_ | refine below_drewN ?_ _ | refine Below.setCell ?_ (by first | (simp; done) | (simp; omega) | omega) _ | refine Below.alloc ?_ (by first | (simp; done) | (simp; omega) | omega) _ | refine after (by assumption) (by first | (simp; done) | (simp; omega) | omega) ?_)); rintro e w1 ⟨rfl, hb1⟩; obtain ⟨hc1, hf1⟩ := bcell hb1; have hz1 := hb1.size; (try simp at hz1); have lt_w1_0 : w.heap.size < w1.heap.size := (by omega)
  go_wp2_with fail
  refine (HV.out _).mono ?_; rintro e w2 ⟨rfl, hb2⟩; obtain ⟨hc2, hf2⟩ := bcell hb2; have hz2 := hb2.size; (try simp at hz2); have lt_w2_0 : w.heap.size < w2.heap.size := (by omega)
  have hW2 : Below w.heap.size w w2 := (by repeat' (first | exact Below.refl _ _ | assumption | exact And.left (by assumption) | refine Below.drew ?_ | refine below_drewN ?_ _ | refine Below.setCell ?_ (by first | (simp; done) | (simp; omega) | omega) _ | refine Below.alloc ?_ (by first | (simp; done) | (simp; omega) | omega) _ | refine after (by assumption) (by first | (simp; done) | (simp; omega) | omega) ?_))
  have g0 : w2.cell? ⟨b0, off0, none⟩ = some (.int .i64 s.at_) := carry hW2 q0
  have HNB2 : Hid (Res4 w2 w.heap.size need) := Lib.hid (((Res4.fresh w need 25).later hb1).later hb2)
  have hlt2 : w.heap.size < w2.heap.size := HNB2.out.lt
  go_wp2_with fail
  refine (HC1.out _ (HR.out.later hW2)).mono ?_
  rintro e w3 ⟨v3, rfl, hO3, hb3⟩
  obtain ⟨g3, p3, rfl, hg3, hg3'⟩ := own_some HCN.out hO3
  obtain ⟨a3, cc3, e3, hs3⟩ := own_st hO3
  simp only [Value.slice.injEq] at e3
  obtain ⟨rfl, _, rfl⟩ := e3
  have HS3 := Lib.hid hs3
  clear hO3 hs3
  go_wp2_with fail
  refine (HC2.out g3 0 p3 _ HS3.out).mono ?_
  rintro e w4 ⟨v4, rfl, hO4, hb4⟩
  have hW3 : Below w.heap.size w w3 := hW2.trans (hb3.mono hW2.size)
  have hW4 : Below w.heap.size w w4 := hW3.trans (hb4.mono hW3.size)
  obtain ⟨g4, p4, rfl, hg4, hg4'⟩ := own_some (L := cut2 l f t) HLN.out hO4
  have HO4 : Hid (w4.ownsRow w.heap.size 34 5 (.slice (some ⟨g4, 0, none⟩) (cut2 l f t).length p4) (cut2 l f t).length (stsV (half (chg m f t need) (cut2 l f t) 0))) := Lib.hid (by rw [half_zero]; exact own_more hO4 hW3.size)
  have hne4 : w.heap.size < g4 := by have := hb3.size; omega
  have HNB4 := Lib.hid ((HNB2.out.later hb3).later hb4)
  have hLl : (cut2 l f t).length ≤ 100000 := by omega
  clear hO4 HS3 HCN HLN HC2 hlen1 hlen2 hb3 hb4 hg3 hg3' hg4 hg4'
  have HCS : Hid (∀ s, s.at_ < f ∨ t ≤ s.at_ → chg m f t need s = s) := Lib.hid (fun s h => if_pos h)
  have HCI : Hid (∀ s, ¬ (s.at_ < f ∨ t ≤ s.at_) → chg m f t need s = ⟨s.at_, turnV m s.free need⟩) := Lib.hid (fun s h => if_neg h)
  generalize cut2 l f t = L at *
  generalize chg m f t need = c at *
  go_wp2
  go_loopw [49] (fun x wr => ∃ k : Nat, k ≤ L.length ∧ x = .int .i64 (k : Int) ∧ Hid (wr.ownsRow w.heap.size 34 5 (.slice (some ⟨g4, 0, none⟩) L.length p4) L.length (stsV (half c L k))) ∧ Hid (∀ s ∈ L.take k, (c s).free.Ok) ∧ Hid (Res4 wr w.heap.size need) ∧ Hid (Below w.heap.size w wr)) (fun x _ => L.length - (intOf x).toNat)
  case atStart => exact ⟨0, Nat.zero_le _, rfl, HO4, Lib.hid (by simp), HNB4, Lib.hid hW4⟩
  case round =>
    obtain ⟨k, hk, rfl, HO, HP2, HN, HB⟩ := hrel
    have hz := HB.out.size
    by_cases hlt : k < L.length
    · obtain ⟨p0, p1, p2, p3', p4'⟩ := half_cells HO.out hlt
      have hgl : g4 < wr.heap.size := World.block_lt_of_cell? _ _ p0
      have HOKk := Lib.hid (HOK.out k hlt)
      have HSK := Lib.hid (fun (e : c L[k] = L[k]) => half_skip hlt e)
      have HST := Lib.hid (fun (x : St) (e : c L[k] = x) => half_set hlt x e)
      have HFT := Lib.hid (fun (e : (c L[k]).free.Ok) => fine_take hlt HP2.out e)
      have HBAD := Lib.hid (fun (e : ¬ (c L[k]).free.Ok) => HNO.out (fun x => e (x _ (List.getElem_mem hlt))))
      have HAT : Hid ((half c L k)[k]'(by rw [half_len]; exact hlt) = L[k]) := Lib.hid (half_at c L k hlt)
      generalize L[k] = s1 at p0 p1 p2 p3' p4' HOKk HSK HST HFT HBAD HAT
      by_cases hs0 : s1.at_ < f
      · have e1 := Lib.hid (HCS.out s1 (.inl hs0))
        go_wp2
        go_roundw
        case rel => exact ⟨k + 1, by omega, by go_num, Lib.hid (by rw [HSK.out e1.out]; exact own_later HO.out ((Below.refl _ _).alloc (Nat.le_refl _) _)), Lib.hid (HFT.out (by rw [e1.out]; exact HOKk.out)), Lib.hid (HN.out.later ((Below.refl _ _).alloc (Nat.le_refl _) _)), Lib.hid (HB.out.alloc hz _)⟩
        case measure => simp [intOf]; omega
      · by_cases hs1 : t ≤ s1.at_
        · have e1 := Lib.hid (HCS.out s1 (.inr hs1))
          go_wp2
          go_roundw
          case rel => exact ⟨k + 1, by omega, by go_num, Lib.hid (by rw [HSK.out e1.out]; exact own_later HO.out ((Below.refl _ _).alloc (Nat.le_refl _) _)), Lib.hid (HFT.out (by rw [e1.out]; exact HOKk.out)), Lib.hid (HN.out.later ((Below.refl _ _).alloc (Nat.le_refl _) _)), Lib.hid (HB.out.alloc hz _)⟩
          case measure => simp [intOf]; omega
        · have e1 := Lib.hid (HCI.out s1 (by omega))
          have HK := Lib.hid (fun w' => HFN.out s1.free need w' HOKk.out HNOK.out)
          obtain ⟨n0, n1, n2, n3, z0, z1, z2, z3⟩ := HN.out
          have hnl := HN.out.lt
          by_cases ho : (turnV m s1.free need).Ok
          · rw [(out_ok ho).1, (out_ok ho).2] at HK
            have HF := Lib.hid (HFT.out (by rw [e1.out]; exact ho))
            have HS := Lib.hid (HST.out _ e1.out)
            clear ho HBAD HSK HST HFT
            generalize turnV m s1.free need = v at HK HF HS e1
            go_wp2_with fail
            refine (HK.out _).mono ?_; rintro e w5 ⟨rfl, hb5⟩
            have hW5 : Below wr.heap.size wr w5 := (by repeat' (first | exact Below.refl _ _ | assumption | exact And.left (by assumption) | refine Below.drew ?_ | refine below_drewN ?_ _ | refine Below.setCell ?_ (by first | (simp; done) | (simp; omega) | omega) _ | refine Below.alloc ?_ (by first | (simp; done) | (simp; omega) | omega) _ | refine after (by assumption) (by first | (simp; done) | (simp; omega) | omega) ?_))
            have hz5 := hW5.size
            have HO5 := Lib.hid (own_later HO.out hW5)
            have hy0 : w5.cell? ⟨g4, k * 5 + 1, none⟩ = some (.int .i64 s1.free.cpu) := carry hW5 p1
            have hy1 : w5.cell? ⟨g4, k * 5 + 1 + 1, none⟩ = some (.int .i64 s1.free.mem) := carry hW5 p2
            have hy2 : w5.cell? ⟨g4, k * 5 + 1 + 2, none⟩ = some (.int .i64 s1.free.gpu) := carry hW5 p3'
            have hy3 : w5.cell? ⟨g4, k * 5 + 1 + 3, none⟩ = some (.int .i64 s1.free.lic) := carry hW5 p4'
            have hx0 := HO5.out.frozenAt (k * 5 + 1)
            have hx1 := HO5.out.frozenAt (k * 5 + 1 + 1)
            have hx2 := HO5.out.frozenAt (k * 5 + 1 + 2)
            have hx3 := HO5.out.frozenAt (k * 5 + 1 + 3)
            have hg5 : g4 < w5.heap.size := by omega
            have hgg : w.heap.size ≤ g4 := by omega
            go_wp2
            go_roundw
            case rel => exact ⟨k + 1, by omega, by go_num, Lib.hid (by
              rw [HS.out]
              have K := own_free (l := half c L k) HO5.out (by rw [half_len]; exact hlt) v
              rw [HAT.out] at K
              exact K.alloc _), Lib.hid HF.out, Lib.hid (((HN.out.later hW5).far (by omega) _ _ _ _ _ _ _ _).later ((Below.refl _ _).alloc (Nat.le_refl _) _)), Lib.hid (by have hb := HB.out; exact (by repeat' (first | exact Below.refl _ _ | assumption | exact And.left (by assumption) | refine Below.drew ?_ | refine below_drewN ?_ _ | refine Below.setCell ?_ (by first | (simp; done) | (simp; omega) | omega) _ | refine Below.alloc ?_ (by first | (simp; done) | (simp; omega) | omega) _ | refine after (by assumption) (by first | (simp; done) | (simp; omega) | omega) ?_)))⟩
            case measure => simp [intOf]; omega
          · rw [(out_over ho).1, (out_over ho).2] at HK
            have HX := Lib.hid (HBAD.out (by rw [e1.out]; exact ho))
            clear ho HBAD HSK HST HFT
            go_wp2_with fail
            refine (HK.out _).mono ?_; rintro e w5 ⟨rfl, hb5⟩
            have hW5 : Below wr.heap.size wr w5 := (by repeat' (first | exact Below.refl _ _ | assumption | exact And.left (by assumption) | refine Below.drew ?_ | refine below_drewN ?_ _ | refine Below.setCell ?_ (by first | (simp; done) | (simp; omega) | omega) _ | refine Below.alloc ?_ (by first | (simp; done) | (simp; omega) | omega) _ | refine after (by assumption) (by first | (simp; done) | (simp; omega) | omega) ?_))
            go_wp2
            go_ret2
            exact ⟨_, by rw [HX.out.2]; rfl, by rw [HX.out.1]; exact World.ownsRow_nil _ _ _ _, (HB.out.trans (hW5.mono hz)).alloc (Nat.le_trans hz hW5.size) _⟩
    · have hkl : k = L.length := by omega
      subst hkl
      have hall : ∀ s ∈ L, (c s).free.Ok := fun s hs => HP2.out s (by rw [List.take_length]; exact hs)
      obtain ⟨x1, x2, x3⟩ := HGO.out hall
      have hO := HO.out
      rw [half_all] at hO
      have hML : (L.map c).length = L.length := List.length_map ..
      have HM : Hid (StAt wr (some ⟨g4, 0, none⟩) p4 (L.map c)) := Lib.hid (by
        have h1 := own_st (l := L.map c) (w := wr) (base := w.heap.size) (v := .slice (some ⟨g4, 0, none⟩) L.length p4) (by rw [hML]; exact hO)
        obtain ⟨a, cc, e, hs⟩ := h1
        simp only [Value.slice.injEq] at e
        obtain ⟨rfl, _, rfl⟩ := e
        exact hs)
      have HPL := Lib.hid (fun w' h => sPlain (some ⟨g4, 0, none⟩) p4 (L.map c) (by rw [hML]; exact hLl) w' h)
      rw [hML, plainR_ok x3, ← x1] at HPL
      have HT := Lib.hid x2
      clear hall x1 x2 x3 hO hML HP2 HO
      go_wp2_with fail
      refine (HPL.out _ HM.out).mono ?_
      rintro e w5 ⟨v5, rfl, hO5, hb5⟩
      have HO5 := Lib.hid hO5
      clear hO5
      go_wp2
      go_ret2
      exact ⟨v5, by rw [HT.out]; rfl, own_more HO5.out hz, HB.out.trans (hb5.mono hz)⟩
theorem sChange (m : Bool) (fn : FuncId) (hin : ∀ (args : Array Value) (w : World), (callFunc fn args).run Try.prog w = .ok (.enter fn args) w)
    (hfn : ∀ (a b : V) (w : World), a.Ok → b.Ok → Calls Try.prog fn #[(.agg #[.int .i64 a.cpu, .int .i64 a.mem, .int .i64 a.gpu, .int .i64 a.lic]), (.agg #[.int .i64 b.cpu, .int .i64 b.mem, .int .i64 b.gpu, .int .i64 b.lic])] w fun e w' => e = .returned (.tuple #[(.agg #[.int .i64 (outR (turnV m a b)).cpu, .int .i64 (outR (turnV m a b)).mem, .int .i64 (outR (turnV m a b)).gpu, .int .i64 (outR (turnV m a b)).lic]), .int .i64 (outE (turnV m a b))]) ∧ Below w.heap.size w w')
    (a : Option Addr) (cap : Nat) (l : List St) (hl : l.length ≤ 80000) (f t : Int) (need : V) (w : World) (HA : StAt w a cap l) :
    Calls Try.prog 31 #[.slice a l.length cap, .int .i64 f, .int .i64 t, (.agg #[.int .i64 need.cpu, .int .i64 need.mem, .int .i64 need.gpu, .int .i64 need.lic]), .func (.func fn) #[] #[]] w
      fun e w' => ∃ v, e = .returned (.tuple #[v, .int .i64 (turnE m l f t need)]) ∧ w'.ownsRow w.heap.size 34 5 v (turnR m l f t need).length (stsV (turnR m l f t need)) ∧ Below w.heap.size w w' := by
  by_cases h : ArgsOk l f t need
  · obtain ⟨b, off, ea, _⟩ := HA.row.first (List.length_pos_iff.2 h.1.1)
    subst ea
    exact sChange_in m fn hin hfn b off cap l hl f t need w HA h
  · rw [(turn_arg h).1, (turn_arg h).2]
    exact (sChange_no m fn a cap l hl f t need w HA h).mono fun e w' x => ⟨_, x.1, World.ownsRow_nil _ _ _ _, x.2⟩
theorem sub_fn (a b : V) (w : World) (ha : a.Ok) (hb : b.Ok) : Calls Try.prog 32 #[(.agg #[.int .i64 a.cpu, .int .i64 a.mem, .int .i64 a.gpu, .int .i64 a.lic]), (.agg #[.int .i64 b.cpu, .int .i64 b.mem, .int .i64 b.gpu, .int .i64 b.lic])] w fun e w' => e = .returned (.tuple #[(.agg #[.int .i64 (outR (turnV false a b)).cpu, .int .i64 (outR (turnV false a b)).mem, .int .i64 (outR (turnV false a b)).gpu, .int .i64 (outR (turnV false a b)).lic]), .int .i64 (outE (turnV false a b))]) ∧ Below w.heap.size w w' := by
  have h := sub a b w
  rw [(sub_in ⟨ha, hb⟩).1, (sub_in ⟨ha, hb⟩).2] at h
  exact h
set_option maxHeartbeats 1000000 in
theorem sTake (a : Option Addr) (cap : Nat) (l : List St) (hl : l.length ≤ 80000) (f t : Int) (need : V) (w : World) (HA : StAt w a cap l) :
    Calls Try.prog 20 #[.slice a l.length cap, .int .i64 f, .int .i64 t, (.agg #[.int .i64 need.cpu, .int .i64 need.mem, .int .i64 need.gpu, .int .i64 need.lic])] w
      fun e w' => ∃ v, e = .returned (.tuple #[v, .int .i64 (turnE false l f t need)]) ∧ w'.ownsRow w.heap.size 34 5 v (turnR false l f t need).length (stsV (turnR false l f t need)) ∧ Below w.heap.size w w' := by
  have HR := Lib.hid HA
  have HC := Lib.hid (fun w' h => sChange false 32 (fun args w => run_enter Try.func32 (by kernel_rfl) rfl args w) sub_fn a cap l hl f t need w' h)
  clear HA
  go_enter Try.func20, Try.ntmps20
  go_wp2_with fail
  have hb0 : Below w.heap.size w (w.alloc (.cells #[.int .i64 need.cpu, .int .i64 need.mem, .int .i64 need.gpu, .int .i64 need.lic] 25)) := (Below.refl _ _).alloc (Nat.le_refl _) _
  refine (HC.out _ (HR.out.later hb0)).mono ?_
  rintro e w1 ⟨v1, rfl, hO, hb1⟩
  have HO := Lib.hid hO
  clear hO
  go_wp2
  go_ret2
  exact ⟨v1, rfl, own_more HO.out hb0.size, hb0.trans (hb1.mono hb0.size)⟩
theorem add_fn (a b : V) (w : World) (ha : a.Ok) (hb : b.Ok) : Calls Try.prog 33 #[(.agg #[.int .i64 a.cpu, .int .i64 a.mem, .int .i64 a.gpu, .int .i64 a.lic]), (.agg #[.int .i64 b.cpu, .int .i64 b.mem, .int .i64 b.gpu, .int .i64 b.lic])] w fun e w' => e = .returned (.tuple #[(.agg #[.int .i64 (outR (turnV true a b)).cpu, .int .i64 (outR (turnV true a b)).mem, .int .i64 (outR (turnV true a b)).gpu, .int .i64 (outR (turnV true a b)).lic]), .int .i64 (outE (turnV true a b))]) ∧ Below w.heap.size w w' := by
  have h := add a b w
  rw [(add_in ⟨ha, hb⟩).1, (add_in ⟨ha, hb⟩).2] at h
  exact h
set_option maxHeartbeats 1000000 in
theorem sGive (a : Option Addr) (cap : Nat) (l : List St) (hl : l.length ≤ 80000) (f t : Int) (need : V) (w : World) (HA : StAt w a cap l) :
    Calls Try.prog 21 #[.slice a l.length cap, .int .i64 f, .int .i64 t, (.agg #[.int .i64 need.cpu, .int .i64 need.mem, .int .i64 need.gpu, .int .i64 need.lic])] w
      fun e w' => ∃ v, e = .returned (.tuple #[v, .int .i64 (turnE true l f t need)]) ∧ w'.ownsRow w.heap.size 34 5 v (turnR true l f t need).length (stsV (turnR true l f t need)) ∧ Below w.heap.size w w' := by
  have HR := Lib.hid HA
  have HC := Lib.hid (fun w' h => sChange true 33 (fun args w => run_enter Try.func33 (by kernel_rfl) rfl args w) add_fn a cap l hl f t need w' h)
  clear HA
  go_enter Try.func21, Try.ntmps21
  go_wp2_with fail
  have hb0 : Below w.heap.size w (w.alloc (.cells #[.int .i64 need.cpu, .int .i64 need.mem, .int .i64 need.gpu, .int .i64 need.lic] 25)) := (Below.refl _ _).alloc (Nat.le_refl _) _
  refine (HC.out _ (HR.out.later hb0)).mono ?_
  rintro e w1 ⟨v1, rfl, hO, hb1⟩
  have HO := Lib.hid hO
  clear hO
  go_wp2
  go_ret2
  exact ⟨v1, rfl, own_more HO.out hb0.size, hb0.trans (hb1.mono hb0.size)⟩
end Go.Proofs.Ytcnpppkndcgmpaa.W
