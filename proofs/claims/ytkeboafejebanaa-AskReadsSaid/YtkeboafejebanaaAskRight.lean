/-
  Contracts of ask.afterIsRight and ask.Right.
-/
import Derived.Test.YtkeboafejebanaaAskNum
import Derived.Test.YtkeboafejebanaaAskSame
namespace Go.Proofs.Ytkeboafejebanaa.W
set_option linter.unusedVariables false
set_option linter.unusedSimpArgs false
open Go.ChangeShapes Go.WideShapes Go.ChangeAt Go.RowKit

theorem af_snoc (x : List (Int × Bool)) (k : Nat) (h : k < x.length) : ((x.take (k + 1)).all fun d => okN d.1) = (((x.take k).all fun d => okN d.1) && okN (x[k]).1) := by
  rw [take_snoc x k h, List.all_append]; simp
set_option maxHeartbeats 2000000 in
theorem afterRight (a : Option Addr) (ca : Nat) (x : List (Int × Bool)) (w : World) (ha : RowAt w a (depsV x)) :
    Calls Try.prog 21 #[.slice a x.length ca] w fun e w' => e = .returned (.bool (afB x)) ∧ Below w.heap.size w w' := by
  have HN := Lib.hid isNumber
  by_cases hl : x.length ≤ 4
  · have HA := Lib.hid ha
    have HD : Hid (afB x = x.all fun d => okN d.1) := Lib.hid (by unfold afB; simp [hl])
    clear ha
    go_enter Try.func21, Try.ntmps21
    go_wp2
    go_loopw [10] (fun i wr => ∃ k : Nat, k ≤ x.length ∧ i = .int .i64 (k : Int) ∧ Hid (((x.take k).all fun d => okN d.1) = true) ∧ Below w.heap.size w wr) (fun i _ => x.length - (intOf i).toNat)
    case atStart => exact ⟨0, Nat.zero_le _, rfl, Lib.hid rfl, Below.refl _ _⟩
    case round =>
      obtain ⟨k, hk, rfl, HE, hbw⟩ := hrel
      have hz := hbw.size
      by_cases hlt : k < x.length
      · obtain ⟨b1, o1, e1, _, c1, c2⟩ := dep_at (HA.out.later hbw) hlt
        have HT := Lib.hid (af_snoc x k hlt)
        have HF : Hid (okN (x[k]).1 = false → (x.all fun d => okN d.1) = false) := Lib.hid (fun e => by
          cases h : x.all fun d => okN d.1 with
          | false => rfl
          | true => rw [List.all_eq_true.1 h _ (List.getElem_mem hlt)] at e; cases e)
        have E1 := Lib.hid e1
        clear e1
        generalize x[k] = p at c1 c2 HT HF
        obtain ⟨p1, p2⟩ := p
        simp only at c1 c2
        obtain rfl := E1.out
        have K := fun w => HN.out p1 w
        by_cases he : okN p1 = true
        · rw [he] at K
          have HT2 : Hid (((x.take (k + 1)).all fun d => okN d.1) = true) := Lib.hid (by rw [HT.out, HE.out, he]; rfl)
          have K := Lib.hid K
          clear HT HF he
          go_wp2_with fail
          refine (K.out _).mono ?_; rintro e w1 ⟨rfl, rfl⟩
          go_wp2
          go_roundw
          case rel => exact ⟨k + 1, by omega, by go_num, HT2, (by repeat' (first | exact Below.refl _ _ | assumption | exact And.left (by assumption) | refine Below.drew ?_ | refine below_drewN ?_ _ | refine Below.setCell ?_ (by first | (simp; done) | (simp; omega) | omega) _ | refine Below.alloc ?_ (by first | (simp; done) | (simp; omega) | omega) _ | refine after (by assumption) (by first | (simp; done) | (simp; omega) | omega) ?_))⟩
          case measure => simp [intOf]; omega
        · have he := Bool.eq_false_iff.2 he
          rw [he] at K
          have HF2 := Lib.hid (HF.out he)
          have K := Lib.hid K
          clear HT HF he
          go_wp2_with fail
          refine (K.out _).mono ?_; rintro e w1 ⟨rfl, rfl⟩
          go_wp2
          go_ret
          exact ⟨by rw [HD.out, HF2.out]; rfl, (by repeat' (first | exact Below.refl _ _ | assumption | exact And.left (by assumption) | refine Below.drew ?_ | refine below_drewN ?_ _ | refine Below.setCell ?_ (by first | (simp; done) | (simp; omega) | omega) _ | refine Below.alloc ?_ (by first | (simp; done) | (simp; omega) | omega) _ | refine after (by assumption) (by first | (simp; done) | (simp; omega) | omega) ?_))⟩
      · have hkl : k = x.length := by omega
        subst hkl
        have HE2 : Hid ((x.all fun d => okN d.1) = true) := Lib.hid (by have := HE.out; rwa [List.take_length] at this)
        go_wp2
        go_ret
        exact ⟨by rw [HD.out, HE2.out]; rfl, hbw⟩
  · have HD : Hid (afB x = false) := Lib.hid (by unfold afB; simp [hl])
    have h1 : ¬ ((x.length : Int) ≤ 4) := by omega
    have h2 : decide (4 < (x.length : Int)) = true := decide_eq_true (by omega)
    clear hl ha
    go_enter Try.func21, Try.ntmps21
    go_wp2
    go_ret
    exact ⟨by rw [HD.out]; rfl, Below.refl _ _⟩

theorem BoxQ.putA {w : World} {g : Nat} {q : Rq} (h : BoxQ w g q) (a : Option Addr) (c : Nat) (af : List (Int × Bool)) : BoxQ (w.setCell ⟨g, 12, none⟩ (.slice a af.length c)) g { q with aa := a, ac := c, af := af } := by
  refine ⟨(h.row.put 12 _).as ?_⟩
  rfl
theorem boxQ_row {W : World} {g : Nat} {q : Rq} (h : W.heap[g]? = some (.cells #[.int .i64 q.kind, .int .i64 q.key, .int .i64 (q.n 1), .int .i64 (q.n 2), .int .i64 (q.n 3), .int .i64 (q.n 4), .int .i64 (q.n 5), .int .i64 (q.n 6), .int .i64 (q.n 7), .int .i64 (q.n 8), .int .i64 (q.n 9), .int .i64 (q.n 10), .slice q.aa q.af.length q.ac, .int .i64 (q.n 11), .int .i64 (q.n 12), .int .i64 (q.n 13), .int .i64 (q.n 14)] 26 (0, 0))) : BoxQ W g q := ⟨h⟩
theorem zeroed_take (q : Rq) (fs : List Nat) (k : Nat) (h : k < fs.length) : zeroed q (fs.take (k + 1)) = (zeroed q (fs.take k)).set fs[k] 0 := by rw [take_snoc fs k h, zeroed_snoc]
/-- where a test ahead falls -/
theorem right_no1 (q : Rq) (w : World) (h : kindB q.kind = false) :
    Calls Try.prog 8 #[.agg #[.int .i64 q.kind, .int .i64 q.key, .int .i64 (q.n 1), .int .i64 (q.n 2), .int .i64 (q.n 3), .int .i64 (q.n 4), .int .i64 (q.n 5), .int .i64 (q.n 6), .int .i64 (q.n 7), .int .i64 (q.n 8), .int .i64 (q.n 9), .int .i64 (q.n 10), .slice q.aa q.af.length q.ac, .int .i64 (q.n 11), .int .i64 (q.n 12), .int .i64 (q.n 13), .int .i64 (q.n 14)]] w fun e w' => e = .returned (.bool false) ∧ Below w.heap.size w w' := by
  have K := fun w => isKind q.kind w
  rw [h] at K
  have HK := Lib.hid K
  clear K h
  go_enter Try.func8, Try.ntmps8
  go_wp2_with fail
  refine (HK.out _).mono ?_; rintro e w1 ⟨rfl, rfl⟩
  go_wp2
  go_ret
  exact ⟨rfl, (by repeat' (first | exact Below.refl _ _ | assumption | exact And.left (by assumption) | refine Below.drew ?_ | refine below_drewN ?_ _ | refine Below.setCell ?_ (by first | (simp; done) | (simp; omega) | omega) _ | refine Below.alloc ?_ (by first | (simp; done) | (simp; omega) | omega) _ | refine after (by assumption) (by first | (simp; done) | (simp; omega) | omega) ?_))⟩
theorem right_no2 (q : Rq) (w : World) (h : kindB q.kind = true) (h2 : keyB q.key = false) :
    Calls Try.prog 8 #[.agg #[.int .i64 q.kind, .int .i64 q.key, .int .i64 (q.n 1), .int .i64 (q.n 2), .int .i64 (q.n 3), .int .i64 (q.n 4), .int .i64 (q.n 5), .int .i64 (q.n 6), .int .i64 (q.n 7), .int .i64 (q.n 8), .int .i64 (q.n 9), .int .i64 (q.n 10), .slice q.aa q.af.length q.ac, .int .i64 (q.n 11), .int .i64 (q.n 12), .int .i64 (q.n 13), .int .i64 (q.n 14)]] w fun e w' => e = .returned (.bool false) ∧ Below w.heap.size w w' := by
  have K := fun w => isKind q.kind w
  rw [h] at K
  have HK := Lib.hid K
  have h3 := of_decide_eq_false h2
  clear K h h2
  by_cases h4 : q.key < 1
  · clear h3
    go_enter Try.func8, Try.ntmps8
    go_wp2_with fail
    refine (HK.out _).mono ?_; rintro e w1 ⟨rfl, rfl⟩
    go_wp2
    go_ret
    exact ⟨rfl, (by repeat' (first | exact Below.refl _ _ | assumption | exact And.left (by assumption) | refine Below.drew ?_ | refine below_drewN ?_ _ | refine Below.setCell ?_ (by first | (simp; done) | (simp; omega) | omega) _ | refine Below.alloc ?_ (by first | (simp; done) | (simp; omega) | omega) _ | refine after (by assumption) (by first | (simp; done) | (simp; omega) | omega) ?_))⟩
  · have h5 : 1073741824 < q.key := by omega
    clear h3
    go_enter Try.func8, Try.ntmps8
    go_wp2_with fail
    refine (HK.out _).mono ?_; rintro e w1 ⟨rfl, rfl⟩
    go_wp2
    go_ret
    exact ⟨rfl, (by repeat' (first | exact Below.refl _ _ | assumption | exact And.left (by assumption) | refine Below.drew ?_ | refine below_drewN ?_ _ | refine Below.setCell ?_ (by first | (simp; done) | (simp; omega) | omega) _ | refine Below.alloc ?_ (by first | (simp; done) | (simp; omega) | omega) _ | refine after (by assumption) (by first | (simp; done) | (simp; omega) | omega) ?_))⟩
theorem right_no3 (q : Rq) (w : World) (h : kindB q.kind = true) (h2 : keyB q.key = true) (h3 : afB q.af = false) (ha : RowAt w q.aa (depsV q.af)) :
    Calls Try.prog 8 #[.agg #[.int .i64 q.kind, .int .i64 q.key, .int .i64 (q.n 1), .int .i64 (q.n 2), .int .i64 (q.n 3), .int .i64 (q.n 4), .int .i64 (q.n 5), .int .i64 (q.n 6), .int .i64 (q.n 7), .int .i64 (q.n 8), .int .i64 (q.n 9), .int .i64 (q.n 10), .slice q.aa q.af.length q.ac, .int .i64 (q.n 11), .int .i64 (q.n 12), .int .i64 (q.n 13), .int .i64 (q.n 14)]] w fun e w' => e = .returned (.bool false) ∧ Below w.heap.size w w' := by
  have K := fun w => isKind q.kind w
  rw [h] at K
  have HK := Lib.hid K
  have K2 := fun w' hw => afterRight q.aa q.ac q.af w' hw
  rw [h3] at K2
  have HK2 := Lib.hid K2
  obtain ⟨h4, h5⟩ := of_decide_eq_true h2
  have HA := Lib.hid ha
  clear K K2 h h2 h3 ha
  go_enter Try.func8, Try.ntmps8
  go_wp2_with fail
  refine (HK.out _).mono ?_; rintro e w1 ⟨rfl, rfl⟩
  go_wp2_with fail
  refine (HK2.out _ (HA.out.alloc _)).mono ?_; rintro e w1 ⟨rfl, hb1⟩; obtain ⟨hc1, hf1⟩ := bcell hb1; have hz1 := hb1.size; (try simp at hz1); have lt_w1_0 : w.heap.size < w1.heap.size := (by omega)
  go_wp2
  go_ret
  exact ⟨rfl, (by repeat' (first | exact Below.refl _ _ | assumption | exact And.left (by assumption) | refine Below.drew ?_ | refine below_drewN ?_ _ | refine Below.setCell ?_ (by first | (simp; done) | (simp; omega) | omega) _ | refine Below.alloc ?_ (by first | (simp; done) | (simp; omega) | omega) _ | refine after (by assumption) (by first | (simp; done) | (simp; omega) | omega) ?_))⟩
set_option maxRecDepth 100000 in
set_option maxHeartbeats 3000000 in
theorem right_in (q : Rq) (hl : q.l.length = 15) (w : World) (h : kindB q.kind = true) (h2 : keyB q.key = true) (h3 : afB q.af = true) (ha : RowAt w q.aa (depsV q.af)) :
    Calls Try.prog 8 #[.agg #[.int .i64 q.kind, .int .i64 q.key, .int .i64 (q.n 1), .int .i64 (q.n 2), .int .i64 (q.n 3), .int .i64 (q.n 4), .int .i64 (q.n 5), .int .i64 (q.n 6), .int .i64 (q.n 7), .int .i64 (q.n 8), .int .i64 (q.n 9), .int .i64 (q.n 10), .slice q.aa q.af.length q.ac, .int .i64 (q.n 11), .int .i64 (q.n 12), .int .i64 (q.n 13), .int .i64 (q.n 14)]] w fun e w' => e = .returned (.bool (rightQ q)) ∧ Below w.heap.size w w' := by
  have K := fun w => isKind q.kind w
  rw [h] at K
  have HK := Lib.hid K
  have K2 := fun w' hw => afterRight q.aa q.ac q.af w' hw
  rw [h3] at K2
  have HK2 := Lib.hid K2
  have HR := Lib.hid (fun h4 af haf => right_yes_of hl h h2 h3 h4 af haf)
  have HNO := Lib.hid (fun (i : Nat) hi ho => right_no_of (q := q) (i := i) hi ho)
  have HIN := Lib.hid (fields_in q.kind)
  have HL := Lib.hid hl
  have h3' : q.af.length ≤ 4 := by unfold afB at h3; simp only [Bool.and_eq_true, decide_eq_true_eq] at h3; exact h3.1
  have HP := Lib.hid (fun g w' hc => numbers g q.kind (.inl h) w' hc)
  have HZ := Lib.hid (fun fs => zeroed_same fs q)
  obtain ⟨h4, h5⟩ := of_decide_eq_true h2
  have HA := Lib.hid ha
  have HIS := Lib.hid isNumber
  clear K K2 h h2 h3 ha hl
  go_enter Try.func8, Try.ntmps8
  go_wp2_with fail
  refine (HK.out _).mono ?_; rintro e w1 ⟨rfl, rfl⟩
  go_wp2_with fail
  have HB0 := BoxQ.new w q
  generalize hw0 : World.alloc w _ = w0 at HB0 ⊢
  have hb0 : Below w.heap.size w w0 := by rw [← hw0]; exact (by repeat' (first | exact Below.refl _ _ | assumption | exact And.left (by assumption) | refine Below.drew ?_ | refine below_drewN ?_ _ | refine Below.setCell ?_ (by first | (simp; done) | (simp; omega) | omega) _ | refine Below.alloc ?_ (by first | (simp; done) | (simp; omega) | omega) _ | refine after (by assumption) (by first | (simp; done) | (simp; omega) | omega) ?_))
  clear hw0
  have hz0 := hb0.size
  refine (HK2.out _ (HA.out.later hb0)).mono ?_; rintro e w1 ⟨rfl, hb1⟩
  have HB1 := Lib.hid (HB0.on hb1)
  have hz1 := hb1.size
  have hlt1 := HB1.out.lt
  have hW1 : Below w.heap.size w w1 := hb0.trans (hb1.mono hz0)
  clear HB0
  go_wp2_with (first
    | (refine wpList_store_row rfl 26 (.tmp 3) (.tmp 26) rfl w1.heap.size _ rfl rfl 26 #[.int .i64 0, .int .i64 0, .int .i64 0, .int .i64 0, .int .i64 0, .int .i64 0, .int .i64 0, .int .i64 0, .int .i64 0, .int .i64 0, .int .i64 0, .int .i64 0, .slice none 0 0, .int .i64 0, .int .i64 0, .int .i64 0, .int .i64 0] (by repeat (first | (refine heap_top (by first | omega | (simp only [World.size_alloc]; done) | (simp only [World.size_alloc]; omega))) | refine heap_up ?_)) (by kernel_rfl) (by simp) (by simp [Value.oneCell']) ?_
       generalize hw2 : World.setRow _ _ _ = w2
       have hb2 : Below w1.heap.size w1 w2 := by rw [← hw2]; exact below_setRow ((by repeat' (first | exact Below.refl _ _ | assumption | exact And.left (by assumption) | refine Below.drew ?_ | refine below_drewN ?_ _ | refine Below.setCell ?_ (by first | (simp; done) | (simp; omega) | omega) _ | refine Below.alloc ?_ (by first | (simp; done) | (simp; omega) | omega) _ | refine after (by assumption) (by first | (simp; done) | (simp; omega) | omega) ?_))) (Nat.le_refl _) _
       have hg2 : w2.heap[w1.heap.size]? = some (.cells #[.int .i64 q.kind, .int .i64 q.key, .int .i64 (q.n 1), .int .i64 (q.n 2), .int .i64 (q.n 3), .int .i64 (q.n 4), .int .i64 (q.n 5), .int .i64 (q.n 6), .int .i64 (q.n 7), .int .i64 (q.n 8), .int .i64 (q.n 9), .int .i64 (q.n 10), .slice q.aa q.af.length q.ac, .int .i64 (q.n 11), .int .i64 (q.n 12), .int .i64 (q.n 13), .int .i64 (q.n 14)] 26 (0, 0)) := by rw [← hw2]; exact setRow_heap _ _ _ _ _ _ (by repeat (first | (refine heap_top (by first | omega | (simp only [World.size_alloc]; done) | (simp only [World.size_alloc]; omega))) | refine heap_up ?_))
       have HX2 := Lib.hid (boxQ_row hg2)
       have hzl2 : w1.heap.size < w2.heap.size := HX2.out.lt
       clear hw2 hg2)
    | refine wpList_load_q (q := q) rfl (.tmp 1) rfl rfl HB1.out ?_)
  have HB2 := Lib.hid (HB1.out.on hb2)
  have hW2 : Below w.heap.size w w2 := hW1.trans (hb2.mono hW1.size)
  refine (HP.out w1.heap.size w2 HX2.out.c0).mono ?_; rintro e w3 ⟨v3, rfl, hown3, hb3⟩
  obtain ⟨A3, c3, rfl, hc3, hrow3, hsome3⟩ := own_form hown3
  have HB3 := Lib.hid (HB2.out.on hb3)
  have HX3 := Lib.hid (HX2.out.on hb3)
  have HR3 := Lib.hid hrow3
  have HS3 : Hid (∀ b off, A3 = some ⟨b, off, none⟩ → w2.heap.size ≤ b) := Lib.hid (fun b off e => by
    rcases hsome3 with ⟨h, _⟩ | ⟨g, h, hg, _⟩
    · rw [h] at e; cases e
    · rw [h] at e; injection e with e; injection e with e1 _; omega)
  have hW3 : Below w.heap.size w w3 := hW2.trans (hb3.mono hW2.size)
  have hz3 := hb3.size
  have hWz := hW3.size
  clear hown3 hrow3 hsome3 HB1 HB2 HX2
  obtain ⟨fs, hfs⟩ : ∃ fs, fs = fieldsN q.kind := ⟨_, rfl⟩
  rw [← hfs] at HR3 hc3 ⊢
  have HF := Lib.hid hfs
  have hfl : fs.length ≤ 8 := by rw [hfs]; exact fields_len _
  clear hfs
  go_wp2_with fail
  go_loopw [29] (fun v29 wr => ∃ k : Nat, k ≤ fs.length ∧ v29 = .int .i64 (k : Int) ∧ Hid (∀ i ∈ fs.take k, okN (q.n i) = true) ∧ Hid (BoxQ wr w1.heap.size (zeroed q (fs.take k))) ∧ Hid (w3.grownBy wr (some w1.heap.size)) ∧ Below w.heap.size w wr) (fun v29 _ => fs.length - (intOf v29).toNat)
  case atStart => exact ⟨0, Nat.zero_le _, rfl, Lib.hid (fun i hi => by cases hi), by simpa [zeroed] using HX3, Lib.hid (grown_refl _ _), hW3⟩
  case round =>
    obtain ⟨k, hk, rfl, HE, HX, HG, hbw⟩ := hrel
    have hz := hbw.size
    have hgz := HG.out.size
    have HRr : Hid (RowAt wr A3 (ptrsV w1.heap.size fs)) := Lib.hid (HR3.out.grown HG.out (fun b off e _ x => by have := HS3.out b off e; injection x with x; omega))
    have HBr : Hid (BoxQ wr w.heap.size q) := Lib.hid (HB3.out.grown HG.out (fun x => by injection x with x; omega))
    by_cases hlt : k < fs.length
    · obtain ⟨b1, o1, e1, hbl1, hcs⟩ := HRr.out.row (by rw [ptrs_len]; omega)
      have c1 := hcs k _ (ptrs_at w1.heap.size fs k hlt)
      have HZT := Lib.hid (zeroed_take q fs k hlt)
      have HTK := Lib.hid (take_snoc fs k hlt)
      have hmem : fs[k] ∈ fieldsN q.kind := by rw [← HF.out]; exact List.getElem_mem hlt
      have hin := HIN.out _ hmem
      have HM := Lib.hid hmem
      have E1 := Lib.hid e1
      clear e1 hcs hmem
      generalize fs[k] = i at c1 HZT HTK hin HM
      have hzs := HZ.out (fs.take k)
      have d1 := HX.out.num hin.1 hin.2
      have d2 := HX.out.thaw (cix i)
      have hni : (zeroed q (fs.take k)).n i = q.n i ∨ (zeroed q (fs.take k)).n i = 0 := by
        rw [zeroed_n (fs.take k) q i HL.out (fun j hj => by
          have hj' : j ∈ fieldsN q.kind := by rw [← HF.out]; exact List.mem_of_mem_take hj
          have := HIN.out j hj'; omega)]
        split
        · exact .inr rfl
        · exact .inl rfl
      have HP2 : Hid (BoxQ (wr.setCell ⟨w1.heap.size, cix i, none⟩ (.int .i64 0)) w1.heap.size (zeroed q (fs.take (k + 1)))) := Lib.hid (by
        rw [HZT.out]
        exact HX.out.put (by rw [hzs.2.2.2.2.2]; exact HL.out) hin.1 hin.2 0)
      have hnn : i ∉ fs.take k → (zeroed q (fs.take k)).n i = q.n i := fun hno => by
        rw [zeroed_n (fs.take k) q i HL.out (fun j hj => by
          have hj' : j ∈ fieldsN q.kind := by rw [← HF.out]; exact List.mem_of_mem_take hj
          have := HIN.out j hj'; omega), if_neg hno]
      have HOK : Hid (okN ((zeroed q (fs.take k)).n i) = okN (q.n i)) := Lib.hid (by
        by_cases hm : i ∈ fs.take k
        · rcases hni with e | e
          · rw [e]
          · rw [e, HE.out i hm]; rfl
        · rw [hnn hm])
      clear hni hnn hzs HX
      have K := fun w => HIS.out ((zeroed q (fs.take k)).n i) w
      rw [HOK.out] at K
      generalize (zeroed q (fs.take k)).n i = x at d1 K HOK
      generalize cix i = c at c1 d1 d2 HP2
      obtain rfl := E1.out
      by_cases ho : okN (q.n i) = true
      · rw [ho] at K
        have HK3 := Lib.hid K
        have HE2 : Hid (∀ j ∈ fs.take (k + 1), okN (q.n j) = true) := Lib.hid (fun j hj => by
          rw [HTK.out] at hj
          rcases List.mem_append.1 hj with hj | hj
          · exact HE.out j hj
          · rw [List.mem_singleton.1 hj]; exact ho)
        have HG2 : Hid (w3.grownBy (wr.setCell ⟨w1.heap.size, c, none⟩ (.int .i64 0)) (some w1.heap.size)) := Lib.hid (grown_trans HG.out (grown_put c _))
        have hbw2 : Below w.heap.size w (wr.setCell ⟨w1.heap.size, c, none⟩ (.int .i64 0)) := hbw.setCell (by simp; omega) _
        have hgl : w1.heap.size < wr.heap.size := by omega
        clear K ho HOK HE
        go_wp2_with fail
        refine (HK3.out _).mono ?_; rintro e w4 ⟨rfl, rfl⟩
        go_wp2_with fail
        go_roundw
        case rel => exact ⟨k + 1, by omega, by go_num, HE2, HP2, HG2, hbw2⟩
        case measure => simp [intOf]; omega
      · have ho := Bool.eq_false_iff.2 ho
        rw [ho] at K
        have HK3 := Lib.hid K
        have HF3 : Hid (rightQ q = false) := Lib.hid (HNO.out i HM.out ho)
        clear K ho HOK
        go_wp2_with fail
        refine (HK3.out _).mono ?_; rintro e w4 ⟨rfl, rfl⟩
        go_wp2
        go_ret
        exact ⟨by rw [HF3.out]; rfl, hbw⟩
    · have hkl : k = fs.length := by omega
      subst hkl
      have hall : ∀ i ∈ fieldsN q.kind, okN (q.n i) = true := fun i hi => HE.out i (by rw [List.take_length, HF.out]; exact hi)
      have HXE : Hid (BoxQ wr w1.heap.size (zeroed q (fieldsN q.kind))) := Lib.hid (by have := HX.out; rwa [List.take_length, HF.out] at this)
      have HRQ := Lib.hid (fun af haf => HR.out hall af haf)
      have hzs := HZ.out (fieldsN q.kind)
      have HAr := Lib.hid (HA.out.later hbw)
      clear hall HX HE
      have k0 := HBr.out.c0
      have k1 := HBr.out.c1
      have HZS := Lib.hid hzs
      clear hzs
      generalize zeroed q (fieldsN q.kind) = z at HXE HRQ HZS
      by_cases he : q.kind = 1
      · have HRQ2 : Hid (rightQ q = sameQ { z with aa := none, ac := 0, af := [] } (bareQ 1 q.key)) := Lib.hid (by rw [← he]; exact HRQ.out [] (by rw [if_pos he]))
        have HX2 : Hid (BoxQ (wr.setCell ⟨w1.heap.size, 12, none⟩ (.slice none 0 0)) w1.heap.size { z with aa := none, ac := 0, af := [] }) := Lib.hid (HXE.out.putA none 0 [])
        have t0 := HXE.out.c12
        have t1 := HXE.out.thaw 12
        have hb2 : Below w.heap.size w (wr.setCell ⟨w1.heap.size, 12, none⟩ (.slice none 0 0)) := hbw.setCell (by simp; omega) _
        have HSa := Lib.hid (fun w' => askSame1 { z with aa := none, ac := 0, af := [] } (bareQ 1 q.key) (by simp) (by simp [bareQ]) w' (.inl rfl) (.inl rfl))
        have m0 : (wr.setCell ⟨w1.heap.size, 12, none⟩ (.slice none 0 0)).cell? ⟨w.heap.size, 0, none⟩ = some (.int .i64 1) := by rw [← he]; rw [World.cell?_setCell_far _ _ _ _ (by simp; omega)]; exact k0
        have m1 : (wr.setCell ⟨w1.heap.size, 12, none⟩ (.slice none 0 0)).cell? ⟨w.heap.size, 1, none⟩ = some (.int .i64 q.key) := by rw [World.cell?_setCell_far _ _ _ _ (by simp; omega)]; exact k1
        rw [he] at k0
        clear HRQ HXE HBr HZS
        have HEE := Lib.hid he
        clear he
        generalize ({ z with aa := none, ac := 0, af := [] } : Rq) = z2 at HX2 HSa HRQ2
        go_wp2_with (with_reducible refine wpList_load_q (q := z2) rfl (.tmp 3) rfl rfl HX2.out ?_)
        have K := HSa.out (wr.setCell ⟨w1.heap.size, 12, none⟩ (.slice none 0 0))
        refine K.mono ?_; rintro e w6 ⟨rfl, hb6⟩
        clear K
        go_wp2
        go_ret
        exact ⟨by rw [HRQ2.out]; rfl, hb2.trans (hb6.mono hb2.size)⟩
      · have hzf := HZS.out.2.2.2.2.1
        have hza := HZS.out.2.2.1
        have HRQ2 : Hid (rightQ q = sameQ z (bareQ q.kind q.key)) := Lib.hid (by
          rw [HRQ.out q.af (by rw [if_neg he])]
          rw [← hzf])
        have HSa := Lib.hid (fun w' hr => askSame1 z (bareQ q.kind q.key) (by rw [hzf]; omega) (by simp [bareQ]) w' hr (.inl rfl))
        have HAz : Hid (RowAt wr z.aa (depsV z.af)) := Lib.hid (by rw [hza, hzf]; exact HAr.out)
        have hkk : (q.kind == 1) = false := by simpa using he
        clear HRQ HBr HZS hzf hza HAr he
        go_wp2_with (with_reducible refine wpList_load_q (q := z) rfl (.tmp 3) rfl rfl HXE.out ?_)
        have K := HSa.out wr HAz.out
        refine K.mono ?_; rintro e w6 ⟨rfl, hb6⟩
        clear K
        go_wp2
        go_ret
        exact ⟨by rw [HRQ2.out]; rfl, hbw.trans (hb6.mono hbw.size)⟩
/-- is a request right? -/
theorem askRight (q : Rq) (hl : q.l.length = 15) (w : World) (ha : RowAt w q.aa (depsV q.af)) :
    Calls Try.prog 8 #[.agg #[.int .i64 q.kind, .int .i64 q.key, .int .i64 (q.n 1), .int .i64 (q.n 2), .int .i64 (q.n 3), .int .i64 (q.n 4), .int .i64 (q.n 5), .int .i64 (q.n 6), .int .i64 (q.n 7), .int .i64 (q.n 8), .int .i64 (q.n 9), .int .i64 (q.n 10), .slice q.aa q.af.length q.ac, .int .i64 (q.n 11), .int .i64 (q.n 12), .int .i64 (q.n 13), .int .i64 (q.n 14)]] w fun e w' => e = .returned (.bool (rightQ q)) ∧ Below w.heap.size w w' := by
  have hno : kindB q.kind = false ∨ keyB q.key = false ∨ afB q.af = false → rightQ q = false := by
    intro h
    unfold rightQ
    rcases h with h | h | h <;> simp [h]
  cases h : kindB q.kind with
  | false => rw [hno (.inl h)]; exact right_no1 q w h
  | true =>
    cases h2 : keyB q.key with
    | false => rw [hno (.inr (.inl h2))]; exact right_no2 q w h h2
    | true =>
      cases h3 : afB q.af with
      | false => rw [hno (.inr (.inr h3))]; exact right_no3 q w h h2 h3 ha
      | true => exact right_in q hl w h h2 h3 ha
end Go.Proofs.Ytkeboafejebanaa.W
