/-
  Contract of the document's own Right (layer 8).
-/
import Derived.Test.YtkeboafejebanaaRefAsk
import Derived.Test.YtkeboafejebanaaCodecRef
namespace Go.Proofs.Ytkeboafejebanaa.W
set_option linter.unusedVariables false
set_option linter.unusedSimpArgs false
open Go.ChangeShapes Go.WideShapes Go.ChangeAt Go.RowKit

theorem idx_at (k : Int) (j : Nat) (h : j < (fieldsN k).length) : (vals (idxL k))[j]? = some (.int .i64 (((fieldsN k)[j] : Nat) : Int)) := by simp [vals, idxL, h]
theorem rrightN (n : Int) (w : World) : Calls Try.prog 25 #[.int .i64 n] w fun e w' => e = .returned (.bool (okN n)) ∧ w = w' := by
  unfold okN
  by_cases h : 0 ≤ n ∧ n ≤ 281474976710656
  · rw [decide_eq_true h]
    exact (rright_yes n h w).mono fun e w' h => ⟨h.1, h.2.symm⟩
  · rw [decide_eq_false h]
    exact (rright_no n h w).mono fun e w' h => ⟨h.1, h.2.symm⟩
theorem mem_snoc_dec (fs : List Nat) (k i : Nat) (h : k < fs.length) : decide (i ∈ fs.take (k + 1)) = (decide (i ∈ fs.take k) || decide (fs[k] = i)) := by
  rw [take_snoc fs k h, Bool.eq_iff_iff]
  simp only [decide_eq_true_eq, List.mem_append, List.mem_singleton, Bool.or_eq_true]
  constructor
  · rintro (h | h)
    · exact .inl h
    · exact .inr h.symm
  · rintro (h | h)
    · exact .inl h
    · exact .inr h.symm
theorem rr_no1 (q : Rq) (w : World) (h : kindB q.kind = false) :
    Calls Try.prog 9 #[.agg #[.int .i64 q.kind, .int .i64 q.key, .int .i64 (q.n 1), .int .i64 (q.n 2), .int .i64 (q.n 3), .int .i64 (q.n 4), .int .i64 (q.n 5), .int .i64 (q.n 6), .int .i64 (q.n 7), .int .i64 (q.n 8), .int .i64 (q.n 9), .int .i64 (q.n 10), .slice q.aa q.af.length q.ac, .int .i64 (q.n 11), .int .i64 (q.n 12), .int .i64 (q.n 13), .int .i64 (q.n 14)]] w fun e w' => e = .returned (.bool false) ∧ Below w.heap.size w w' := by
  have h' := of_decide_eq_false h
  by_cases h1 : q.kind < 1
  · clear h h'
    go_enter Try.func9, Try.ntmps9
    go_wp2
    go_ret
    exact ⟨rfl, (by repeat' (first | exact Below.refl _ _ | assumption | exact And.left (by assumption) | refine Below.drew ?_ | refine below_drewN ?_ _ | refine Below.setCell ?_ (by first | (simp; done) | (simp; omega) | omega) _ | refine Below.alloc ?_ (by first | (simp; done) | (simp; omega) | omega) _ | refine after (by assumption) (by first | (simp; done) | (simp; omega) | omega) ?_))⟩
  · have h2 : 12 < q.kind := by omega
    clear h h'
    go_enter Try.func9, Try.ntmps9
    go_wp2
    go_ret
    exact ⟨rfl, (by repeat' (first | exact Below.refl _ _ | assumption | exact And.left (by assumption) | refine Below.drew ?_ | refine below_drewN ?_ _ | refine Below.setCell ?_ (by first | (simp; done) | (simp; omega) | omega) _ | refine Below.alloc ?_ (by first | (simp; done) | (simp; omega) | omega) _ | refine after (by assumption) (by first | (simp; done) | (simp; omega) | omega) ?_))⟩
theorem rr_no2 (q : Rq) (w : World) (h : kindB q.kind = true) (hk : keyB q.key = false) :
    Calls Try.prog 9 #[.agg #[.int .i64 q.kind, .int .i64 q.key, .int .i64 (q.n 1), .int .i64 (q.n 2), .int .i64 (q.n 3), .int .i64 (q.n 4), .int .i64 (q.n 5), .int .i64 (q.n 6), .int .i64 (q.n 7), .int .i64 (q.n 8), .int .i64 (q.n 9), .int .i64 (q.n 10), .slice q.aa q.af.length q.ac, .int .i64 (q.n 11), .int .i64 (q.n 12), .int .i64 (q.n 13), .int .i64 (q.n 14)]] w fun e w' => e = .returned (.bool false) ∧ Below w.heap.size w w' := by
  obtain ⟨h1, h2⟩ := of_decide_eq_true h
  have h' := of_decide_eq_false hk
  by_cases h3 : q.key < 1
  · clear h hk h'
    go_enter Try.func9, Try.ntmps9
    go_wp2
    go_ret
    exact ⟨rfl, (by repeat' (first | exact Below.refl _ _ | assumption | exact And.left (by assumption) | refine Below.drew ?_ | refine below_drewN ?_ _ | refine Below.setCell ?_ (by first | (simp; done) | (simp; omega) | omega) _ | refine Below.alloc ?_ (by first | (simp; done) | (simp; omega) | omega) _ | refine after (by assumption) (by first | (simp; done) | (simp; omega) | omega) ?_))⟩
  · have h4 : 1073741824 < q.key := by omega
    clear h hk h'
    go_enter Try.func9, Try.ntmps9
    go_wp2
    go_ret
    exact ⟨rfl, (by repeat' (first | exact Below.refl _ _ | assumption | exact And.left (by assumption) | refine Below.drew ?_ | refine below_drewN ?_ _ | refine Below.setCell ?_ (by first | (simp; done) | (simp; omega) | omega) _ | refine Below.alloc ?_ (by first | (simp; done) | (simp; omega) | omega) _ | refine after (by assumption) (by first | (simp; done) | (simp; omega) | omega) ?_))⟩
theorem rr_no3 (q : Rq) (w : World) (h : kindB q.kind = true) (hk : keyB q.key = true) (h5 : 4 < q.af.length ∨ (¬ q.kind = 1 ∧ 0 < q.af.length)) :
    Calls Try.prog 9 #[.agg #[.int .i64 q.kind, .int .i64 q.key, .int .i64 (q.n 1), .int .i64 (q.n 2), .int .i64 (q.n 3), .int .i64 (q.n 4), .int .i64 (q.n 5), .int .i64 (q.n 6), .int .i64 (q.n 7), .int .i64 (q.n 8), .int .i64 (q.n 9), .int .i64 (q.n 10), .slice q.aa q.af.length q.ac, .int .i64 (q.n 11), .int .i64 (q.n 12), .int .i64 (q.n 13), .int .i64 (q.n 14)]] w fun e w' => e = .returned (.bool false) ∧ Below w.heap.size w w' := by
  obtain ⟨h1, h2⟩ := of_decide_eq_true h
  obtain ⟨h3, h4⟩ := of_decide_eq_true hk
  by_cases h6 : 4 < q.af.length
  · have d1 : decide ((4 : Int) < (q.af.length : Int)) = true := decide_eq_true (by omega)
    clear h hk h5 h6
    go_enter Try.func9, Try.ntmps9
    go_wp2
    go_ret
    exact ⟨rfl, (by repeat' (first | exact Below.refl _ _ | assumption | exact And.left (by assumption) | refine Below.drew ?_ | refine below_drewN ?_ _ | refine Below.setCell ?_ (by first | (simp; done) | (simp; omega) | omega) _ | refine Below.alloc ?_ (by first | (simp; done) | (simp; omega) | omega) _ | refine after (by assumption) (by first | (simp; done) | (simp; omega) | omega) ?_))⟩
  · obtain ⟨h7, h8⟩ := h5.resolve_left h6
    have d1 : decide ((4 : Int) < (q.af.length : Int)) = false := decide_eq_false (by omega)
    have d2 : decide ((0 : Int) < (q.af.length : Int)) = true := decide_eq_true (by omega)
    have d3 : (q.kind == 1) = false := by simpa using h7
    have d4 : (q.kind != 1) = true := by simpa using h7
    clear h hk h6 h7 h8
    go_enter Try.func9, Try.ntmps9
    go_wp2
    go_ret
    exact ⟨rfl, (by repeat' (first | exact Below.refl _ _ | assumption | exact And.left (by assumption) | refine Below.drew ?_ | refine below_drewN ?_ _ | refine Below.setCell ?_ (by first | (simp; done) | (simp; omega) | omega) _ | refine Below.alloc ?_ (by first | (simp; done) | (simp; omega) | omega) _ | refine after (by assumption) (by first | (simp; done) | (simp; omega) | omega) ?_))⟩
set_option maxRecDepth 100000 in
set_option maxHeartbeats 2000000 in
theorem rr_in1 (q : Rq) (w : World) (ha : RowAt w q.aa (depsV q.af)) (h : kindB q.kind = true) (hk : keyB q.key = true) (h5 : q.af.length ≤ 4) (h6 : q.kind = 1) :
    Calls Try.prog 9 #[.agg #[.int .i64 q.kind, .int .i64 q.key, .int .i64 (q.n 1), .int .i64 (q.n 2), .int .i64 (q.n 3), .int .i64 (q.n 4), .int .i64 (q.n 5), .int .i64 (q.n 6), .int .i64 (q.n 7), .int .i64 (q.n 8), .int .i64 (q.n 9), .int .i64 (q.n 10), .slice q.aa q.af.length q.ac, .int .i64 (q.n 11), .int .i64 (q.n 12), .int .i64 (q.n 13), .int .i64 (q.n 14)]] w fun e w' => e = .returned (.bool (numsTo q 14 && q.af.all fun d => okN d.1)) ∧ Below w.heap.size w w' := by
  obtain ⟨h1, h2⟩ := of_decide_eq_true h
  obtain ⟨h3, h4⟩ := of_decide_eq_true hk
  have HA := Lib.hid ha
  have HRA := Lib.hid (fun w' => rall q w')
  have HRF := Lib.hid (fun w' => rfields q.kind w')
  have HRN := Lib.hid rrightN
  have HIX := Lib.hid (idx_at q.kind)
  have HAL := Lib.hid (allL_at q)
  have HNS := Lib.hid (numsTo_succ q)
  have HNA : Hid (∀ i, 1 ≤ i → i ≤ 14 → mineB q i = false → numsTo q 14 = false) := Lib.hid (fun i a b c => by
    cases e : numsTo q 14 with
    | false => rfl
    | true => rw [numsTo_at e i a b] at c; cases c)
  have HMB : Hid (∀ i, mineB q i = if i ∈ fieldsN q.kind then okN (q.n i) else decide (q.n i = 0)) := Lib.hid (fun i => rfl)
  have hfl := fields_len q.kind
  have d1 : decide ((4 : Int) < (q.af.length : Int)) = false := decide_eq_false (by omega)
  have d2 : (q.kind == 1) = true := by simpa using h6
  have d4 : (q.kind != 1) = false := by simpa using h6
  clear h hk ha h6
  obtain ⟨fs, hfs⟩ : ∃ fs, fs = fieldsN q.kind := ⟨_, rfl⟩
  rw [← hfs] at HRF HMB hfl
  have HIX2 : Hid (∀ j (h : j < fs.length), (vals (idxL q.kind))[j]? = some (.int .i64 ((fs[j] : Nat) : Int))) := Lib.hid (by subst hfs; exact HIX.out)
  clear HIX hfs
  generalize idxL q.kind = ix at HRF HIX2
  generalize allL q = al at HRA HAL
  go_enter Try.func9, Try.ntmps9
  go_wp2_with (with_reducible refine wpList_load_q (q := q) rfl (.tmp 1) rfl rfl (BoxQ.new w q) ?_)
  have HB0 := BoxQ.new w q
  generalize hw0 : World.alloc w _ = w0 at HB0 ⊢
  have hb0 : Below w.heap.size w w0 := by rw [← hw0]; exact (by repeat' (first | exact Below.refl _ _ | assumption | exact And.left (by assumption) | refine Below.drew ?_ | refine below_drewN ?_ _ | refine Below.setCell ?_ (by first | (simp; done) | (simp; omega) | omega) _ | refine Below.alloc ?_ (by first | (simp; done) | (simp; omega) | omega) _ | refine after (by assumption) (by first | (simp; done) | (simp; omega) | omega) ?_))
  have hz0 := hb0.size
  clear hw0
  refine (HRA.out w0).mono ?_; rintro e w1 ⟨v1, rfl, hown1, hb1⟩
  obtain ⟨A1, c1, rfl, _, hrow1, _⟩ := own_form hown1
  have HB1 := Lib.hid (HB0.on hb1)
  have HR1 := Lib.hid hrow1
  have hz1 := hb1.size
  have k0 := HB1.out.c0
  clear hown1 hrow1 HB0
  go_wp2_with fail
  refine (HRF.out w1).mono ?_; rintro e w2 ⟨v2, rfl, hown2, hb2⟩
  obtain ⟨A2, c2, rfl, _, hrow2, _⟩ := own_form hown2
  have HB2 := Lib.hid (HB1.out.on hb2)
  have HR2 := Lib.hid hrow2
  have HR12 := Lib.hid (HR1.out.later hb2)
  have hz2 := hb2.size
  have hW : Below w.heap.size w w2 := (hb0.trans (hb1.mono hz0)).trans (hb2.mono (by omega))
  have HA2 := Lib.hid (HA.out.later hW)
  have e12 := HB2.out.c12
  clear hown2 hrow2 HB1 HR1 k0 hb0 hb1 hb2
  go_wp2_with fail
  go_loop [5] (fun v5 => ∃ i : Nat, i ≤ 14 ∧ v5 = .int .i64 ((i : Int) + 1) ∧ Hid (numsTo q i = true)) (fun v5 => 15 - (intOf v5).toNat)
  case atStart => exact ⟨0, by omega, rfl, Lib.hid rfl⟩
  case round =>
    obtain ⟨i, hi, rfl, HE⟩ := hrel
    by_cases hlt : i < 14
    · have dlt : decide ((i : Int) + 1 < 15) = true := decide_eq_true (by omega)
      have HNX := Lib.hid (HNS.out i)
      have HMX := Lib.hid (HMB.out (i + 1))
      have HNX2 := Lib.hid (HNA.out (i + 1) (by omega) (by omega))
      obtain ⟨bx, ox, ex, _, hcx⟩ := HR12.out.row (by rw [vals_len]; have := HAL.out 14 (by omega) (by omega); rcases Nat.lt_or_ge 0 al.length with h | h; exact h; rw [List.getElem?_eq_none (by rw [vals_len]; omega)] at this; cases this)
      have cx := hcx (i + 1) _ (HAL.out (i + 1) (by omega) (by omega))
      have EX := Lib.hid ex
      clear hcx ex
      generalize q.n (i + 1) = x at cx HMX
      obtain rfl := EX.out
      go_wp2_with fail
      go_loop [6, 7] (fun v6 v7 => ∃ k : Nat, k ≤ fs.length ∧ v7 = .int .i64 (k : Int) ∧ v6 = .bool (decide (i + 1 ∈ fs.take k))) (fun _ v7 => fs.length - (intOf v7).toNat)
      case atStart => exact ⟨0, Nat.zero_le _, rfl, by simp⟩
      case round =>
        obtain ⟨k, hk, rfl, rfl⟩ := hrel
        by_cases hlk : k < fs.length
        · have hms := mem_snoc_dec fs k (i + 1) hlk
          obtain ⟨by', oy, ey, _, hcy⟩ := HR2.out.row (by rw [vals_len]; have := HIX2.out 0 (by omega); rcases Nat.lt_or_ge 0 ix.length with h | h; exact h; rw [List.getElem?_eq_none (by rw [vals_len]; omega)] at this; cases this)
          have cy := hcy k _ (HIX2.out k hlk)
          have EY := Lib.hid ey
          clear hcy ey
          generalize fs[k] = y at cy hms
          generalize decide (i + 1 ∈ fs.take k) = m0 at hms ⊢
          have hde : ((y : Int) == (i : Int) + 1) = decide (y = i + 1) := by
            rw [Bool.eq_iff_iff]; simp; omega
          generalize decide (y = i + 1) = m1 at hms hde
          have HMS := Lib.hid hms
          clear hms
          obtain rfl := EY.out
          cases m0
          all_goals
            go_wp2_with fail
            go_round
            case rel => exact ⟨k + 1, by omega, by go_num, by rw [HMS.out]; rfl⟩
            case measure => simp [intOf]; omega
        · have hkl : k = fs.length := by omega
          subst hkl
          rw [List.take_length]
          have KR := fun w => HRN.out x w
          by_cases hm : i + 1 ∈ fs
          · rw [decide_eq_true hm]
            have HMX2 : Hid (mineB q (i + 1) = okN x) := Lib.hid (by rw [HMX.out, if_pos hm])
            clear hm HMX
            cases ho : okN x with
            | true =>
              rw [ho] at KR
              have KR := Lib.hid KR
              have HE2 : Hid (numsTo q (i + 1) = true) := Lib.hid (by rw [HNX.out, HE.out, HMX2.out, ho]; rfl)
              clear ho
              go_wp2_with fail
              refine (KR.out _).mono ?_; rintro e w5 ⟨rfl, rfl⟩
              go_wp2
              go_round
              case rel => exact ⟨i + 1, by omega, by go_num, HE2⟩
              case measure => simp [intOf]; omega
            | false =>
              rw [ho] at KR
              have KR := Lib.hid KR
              have HF : Hid (numsTo q 14 = false) := Lib.hid (HNX2.out (by rw [HMX2.out, ho]))
              clear ho
              go_wp2_with fail
              refine (KR.out _).mono ?_; rintro e w5 ⟨rfl, rfl⟩
              go_wp2
              go_ret
              exact ⟨by rw [HF.out]; rfl, hW⟩
          · rw [decide_eq_false hm]
            have HMX2 : Hid (mineB q (i + 1) = decide (x = 0)) := Lib.hid (by rw [HMX.out, if_neg hm])
            clear hm HMX KR
            by_cases hx : x = 0
            · have HE2 : Hid (numsTo q (i + 1) = true) := Lib.hid (by rw [HNX.out, HE.out, HMX2.out, hx]; rfl)
              subst hx
              go_wp2
              go_round
              case rel => exact ⟨i + 1, by omega, by go_num, HE2⟩
              case measure => simp [intOf]; omega
            · have HF : Hid (numsTo q 14 = false) := Lib.hid (HNX2.out (by rw [HMX2.out]; exact decide_eq_false hx))
              have q1 : (x == 0) = false := by simpa using hx
              have q2 : (x != 0) = true := by simpa using hx
              clear hx
              go_wp2
              go_ret
              exact ⟨by rw [HF.out]; rfl, hW⟩
    · have hi14 : i = 14 := by omega
      subst hi14
      have HN14 : Hid (numsTo q 14 = true) := HE
      go_wp2_with fail
      go_loop [8] (fun v8 => ∃ k : Nat, k ≤ q.af.length ∧ v8 = .int .i64 (k : Int) ∧ Hid (((q.af.take k).all fun d => okN d.1) = true)) (fun v8 => q.af.length - (intOf v8).toNat)
      case atStart => exact ⟨0, Nat.zero_le _, rfl, Lib.hid rfl⟩
      case round =>
        obtain ⟨k, hk, rfl, HEk⟩ := hrel
        by_cases hlk : k < q.af.length
        · obtain ⟨b1, o1, e1, _, u1, u2⟩ := dep_at HA2.out hlk
          have HT := Lib.hid (af_snoc q.af k hlk)
          have HF : Hid (okN (q.af[k]).1 = false → (q.af.all fun d => okN d.1) = false) := Lib.hid (fun e => by
            cases h : q.af.all fun d => okN d.1 with
            | false => rfl
            | true => rw [List.all_eq_true.1 h _ (List.getElem_mem hlk)] at e; cases e)
          have E1 := Lib.hid e1
          clear e1
          generalize q.af[k] = p at u1 u2 HT HF
          obtain ⟨p1, p2⟩ := p
          simp only at u1 u2
          rw [E1.out] at e12
          have KR := fun w => HRN.out p1 w
          cases ho : okN p1 with
          | true =>
            rw [ho] at KR
            have KR := Lib.hid KR
            have HT2 : Hid (((q.af.take (k + 1)).all fun d => okN d.1) = true) := Lib.hid (by rw [HT.out, HEk.out, ho]; rfl)
            clear ho HT HF
            go_wp2_with fail
            refine (KR.out _).mono ?_; rintro e w5 ⟨rfl, rfl⟩
            go_wp2
            go_round
            case rel => exact ⟨k + 1, by omega, by go_num, HT2⟩
            case measure => simp [intOf]; omega
          | false =>
            rw [ho] at KR
            have KR := Lib.hid KR
            have HF2 := Lib.hid (HF.out ho)
            clear ho HT HF
            go_wp2_with fail
            refine (KR.out _).mono ?_; rintro e w5 ⟨rfl, rfl⟩
            go_wp2
            go_ret
            exact ⟨by rw [HN14.out, HF2.out]; rfl, hW⟩
        · have hkl : k = q.af.length := by omega
          subst hkl
          have HE3 : Hid ((q.af.all fun d => okN d.1) = true) := Lib.hid (by have := HEk.out; rwa [List.take_length] at this)
          go_wp2
          go_ret
          exact ⟨by rw [HN14.out, HE3.out]; rfl, hW⟩
set_option maxRecDepth 100000 in
set_option maxHeartbeats 2000000 in
theorem rr_in2 (q : Rq) (w : World) (ha : RowAt w q.aa (depsV q.af)) (h : kindB q.kind = true) (hk : keyB q.key = true) (h5 : q.af.length ≤ 4) (h6 : ¬ q.kind = 1) (h7 : q.af.length = 0) :
    Calls Try.prog 9 #[.agg #[.int .i64 q.kind, .int .i64 q.key, .int .i64 (q.n 1), .int .i64 (q.n 2), .int .i64 (q.n 3), .int .i64 (q.n 4), .int .i64 (q.n 5), .int .i64 (q.n 6), .int .i64 (q.n 7), .int .i64 (q.n 8), .int .i64 (q.n 9), .int .i64 (q.n 10), .slice q.aa q.af.length q.ac, .int .i64 (q.n 11), .int .i64 (q.n 12), .int .i64 (q.n 13), .int .i64 (q.n 14)]] w fun e w' => e = .returned (.bool (numsTo q 14 && q.af.all fun d => okN d.1)) ∧ Below w.heap.size w w' := by
  obtain ⟨h1, h2⟩ := of_decide_eq_true h
  obtain ⟨h3, h4⟩ := of_decide_eq_true hk
  have HA := Lib.hid ha
  have HRA := Lib.hid (fun w' => rall q w')
  have HRF := Lib.hid (fun w' => rfields q.kind w')
  have HRN := Lib.hid rrightN
  have HIX := Lib.hid (idx_at q.kind)
  have HAL := Lib.hid (allL_at q)
  have HNS := Lib.hid (numsTo_succ q)
  have HNA : Hid (∀ i, 1 ≤ i → i ≤ 14 → mineB q i = false → numsTo q 14 = false) := Lib.hid (fun i a b c => by
    cases e : numsTo q 14 with
    | false => rfl
    | true => rw [numsTo_at e i a b] at c; cases c)
  have HMB : Hid (∀ i, mineB q i = if i ∈ fieldsN q.kind then okN (q.n i) else decide (q.n i = 0)) := Lib.hid (fun i => rfl)
  have hfl := fields_len q.kind
  have d1 : decide ((4 : Int) < (q.af.length : Int)) = false := decide_eq_false (by omega)
  have d2 : (q.kind == 1) = false := by simpa using h6
  have d4 : (q.kind != 1) = true := by simpa using h6
  have d3 : decide (0 < q.af.length) = false := decide_eq_false (by omega)
  clear h hk ha h6 h7
  obtain ⟨fs, hfs⟩ : ∃ fs, fs = fieldsN q.kind := ⟨_, rfl⟩
  rw [← hfs] at HRF HMB hfl
  have HIX2 : Hid (∀ j (h : j < fs.length), (vals (idxL q.kind))[j]? = some (.int .i64 ((fs[j] : Nat) : Int))) := Lib.hid (by subst hfs; exact HIX.out)
  clear HIX hfs
  generalize idxL q.kind = ix at HRF HIX2
  generalize allL q = al at HRA HAL
  go_enter Try.func9, Try.ntmps9
  go_wp2_with (with_reducible refine wpList_load_q (q := q) rfl (.tmp 1) rfl rfl (BoxQ.new w q) ?_)
  have HB0 := BoxQ.new w q
  generalize hw0 : World.alloc w _ = w0 at HB0 ⊢
  have hb0 : Below w.heap.size w w0 := by rw [← hw0]; exact (by repeat' (first | exact Below.refl _ _ | assumption | exact And.left (by assumption) | refine Below.drew ?_ | refine below_drewN ?_ _ | refine Below.setCell ?_ (by first | (simp; done) | (simp; omega) | omega) _ | refine Below.alloc ?_ (by first | (simp; done) | (simp; omega) | omega) _ | refine after (by assumption) (by first | (simp; done) | (simp; omega) | omega) ?_))
  have hz0 := hb0.size
  clear hw0
  refine (HRA.out w0).mono ?_; rintro e w1 ⟨v1, rfl, hown1, hb1⟩
  obtain ⟨A1, c1, rfl, _, hrow1, _⟩ := own_form hown1
  have HB1 := Lib.hid (HB0.on hb1)
  have HR1 := Lib.hid hrow1
  have hz1 := hb1.size
  have k0 := HB1.out.c0
  clear hown1 hrow1 HB0
  go_wp2_with fail
  refine (HRF.out w1).mono ?_; rintro e w2 ⟨v2, rfl, hown2, hb2⟩
  obtain ⟨A2, c2, rfl, _, hrow2, _⟩ := own_form hown2
  have HB2 := Lib.hid (HB1.out.on hb2)
  have HR2 := Lib.hid hrow2
  have HR12 := Lib.hid (HR1.out.later hb2)
  have hz2 := hb2.size
  have hW : Below w.heap.size w w2 := (hb0.trans (hb1.mono hz0)).trans (hb2.mono (by omega))
  have HA2 := Lib.hid (HA.out.later hW)
  have e12 := HB2.out.c12
  clear hown2 hrow2 HB1 HR1 k0 hb0 hb1 hb2
  go_wp2_with fail
  go_loop [5] (fun v5 => ∃ i : Nat, i ≤ 14 ∧ v5 = .int .i64 ((i : Int) + 1) ∧ Hid (numsTo q i = true)) (fun v5 => 15 - (intOf v5).toNat)
  case atStart => exact ⟨0, by omega, rfl, Lib.hid rfl⟩
  case round =>
    obtain ⟨i, hi, rfl, HE⟩ := hrel
    by_cases hlt : i < 14
    · have dlt : decide ((i : Int) + 1 < 15) = true := decide_eq_true (by omega)
      have HNX := Lib.hid (HNS.out i)
      have HMX := Lib.hid (HMB.out (i + 1))
      have HNX2 := Lib.hid (HNA.out (i + 1) (by omega) (by omega))
      obtain ⟨bx, ox, ex, _, hcx⟩ := HR12.out.row (by rw [vals_len]; have := HAL.out 14 (by omega) (by omega); rcases Nat.lt_or_ge 0 al.length with h | h; exact h; rw [List.getElem?_eq_none (by rw [vals_len]; omega)] at this; cases this)
      have cx := hcx (i + 1) _ (HAL.out (i + 1) (by omega) (by omega))
      have EX := Lib.hid ex
      clear hcx ex
      generalize q.n (i + 1) = x at cx HMX
      obtain rfl := EX.out
      go_wp2_with fail
      go_loop [6, 7] (fun v6 v7 => ∃ k : Nat, k ≤ fs.length ∧ v7 = .int .i64 (k : Int) ∧ v6 = .bool (decide (i + 1 ∈ fs.take k))) (fun _ v7 => fs.length - (intOf v7).toNat)
      case atStart => exact ⟨0, Nat.zero_le _, rfl, by simp⟩
      case round =>
        obtain ⟨k, hk, rfl, rfl⟩ := hrel
        by_cases hlk : k < fs.length
        · have hms := mem_snoc_dec fs k (i + 1) hlk
          obtain ⟨by', oy, ey, _, hcy⟩ := HR2.out.row (by rw [vals_len]; have := HIX2.out 0 (by omega); rcases Nat.lt_or_ge 0 ix.length with h | h; exact h; rw [List.getElem?_eq_none (by rw [vals_len]; omega)] at this; cases this)
          have cy := hcy k _ (HIX2.out k hlk)
          have EY := Lib.hid ey
          clear hcy ey
          generalize fs[k] = y at cy hms
          generalize decide (i + 1 ∈ fs.take k) = m0 at hms ⊢
          have hde : ((y : Int) == (i : Int) + 1) = decide (y = i + 1) := by
            rw [Bool.eq_iff_iff]; simp; omega
          generalize decide (y = i + 1) = m1 at hms hde
          have HMS := Lib.hid hms
          clear hms
          obtain rfl := EY.out
          cases m0
          all_goals
            go_wp2_with fail
            go_round
            case rel => exact ⟨k + 1, by omega, by go_num, by rw [HMS.out]; rfl⟩
            case measure => simp [intOf]; omega
        · have hkl : k = fs.length := by omega
          subst hkl
          rw [List.take_length]
          have KR := fun w => HRN.out x w
          by_cases hm : i + 1 ∈ fs
          · rw [decide_eq_true hm]
            have HMX2 : Hid (mineB q (i + 1) = okN x) := Lib.hid (by rw [HMX.out, if_pos hm])
            clear hm HMX
            cases ho : okN x with
            | true =>
              rw [ho] at KR
              have KR := Lib.hid KR
              have HE2 : Hid (numsTo q (i + 1) = true) := Lib.hid (by rw [HNX.out, HE.out, HMX2.out, ho]; rfl)
              clear ho
              go_wp2_with fail
              refine (KR.out _).mono ?_; rintro e w5 ⟨rfl, rfl⟩
              go_wp2
              go_round
              case rel => exact ⟨i + 1, by omega, by go_num, HE2⟩
              case measure => simp [intOf]; omega
            | false =>
              rw [ho] at KR
              have KR := Lib.hid KR
              have HF : Hid (numsTo q 14 = false) := Lib.hid (HNX2.out (by rw [HMX2.out, ho]))
              clear ho
              go_wp2_with fail
              refine (KR.out _).mono ?_; rintro e w5 ⟨rfl, rfl⟩
              go_wp2
              go_ret
              exact ⟨by rw [HF.out]; rfl, hW⟩
          · rw [decide_eq_false hm]
            have HMX2 : Hid (mineB q (i + 1) = decide (x = 0)) := Lib.hid (by rw [HMX.out, if_neg hm])
            clear hm HMX KR
            by_cases hx : x = 0
            · have HE2 : Hid (numsTo q (i + 1) = true) := Lib.hid (by rw [HNX.out, HE.out, HMX2.out, hx]; rfl)
              subst hx
              go_wp2
              go_round
              case rel => exact ⟨i + 1, by omega, by go_num, HE2⟩
              case measure => simp [intOf]; omega
            · have HF : Hid (numsTo q 14 = false) := Lib.hid (HNX2.out (by rw [HMX2.out]; exact decide_eq_false hx))
              have q1 : (x == 0) = false := by simpa using hx
              have q2 : (x != 0) = true := by simpa using hx
              clear hx
              go_wp2
              go_ret
              exact ⟨by rw [HF.out]; rfl, hW⟩
    · have hi14 : i = 14 := by omega
      subst hi14
      have HN14 : Hid (numsTo q 14 = true) := HE
      go_wp2_with fail
      go_loop [8] (fun v8 => ∃ k : Nat, k ≤ q.af.length ∧ v8 = .int .i64 (k : Int) ∧ Hid (((q.af.take k).all fun d => okN d.1) = true)) (fun v8 => q.af.length - (intOf v8).toNat)
      case atStart => exact ⟨0, Nat.zero_le _, rfl, Lib.hid rfl⟩
      case round =>
        obtain ⟨k, hk, rfl, HEk⟩ := hrel
        by_cases hlk : k < q.af.length
        · obtain ⟨b1, o1, e1, _, u1, u2⟩ := dep_at HA2.out hlk
          have HT := Lib.hid (af_snoc q.af k hlk)
          have HF : Hid (okN (q.af[k]).1 = false → (q.af.all fun d => okN d.1) = false) := Lib.hid (fun e => by
            cases h : q.af.all fun d => okN d.1 with
            | false => rfl
            | true => rw [List.all_eq_true.1 h _ (List.getElem_mem hlk)] at e; cases e)
          have E1 := Lib.hid e1
          clear e1
          generalize q.af[k] = p at u1 u2 HT HF
          obtain ⟨p1, p2⟩ := p
          simp only at u1 u2
          rw [E1.out] at e12
          have KR := fun w => HRN.out p1 w
          cases ho : okN p1 with
          | true =>
            rw [ho] at KR
            have KR := Lib.hid KR
            have HT2 : Hid (((q.af.take (k + 1)).all fun d => okN d.1) = true) := Lib.hid (by rw [HT.out, HEk.out, ho]; rfl)
            clear ho HT HF
            go_wp2_with fail
            refine (KR.out _).mono ?_; rintro e w5 ⟨rfl, rfl⟩
            go_wp2
            go_round
            case rel => exact ⟨k + 1, by omega, by go_num, HT2⟩
            case measure => simp [intOf]; omega
          | false =>
            rw [ho] at KR
            have KR := Lib.hid KR
            have HF2 := Lib.hid (HF.out ho)
            clear ho HT HF
            go_wp2_with fail
            refine (KR.out _).mono ?_; rintro e w5 ⟨rfl, rfl⟩
            go_wp2
            go_ret
            exact ⟨by rw [HN14.out, HF2.out]; rfl, hW⟩
        · have hkl : k = q.af.length := by omega
          subst hkl
          have HE3 : Hid ((q.af.all fun d => okN d.1) = true) := Lib.hid (by have := HEk.out; rwa [List.take_length] at this)
          go_wp2
          go_ret
          exact ⟨by rw [HN14.out, HE3.out]; rfl, hW⟩
/-- is a request right, as the document says? -/
theorem refRight (q : Rq) (w : World) (ha : RowAt w q.aa (depsV q.af)) :
    Calls Try.prog 9 #[.agg #[.int .i64 q.kind, .int .i64 q.key, .int .i64 (q.n 1), .int .i64 (q.n 2), .int .i64 (q.n 3), .int .i64 (q.n 4), .int .i64 (q.n 5), .int .i64 (q.n 6), .int .i64 (q.n 7), .int .i64 (q.n 8), .int .i64 (q.n 9), .int .i64 (q.n 10), .slice q.aa q.af.length q.ac, .int .i64 (q.n 11), .int .i64 (q.n 12), .int .i64 (q.n 13), .int .i64 (q.n 14)]] w fun e w' => e = .returned (.bool (rightQ q)) ∧ Below w.heap.size w w' := by
  cases h : kindB q.kind with
  | false => rw [show rightQ q = false by unfold rightQ; simp [h]]; exact rr_no1 q w h
  | true =>
    cases h2 : keyB q.key with
    | false => rw [show rightQ q = false by unfold rightQ; simp [h2]]; exact rr_no2 q w h h2
    | true =>
      by_cases h3 : q.af.length ≤ 4
      · by_cases h4 : q.kind = 1 ∨ q.af.length = 0
        · have e : rightQ q = (numsTo q 14 && q.af.all fun d => okN d.1) := by
            have e4 : (decide (q.kind = 1) || q.af.isEmpty) = true := by
              rcases h4 with h4 | h4
              · simp [h4]
              · simp [List.eq_nil_of_length_eq_zero h4]
            unfold rightQ afB
            rw [h, h2, e4, decide_eq_true h3, Bool.and_comm (numsTo q 14)]
            simp
          rw [e]
          by_cases h5 : q.kind = 1
          · exact rr_in1 q w ha h h2 h3 h5
          · exact rr_in2 q w ha h h2 h3 h5 (h4.resolve_left h5)
        · have h4' : ¬ q.kind = 1 ∧ 0 < q.af.length := ⟨fun x => h4 (.inl x), by omega⟩
          have e4 : (decide (q.kind = 1) || q.af.isEmpty) = false := by
            have : q.af ≠ [] := fun x => by rw [x] at h4'; simp at h4'
            simp [h4'.1, this]
          rw [show rightQ q = false by unfold rightQ; rw [e4]; simp]
          exact rr_no3 q w h h2 (.inr h4')
      · rw [show rightQ q = false by unfold rightQ afB; simp [h3]]
        exact rr_no3 q w h h2 (.inl (by omega))
end Go.Proofs.Ytkeboafejebanaa.W
