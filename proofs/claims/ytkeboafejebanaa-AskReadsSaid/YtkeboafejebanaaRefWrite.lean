/-
  Contract of the document's own Write (layer 8).
-/
import Derived.Test.YtkeboafejebanaaRefRight
import Derived.Test.YtkeboafejebanaaAskWrite
namespace Go.Proofs.Ytkeboafejebanaa.W
set_option linter.unusedVariables false
set_option linter.unusedSimpArgs false
open Go.ChangeShapes Go.WideShapes Go.ChangeAt Go.RowKit

theorem row_pos {w : World} {a : Option Addr} {xs : List Value} {i : Nat} {u : Value} (h : RowAt w a xs) (hu : xs[i]? = some u) : ∃ b off, a = some ⟨b, off, none⟩ ∧ b < w.heap.size ∧ w.cell? ⟨b, off + i, none⟩ = some u := by
  have hp : 0 < xs.length := by
    rcases Nat.lt_or_ge i xs.length with h | h
    · omega
    · rw [List.getElem?_eq_none h] at hu; cases hu
  obtain ⟨b, off, e, hl, hc⟩ := h.row hp
  exact ⟨b, off, e, hl, hc i u hu⟩
/-- where an append to another slice was, of a slice that is older -/
theorem RowAt.older {w w' : World} {a : Option Addr} {xs : List Value} {B : Nat} (h : RowAt w a xs) (hB : w.heap.size ≤ B) (hb : Below B w w') : RowAt w' a xs := h.later (hb.mono hB)
set_option maxRecDepth 100000 in
set_option maxHeartbeats 3000000 in
theorem refWrite (q : Rq) (hr : RightQ q) (w : World) (ha : RowAt w q.aa (depsV q.af)) :
    Calls Try.prog 13 #[.agg #[.int .i64 q.kind, .int .i64 q.key, .int .i64 (q.n 1), .int .i64 (q.n 2), .int .i64 (q.n 3), .int .i64 (q.n 4), .int .i64 (q.n 5), .int .i64 (q.n 6), .int .i64 (q.n 7), .int .i64 (q.n 8), .int .i64 (q.n 9), .int .i64 (q.n 10), .slice q.aa q.af.length q.ac, .int .i64 (q.n 11), .int .i64 (q.n 12), .int .i64 (q.n 13), .int .i64 (q.n 14)]] w fun e w' => ∃ v, e = .returned v ∧ w'.ownsRow w.heap.size 5 1 v (writeQ q).length (bytesV (writeQ q)) ∧ Below w.heap.size w w' := by
  obtain ⟨i0, hi, hz0, hz1, hz2⟩ := info_parts infoI
  have HA := Lib.hid ha
  have HRA := Lib.hid (fun w' => rall q w')
  have HRF := Lib.hid (fun w' => rfields q.kind w')
  have HIX := Lib.hid (idx_at q.kind)
  have HAL := Lib.hid (allL_at q)
  have hnl := nums_len hr
  have hafl := hr.few
  have HPut := Lib.hid (fun (A : Option Addr) c w' hA => rput A c (numsL q) (by omega) (nums_ok hr) w' hA)
  have HN := Lib.hid (nums_part q)
  have HN' := Lib.hid (nums_part' q)
  have HIN := Lib.hid (fields_in q.kind)
  have hfl0 := fields_len q.kind
  obtain ⟨fs, hfs⟩ : ∃ fs, fs = fieldsN q.kind := ⟨_, rfl⟩
  rw [← hfs] at HRF hfl0 HN HN' HIN
  have HIX2 : Hid (∀ j (h : j < fs.length), (vals (idxL q.kind))[j]? = some (.int .i64 ((fs[j] : Nat) : Int))) := Lib.hid (by subst hfs; exact HIX.out)
  have HPL := Lib.hid (partL_len q fs)
  have HPS := Lib.hid (partL_succ q fs)
  have HLn := Lib.hid (aftTo_len (partL q fs fs.length) q.af)
  have HSn := Lib.hid (aftTo_succ (partL q fs fs.length) q.af)
  have HZn := Lib.hid (aftTo_zero (partL q fs fs.length) q.af)
  have HZl : Hid ((aftTo (partL q fs fs.length) q.af 0).length = (partL q fs fs.length).length + 1) := Lib.hid (by simp [aftTo])
  clear HIX hfs ha hr
  generalize idxL q.kind = ix at HRF HIX2
  generalize allL q = al at HRA HAL
  go_enter Try.func13, Try.ntmps13
  go_wp2_with (with_reducible refine wpList_load_q (q := q) rfl (.tmp 1) rfl rfl (BoxQ.new w q) ?_)
  have HB0 := BoxQ.new w q
  generalize hw0 : World.alloc w _ = w0 at HB0 ⊢
  have hb0 : Below w.heap.size w w0 := by rw [← hw0]; exact (by repeat' (first | exact Below.refl _ _ | assumption | exact And.left (by assumption) | refine Below.drew ?_ | refine below_drewN ?_ _ | refine Below.setCell ?_ (by first | (simp; done) | (simp; omega) | omega) _ | refine Below.alloc ?_ (by first | (simp; done) | (simp; omega) | omega) _ | refine after (by assumption) (by first | (simp; done) | (simp; omega) | omega) ?_))
  have hz00 : w.heap.size < w0.heap.size := HB0.lt
  clear hw0
  refine (HRA.out w0).mono ?_; rintro e w1 ⟨v1, rfl, hown1, hb1⟩
  obtain ⟨A1, c1, rfl, _, hrow1, _⟩ := own_form hown1
  have HB1 := Lib.hid (HB0.on hb1)
  have HR1 := Lib.hid hrow1
  have hzz1 := hb1.size
  have k0 := HB1.out.c0
  clear hown1 hrow1 HB0
  go_wp2_with fail
  refine (HRF.out w1).mono ?_; rintro e w2 ⟨v2, rfl, hown2, hb2⟩
  obtain ⟨A2, c2, rfl, _, hrow2, _⟩ := own_form hown2
  have HB2 := Lib.hid (HB1.out.on hb2)
  have HR2 := Lib.hid hrow2
  have HR12 := Lib.hid (HR1.out.later hb2)
  have hzz2 := hb2.size
  have hW2 : Below w.heap.size w w2 := (hb0.trans (hb1.mono (by omega))).trans (hb2.mono (by omega))
  have m0 := HB2.out.c0
  have m1 := HB2.out.c1
  clear hown2 hrow2 HB1 HR1 k0 hb0 hb1 hb2
  go_wp2_with fail
  have HO3 : Hid ((w2.alloc (.cells #[.int .i64 q.kind, .int .i64 q.key] 3)).ownsRow w2.heap.size 3 1 (.slice (some ⟨w2.heap.size, 0, none⟩) 2 2) (partL q fs 0).length (vals (partL q fs 0))) := Lib.hid (World.ownsRow_lit w2 #[.int .i64 q.kind, .int .i64 q.key] 2 (Nat.le_refl _) (by decide) rfl)
  generalize hw3 : World.alloc w2 _ = w3 at HO3 ⊢
  have hb3 : Below w2.heap.size w2 w3 := by rw [← hw3]; exact (by repeat' (first | exact Below.refl _ _ | assumption | exact And.left (by assumption) | refine Below.drew ?_ | refine below_drewN ?_ _ | refine Below.setCell ?_ (by first | (simp; done) | (simp; omega) | omega) _ | refine Below.alloc ?_ (by first | (simp; done) | (simp; omega) | omega) _ | refine after (by assumption) (by first | (simp; done) | (simp; omega) | omega) ?_))
  clear hw3
  go_loopw [5, 6] (fun v5 v6 wr => ∃ k : Nat, k ≤ fs.length ∧ v6 = .int .i64 (k : Int) ∧ Hid (wr.ownsRow w2.heap.size 3 1 v5 (partL q fs k).length (vals (partL q fs k))) ∧ Below w2.heap.size w2 wr) (fun _ v6 _ => fs.length - (intOf v6).toNat)
  case atStart => exact ⟨0, Nat.zero_le _, rfl, HO3, hb3⟩
  case round =>
    obtain ⟨k, hk, rfl, HO, hbw⟩ := hrel
    have hz := hbw.size
    have hpl := HPL.out k
    clear HO3
    by_cases hlt : k < fs.length
    · obtain ⟨b2, o2, e2, _, cy⟩ := row_pos (HR2.out.later hbw) (HIX2.out k hlt)
      have hin := HIN.out fs[k] (List.getElem_mem hlt)
      have hps := HPS.out k hlt
      have hps1 : (partL q fs (k + 1)).length = (partL q fs k).length + 1 := by
        have := congrArg List.length hps
        simpa [vals_len] using this
      have HPS1 := Lib.hid hps
      have HPS2 := Lib.hid hps1
      clear hps hps1
      generalize fs[k] = i at cy hin HPS1
      obtain ⟨b1, o1, e1, _, cx⟩ := row_pos (HR12.out.later hbw) (HAL.out i hin.1 hin.2)
      generalize q.n i = x at cx HPS1
      obtain ⟨hin1, hin2⟩ := hin
      have E1 := Lib.hid e1
      have E2 := Lib.hid e2
      clear e1 e2
      obtain rfl := E1.out
      obtain rfl := E2.out
      go_wp2_with (at_builtin; refine pushL _ _ 42 3 8 (.int .i64 0) i0 Try.underlying42 hi hz0 hz1 hz2 rfl (by decide) w2.heap.size w2.heap.size _ 1 _ _ _ _ w2 _ rfl rfl rfl rfl rfl HO.out hbw (Nat.le_refl _) hz (by simp [Value.oneCell']) (by omega) ?_)
      intro v5 w5 hown5 hb5 _
      have HO5 : Hid (w5.ownsRow w2.heap.size 3 1 v5 (partL q fs (k + 1)).length (vals (partL q fs (k + 1)))) := Lib.hid (by
        rw [HPS1.out, HPS2.out]
        exact hown5)
      clear hown5 HO HPS1 HPS2
      go_wp2
      go_roundw
      case rel => exact ⟨k + 1, by omega, by go_num, HO5, hb5⟩
      case measure => simp [intOf]; omega
    · have hkl : k = fs.length := by omega
      subst hkl
      have HBr := Lib.hid (HB2.out.on hbw)
      have n0 := HBr.out.c0
      have n12 := HBr.out.c12
      clear m0 m1
      by_cases he : q.kind = 1
      · have HNN := Lib.hid (HN.out he)
        rw [he] at n0
        have HEE := Lib.hid he
        clear he
        have hpl2 := HPL.out fs.length
        go_wp2_with (at_builtin; refine pushL _ _ 42 3 8 (.int .i64 0) i0 Try.underlying42 hi hz0 hz1 hz2 rfl (by decide) w2.heap.size w2.heap.size _ 1 _ _ _ _ w2 _ rfl rfl rfl rfl rfl HO.out hbw (Nat.le_refl _) hz (by simp [Value.oneCell']) (by omega) ?_)
        intro v6 w6 hown6 hb6 _
        have HO6 : Hid (w6.ownsRow w2.heap.size 3 1 v6 (aftTo (partL q fs fs.length) q.af 0).length (vals (aftTo (partL q fs fs.length) q.af 0))) := Lib.hid (by
          rw [HZn.out, HZl.out]
          exact hown6)
        clear hown6 HO HBr n0 n12
        go_wp2_with fail
        go_loopw [5, 7] (fun v5 v7 wz => ∃ k : Nat, k ≤ q.af.length ∧ v7 = .int .i64 (k : Int) ∧ Hid (wz.ownsRow w2.heap.size 3 1 v5 (aftTo (partL q fs fs.length) q.af k).length (vals (aftTo (partL q fs fs.length) q.af k))) ∧ Below w2.heap.size w2 wz) (fun _ v7 _ => q.af.length - (intOf v7).toNat)
        case atStart => exact ⟨0, Nat.zero_le _, rfl, HO6, hb6⟩
        case round =>
          obtain ⟨k, hk2, rfl, HOk, hbz⟩ := hrel
          have hzw := hbz.size
          have x12 := (HB2.out.on hbz).c12
          have HX12 := Lib.hid (fun w' (hb : Below w2.heap.size w2 w') => (HB2.out.on hb).c12)
          clear HO6
          by_cases hlk : k < q.af.length
          · obtain ⟨b1, o1, e1, hbl, t1, t2⟩ := dep_at (HA.out.later hW2) hlk
            have u1 := carry hbz t1
            have u2 := carry hbz t2
            have HT2 := Lib.hid (fun w' (hb : Below w2.heap.size w2 w') => carry hb t2)
            have hsk := HSn.out k hlk
            have hlk0 := HLn.out k
            have hlk1 : (aftTo (partL q fs fs.length) q.af (k + 1)).length = (aftTo (partL q fs fs.length) q.af k).length + 2 := by
              have := congrArg List.length hsk
              simpa [vals_len] using this
            have HSK := Lib.hid hsk
            have HLK := Lib.hid hlk1
            rw [e1] at x12 HX12
            clear e1 hsk hlk1 t1 t2
            generalize q.af[k] = p at u1 u2 HSK HT2
            obtain ⟨p1, p2⟩ := p
            simp only at u1 u2 HT2
            cases p2
            all_goals
              go_wp2_with (at_builtin; refine pushL _ _ 42 3 8 (.int .i64 0) i0 Try.underlying42 hi hz0 hz1 hz2 rfl (by decide) w2.heap.size w2.heap.size _ 1 _ _ _ _ w2 _ rfl rfl rfl rfl rfl HOk.out hbz (Nat.le_refl _) hzw (by simp [Value.oneCell']) (by omega) ?_)
              intro v8 w8 hown8 hb8 hg8
              have HO8 := Lib.hid hown8
              have hz8 := hb8.size
              have x8 : w8.cell? ⟨w.heap.size, 12, none⟩ = some (.slice (some ⟨b1, o1, none⟩) q.af.length q.ac) := HX12.out w8 hb8
              have u8 := HT2.out w8 hb8
              clear hown8
              go_wp2_with (at_builtin; refine pushL _ _ 42 3 8 (.int .i64 0) i0 Try.underlying42 hi hz0 hz1 hz2 rfl (by decide) w2.heap.size w2.heap.size _ 1 _ _ _ _ w2 _ rfl rfl rfl rfl rfl HO8.out hb8 (Nat.le_refl _) hz8 (by simp [Value.oneCell']) (by omega) ?_)
              intro v9 w9 hown9 hb9 _
              have HO9 : Hid (w9.ownsRow w2.heap.size 3 1 v9 (aftTo (partL q fs fs.length) q.af (k + 1)).length (vals (aftTo (partL q fs fs.length) q.af (k + 1)))) := Lib.hid (by
                rw [HSK.out, HLK.out]
                simpa using hown9)
              clear hown9 HO8 HOk HSK HLK
              go_wp2
              go_roundw
              case rel => exact ⟨k + 1, by omega, by go_num, HO9, hb9⟩
              case measure => simp [intOf]; omega
          · have hkl : k = q.af.length := by omega
            subst hkl
            have HOn : Hid (wr.ownsRow w2.heap.size 3 1 u5 (numsL q).length (vals (numsL q))) := Lib.hid (by have := HOk.out; rwa [HNN.out] at this)
            obtain ⟨A6, c6, rfl, hc6, hrow6, hn6⟩ := RowT.of HOn.out
            have K := HPut.out A6 c6 wr hrow6.row
            clear hrow6 HOk
            go_wp2_with fail
            refine K.mono ?_; rintro e w7 ⟨v7, rfl, hown7, hb7⟩
            have HO7 := Lib.hid (own_more hown7 (show w.heap.size ≤ wr.heap.size by omega))
            have hbel7 : Below w.heap.size w w7 := hW2.trans ((hbz.trans (hb7.mono hzw)).mono hW2.size)
            clear hown7 K
            go_wp2
            go_ret
            exact ⟨_, rfl, HO7.out, hbel7⟩
      · have HNN := Lib.hid (HN'.out he)
        have hkk : (q.kind == 1) = false := by simpa using he
        have HO6 : Hid (wr.ownsRow w2.heap.size 3 1 u5 (numsL q).length (vals (numsL q))) := Lib.hid (by have := HO.out; rwa [HNN.out] at this)
        obtain ⟨A6, c6, rfl, hc6, hrow6, hn6⟩ := RowT.of HO6.out
        have K := HPut.out A6 c6 wr hrow6.row
        clear hrow6 HO he
        go_wp2_with fail
        refine K.mono ?_; rintro e w7 ⟨v7, rfl, hown7, hb7⟩
        have HO7 := Lib.hid (own_more hown7 (show w.heap.size ≤ wr.heap.size by omega))
        have hbel7 : Below w.heap.size w w7 := hW2.trans ((hbw.trans (hb7.mono hz)).mono hW2.size)
        clear hown7 K
        go_wp2
        go_ret
        exact ⟨_, rfl, HO7.out, hbel7⟩
end Go.Proofs.Ytkeboafejebanaa.W
