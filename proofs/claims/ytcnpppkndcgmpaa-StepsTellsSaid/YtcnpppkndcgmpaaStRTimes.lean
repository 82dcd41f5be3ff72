/-
  Contract of the document's Times: all times of steps, and others, rising, each once.
-/
import Derived.Test.YtcnpppkndcgmpaaStRight
import Derived.Deep.QuietTactic
import Derived.BigQuiet
namespace Go.Proofs.Ytcnpppkndcgmpaa.W
set_option linter.unusedVariables false
set_option linter.unusedSimpArgs false
open Go.ChangeShapes Go.WideShapes Go.ChangeAt Go.RowKit

theorem pushAnyB {P : Program} {ops : Array Oper} {rest : List Oper} {o : Oper} {a : Act} {Q : Exit → Act → World → Prop} (s x : Operand) (t : TypeId)
    (e : TypeId) (size bytes : Nat) (z : Value) (i : TypeInfo) (ht : P.underlying t = some (.slice e)) (hi : P.info? e = some i) (hz : i.zero = some z) (hsize : i.size = size) (hby : i.bytes = bytes) (hzs : z.cells.size = size) (hsz : 0 < size) (hb0 : 0 < bytes)
    (base B n m c : Nat) (xs news : List Value) (v : Value) (d : Option Addr) (w0 wr : World) (hgd : o.guard = none)
    (ho : o.op = .call { callee := .builtin .append, args := #[s, x], argTypes := #[t, t] })
    (hs : a.eval s = v) (hx : a.eval x = .slice d m c) (hm : news.length = m * size) (hc : d = none → c = 0)
    (hown : wr.ownsRow base e size v n xs) (hrow : RowAt wr d news) (hbel : Below B w0 wr) (hB : B ≤ base) (hbase : base ≤ wr.heap.size)
    (h1 : ∀ u ∈ news, u.oneCell' = true) (hn : (n + m) * bytes ≤ 140737488355328)
    (h : ∀ v' w', w'.ownsRow base e size v' (n + m) (xs ++ news) → Below B w0 w' → wpList P ops Q rest (a.put o.dst v') w') :
    wpList P ops Q (o :: rest) a wr := by
  cases d with
  | some d => exact pushBig s x t e size bytes z i ht hi hz hsize hby hzs hsz hb0 base B n m c xs news v d w0 wr hgd ho hs hx hm hown hrow hbel hB hbase h1 hn (fun v' w' h2 h3 _ => h v' w' h2 h3)
  | none =>
    have hx0 := hrow.none_
    subst hx0
    have hm0 : m = 0 := by
      simp only [List.length_nil] at hm
      rcases Nat.eq_zero_or_pos m with h' | h'
      · exact h'
      · have := Nat.mul_pos h' hsz; omega
    subst hm0
    rw [hc rfl] at hx
    exact wpList_append_own_none hgd s x t ho base e i size ht hi v n xs hs hown hx (h v wr (by simpa using hown) hbel)
theorem infoInt : (Try.prog.info? 3).map (fun i => (i.zero, i.size, i.bytes)) = some (some (.int .i64 0), 1, 8) := by kernel_rfl
theorem vals_cells (xs : List Int) : ∀ u ∈ vals xs, u.oneCell' = true := by
  intro u hu
  obtain ⟨x, _, rfl⟩ := List.mem_map.1 hu
  rfl
theorem rowTake {w : World} {a : Option Addr} {l : List Int} (h : RowAt w a (vals l)) (k : Nat) : RowAt w a (vals (l.take k)) := by
  have e : vals (l.take k) = (vals l).take k := by simp [vals]
  rw [e]
  rcases h with h | ⟨b, off, rfl, hl, hc⟩
  · exact .inl (by rw [h, List.take_nil])
  · refine .inr ⟨b, off, rfl, hl, fun i u hu => hc i u ?_⟩
    rw [List.getElem?_take] at hu
    split at hu
    · exact hu
    · cases hu
theorem below_next {a : Int} {o : List Int} {j : Nat} (h : j < o.length) : below_ a (o.drop j) = if o[j] < a then below_ a (o.drop (j + 1)) + 1 else 0 := by
  rw [drop_at o j h, below_]
set_option maxHeartbeats 8000000 in
set_option maxRecDepth 100000 in
theorem rTimes (a : Option Addr) (cap : Nat) (l : List St) (hl : l.length ≤ 1000) (bm : Option Addr) (cm : Nat) (more : List Int) (hm : more.length ≤ 1000) (hcm : bm = none → cm = 0) (w : World) (HA : StAt w a cap l) (HM : RowAt w bm (vals more)) :
    Calls Try.prog 29 #[.slice a l.length cap, .slice bm more.length cm] w
      fun e w' => ∃ v, e = .returned v ∧ w'.ownsRow w.heap.size 3 1 v (timesL (more ++ ats l)).length (vals (timesL (more ++ ats l))) ∧ Below w.heap.size w w' := by
  obtain ⟨i0, hi, hzz, hzs, hzb⟩ := info_parts infoInt
  have HR := Lib.hid HA
  have HMR := Lib.hid HM
  have HC := Lib.hid hcm
  clear HA HM hcm
  go_enter Try.func29, Try.ntmps29
  go_wp2_with (at_builtin; refine pushAnyB _ _ 52 3 1 8 _ i0 Try.underlying52 hi hzz hzs hzb rfl (by decide) (by decide) w.heap.size w.heap.size 0 more.length cm [] (vals more) _ bm w _ rfl rfl rfl rfl (by rw [vals_len, Nat.mul_one]) HC.out (World.ownsRow_lit w #[] 0 (Nat.le_refl _) (by decide) rfl) (HMR.out.alloc _) ((Below.refl _ _).alloc (Nat.le_refl _) _) (Nat.le_refl _) (by simp) (vals_cells _) (by omega) ?_)
  intro v0 w0 hO0 hb0
  have HO0 : Hid (w0.ownsRow w.heap.size 3 1 v0 (more ++ ats (l.take 0)).length (vals (more ++ ats (l.take 0)))) := Lib.hid (by simpa [ats] using hO0)
  clear hO0
  go_wp2
  go_loopw [5, 6] (fun s5 x wr => ∃ k : Nat, k ≤ l.length ∧ x = .int .i64 (k : Int) ∧ Hid (wr.ownsRow w.heap.size 3 1 s5 (more ++ ats (l.take k)).length (vals (more ++ ats (l.take k)))) ∧ Below w.heap.size w wr) (fun _ x _ => l.length - (intOf x).toNat)
  case atStart => exact ⟨0, Nat.zero_le _, rfl, HO0, hb0⟩
  case round =>
    obtain ⟨k, hk, rfl, HO, hb⟩ := hrel
    have hz := hb.size
    by_cases hlt : k < l.length
    · obtain ⟨b, off, ea, hbl, q0, _⟩ := (HR.out.later hb).row.step hlt
      have HN : Hid (more ++ ats (l.take (k + 1)) = (more ++ ats (l.take k)) ++ [l[k].at_]) := Lib.hid (by rw [take_app l k hlt]; unfold ats; rw [List.map_append, ← List.append_assoc]; rfl)
      have hlen : (more ++ ats (l.take k)).length ≤ 3000 := by simp [ats]; omega
      subst ea
      generalize l[k].at_ = t at q0 HN
      generalize more ++ ats (l.take k) = al at HO HN hlen
      go_wp2_with (at_builtin; refine pushOne _ _ 52 3 1 8 _ i0 Try.underlying52 hi hzz hzs hzb rfl (by decide) (by decide) w.heap.size w.heap.size al.length _ _ _ _ w _ rfl rfl rfl rfl rfl HO.out hb (Nat.le_refl _) hz (by simp [Value.oneCell']) (by omega) ?_)
      intro v' w3 hown hb3
      go_wp2
      go_roundw
      case rel => exact ⟨k + 1, by omega, by go_num, Lib.hid (by rw [HN.out, List.length_append, vals_snoc]; exact hown), hb3⟩
      case measure => simp [intOf]; omega
    · have hkl : k = l.length := by omega
      subst hkl
      rw [List.take_length] at HO
      have hlen : (more ++ ats l).length ≤ 3000 := by simp [ats]; omega
      have HG : Hid (∀ k, (timesL ((more ++ ats l).take k)).length ≤ 3000) := Lib.hid (fun k => by
        have h1 := times_len ((more ++ ats l).take k) []
        have h2 : ((more ++ ats l).take k).length ≤ (more ++ ats l).length := by rw [List.length_take]; omega
        unfold timesL
        rw [List.length_nil, Nat.zero_add] at h1
        omega)
      rename World => w1
      generalize hal : more ++ ats l = al at *
      have HALL := Lib.hid hal
      clear hal
      obtain ⟨aa, ca, rfl, hca, hra, hna⟩ := own_form HO.out
      have HRA := Lib.hid hra
      have HNA := Lib.hid hna
      clear hra hna HO
      go_wp2
      go_loopw [7, 8] (fun s7 x wx => ∃ k : Nat, k ≤ al.length ∧ x = .int .i64 (k : Int) ∧ Hid (wx.ownsRow w1.heap.size 3 1 s7 (timesL (al.take k)).length (vals (timesL (al.take k)))) ∧ Below w1.heap.size w1 wx) (fun _ x _ => al.length - (intOf x).toNat)
      case atStart => exact ⟨0, Nat.zero_le _, rfl, Lib.hid (World.ownsRow_nil _ _ _ _), Below.refl _ _⟩
      case round =>
        rename World => wx
        obtain ⟨k, hk, rfl, HO, hb2⟩ := hrel
        have hzr := hb2.size
        by_cases hlt2 : k < al.length
        · obtain ⟨ga, oa, ea, hgl, qc⟩ := (HRA.out.later hb2).row (by rw [vals_len]; omega)
          have qa := qc k _ (vals_at al k hlt2)
          have HAL : Hid (aa = some ⟨ga, oa, none⟩) := Lib.hid ea
          have HNX0 : Hid (timesL (al.take (k + 1)) = insT al[k] (timesL (al.take k))) := Lib.hid (by rw [take_app al k hlt2, times_snoc])
          have hgo := HG.out k
          clear qc
          subst ea
          generalize al[k] = a at qa HNX0
          generalize timesL (al.take k) = out at HO HNX0 hgo
          have HIN := Lib.hid (ins_at a out)
          obtain ⟨ao, co, rfl, hco, hro, hno⟩ := own_form HO.out
          have HOR := Lib.hid hro
          clear hro
          have hk1 : (k : Int) < al.length := by omega
          go_wp2
          go_loopw [9] (fun x wk => ∃ j : Nat, j ≤ out.length ∧ x = .int .i64 (j : Int) ∧ Hid (below_ a out = j + below_ a (out.drop j)) ∧ Below wx.heap.size wx wk) (fun x _ => out.length - (intOf x).toNat)
          case atStart => exact ⟨0, Nat.zero_le _, rfl, Lib.hid (by rw [List.drop_zero, Nat.zero_add]), Below.refl _ _⟩
          case round =>
            rename World => wk
            obtain ⟨j, hj, rfl, HJ, hbk⟩ := hrel
            have qk := carry hbk qa
            have hzk := hbk.size
            by_cases hjl : j < out.length
            · rcases hno with ⟨rfl, h0, _⟩ | ⟨go, rfl, hgo1, hgo2⟩
              · omega
              · obtain ⟨b', o', eb, hbl2, qd⟩ := (HOR.out.later hbk).row (by rw [vals_len]; omega)
                simp only [Option.some.injEq, Addr.mk.injEq, and_true] at eb
                obtain ⟨rfl, rfl⟩ := eb
                have qx := qd j _ (vals_at out j hjl)
                rw [Nat.zero_add] at qx
                clear qd
                have HBN := Lib.hid (below_next (a := a) hjl)
                have HGD : Hid (out.getD j 0 = out[j]) := Lib.hid (by simp [hjl])
                have hj1 : (j : Int) < out.length := by omega
                generalize out[j] = x at qx HBN HGD
                by_cases hx : x < a
                · have HJ2 : Hid (below_ a out = j + 1 + below_ a (out.drop (j + 1))) := Lib.hid (by rw [HJ.out, HBN.out, if_pos hx]; omega)
                  clear HBN HJ
                  go_wp2_with fail
                  go_quiet (fail)
                  go_wp2
                  go_roundw
                  case rel => exact ⟨j + 1, by omega, by go_num, HJ2, below_drewN hbk _⟩
                  case measure => simp [intOf]; omega
                · have HB : Hid (below_ a out = j) := Lib.hid (by rw [HJ.out, HBN.out, if_neg hx]; rfl)
                  clear HBN HJ
                  by_cases he : x = a
                  · subst he
                    have HNX : Hid (timesL (al.take (k + 1)) = out) := Lib.hid (by rw [HNX0.out, HIN.out, HB.out, if_pos ⟨hjl, HGD.out⟩])
                    clear HNX0 HIN HB HGD
                    go_wp2_with fail
                    go_quiet (fail)
                    go_wp2_with fail
                    go_quiet (fail)
                    go_wp2
                    go_roundw
                    case rel => exact ⟨k + 1, by omega, by go_num, Lib.hid (by rw [HNX.out]; exact own_later (own_later HO.out hbk) (below_drewN (Below.refl _ _) _)), below_drewN (hb2.trans (hbk.mono hzr)) _⟩
                    case measure => simp [intOf]; omega
                  · have HNX : Hid (timesL (al.take (k + 1)) = out.take j ++ a :: out.drop j) := Lib.hid (by rw [HNX0.out, HIN.out, HB.out, if_neg (fun y => he (HGD.out.symm.trans y.2))])
                    have hxe : (x == a) = false := by simpa using he
                    have hxd : decide (x < a) = false := by simpa using hx
                    clear HNX0 HIN HB HGD
                    go_wp2_with fail
                    go_quiet (fail)
                    go_wp2_with fail
                    go_quiet (fail)
                    generalize hwk2 : World.drewN (World.drewN wk _) _ = wk2
                    have hbk2 : Below wk.heap.size wk wk2 := by rw [← hwk2]; exact below_drewN (below_drewN (Below.refl _ _) _) _
                    replace hbk := hbk.trans (hbk2.mono hzk)
                    replace qk := carry hbk2 qk
                    clear hwk2 hbk2 hzk qx
                    have hzk := hbk.size
                    have hjc : j ≤ co := by omega
                    have hj0 : (0 : Int) ≤ j := by omega
                    have hjci : (j : Int) ≤ (co : Int) := by omega
                    have hjli : (j : Int) ≤ (out.length : Int) := by omega
                    have hjt : ((j : Int)).toNat = j := by omega
                    have HTK := Lib.hid (rowTake (HOR.out.later hbk) j)
                    have HLN : Hid ((out.take j ++ a :: out.drop j).length = j + 1 + (out.length - j)) := Lib.hid (by rw [List.length_append, List.length_take, List.length_cons, List.length_drop]; omega)
                    have HVL : Hid (vals (out.take j ++ a :: out.drop j) = vals (out.take j) ++ Value.int .i64 a :: vals (out.drop j)) := Lib.hid (by simp [vals])
                    have hcj : ¬ j = co := by omega
                    have HDR : Hid (∀ x, Below wk2.heap.size wk2 x → RowAt x (some ⟨go, j, none⟩) (vals (out.drop j))) := Lib.hid (fun x hx => by
                      have h := RowAt.drop ((HOR.out.later hbk).later hx) j
                      rw [Nat.zero_add] at h
                      rw [show vals (out.drop j) = (vals out).drop j by simp [vals]]
                      exact h)
                    go_wp2_with (at_builtin; refine pushAnyB _ _ 52 3 1 8 _ i0 Try.underlying52 hi hzz hzs hzb rfl (by decide) (by decide) wk2.heap.size wk2.heap.size 0 j co [] (vals (out.take j)) _ (some ⟨go, 0, none⟩) wk2 wk2 rfl rfl rfl rfl (by rw [vals_len, List.length_take]; omega) (fun h => (by cases h)) (by exact World.ownsRow_nil _ _ _ _) HTK.out (Below.refl _ _) (Nat.le_refl _) (Nat.le_refl _) (vals_cells _) (by omega) ?_)
                    intro v3 w3 hO3 hb3
                    have HO3 : Hid (w3.ownsRow wk2.heap.size 3 1 v3 j (vals (out.take j))) := Lib.hid (by simpa using hO3)
                    clear hO3
                    have hz3 := hb3.size
                    have q3 := carry hb3 qk
                    have hga3 : ga < w3.heap.size := by omega
                    go_wp2_with (at_builtin; refine pushOne _ _ 52 3 1 8 _ i0 Try.underlying52 hi hzz hzs hzb rfl (by decide) (by decide) wk2.heap.size wk2.heap.size j _ _ _ _ wk2 _ rfl rfl rfl rfl rfl HO3.out hb3 (Nat.le_refl _) hz3 (by simp [Value.oneCell']) (by omega) ?_)
                    intro v4 w4 hO4 hb4
                    have HO4 : Hid (w4.ownsRow wk2.heap.size 3 1 v4 (j + 1) (vals (out.take j) ++ [Value.int .i64 a])) := Lib.hid (by simpa using hO4)
                    clear hO4
                    have hz4 := hb4.size
                    go_wp2_with (at_builtin; refine pushAnyB _ _ 52 3 1 8 _ i0 Try.underlying52 hi hzz hzs hzb rfl (by decide) (by decide) wk2.heap.size wk2.heap.size (j + 1) (out.length - j) (co - j) _ (vals (out.drop j)) _ (some ⟨go, j, none⟩) wk2 w4 rfl rfl rfl rfl (by rw [vals_len, List.length_drop]; omega) (fun h => (by cases h)) HO4.out (HDR.out _ hb4) hb4 (Nat.le_refl _) hz4 (vals_cells _) (by omega) ?_)
                    intro v5 w5 hO5 hb5
                    have HO5 := Lib.hid hO5
                    clear hO5
                    go_wp2
                    go_roundw
                    case rel => exact ⟨k + 1, by omega, by go_num, Lib.hid (by rw [HNX.out, HLN.out, HVL.out]; simpa using own_more HO5.out (Nat.le_trans hzr hbk.size)), (hb2.trans (hbk.mono hzr)).trans (hb5.mono (Nat.le_trans hzr hbk.size))⟩
                    case measure => simp [intOf]; omega
            · have hje : j = out.length := by omega
              have HB : Hid (below_ a out = j) := Lib.hid (by rw [HJ.out, hje, List.drop_length]; rfl)
              have HNX : Hid (timesL (al.take (k + 1)) = out.take j ++ a :: out.drop j) := Lib.hid (by rw [HNX0.out, HIN.out, HB.out, if_neg (fun y => hjl y.1)])
              have hjd : decide ((j : Int) < (out.length : Int)) = false := by simp; omega
              have hjd2 : decide (j < out.length) = false := by simp; omega
              have HJE := Lib.hid hje
              have hj9 : out.length ≤ j := by omega
              clear HNX0 HIN HB HJ hje
              go_wp2_with fail
              go_quiet (fail)
              go_wp2_with fail
              go_quiet (fail)
              generalize hwk2 : World.drewN (World.drewN wk _) _ = wk2
              have hbk2 : Below wk.heap.size wk wk2 := by rw [← hwk2]; exact below_drewN (below_drewN (Below.refl _ _) _) _
              replace hbk := hbk.trans (hbk2.mono hzk)
              replace qk := carry hbk2 qk
              clear hwk2 hbk2 hzk
              have hzk := hbk.size
              rcases hno with ⟨rfl, h0, hc0⟩ | ⟨go, rfl, hgo1, hgo2⟩
              · obtain rfl : out = [] := List.eq_nil_of_length_eq_zero h0
                obtain rfl := hc0
                obtain rfl : j = 0 := by simpa using HJE.out
                replace HNX : Hid (timesL (al.take (k + 1)) = [a]) := Lib.hid (by rw [HNX.out]; rfl)
                go_wp2_with (at_builtin; refine pushAnyB _ _ 52 3 1 8 _ i0 Try.underlying52 hi hzz hzs hzb rfl (by decide) (by decide) wk2.heap.size wk2.heap.size 0 0 0 [] [] _ none wk2 wk2 rfl rfl rfl rfl rfl (fun _ => rfl) (by exact World.ownsRow_nil _ _ _ _) (.inl rfl) (Below.refl _ _) (Nat.le_refl _) (Nat.le_refl _) (fun u hu => (by cases hu)) (by omega) ?_)
                intro v3 w3 hO3 hb3
                have HO3 : Hid (w3.ownsRow wk2.heap.size 3 1 v3 0 []) := Lib.hid (by simpa using hO3)
                clear hO3
                have hz3 := hb3.size
                have q3 := carry hb3 qk
                have hga3 : ga < w3.heap.size := by omega
                go_wp2_with (at_builtin; refine pushOne _ _ 52 3 1 8 _ i0 Try.underlying52 hi hzz hzs hzb rfl (by decide) (by decide) wk2.heap.size wk2.heap.size 0 _ _ _ _ wk2 _ rfl rfl rfl rfl rfl HO3.out hb3 (Nat.le_refl _) hz3 (by simp [Value.oneCell']) (by omega) ?_)
                intro v4 w4 hO4 hb4
                have HO4 : Hid (w4.ownsRow wk2.heap.size 3 1 v4 1 [Value.int .i64 a]) := Lib.hid (by simpa using hO4)
                clear hO4
                have hz4 := hb4.size
                go_wp2_with (at_builtin; refine pushAnyB _ _ 52 3 1 8 _ i0 Try.underlying52 hi hzz hzs hzb rfl (by decide) (by decide) wk2.heap.size wk2.heap.size 1 0 0 _ [] _ none wk2 w4 rfl rfl rfl rfl rfl (fun _ => rfl) HO4.out (.inl rfl) hb4 (Nat.le_refl _) hz4 (fun u hu => (by cases hu)) (by omega) ?_)
                intro v5 w5 hO5 hb5
                have HO5 := Lib.hid hO5
                clear hO5
                go_wp2
                go_roundw
                case rel => exact ⟨k + 1, by omega, by go_num, Lib.hid (by rw [HNX.out]; exact (by simpa [vals] using own_more HO5.out (Nat.le_trans hzr hbk.size))), (hb2.trans (hbk.mono hzr)).trans (hb5.mono (Nat.le_trans hzr hbk.size))⟩
                case measure => simp [intOf]; omega
              · skip
                have hjc : j ≤ co := by omega
                have hj0 : (0 : Int) ≤ j := by omega
                have hjci : (j : Int) ≤ (co : Int) := by omega
                have hjli : (j : Int) ≤ (out.length : Int) := by omega
                have hjt : ((j : Int)).toNat = j := by omega
                have HTK := Lib.hid (rowTake (HOR.out.later hbk) j)
                have HLN : Hid ((out.take j ++ a :: out.drop j).length = j + 1 + (out.length - j)) := Lib.hid (by rw [List.length_append, List.length_take, List.length_cons, List.length_drop]; omega)
                have HVL : Hid (vals (out.take j ++ a :: out.drop j) = vals (out.take j) ++ Value.int .i64 a :: vals (out.drop j)) := Lib.hid (by simp [vals])
                have HE0 : Hid (vals (out.drop j) = [] ∧ out.length - j = 0) := Lib.hid ⟨by rw [List.drop_eq_nil_of_le (by omega)]; rfl, by omega⟩
                by_cases hcj : j = co
                · subst hcj
                  go_wp2_with (at_builtin; refine pushAnyB _ _ 52 3 1 8 _ i0 Try.underlying52 hi hzz hzs hzb rfl (by decide) (by decide) wk2.heap.size wk2.heap.size 0 j j [] (vals (out.take j)) _ (some ⟨go, 0, none⟩) wk2 wk2 rfl rfl rfl rfl (by rw [vals_len, List.length_take]; omega) (fun h => (by cases h)) (by exact World.ownsRow_nil _ _ _ _) HTK.out (Below.refl _ _) (Nat.le_refl _) (Nat.le_refl _) (vals_cells _) (by omega) ?_)
                  intro v3 w3 hO3 hb3
                  have HO3 : Hid (w3.ownsRow wk2.heap.size 3 1 v3 j (vals (out.take j))) := Lib.hid (by simpa using hO3)
                  clear hO3
                  have hz3 := hb3.size
                  have q3 := carry hb3 qk
                  have hga3 : ga < w3.heap.size := by omega
                  go_wp2_with (at_builtin; refine pushOne _ _ 52 3 1 8 _ i0 Try.underlying52 hi hzz hzs hzb rfl (by decide) (by decide) wk2.heap.size wk2.heap.size j _ _ _ _ wk2 _ rfl rfl rfl rfl rfl HO3.out hb3 (Nat.le_refl _) hz3 (by simp [Value.oneCell']) (by omega) ?_)
                  intro v4 w4 hO4 hb4
                  have HO4 : Hid (w4.ownsRow wk2.heap.size 3 1 v4 (j + 1) (vals (out.take j) ++ [Value.int .i64 a])) := Lib.hid (by simpa using hO4)
                  clear hO4
                  have hz4 := hb4.size
                  go_wp2_with (at_builtin; refine pushAnyB _ _ 52 3 1 8 _ i0 Try.underlying52 hi hzz hzs hzb rfl (by decide) (by decide) wk2.heap.size wk2.heap.size (j + 1) 0 0 _ [] _ (some ⟨go, 0, none⟩) wk2 w4 rfl rfl rfl rfl rfl (fun h => (by cases h)) HO4.out (.inl rfl) hb4 (Nat.le_refl _) hz4 (fun u hu => (by cases hu)) (by omega) ?_)
                  intro v5 w5 hO5 hb5
                  have HO5 := Lib.hid hO5
                  clear hO5
                  go_wp2
                  go_roundw
                  case rel => exact ⟨k + 1, by omega, by go_num, Lib.hid (by rw [HNX.out, HLN.out, HVL.out, HE0.out.1, HE0.out.2]; simpa using own_more HO5.out (Nat.le_trans hzr hbk.size)), (hb2.trans (hbk.mono hzr)).trans (hb5.mono (Nat.le_trans hzr hbk.size))⟩
                  case measure => simp [intOf]; omega
                · skip
                  go_wp2_with (at_builtin; refine pushAnyB _ _ 52 3 1 8 _ i0 Try.underlying52 hi hzz hzs hzb rfl (by decide) (by decide) wk2.heap.size wk2.heap.size 0 j co [] (vals (out.take j)) _ (some ⟨go, 0, none⟩) wk2 wk2 rfl rfl rfl rfl (by rw [vals_len, List.length_take]; omega) (fun h => (by cases h)) (by exact World.ownsRow_nil _ _ _ _) HTK.out (Below.refl _ _) (Nat.le_refl _) (Nat.le_refl _) (vals_cells _) (by omega) ?_)
                  intro v3 w3 hO3 hb3
                  have HO3 : Hid (w3.ownsRow wk2.heap.size 3 1 v3 j (vals (out.take j))) := Lib.hid (by simpa using hO3)
                  clear hO3
                  have hz3 := hb3.size
                  have q3 := carry hb3 qk
                  have hga3 : ga < w3.heap.size := by omega
                  go_wp2_with (at_builtin; refine pushOne _ _ 52 3 1 8 _ i0 Try.underlying52 hi hzz hzs hzb rfl (by decide) (by decide) wk2.heap.size wk2.heap.size j _ _ _ _ wk2 _ rfl rfl rfl rfl rfl HO3.out hb3 (Nat.le_refl _) hz3 (by simp [Value.oneCell']) (by omega) ?_)
                  intro v4 w4 hO4 hb4
                  have HO4 : Hid (w4.ownsRow wk2.heap.size 3 1 v4 (j + 1) (vals (out.take j) ++ [Value.int .i64 a])) := Lib.hid (by simpa using hO4)
                  clear hO4
                  have hz4 := hb4.size
                  go_wp2_with (at_builtin; refine pushAnyB _ _ 52 3 1 8 _ i0 Try.underlying52 hi hzz hzs hzb rfl (by decide) (by decide) wk2.heap.size wk2.heap.size (j + 1) 0 (co - j) _ [] _ (some ⟨go, j, none⟩) wk2 w4 rfl rfl rfl rfl rfl (fun h => (by cases h)) HO4.out (.inl rfl) hb4 (Nat.le_refl _) hz4 (fun u hu => (by cases hu)) (by omega) ?_)
                  intro v5 w5 hO5 hb5
                  have HO5 := Lib.hid hO5
                  clear hO5
                  go_wp2
                  go_roundw
                  case rel => exact ⟨k + 1, by omega, by go_num, Lib.hid (by rw [HNX.out, HLN.out, HVL.out, HE0.out.1, HE0.out.2]; simpa using own_more HO5.out (Nat.le_trans hzr hbk.size)), (hb2.trans (hbk.mono hzr)).trans (hb5.mono (Nat.le_trans hzr hbk.size))⟩
                  case measure => simp [intOf]; omega
        · have hkl : k = al.length := by omega
          subst hkl
          rw [List.take_length] at HO
          go_wp2
          go_ret
          exact ⟨u7, rfl, by rw [HALL.out]; exact own_more HO.out hz, hb.trans (hb2.mono hz)⟩
end Go.Proofs.Ytcnpppkndcgmpaa.W
