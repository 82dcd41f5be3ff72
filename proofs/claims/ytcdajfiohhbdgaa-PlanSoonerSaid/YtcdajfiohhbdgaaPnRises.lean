/-
  slices.Sort and slices.Compact of an own row of integers; contract of plan's rises.
-/
import Derived.Test.YtcdajfiohhbdgaaPnWhen
import Derived.Test.YtcdajfiohhbdgaaShelf
import Derived.Sort.OwnSortedInts
import Derived.Lib.OwnBridge
namespace Go.Proofs.Ytcdajfiohhbdgaa.W
set_option maxRecDepth 100000
set_option linter.unusedVariables false
set_option linter.unusedSimpArgs false
open Go.ChangeShapes Go.WideShapes Go.ChangeAt Go.RowKit

theorem compact_sub (zs : List Int) : (Lib.compact zs).Sublist zs := by
  unfold Lib.compact Lib.compactUpTo
  have h := (List.filter_sublist (l := List.range zs.length) (p := Lib.keeps zs.toArray)).map (zs.toArray[·]!)
  have e := Lib.range_map_get zs.toArray
  simp only [List.size_toArray] at e
  rw [e] at h
  exact h
theorem mem_compact (zs : List Int) (x : Int) : x ∈ Lib.compact zs ↔ x ∈ zs := by
  constructor
  · exact fun h => (compact_sub zs).subset h
  · intro h
    obtain ⟨i, hi, rfl⟩ := List.getElem_of_mem h
    have key : ∀ (i : Nat), i < zs.length → zs.toArray[i]! ∈ Lib.compact zs := by
      intro i
      induction i with
      | zero =>
        intro hi
        unfold Lib.compact Lib.compactUpTo
        exact List.mem_map.2 ⟨0, List.mem_filter.2 ⟨List.mem_range.2 hi, by simp [Lib.keeps]⟩, rfl⟩
      | succ i ih =>
        intro hi
        by_cases hk : Lib.keeps zs.toArray (i + 1) = true
        · unfold Lib.compact Lib.compactUpTo
          exact List.mem_map.2 ⟨i + 1, List.mem_filter.2 ⟨List.mem_range.2 hi, hk⟩, rfl⟩
        · have : zs.toArray[i + 1]! = zs.toArray[i]! := by
            apply Classical.byContradiction
            intro hne
            apply hk
            unfold Lib.keeps
            exact decide_eq_true (.inr (by simpa using hne))
          rw [this]
          exact ih (by omega)
    have h1 := key i hi
    rw [getElem!_pos _ i (by simpa using hi)] at h1
    simpa using h1
theorem sortOwn (B : Nat) (v : Value) (zs : List Int) (hl : zs.length ≤ 1000000000) (w : World) (hB : B ≤ w.heap.size) (h : w.ownsRow B 3 1 v zs.length (vals zs)) :
    Calls Try.prog 43 #[v] w fun e w' => e = .returned (.tuple #[]) ∧ w'.ownsRow B 3 1 v zs.length (vals (zs.mergeSort fun x y => decide (x ≤ y))) ∧ Below B w w' := by
  rcases h.2 with ⟨rfl, hx⟩ | ⟨g, cap, cur, rfl, hg, hh, hn, hm, hs, ht⟩
  · have hz : zs = [] := List.eq_nil_of_length_eq_zero hx
    subst hz
    refine (Try.slices_Sort_int_none none 0 w).mono ?_
    rintro e w' ⟨rfl, rfl⟩
    exact ⟨rfl, by simpa using h, Below.refl _ _⟩
  · have hH := Go.holds_of_blockI (ss := zs) hh (by simpa [vals] using ht)
    refine (Try.slices_Sort_int g 0 cap zs w hH (blk_lt hh) (by omega)).mono ?_
    rintro e w' ⟨rfl, n, os, rfl⟩
    refine ⟨rfl, Go.ownsRow_sortedI (by simp) hg hh hn hm hs, (Below.refl _ _).grown (Go.grownBy_sortedI _) hB (fun k hk => by injection hk with hk; omega)⟩
theorem compactOwn (B : Nat) (a : Option Addr) (c : Nat) (zs : List Int) (hl : zs.length ≤ 1000000000) (w : World) (hB : B ≤ w.heap.size) (h : w.ownsRow B 3 1 (.slice a zs.length c) zs.length (vals zs)) :
    Calls Try.prog 44 #[.slice a zs.length c] w fun e w' => e = .returned (.slice a (Lib.compact zs).length c) ∧ ((Lib.compact zs).length ≤ c ∧ RowAt w' a (vals (Lib.compact zs))) ∧ Below B w w' := by
  rcases h.2 with ⟨h0, hx⟩ | ⟨g, cap, cur, h0, hg, hh, hn, hm, hs, ht⟩
  · injection h0 with h1 h2 h3
    have hz : zs = [] := List.eq_nil_of_length_eq_zero h2
    subst hz
    refine (Try.slices_Compact_int_empty a c w).mono ?_
    rintro e w' ⟨rfl, rfl⟩
    exact ⟨rfl, ⟨Nat.zero_le _, .inl rfl⟩, Below.refl _ _⟩
  · injection h0 with h1 h2 h3
    subst h1 h3
    have hH := Go.holds_of_blockI (ss := zs) hh (by simpa [vals] using ht)
    have hcl : (Lib.compact zs).length ≤ zs.length := (compact_sub zs).length_le
    refine (Try.slices_Compact_int g 0 c zs w hH (by omega) hn).mono ?_
    rintro e w' ⟨rfl, q, rfl⟩
    refine ⟨rfl, ⟨Nat.le_trans hcl hn, .inr ⟨g, 0, rfl, by simpa [Sort.ahead] using blk_lt hh, fun i u hu => ?_⟩⟩, Lib.below_putRow (Below.refl _ _) hg⟩
    have hil : i < (Lib.compact zs).length := by
      have := (List.getElem?_eq_some_iff.1 hu).1
      rwa [vals_len] at this
    rw [Go.Sort.cell?_putRow (Value.int .i64) (Go.Sort.ahead w q) g 0 zs.toArray _ (Go.Sort.holds_ahead _ _ _ _ _ _ hH) (by simp; omega) i (by simp; omega)]
    rw [vals_at _ i hil] at hu
    rw [← hu, getElem!_pos _ i (by simp; omega)]
    simp [List.getElem_append_left, hil]
def prSp (lb lo ln lc i j : Nat) (x y : V) (B : Bool) : List Sp :=
  [Sp.c (.slice (some ⟨lb, lo, none⟩) ln lc) [],
   Sp.c (.int .i64 (i : Int)) [],
   Sp.c (.pointer (some ⟨lb, lo + i * 5, none⟩)) [0, 1],
   Sp.c (.pointer (some ⟨lb, lo + i * 5 + 1, none⟩)) [2],
   Sp.c ((.agg #[.int .i64 x.cpu, .int .i64 x.mem, .int .i64 x.gpu, .int .i64 x.lic])) [3],
   Sp.c (.slice (some ⟨lb, lo, none⟩) ln lc) [],
   Sp.c (.int .i64 (i : Int)) [],
   Sp.c (.int .i64 (j : Int)) [6],
   Sp.c (.pointer (some ⟨lb, lo + j * 5, none⟩)) [5, 7],
   Sp.c (.pointer (some ⟨lb, lo + j * 5 + 1, none⟩)) [8],
   Sp.c ((.agg #[.int .i64 y.cpu, .int .i64 y.mem, .int .i64 y.gpu, .int .i64 y.lic])) [9],
   Sp.c (.bool B) [4, 10],
   Sp.c (.bool (!B)) [11]]
theorem riseF_next : ∀ (s0 : St) (r : List St) (j : Nat) (hj : j < r.length), riseF s0.free (r.take (j + 1)) = riseF s0.free (r.take j) ++ if V.Le r[j].free ((s0 :: r)[j]'(by rw [List.length_cons]; omega)).free then [] else [r[j].at_]
  | s0, x :: r, 0, hj => by simp [riseF]
  | s0, x :: r, j + 1, hj => by
    have ih := riseF_next x r j (by simpa using hj)
    rw [List.take_succ_cons, List.take_succ_cons, riseF, riseF, ih, List.append_assoc]
    rfl
theorem riseL_next {l : List St} {j : Nat} (h : j + 1 < l.length) : riseL (l.take (j + 1 + 1)) = riseL (l.take (j + 1)) ++ if V.Le l[j + 1].free l[j].free then [] else [l[j + 1].at_] := by
  cases l with
  | nil => simp at h
  | cons s r =>
    rw [List.take_succ_cons, List.take_succ_cons]
    exact riseF_next s r j (by simpa using h)
theorem risesF_next {F : FL} {part : List Int} {k : Nat} (h : k < part.length) : risesF F (part.take (k + 1)) = risesF F (part.take k) ++ riseL (F.getD part[k].toNat []) := by
  unfold risesF
  rw [take_app part k h, List.flatMap_append]
  simp
theorem infoInt1 : (Try.prog.info? 3).map (fun i => (i.zero, i.size, i.bytes)) = some (some (.int .i64 0), 1, 8) := by kernel_rfl
/-- the times of a profile at which something rises, in their order -/
structure RisT (w : World) (a : Option Addr) (c : Nat) (T : List Int) (F : FL) (part : List Int) : Prop where
  le : T.length ≤ c
  row : RowAt w a (vals T)
  mem : ∀ y, y ∈ T ↔ y ∈ risesF F part
  sorted : T.Pairwise (· ≤ ·)
theorem RisT.later {w w' : World} {a : Option Addr} {c : Nat} {T : List Int} {F : FL} {part : List Int} (h : RisT w a c T F part) (hb : Below w.heap.size w w') : RisT w' a c T F part := ⟨h.le, h.row.later hb, h.mem, h.sorted⟩
set_option maxHeartbeats 8000000 in
theorem pRises (g : Nat) (s : S) (now : Int) (fa : Option Addr) (fc : Nat) (F : List Stl) (hok : PrOk s now F) (pt : Nat) (hpt : pt < s.parts.length) (pb po : Nat) (hpa : s.pa = some ⟨pb, po, none⟩) (w : World) (HP : PrAt w g s now fa fc F) (HS : Rows w s) :
    Calls Try.prog 25 #[.pointer (some ⟨g, 0, none⟩), .int .i64 (pt : Int)] w fun e w' =>
      ∃ a c T, e = .returned (.slice a T.length c) ∧ RisT w' a c T (flOf F) s.parts[pt].l ∧ Below w.heap.size w w' := by
  obtain ⟨i0, hi, hzz, hzs, hzb⟩ := info_parts infoInt1
  have HR := Lib.hid HP
  obtain ⟨hpr, hpl⟩ := part_rise hok.right hpt
  have hn16 : F.length ≤ 16 := by have := (right_is hok.right).nodes.1.2; rw [hok.len]; exact this
  have hlen := hok.len
  rw [← hlen] at hpr
  have hlens := Lib.hid (fun (k : Nat) (hk : k < F.length) => hok.lens F[k].l (List.mem_map.2 ⟨F[k], List.getElem_mem hk, rfl⟩))
  have HLENS := Lib.hid hok.lens
  have c0 := HP.c0
  have c2 := HP.c2
  rw [hpa] at c0
  have hgl := blk_lt HP.blk
  obtain ⟨b1, o1, e1, hbl1, p0⟩ := HS.part_ hpt
  rw [hpa] at e1
  injection e1 with e1
  injection e1 with e11 e12
  subst e11 e12
  have HNM := Lib.hid (HS.part _ (List.getElem_mem hpt))
  have hsn : (pt : Int) < s.parts.length := by omega
  have hpt0 : ((pt : Int)).toNat = pt := by omega
  have hpt1 : (0 : Int) ≤ pt := by omega
  clear HP HS hok hlen hpa
  generalize hq : s.parts[pt] = q at *
  obtain ⟨qa, qc, ql⟩ := q
  dsimp only at *
  clear hq
  clear hpt
  generalize s.parts.length = sn at c0 hsn
  generalize hnn : F.length = n at hn16 c2 hpr
  have HN := Lib.hid hnn
  clear hnn
  go_enter Try.func25, Try.ntmps25
  go_wp2
  go_loopw [5, 18] (fun v5 x wr => ∃ k : Nat, k ≤ ql.length ∧ x = .int .i64 k ∧ Below w.heap.size w wr ∧ Hid (∃ m, m = (risesF (flOf F) (ql.take k)).length ∧ m ≤ k * 50000 ∧ wr.ownsRow w.heap.size 3 1 v5 m (vals (risesF (flOf F) (ql.take k))))) (fun _ x _ => ql.length - (intOf x).toNat)
  case atStart => exact ⟨0, Nat.zero_le _, rfl, Below.refl _ _, Lib.hid ⟨0, rfl, Nat.zero_le _, World.ownsRow_nil _ _ _ _⟩⟩
  case round =>
    rename World => wo
    obtain ⟨k, hk, rfl, hb, HI⟩ := hrel
    have hz := hb.size
    have r0 := carry hb c0
    have r2 := carry hb c2
    by_cases hlt : k < ql.length
    · obtain ⟨b2, o2, ea2, hbl3, q0⟩ := (RowAt.later HNM.out hb).nm hlt
      subst ea2
      have hx := riseN_mem hpr ql[k] (List.getElem_mem hlt)
      obtain ⟨kq, hkk⟩ : ∃ kq : Nat, (kq : Int) = ql[k] := ⟨ql[k].toNat, by omega⟩
      have hkn : kq < n := by omega
      have hkF : kq < F.length := by rw [HN.out]; exact hkn
      have HT : Hid (risesF (flOf F) (ql.take (k + 1)) = risesF (flOf F) (ql.take k) ++ riseL F[kq].l) := Lib.hid (by
        rw [risesF_next hlt, show ql[k].toNat = kq by omega, flOf_at hkF])
      rw [← hkk] at q0
      obtain ⟨b3, o3, ea3, hbl4, q1⟩ := (HR.out.later hb).free.at_ hkF
      have HE := Lib.hid (fun (W : World) (hW : Below w.heap.size w W) => (HR.out.later hW).free.each _ (List.getElem_mem hkF))
      have hll := hlens.out kq hkF
      subst ea3
      generalize F[kq] = p at q1 HE HT hll
      obtain ⟨pa, pc, l⟩ := p
      dsimp only at q1 HE HT hll
      clear hx hkk
      have hk0 : (0 : Int) ≤ kq := by omega
      have hk1 : (kq : Int) < n := by omega
      have hkt : ((kq : Int)).toNat = kq := by omega
      obtain ⟨m0, hm0, hmk0, hO0⟩ := HI.out
      have HO0 := Lib.hid hO0
      have HM0 := Lib.hid hm0
      generalize risesF (flOf F) (ql.take k) = T0 at HO0 HM0 HT
      clear hO0 hm0 HI
      go_wp2
      go_loopw [5, 9] (fun v5 x wr => ∃ i : Nat, 1 ≤ i ∧ (i ≤ l.length ∨ i = 1) ∧ x = .int .i64 i ∧ Below w.heap.size w wr ∧ Hid (∃ m, m = m0 + (riseL (l.take i)).length ∧ wr.ownsRow w.heap.size 3 1 v5 m (vals (T0 ++ riseL (l.take i))))) (fun _ x _ => l.length - (intOf x).toNat)
      case atStart =>
        have e1 : riseL (l.take 1) = [] := by cases l <;> rfl
        exact ⟨1, Nat.le_refl _, .inr rfl, rfl, hb, Lib.hid ⟨m0, by rw [e1]; rfl, by rw [e1, List.append_nil]; exact HO0.out⟩⟩
      case round =>
        rename World => wr
        obtain ⟨i, hi1, hi2, rfl, hbi, HI⟩ := hrel
        have hzi := hbi.size
        by_cases hlti : i < l.length
        · have hltI : (i : Int) < l.length := by omega
          obtain ⟨j, rfl⟩ : ∃ j, i = j + 1 := ⟨i - 1, by omega⟩
          have hst : StAt wr pa pc l := (HE.out wr hbi).st
          obtain ⟨lb, lo, ela, hlb, x0, x1, x2, x3, x4⟩ := hst.row.step hlti
          obtain ⟨lb2, lo2, ela2, hlb2, y0, y1, y2, y3, y4⟩ := hst.row.step (k := j) (by omega)
          rw [ela] at ela2
          injection ela2 with ela2
          injection ela2 with ela3 ela4
          subst ela3 ela4
          have HNX := Lib.hid (riseL_next hlti)
          obtain ⟨m, hm, hO⟩ := HI.out
          have hrl := riseL_len (l.take (j + 1))
          rw [List.length_take] at hrl
          have hmb : m ≤ 900000 := by omega
          have HO := Lib.hid hO
          have HM := Lib.hid hm
          have ela5 : pa = some ⟨lb, lo, none⟩ := ela
          subst ela5
          have HFT := Lib.hid (fun w' => fits l[j + 1].free l[j].free w')
          have HB : Hid (∀ B, B = fitsB l[j + 1].free l[j].free → riseL (l.take (j + 1 + 1)) = riseL (l.take (j + 1)) ++ (if B = true then [] else [l[j + 1].at_])) := Lib.hid (by
            intro B hB
            rw [HNX.out, hB]
            by_cases h : V.Le l[j + 1].free l[j].free
            · rw [fits_yes h, if_pos h]; rfl
            · rw [fits_no h, if_neg h]; rfl)
          generalize hBB : fitsB l[j + 1].free l[j].free = B at HFT
          replace HB := Lib.hid (HB.out B hBB.symm)
          clear hBB HNX hO hm ela hrl HI hst
          generalize l[j + 1] = sx at x0 x1 x2 x3 x4 HFT HB
          generalize l[j] = sy at y0 y1 y2 y3 y4 HFT
          obtain ⟨xt, x⟩ := sx
          obtain ⟨yt, y⟩ := sy
          dsimp only at x0 x1 x2 x3 x4 y0 y1 y2 y3 y4 HFT HB
          generalize hii : j + 1 = i at *
          have hsub : IntKind.i64.wrap ((i : Int) - 1) = (j : Int) := by rw [IntWalk.i64_in _ (by omega)]; omega
          have HII := Lib.hid hii
          clear hii
          generalize hln : l.length = ln at *
          have HLN := Lib.hid hln
          clear hln
          have hj0 : (0 : Int) ≤ j := by omega
          have hj1 : (j : Int) < ln := by have := HII.out; omega
          have hjt : ((j : Int)).toNat = j := by omega
          have hi0 : (0 : Int) ≤ i := by omega
          have hit : ((i : Int)).toNat = i := by omega
          go_upto_region 9 with fail
          refine region_mono (prSp lb lo ln pc i j x y B) [35, 36, 37, 38, 39, 40, 41, 42, 43, 44, 45, 46, 47] (by kernel_rfl) (by kernel_rfl) (by kernel_rfl) (by kernel_rfl) (stables_cons (Sp.c_stable _ _) (stables_cons (Sp.c_stable _ _) (stables_cons (Sp.c_stable _ _) (stables_cons (Sp.c_stable _ _) (stables_cons (Sp.c_stable _ _) (stables_cons (Sp.c_stable _ _) (stables_cons (Sp.c_stable _ _) (stables_cons (Sp.c_stable _ _) (stables_cons (Sp.c_stable _ _) (stables_cons (Sp.c_stable _ _) (stables_cons (Sp.c_stable _ _) (stables_cons (Sp.c_stable _ _) (stables_cons (Sp.c_stable _ _) (trivial)))))))))))))) ?_ ?_
          · intro am wm L hbm hbase hbase2
            have s8 : am.tmps.getD 8 undef = .slice (some ⟨lb, lo, none⟩) ln pc := (hbase 8 rfl).trans (by simp only [Array.getD_eq_getD_getElem?, List.getElem?_toArray, List.getElem?_cons_succ, List.getElem?_cons_zero, Option.getD_some])
            have s9 : am.tmps.getD 9 undef = .int .i64 (i : Int) := (hbase 9 rfl).trans (by simp only [Array.getD_eq_getD_getElem?, List.getElem?_toArray, List.getElem?_cons_succ, List.getElem?_cons_zero, Option.getD_some])
            clear hbase hbase2
            have p1 := carry hbm x1
            have p2 := carry hbm x2
            have p3 := carry hbm x3
            have p4 := carry hbm x4
            have q1 := carry hbm y1
            have q2 := carry hbm y2
            have q3 := carry hbm y3
            have q4 := carry hbm y4
            refine steps_cons (fun hn hl => ?_) fun H0 => ?_
            · skip
              clear hn hl 
              refine stepC (wanted_free rfl) fun K hK => ?_
              go_simp
              exact hK _ (Below.refl _ _)
            refine steps_cons (fun hn hl => ?_) fun H1 => ?_
            · skip
              clear hn hl H0
              refine stepC (wanted_free rfl) fun K hK => ?_
              go_simp
              exact hK _ (Below.refl _ _)
            refine steps_cons (fun hn hl => ?_) fun H2 => ?_
            · skip
              have h35 := Sp.of_c (H0 (hn 0 (show 0 ∈ [0, 1] from .head _)))
              have h36 := Sp.of_c (H1 (hn 1 (show 1 ∈ [0, 1] from .tail _ (.head _))))
              clear hn hl H0 H1
              refine stepC (wanted_free rfl) fun K hK => ?_
              go_simp
              exact hK _ (Below.refl _ _)
            refine steps_cons (fun hn hl => ?_) fun H3 => ?_
            · skip
              have h37 := Sp.of_c (H2 (hn 2 (show 2 ∈ [2] from .head _)))
              clear hn hl H0 H1 H2
              refine stepC (wanted_free rfl) fun K hK => ?_
              go_simp
              exact hK _ (Below.refl _ _)
            refine steps_cons (fun hn hl => ?_) fun H4 => ?_
            · skip
              have h38 := Sp.of_c (H3 (hn 3 (show 3 ∈ [3] from .head _)))
              clear hn hl H0 H1 H2 H3
              refine stepC (wanted_free rfl) fun K hK => ?_
              go_simp
              exact hK _ (Below.refl _ _)
            refine steps_cons (fun hn hl => ?_) fun H5 => ?_
            · skip
              clear hn hl H0 H1 H2 H3 H4
              refine stepC (wanted_free rfl) fun K hK => ?_
              go_simp
              exact hK _ (Below.refl _ _)
            refine steps_cons (fun hn hl => ?_) fun H6 => ?_
            · skip
              clear hn hl H0 H1 H2 H3 H4 H5
              refine stepC (wanted_free rfl) fun K hK => ?_
              go_simp
              exact hK _ (Below.refl _ _)
            refine steps_cons (fun hn hl => ?_) fun H7 => ?_
            · skip
              have h41 := Sp.of_c (H6 (hn 6 (show 6 ∈ [6] from .head _)))
              clear hn hl H0 H1 H2 H3 H4 H5 H6
              refine stepC (wanted_free rfl) fun K hK => ?_
              go_simp
              exact hK _ (Below.refl _ _)
            refine steps_cons (fun hn hl => ?_) fun H8 => ?_
            · skip
              have h40 := Sp.of_c (H5 (hn 5 (show 5 ∈ [5, 7] from .head _)))
              have h42 := Sp.of_c (H7 (hn 7 (show 7 ∈ [5, 7] from .tail _ (.head _))))
              clear hn hl H0 H1 H2 H3 H4 H5 H6 H7
              refine stepC (wanted_free rfl) fun K hK => ?_
              go_simp
              exact hK _ (Below.refl _ _)
            refine steps_cons (fun hn hl => ?_) fun H9 => ?_
            · skip
              have h43 := Sp.of_c (H8 (hn 8 (show 8 ∈ [8] from .head _)))
              clear hn hl H0 H1 H2 H3 H4 H5 H6 H7 H8
              refine stepC (wanted_free rfl) fun K hK => ?_
              go_simp
              exact hK _ (Below.refl _ _)
            refine steps_cons (fun hn hl => ?_) fun H10 => ?_
            · skip
              have h44 := Sp.of_c (H9 (hn 9 (show 9 ∈ [9] from .head _)))
              clear hn hl H0 H1 H2 H3 H4 H5 H6 H7 H8 H9
              refine stepC (wanted_free rfl) fun K hK => ?_
              go_simp
              exact hK _ (Below.refl _ _)
            refine steps_cons (fun hn hl => ?_) fun H11 => ?_
            · skip
              have h39 := Sp.of_c (H4 (hn 4 (show 4 ∈ [4, 10] from .head _)))
              have h45 := Sp.of_c (H10 (hn 10 (show 10 ∈ [4, 10] from .tail _ (.head _))))
              clear hn hl H0 H1 H2 H3 H4 H5 H6 H7 H8 H9 H10
              refine stepC (wanted_free rfl) fun K hK => ?_
              go_simp
              first
                | ((with_reducible refine (HFT.out _).mono ?_); rintro e w6 ⟨rfl, hb6⟩; exact hK _ hb6)
            refine steps_cons (fun hn hl => ?_) fun H12 => ?_
            · skip
              have h46 := Sp.of_c (H11 (hn 11 (show 11 ∈ [11] from .head _)))
              clear hn hl H0 H1 H2 H3 H4 H5 H6 H7 H8 H9 H10 H11
              refine stepC (wanted_free rfl) fun K hK => ?_
              go_simp
              exact hK _ (Below.refl _ _)
            exact trivial
          · intro w5 hb5
            have hz5 := hb5.size
            refine end_cons ?_; rintro _ rfl
            refine end_cons ?_; rintro _ rfl
            refine end_cons ?_; rintro _ rfl
            refine end_cons ?_; rintro _ rfl
            refine end_cons ?_; rintro _ rfl
            refine end_cons ?_; rintro _ rfl
            refine end_cons ?_; rintro _ rfl
            refine end_cons ?_; rintro _ rfl
            refine end_cons ?_; rintro _ rfl
            refine end_cons ?_; rintro _ rfl
            refine end_cons ?_; rintro _ rfl
            refine end_cons ?_; rintro _ rfl
            refine end_cons ?_; rintro _ rfl
            refine end_nil ?_
            simp only [List.setIfInBounds_toArray, List.set_cons_succ, List.set_cons_zero, Bool.not_false, Bool.not_true, Bool.true_or, Bool.or_true, Bool.false_or, Bool.or_false]
            replace x0 := carry hb5 x0
            have hbi5 := hbi.trans (hb5.mono hzi)
            have HO5 := Lib.hid (own_later HO.out hb5)
            have hz5' := hbi5.size
            cases B
            · have HE2 : Hid (riseL (l.take (i + 1)) = riseL (l.take i) ++ [xt]) := Lib.hid HB.out
              clear HB HFT
              go_wp2_with (at_builtin; refine pushOne _ _ 77 3 1 8 _ i0 Try.underlying77 hi hzz hzs hzb rfl (by decide) (by decide) w.heap.size w.heap.size m _ _ _ _ w _ rfl rfl rfl rfl rfl HO5.out hbi5 (Nat.le_refl _) hz5' (by simp [Value.oneCell']) (by omega) ?_)
              intro v' w6 hown hb6
              go_wp2
              go_roundw
              case rel => exact ⟨i + 1, by omega, .inl (by have := HLN.out; omega), by go_num, hb6, Lib.hid ⟨m + 1, by rw [HE2.out, List.length_append, HM.out]; rfl, by rw [HE2.out, ← List.append_assoc]; simpa [vals] using hown⟩⟩
              case measure => have := HLN.out; simp [intOf]; omega
            · have HE2 : Hid (riseL (l.take (i + 1)) = riseL (l.take i)) := Lib.hid (by simpa using HB.out)
              clear HB HFT
              go_wp2
              go_roundw
              case rel => exact ⟨i + 1, by omega, .inl (by have := HLN.out; omega), by go_num, hbi5, Lib.hid ⟨m, by rw [HE2.out, HM.out], by rw [HE2.out]; exact HO5.out⟩⟩
              case measure => have := HLN.out; simp [intOf]; omega
        · have HTK : Hid (l.take i = l) := Lib.hid (List.take_of_length_le (by omega))
          have hrl := riseL_len l
          have HNEW : Hid (∃ m, m = (risesF (flOf F) (ql.take (k + 1))).length ∧ m ≤ (k + 1) * 50000 ∧ wr.ownsRow w.heap.size 3 1 u5 m (vals (risesF (flOf F) (ql.take (k + 1))))) := Lib.hid (by
            obtain ⟨m, hm, hO⟩ := HI.out
            rw [HTK.out] at hm hO
            refine ⟨m, by rw [HT.out, List.length_append, ← HM0.out]; exact hm, by omega, by rw [HT.out]; exact hO⟩)
          clear HI HTK hrl
          go_wp2
          go_roundw
          case rel => exact ⟨k + 1, by omega, by go_num, hbi, HNEW⟩
          case measure => simp [intOf]; omega
    · have hkl : k = ql.length := by omega
      obtain ⟨m, hm, hmk, hO⟩ := HI.out
      rw [hkl, List.take_length] at hm hO
      have hmb : m ≤ 900000 := by omega
      subst hm
      obtain ⟨a5, c5, e5, _⟩ := own_shape hO
      subst e5
      have HO := Lib.hid hO
      have HST := Lib.hid (fun (w' : World) (hB : w.heap.size ≤ w'.heap.size) h => sortOwn w.heap.size (.slice a5 (risesF (flOf F) ql).length c5) (risesF (flOf F) ql) (by omega) w' hB h)
      have HCP := Lib.hid (fun (zs : List Int) (hzl : zs.length = (risesF (flOf F) ql).length) (w' : World) (hB : w.heap.size ≤ w'.heap.size) h => compactOwn w.heap.size a5 c5 zs (by omega) w' hB h)
      have hsl : ((risesF (flOf F) ql).mergeSort fun x y => decide (x ≤ y)).length = (risesF (flOf F) ql).length := List.length_mergeSort ..
      replace HCP := Lib.hid (HCP.out _ hsl)
      rw [hsl] at HCP
      have HFIN : Hid (∀ (W : World), (Lib.compact ((risesF (flOf F) ql).mergeSort fun x y => decide (x ≤ y))).length ≤ c5 ∧ RowAt W a5 (vals (Lib.compact ((risesF (flOf F) ql).mergeSort fun x y => decide (x ≤ y)))) → RisT W a5 c5 (Lib.compact ((risesF (flOf F) ql).mergeSort fun x y => decide (x ≤ y))) (flOf F) ql) := Lib.hid (fun W hW => ⟨hW.1, hW.2, fun y => by rw [mem_compact, List.mem_mergeSort], by
        have hp := List.pairwise_mergeSort (le := fun (x y : Int) => decide (x ≤ y)) (fun a b c h1 h2 => by simp at *; omega) (fun a b => by simp; omega) (risesF (flOf F) ql)
        exact ((hp.imp (fun h => by simpa using h)).sublist (compact_sub _))⟩)
      clear hO HI hkl hmk hsl
      generalize Lib.compact ((risesF (flOf F) ql).mergeSort fun x y => decide (x ≤ y)) = T at HCP HFIN
      generalize ((risesF (flOf F) ql).mergeSort fun x y => decide (x ≤ y)) = S2 at HST HCP
      generalize (risesF (flOf F) ql).length = tn at HST HCP HO hmb ⊢
      go_wp2_with fail
      refine (HST.out wo hz HO.out).mono ?_; rintro e w6 ⟨rfl, hO6, hb6⟩
      have k6 := hb.trans hb6
      have HO6 := Lib.hid hO6
      clear hO6
      go_wp2_with fail
      refine (HCP.out w6 k6.size HO6.out).mono ?_; rintro e w7 ⟨rfl, hr7, hb7⟩
      have HR7 := Lib.hid (HFIN.out w7 hr7)
      have k7 := k6.trans hb7
      clear hr7
      go_wp2
      go_ret
      exact ⟨_, _, _, rfl, HR7.out, k7⟩
end Go.Proofs.Ytcdajfiohhbdgaa.W
