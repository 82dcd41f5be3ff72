/-
  Several texts in one: TextParted, TextSaid, TextMine.
-/
import Derived.Test.YtgopjpnlpcmldaaGreatDoorJ33
import Derived.Test.YtgopjpnlpcmldaaGreatDoorJ31
import Derived.Test.YtgopjpnlpcmldaaGreatDoorJ34
import Derived.RangeFuncNested
import Derived.Stop.LaidErr
import Derived.Test.YtgopjpnlpcmldaaGreatDoorJ32

/-
  Contract of spec.parted: numbers with blanks between.
-/
namespace Go.Proofs.YtgopjpnlpcmldaaGreatDoor.W
set_option linter.unusedVariables false
set_option linter.unusedSimpArgs false
open Go.ChangeShapes Go.WideShapes Go.ChangeAt Go.RowKit
attribute [local go_sem] Oper.semAt_some

/-- what the library's errors ask of the world -/
structure StdE (w : World) : Prop where
  syn : ∃ tp p, w.var? Tryz.prog "strconv.ErrSyntax" = some #[.iface tp p]
  ran : ∃ tp p, w.var? Tryz.prog "strconv.ErrRange" = some #[.iface tp p]
theorem gSyn : Tryz.prog.globalNamed "strconv.ErrSyntax" = some 1 := by kernel_rfl
theorem gRan : Tryz.prog.globalNamed "strconv.ErrRange" = some 2 := by kernel_rfl
theorem var_below {P : Program} {w w' : World} {B g : Nat} {s : String} {x : Array Value} (hg : P.globalNamed s = some g) (h : w.var? P s = some x) (hb : Below B w w') (hB : g < B) : w'.var? P s = some x := by
  unfold World.var? at h ⊢
  rw [hg] at h ⊢
  simp only [Option.bind_some] at h ⊢
  rw [hb.block g hB]
  exact h
theorem StdE.below {w w' : World} {B : Nat} (h : StdE w) (hb : Below B w w') (hB : 4 ≤ B) : StdE w' where
  syn := by obtain ⟨tp, p, hv⟩ := h.syn; exact ⟨tp, p, var_below gSyn hv hb (by omega)⟩
  ran := by obtain ⟨tp, p, hv⟩ := h.ran; exact ⟨tp, p, var_below gRan hv hb (by omega)⟩

/-! what has come so far -/
theorem allO_snoc : ∀ {pre : List (List UInt8)} {ns : List Int} {x : List UInt8} {v : Int}, allO pre = some ns → atoiO x = some v → allO (pre ++ [x]) = some (ns ++ [v])
  | [], ns, x, v, h, hx => by
    simp only [allO, Option.some.injEq] at h
    subst h
    simp [allO, hx]
  | y :: r, ns, x, v, h, hx => by
    simp only [allO, List.cons_append] at h ⊢
    cases hy : atoiO y with
    | none => rw [hy] at h; simp at h
    | some n =>
      rw [hy] at h
      simp only at h ⊢
      cases hr : allO r with
      | none => rw [hr] at h; simp at h
      | some m =>
        rw [hr] at h
        simp only [Option.some.injEq] at h
        rw [allO_snoc hr hx, ← h]
        rfl
theorem allO_bad : ∀ {pre rest : List (List UInt8)} {x : List UInt8}, atoiO x = none → allO (pre ++ x :: rest) = none
  | [], rest, x, hx => by simp [allO, hx]
  | y :: r, rest, x, hx => by
    simp only [allO, List.cons_append]
    cases atoiO y with
    | none => rfl
    | some n => simp only [allO_bad (pre := r) (rest := rest) hx]
theorem allO_len : ∀ {pre : List (List UInt8)} {ns : List Int}, allO pre = some ns → ns.length = pre.length
  | [], ns, h => by simp only [allO, Option.some.injEq] at h; subst h; rfl
  | y :: r, ns, h => by
    simp only [allO] at h
    cases hy : atoiO y with
    | none => rw [hy] at h; simp at h
    | some n =>
      rw [hy] at h
      simp only at h
      cases hr : allO r with
      | none => rw [hr] at h; simp at h
      | some m =>
        rw [hr] at h
        simp only [Option.some.injEq] at h
        rw [← h]
        simp [allO_len hr]
theorem splitAll_len (c : UInt8) : ∀ (l : List UInt8), (splitAll c l).length ≤ l.length + 1 ∧ ∀ x ∈ splitAll c l, x.length ≤ l.length
  | [] => by simp [splitAll]
  | b :: l => by
    obtain ⟨h1, h2⟩ := splitAll_len c l
    by_cases h : b = c
    · rw [splitAll, if_pos h]
      refine ⟨by simp; omega, ?_⟩
      intro x hx
      rcases List.mem_cons.1 hx with rfl | hx
      · simp
      · have := h2 x hx; simp; omega
    · rw [splitAll, if_neg h]
      cases hs : splitAll c l with
      | nil => simp
      | cons y r =>
        rw [hs] at h1 h2
        refine ⟨by simp at h1 ⊢; omega, ?_⟩
        intro x hx
        rcases List.mem_cons.1 hx with rfl | hx
        · have := h2 y (by simp); simp; omega
        · have := h2 x (by simp [hx]); simp; omega

theorem cAtoi_ok (l : List UInt8) (hl : l.length ≤ 140737488355328) (v : Int) (h : Lib.atoiAll l = .ok v) (w : World) :
    Calls Tryz.prog 99 #[.string (bs l)] w fun e w' => e = .returned (.tuple #[.int .i64 v, .nilIface]) ∧ Below w.heap.size w w' := by
  have hc := Tryz.strconv_Atoi_ok (bs l) (by rw [bs_size]; omega) v (by rw [bs_list]; exact h) w
  refine hc.mono ?_
  rintro e w' ⟨rfl, rfl | ⟨t, rfl⟩⟩
  · exact ⟨rfl, Below.refl _ _⟩
  · exact ⟨rfl, Lib.bytesWorld_below _ _ _⟩
theorem cAtoi_no (l : List UInt8) (hl : l.length ≤ 140737488355328) (h : ∀ v, Lib.atoiAll l ≠ .ok v) (w : World) (hS : StdE w) :
    Calls Tryz.prog 99 #[.string (bs l)] w fun e w' => (∃ (v : Int) (t : TypeId) (p : Value), e = .returned (.tuple #[.int .i64 v, .iface t p])) ∧ Below w.heap.size w w' := by
  obtain ⟨t1, p1, h1⟩ := hS.syn
  obtain ⟨t2, p2, h2⟩ := hS.ran
  cases ha : Lib.atoiAll l with
  | ok v => exact absurd ha (h v)
  | range =>
    refine (Tryz.strconv_Atoi_range_var (bs l) (by rw [bs_size]; omega) (by rw [bs_list]; exact ha) t2 p2 w h2).mono ?_
    rintro e w' ⟨N, rfl, _, _, hb⟩
    exact ⟨⟨_, _, _, rfl⟩, hb⟩
  | _ =>
    refine (Tryz.strconv_Atoi_syntax_var (bs l) (by rw [bs_size]; omega) (by rw [bs_list]; exact ha) t1 p1 w h1).mono ?_
    rintro e w' ⟨N, rfl, _, _, hb⟩
    exact ⟨⟨_, _, _, rfl⟩, hb⟩
theorem atoiO_ok {l : List UInt8} {v : Int} (h : atoiO l = some v) : Lib.atoiAll l = .ok v := by
  unfold atoiO at h
  split at h
  · next u hu => rw [hu]; simpa using h
  · cases h
theorem atoiO_no {l : List UInt8} (h : atoiO l = none) : ∀ v, Lib.atoiAll l ≠ .ok v := by
  intro v hv
  unfold atoiO at h
  rw [hv] at h
  cases h
/-- what the call's own boxes hold, and the numbers so far; D: where the loop's own blocks begin -/
structure PartI (w : World) (D : Nat) (ns : List Int) (v : Value) (W : World) : Prop where
  b2 : Boxed W w.heap.size 43 (.slice none 0 0)
  b3 : Boxed W (w.heap.size + 1) 4 (.bool false)
  b4 : Boxed W (w.heap.size + 1 + 1) 43 v
  own : W.ownsRow D 3 1 v ns.length (vals ns)
  below : Below w.heap.size w W
theorem own_ge {W : World} {D : Nat} {e : TypeId} {v : Value} {n : Nat} {xs : List Value} (h : W.ownsRow D e 1 v n xs) : v = .slice none 0 0 ∨ ∃ g c, v.ownBlock = some g ∧ D ≤ g ∧ W.heap[g]? = some (.cells c e (0, 0)) := by
  rcases h.2 with ⟨rfl, _⟩ | ⟨g, cap, cur, rfl, hg, hh, _⟩
  · exact .inl rfl
  · exact .inr ⟨g, cur, rfl, hg, hh⟩
theorem PartI.kept {w : World} {D : Nat} {ns : List Int} {v : Value} {W W' : World} {row : Option Nat} (h : PartI w D ns v W) (hg : W.grownBy W' row) (hr : ∀ r, row = some r → w.heap.size + 3 ≤ r ∧ (r < D ∨ ∃ o : Obj, W.heap[r]? = some o ∧ o.isCells = false)) : PartI w D ns v W' where
  b2 := h.b2.kept hg (fun e => by have := (hr _ e.symm).1; omega)
  b3 := h.b3.kept hg (fun e => by have := (hr _ e.symm).1; omega)
  b4 := h.b4.kept hg (fun e => by have := (hr _ e.symm).1; omega)
  own := h.own.kept hg (by
    rcases own_ge h.own with rfl | ⟨g, c, e, hD, hh⟩
    · exact .inl rfl
    · refine .inr fun e' => ?_
      rcases (hr g (by rw [← e', e])).2 with h1 | ⟨o, ho, hc⟩
      · omega
      · rw [hh] at ho; cases ho; cases hc)
  below := h.below.grown hg h.below.size (fun k e => by have := (hr k e).1; omega)
/-- what a round that leaves has laid -/
structure PartX (w : World) (W : World) : Prop where
  b2 : Boxed W w.heap.size 43 (.slice none 0 0)
  b3 : Boxed W (w.heap.size + 1) 4 (.bool false)
  below : Below w.heap.size w W
theorem PartX.kept {w : World} {W W' : World} {row : Option Nat} (h : PartX w W) (hg : W.grownBy W' row) (hr : ∀ r, row = some r → w.heap.size + 3 ≤ r) : PartX w W' where
  b2 := h.b2.kept hg (fun e => by have := (hr _ e.symm); omega)
  b3 := h.b3.kept hg (fun e => by have := (hr _ e.symm); omega)
  below := h.below.grown hg h.below.size (fun k e => by have := (hr k e); omega)
theorem boxed_below {W W' : World} {B n : Nat} {t : TypeId} {v : Value} (h : Boxed W B t v) (hb : Below n W W') (hn : B < n) : Boxed W' B t v := (hb.block B hn).trans h
theorem own_ne {W : World} {D k : Nat} {e : TypeId} {v : Value} {n : Nat} {xs : List Value} {o : Obj} (h : W.ownsRow D e 1 v n xs) (hk : W.heap[k]? = some o) (ho : o.isCells = false) : some k ≠ v.ownBlock := by
  rcases own_ge h with rfl | ⟨g, c, hg, _, hh⟩
  · simp [Value.ownBlock]
  · rw [hg]
    intro e'
    injection e' with e'
    subst e'
    rw [hk] at hh
    cases hh
    cases ho
theorem own_lt_ne {W : World} {D k : Nat} {e : TypeId} {v : Value} {n : Nat} {xs : List Value} (h : W.ownsRow D e 1 v n xs) (hk : k < D) : some k ≠ v.ownBlock := by
  rcases own_ge h with rfl | ⟨g, c, hg, hD, hh⟩
  · simp [Value.ownBlock]
  · rw [hg]
    intro e'
    injection e' with e'
    omega
set_option maxHeartbeats 2000000 in
set_option maxRecDepth 100000 in
theorem parted_ (l : List UInt8) (hl : l.length ≤ 100000) (w : World) (hS : Std w) (hE : StdE w) :
    Calls Tryz.prog 80 #[.string (bs l)] w fun e w' => ((∃ ns v, partedS l = some ns ∧ e = .returned (.tuple #[v, .bool true]) ∧ w'.ownsRow w.heap.size 3 1 v ns.length (vals ns)) ∨
      (partedS l = none ∧ e = .returned (.tuple #[.slice none 0 0, .bool false]))) ∧ Below w.heap.size w w' := by
  have HSp := fun w => callsIn_wide (n := 5) |>.2 (cSplitSeq l 32 w)
  refine callsIn_wide (n := 6) |>.1 ?_
  refine callsIn_of_wp_marks Tryz.func80 rfl trivial ?_ rfl
  simp only [Tryz.ntmps80, List.size_toArray, List.length_cons, List.length_nil, Nat.reduceAdd, Nat.reduceSub, Array.replicate_succ, Array.replicate_zero, List.push_toArray, List.append_toArray, List.nil_append, List.cons_append]
  gi_wp2
  refine ⟨trivial, ?_⟩
  have c2 := Boxed.new w 43 (.slice none 0 0)
  have c2' := (c2.alloc (Obj.cells #[Value.bool false] 4)).alloc (Obj.cells #[Value.slice none 0 0] 43)
  have c3 := (Boxed.new (w.alloc (Obj.cells #[Value.slice none 0 0] 43)) 4 (.bool false)).alloc (Obj.cells #[Value.slice none 0 0] 43)
  have c4 := Boxed.new ((w.alloc (Obj.cells #[Value.slice none 0 0] 43)).alloc (Obj.cells #[Value.bool false] 4)) 43 (.slice none 0 0)
  simp only [World.size_alloc] at c3 c4
  have hb0 : Below w.heap.size w (((w.alloc (Obj.cells #[Value.slice none 0 0] 43)).alloc (Obj.cells #[Value.bool false] 4)).alloc (Obj.cells #[Value.slice none 0 0] 43)) := (by repeat' (first | exact Below.refl _ _ | assumption | exact And.left (by assumption) | refine Below.drew ?_ | refine below_drewN ?_ _ | refine Below.setCell ?_ (by first | (simp; done) | (simp; omega) | omega) _ | refine Below.alloc ?_ (by first | (simp; done) | (simp; omega) | omega) _ | refine after (by assumption) (by first | (simp; done) | (simp; omega) | omega) ?_))
  have hz0 : (((w.alloc (Obj.cells #[Value.slice none 0 0] 43)).alloc (Obj.cells #[Value.bool false] 4)).alloc (Obj.cells #[Value.slice none 0 0] 43)).heap.size = w.heap.size + 3 := by simp
  generalize ((w.alloc (Obj.cells #[Value.slice none 0 0] 43)).alloc (Obj.cells #[Value.bool false] 4)).alloc (Obj.cells #[Value.slice none 0 0] 43) = w0 at c2' c3 c4 hb0 hz0 ⊢
  refine (HSp w0).mono ?_
  rintro e w1 ⟨p, Bs, z, rfl, hp, hBs, hz, hpB, hzB, hSp, hb1⟩
  have d2 := boxed_below c2' hb1 (by omega)
  have d3 := boxed_below c3 hb1 (by omega)
  have d4 := boxed_below c4 hb1 (by omega)
  have hbw : Below w.heap.size w w1 := hb0.trans (hb1.mono (by omega))
  have hsz := hb1.size
  have lp := hSp.1.lt
  have lB := hSp.2.1.lt
  have lz := hSp.2.2.lt
  rw [hz0] at hp hBs hz hsz
  clear c2 c2' c3 c4 HSp hb0 hb1
  gi_wp2
  refine range_box (n := 6) rfl (by omega) (gf := 116) (lb := #[.pointer (some ⟨p, 0, none⟩), .pointer (some ⟨Bs, 0, none⟩), .pointer (some ⟨z, 0, none⟩)]) rfl trivial (enters_of Tryz.func116 (by kernel_rfl) rfl)
    (split_gives Fence.wide 5 trivial trivial (fun s w => callsIn_wide.2 (sIndex s 32 w)) rfl (by omega) p Bs z hpB hzB l hl w1 hSp) (fun _ => rfl) lB (by rintro k (rfl | rfl | rfl) <;> assumption)
    (fun pre W => ∃ ns v, allO pre = some ns ∧ PartI w w1.heap.size ns v W) (fun _ pre W => allO (splitAll 32 l) = none ∧ PartX w W) ?hI ?hIx ?hIs ?h0
    (fun x => { tmps := #[.string (bs l), undef, .pointer (some ⟨w.heap.size, 0, none⟩), .pointer (some ⟨w.heap.size + 1, 0, none⟩), .pointer (some ⟨w.heap.size + 1 + 1, 0, none⟩), .string (bs x), undef, undef, .string (bs l),
      .func (.func 116) #[] #[.pointer (some ⟨p, 0, none⟩), .pointer (some ⟨Bs, 0, none⟩), .pointer (some ⟨z, 0, none⟩)], .string (bs x), undef, undef, undef, undef, undef, undef, undef, undef, undef, undef, undef, undef], defers := [] }) ?assign ?body ?done ?stop
  case hI =>
    rintro s W W' row ⟨ns, v, ha, h⟩ hg hr
    exact ⟨ns, v, ha, h.kept hg (fun r e => ⟨by have := (hr r e).1; omega, .inr (hr r e).2⟩)⟩
  case hIx =>
    rintro s W W' row ⟨ha, h⟩ hg hr
    exact ⟨ha, h.kept hg (fun r e => by have := (hr r e).1; omega)⟩
  case hIs =>
    rintro s W W' ⟨ns, v, ha, h⟩ hg
    exact ⟨ns, v, ha, h.kept hg (fun r e => by injection e with e; subst e; exact ⟨hBs, .inl lB⟩)⟩
  case h0 => exact ⟨[], _, rfl, d2, d3, d4, World.ownsRow_nil .., hbw⟩
  case assign =>
    intro y x W K hK
    gi_wp2
    exact hK
  case body =>
    rintro y pre x W ⟨ns, v, ha, hI⟩ ⟨rest, hG⟩ ⟨o1, ho1, ko1⟩ ⟨o2, ho2, ko2⟩
    have hl1 := lt_of_at ho1
    have hl2 := lt_of_at ho2
    have hx := (splitAll_len 32 l).2 x (by rw [hG]; simp)
    have hn := (splitAll_len 32 l).1
    rw [hG, List.length_append, List.length_cons] at hn
    have hnb : ns.length ≤ l.length := by have := allO_len ha; omega
    clear hn
    have hEW := hE.below hI.below hS.size
    have g2 := hI.b2
    have g3 := hI.b3
    have g4 := hI.b4
    have gsz := hI.below.size
    cases hv : atoiO x with
    | none =>
      have HA := CallsIn.inRound y (callsIn_wide (n := 3) |>.2 (cAtoi_no x (by omega) (atoiO_no hv) W hEW))
      gi_wp2
      refine ⟨trivial, ?_⟩
      refine HA.mono ?_
      rintro e W2 ⟨⟨u, tt, pp, rfl⟩, hb2⟩
      have k2 := boxed_below g2 hb2 (by omega)
      have k3 := boxed_below g3 hb2 (by have := g3.lt; omega)
      have q2 := k2.cell
      have q3 := k3.cell
      have f2 := k2.frozen
      have f3 := k3.frozen
      gi_wp2
      have hfar : ∀ k, w.heap.size + 3 ≤ k → k < W.heap.size → ((W2.setCell ⟨w.heap.size, 0, none⟩ (.slice none 0 0)).setCell ⟨w.heap.size + 1, 0, none⟩ (.bool false)).heap[k]? = W.heap[k]? := fun k h1 h2 =>
        (Below.heap_setCell _ ⟨w.heap.size + 1, 0, none⟩ _ k (by simp; omega)).trans ((Below.heap_setCell _ ⟨w.heap.size, 0, none⟩ _ k (by simp; omega)).trans (hb2.block k h2))
      refine ⟨⟨hfar _ (by omega) (by omega), hfar _ (by omega) (by omega)⟩, by rw [hG]; exact allO_bad hv, ?_, ?_, ?_⟩
      · exact (k2.set _).kept (grownBy_setCell' _ _ _) (by simp)
      · exact (k3.kept (grownBy_setCell' W2 w.heap.size _) (by simp)).set _
      · exact ((hI.below.trans (hb2.mono gsz)).setCell (p := ⟨w.heap.size, 0, none⟩) (Nat.le_refl _) _).setCell (p := ⟨w.heap.size + 1, 0, none⟩) (by simp) _
    | some u =>
      have HA := CallsIn.inRound y (callsIn_wide (n := 3) |>.2 (cAtoi_ok x (by omega) u (atoiO_ok hv) W))
      gi_wp2
      refine ⟨trivial, ?_⟩
      refine HA.mono ?_
      rintro e W2 ⟨rfl, hb2⟩
      have k4 := boxed_below g4 hb2 (by have := g4.lt; omega)
      have hr := own_later hI.own hb2
      have q4 := k4.cell
      have f4 := k4.frozen
      obtain ⟨i0, hi, hz0, hz1, hz2⟩ := info_parts infoI
      gi_wp2_with (gi_at_builtin; refine wpListIn_append_own _ rfl _ _ 43 rfl w1.heap.size 3 i0 _ 1 8 Tryz.underlying43 hi hz0 hz1 hz2 rfl (by decide) _ _ _ rfl (hr.alloc _) ⟨W2.heap.size, 0, none⟩ 1 1 [.int .i64 u] rfl rfl (cell_one_new _ _ _) (by simp [Value.oneCell']) (by unfold maxLen; omega) (by omega) (by have := hb2.size; simp; omega) ?_; intro v' w3 hown' hgrow _; obtain ⟨g', cap', rfl⟩ := ownsRow_succ hown'; have q5 := ((k4.alloc _).kept hgrow (k4.not_row (by decide) hr)).cell; have f5 := ((k4.alloc _).kept hgrow (k4.not_row (by decide) hr)).frozen)
      have hgrow : (W2.alloc (.cells #[.int .i64 u] 3)).grownBy w3 v.ownBlock := hgrow
      have x4 : Boxed w3 (w.heap.size + 1 + 1) 43 v := (k4.alloc _).kept hgrow (k4.not_row (by decide) hr)
      have hz2 := hb2.size
      have hfar : ∀ k, k ≠ w.heap.size + 1 + 1 → k < W.heap.size → some k ≠ v.ownBlock → (w3.setCell ⟨w.heap.size + 1 + 1, 0, none⟩ (.slice (some ⟨g', 0, none⟩) (ns.length + 1) cap')).heap[k]? = W.heap[k]? := fun k h1 h2 h3 =>
        (Below.heap_setCell _ ⟨w.heap.size + 1 + 1, 0, none⟩ _ k h1).trans ((hgrow.block k (by simp; omega) h3).trans ((Below.heap_alloc _ _ k (by omega)).trans (hb2.block k h2)))
      refine ⟨⟨hfar _ (by omega) (by omega) (own_ne hr ((hb2.block _ hl1).trans ho1) ko1), hfar _ (by omega) (by omega) (own_ne hr ((hb2.block _ hl2).trans ho2) ko2)⟩, ?_, ns ++ [u], .slice (some ⟨g', 0, none⟩) (ns.length + 1) cap', allO_snoc ha hv, ?_, ?_, ?_, ?_, ?_⟩
      · have hlow : ∀ k, w.heap.size + 3 ≤ k → k < w1.heap.size → (w3.setCell ⟨w.heap.size + 1 + 1, 0, none⟩ (.slice (some ⟨g', 0, none⟩) (ns.length + 1) cap')).heap[k]? = W.heap[k]? := fun k h1 h2 => hfar k (by omega) (by omega) (own_lt_ne hr h2)
        rintro k (rfl | rfl | rfl)
        · exact hlow _ hp lp
        · exact hlow _ hBs lB
        · exact hlow _ hz lz
      · exact (hfar _ (by omega) g2.lt (own_lt_ne hr (by omega))).trans g2
      · exact (hfar _ (by omega) g3.lt (own_lt_ne hr (by omega))).trans g3
      · exact x4.set _
      · rw [List.length_append, vals_snoc]
        exact hown'.kept (grownBy_setCell' w3 _ _) (.inr (x4.not_row (by decide) hown').symm)
      · refine (((hI.below.trans (hb2.mono gsz)).alloc (by omega) _).grown hgrow (by simp; omega) fun j ej => ?_).setCell (p := ⟨w.heap.size + 1 + 1, 0, none⟩) (by simp; omega) _
        rcases own_ge hr with rfl | ⟨g, c, hg, hD, hh⟩
        · simp [Value.ownBlock] at ej
        · rw [hg] at ej; injection ej with ej; omega
  case done =>
    rintro xs W rfl ⟨ns, v, ha, hI⟩ hK
    obtain ⟨av, cv, rfl, -⟩ := own_form hI.own
    have q4 := hI.b4.cell
    have q2 := hI.b2.cell
    have q3 := hI.b3.cell
    have f2 := hI.b2.frozen
    have f3 := hI.b3.frozen
    gi_wp2
    have hK2 : ((W.setCell ⟨w.heap.size, 0, none⟩ (.slice av ns.length cv)).setCell ⟨w.heap.size + 1, 0, none⟩ (.bool true)).heap[w1.heap.size]? = some (.deferred (some [])) :=
      (Below.heap_setCell _ ⟨w.heap.size + 1, 0, none⟩ _ _ (by simp; omega)).trans ((Below.heap_setCell _ ⟨w.heap.size, 0, none⟩ _ _ (by simp; omega)).trans hK)
    have y2 : Boxed ((W.setCell ⟨w.heap.size, 0, none⟩ (.slice av ns.length cv)).setCell ⟨w.heap.size + 1, 0, none⟩ (.bool true)) w.heap.size 43 (.slice av ns.length cv) := (hI.b2.set _).kept (grownBy_setCell' _ _ _) (by simp)
    have y3 : Boxed ((W.setCell ⟨w.heap.size, 0, none⟩ (.slice av ns.length cv)).setCell ⟨w.heap.size + 1, 0, none⟩ (.bool true)) (w.heap.size + 1) 4 (.bool true) := (hI.b3.kept (grownBy_setCell' W w.heap.size _) (by simp)).set _
    have yo : ((W.setCell ⟨w.heap.size, 0, none⟩ (.slice av ns.length cv)).setCell ⟨w.heap.size + 1, 0, none⟩ (.bool true)).ownsRow w1.heap.size 3 1 (.slice av ns.length cv) ns.length (vals ns) :=
      (hI.own.kept (grownBy_setCell' W w.heap.size _) (.inr (own_lt_ne hI.own (by omega)).symm)).kept (grownBy_setCell' _ (w.heap.size + 1) _) (.inr (own_lt_ne hI.own (by omega)).symm)
    have yb : Below w.heap.size w ((W.setCell ⟨w.heap.size, 0, none⟩ (.slice av ns.length cv)).setCell ⟨w.heap.size + 1, 0, none⟩ (.bool true)) := (hI.below.setCell (p := ⟨w.heap.size, 0, none⟩) (Nat.le_refl _) _).setCell (p := ⟨w.heap.size + 1, 0, none⟩) (by simp) _
    generalize (W.setCell ⟨w.heap.size, 0, none⟩ (.slice av ns.length cv)).setCell ⟨w.heap.size + 1, 0, none⟩ (.bool true) = W' at hK2 y2 y3 yo yb ⊢
    clear q2 q3 q4 f2 f3 hI hK
    refine ⟨by simp, .inl ⟨_, _, rfl, run_takeDeferred hK2, ?_⟩⟩
    have u2 := (y2.kept (grownBy_putObj' W' w1.heap.size (.deferred none)) (by simp; omega)).cell
    have u3 := (y3.kept (grownBy_putObj' W' w1.heap.size (.deferred none)) (by simp; omega)).cell
    have yo' := ownsRow_putObj yo (.deferred none) hK2 rfl
    have yb' : Below w.heap.size w (W'.putObj w1.heap.size (.deferred none)) := yb.grown (grownBy_putObj' W' w1.heap.size (.deferred none)) yb.size (fun k e => by injection e with e; omega)
    generalize W'.putObj w1.heap.size (.deferred none) = W'' at u2 u3 yo' yb' ⊢
    refine ⟨.tuple #[.slice av ns.length cv, .bool true], ?_, .inl ⟨ns, _, ha, rfl, own_more yo' (by omega)⟩, yb'⟩
    simp [results, Tryz.results80, go_sem, u2, u3]
  case stop =>
    rintro xs W _ ⟨ha, hX⟩ hK
    gi_wp2
    refine ⟨by simp, .inl ⟨_, _, rfl, run_takeDeferred hK, ?_⟩⟩
    have hX' := hX.kept (grownBy_putObj' W w1.heap.size (.deferred none)) (fun r e => by injection e with e; omega)
    generalize W.putObj w1.heap.size (.deferred none) = W'' at hX' ⊢
    have u2 := hX'.b2.cell
    have u3 := hX'.b3.cell
    refine ⟨.tuple #[.slice none 0 0, .bool false], ?_, .inr ⟨ha, rfl⟩, hX'.below⟩
    simp [results, Tryz.results80, go_sem, u2, u3]
end Go.Proofs.YtgopjpnlpcmldaaGreatDoor.W


/-
  What each kind of a text's lines says of a set-up: the table's functions, each by its contract.
-/
namespace Go.Proofs.YtgopjpnlpcmldaaGreatDoor.W
set_option linter.unusedVariables false
set_option linter.unusedSimpArgs false
open Go.ChangeShapes Go.WideShapes Go.ChangeAt Go.RowKit

def sayF : Nat → FuncId
  | 0 => 28
  | 1 => 30
  | 3 => 34
  | 4 => 36
  | 6 => 39
  | _ => 81
def sayC (B : Nat → Nat) : Nat → Array Value
  | 0 => #[]
  | 1 => #[]
  | 3 => #[]
  | 4 => #[]
  | 6 => #[]
  | k => #[.pointer (some ⟨B k, 0, none⟩)]
theorem sayV_eq (B : Nat → Nat) : ∀ k, k < 15 → sayV B k = .func (.func (sayF k)) #[] (sayC B k) := by
  intro k hk
  match k, hk with
  | 0, _ | 1, _ | 2, _ | 3, _ | 4, _ | 5, _ | 6, _ | 7, _ | 8, _ | 9, _ | 10, _ | 11, _ | 12, _ | 13, _ | 14, _ => rfl
theorem place_in : ∀ k, numKind k → ∀ args w, (callFunc (placeF k) args).run Tryz.prog w = .ok (.enter (placeF k) args) w := by
  intro k hk args w
  simp only [numKind, List.mem_cons, List.not_mem_nil, or_false] at hk
  rcases hk with rfl | rfl | rfl | rfl | rfl | rfl | rfl | rfl | rfl | rfl
  · exact run_enter Tryz.func33 (by kernel_rfl) rfl args w
  · exact run_enter Tryz.func38 (by kernel_rfl) rfl args w
  · exact run_enter Tryz.func41 (by kernel_rfl) rfl args w
  · exact run_enter Tryz.func42 (by kernel_rfl) rfl args w
  · exact run_enter Tryz.func43 (by kernel_rfl) rfl args w
  · exact run_enter Tryz.func44 (by kernel_rfl) rfl args w
  · exact run_enter Tryz.func45 (by kernel_rfl) rfl args w
  · exact run_enter Tryz.func46 (by kernel_rfl) rfl args w
  · exact run_enter Tryz.func47 (by kernel_rfl) rfl args w
  · exact run_enter Tryz.func48 (by kernel_rfl) rfl args w
theorem say_in (args : Array Value) (w : World) : ∀ k, k < 15 → (callFunc (sayF k) args).run Tryz.prog w = .ok (.enter (sayF k) args) w
  | 0, _ => run_enter Tryz.func28 (by kernel_rfl) rfl args w
  | 1, _ => run_enter Tryz.func30 (by kernel_rfl) rfl args w
  | 2, _ => run_enter Tryz.func81 (by kernel_rfl) rfl args w
  | 3, _ => run_enter Tryz.func34 (by kernel_rfl) rfl args w
  | 4, _ => run_enter Tryz.func36 (by kernel_rfl) rfl args w
  | 5, _ => run_enter Tryz.func81 (by kernel_rfl) rfl args w
  | 6, _ => run_enter Tryz.func39 (by kernel_rfl) rfl args w
  | 7, _ => run_enter Tryz.func81 (by kernel_rfl) rfl args w
  | 8, _ => run_enter Tryz.func81 (by kernel_rfl) rfl args w
  | 9, _ => run_enter Tryz.func81 (by kernel_rfl) rfl args w
  | 10, _ => run_enter Tryz.func81 (by kernel_rfl) rfl args w
  | 11, _ => run_enter Tryz.func81 (by kernel_rfl) rfl args w
  | 12, _ => run_enter Tryz.func81 (by kernel_rfl) rfl args w
  | 13, _ => run_enter Tryz.func81 (by kernel_rfl) rfl args w
  | 14, _ => run_enter Tryz.func81 (by kernel_rfl) rfl args w
theorem said (s : S) (g : Nat) (w : World) (hS : Std w) (HB : Box w g s) (HR : Rows w s) (hR : RightIs s) (hcap : ∀ q ∈ s.queues, q.users.a = none → q.users.cap = 0) (B : Nat → Nat)
    (hBk : ∀ k, numKind k → w.cell? ⟨B k, 0, none⟩ = some (.func (.func (placeF k)) #[] #[])) : ∀ k, k < 15 → Calls Tryz.prog (sayF k) (#[.pointer (some ⟨g, 0, none⟩)] ++ sayC B k) w (Said w (sayS (tOf s) k)) := by
  have hn := (right_tok hR).fine.nums
  intro k hk
  match k, hk with
  | 0, _ => exact sayNodes s g _ rfl w hS HB HR hR
  | 1, _ =>
    rw [show sayS (tOf s) 1 = s.parts.map fun p => joinN p.l by simp [sayS, tOf]]
    exact sayParts s g _ rfl w hS HB HR hR
  | 3, _ =>
    rw [show sayS (tOf s) 3 = s.queues.map fun q => joinN (qnums (qOf q)) by simp [sayS, tOf]]
    exact sayQueues s g _ rfl w hS HB HR hR hcap
  | 4, _ => exact sayWeights s g w hS HB hR
  | 6, _ => exact sayMode s g w HB
  | 2, _ => exact sayNumber 33 3 s.users g (B 2) w hS (hBk 2 (by simp [numKind])) (place_in 2 (by simp [numKind])) (fun w => place1 g w) HB.c3 (hn _ (by simp [tOf]))
  | 5, _ => exact sayNumber 38 8 s.decay g (B 5) w hS (hBk 5 (by simp [numKind])) (place_in 5 (by simp [numKind])) (fun w => place2 g w) HB.c8 (hn _ (by simp [tOf]))
  | 7, _ => exact sayNumber 41 10 s.jobs g (B 7) w hS (hBk 7 (by simp [numKind])) (place_in 7 (by simp [numKind])) (fun w => place3 g w) HB.c10 (hn _ (by simp [tOf]))
  | 8, _ => exact sayNumber 42 11 s.ids g (B 8) w hS (hBk 8 (by simp [numKind])) (place_in 8 (by simp [numKind])) (fun w => place4 g w) HB.c11 (hn _ (by simp [tOf]))
  | 9, _ => exact sayNumber 43 12 s.versions g (B 9) w hS (hBk 9 (by simp [numKind])) (place_in 9 (by simp [numKind])) (fun w => place5 g w) HB.c12 (hn _ (by simp [tOf]))
  | 10, _ => exact sayNumber 44 13 s.linger g (B 10) w hS (hBk 10 (by simp [numKind])) (place_in 10 (by simp [numKind])) (fun w => place6 g w) HB.c13 (hn _ (by simp [tOf]))
  | 11, _ => exact sayNumber 45 14 s.keep g (B 11) w hS (hBk 11 (by simp [numKind])) (place_in 11 (by simp [numKind])) (fun w => place7 g w) HB.c14 (hn _ (by simp [tOf]))
  | 12, _ => exact sayNumber 46 15 s.inn g (B 12) w hS (hBk 12 (by simp [numKind])) (place_in 12 (by simp [numKind])) (fun w => place8 g w) HB.c15 (hn _ (by simp [tOf]))
  | 13, _ => exact sayNumber 47 16 s.out g (B 13) w hS (hBk 13 (by simp [numKind])) (place_in 13 (by simp [numKind])) (fun w => place9 g w) HB.c16 (hn _ (by simp [tOf]))
  | 14, _ => exact sayNumber 48 17 s.cache g (B 14) w hS (hBk 14 (by simp [numKind])) (place_in 14 (by simp [numKind])) (fun w => place10 g w) HB.c17 (hn _ (by simp [tOf]))
end Go.Proofs.YtgopjpnlpcmldaaGreatDoor.W


/-
  A set-up that is being built: its block and its lists are the call's own. What a line of a number puts into it.
-/
namespace Go.Proofs.YtgopjpnlpcmldaaGreatDoor.W
set_option linter.unusedVariables false
set_option linter.unusedSimpArgs false
open Go.ChangeShapes Go.WideShapes Go.ChangeAt Go.RowKit

/-- a set-up's lists, each the call's own -/
structure Lists (D : Nat) (w : World) (s : S) : Prop where
  nodes : w.ownsRow D 41 4 (.slice s.na s.nodes.length s.nc) s.nodes.length (nodesV s.nodes)
  parts : w.ownsRow D 43 1 (.slice s.pa s.parts.length s.pc) s.parts.length (partsV s.parts)
  part : ∀ p ∈ s.parts, w.ownsRow D 3 1 (partV p) p.l.length (vals p.l)
  queues : w.ownsRow D 45 6 (.slice s.qa s.queues.length s.qc) s.queues.length (queuesV s.queues)
  users : ∀ q ∈ s.queues, w.ownsRow D 3 1 (partV q.users) q.users.l.length (vals q.users.l)
/-- E: from where on the lists lie; D: from where on all of it does -/
structure Built (E D g : Nat) (s : S) (w : World) : Prop where
  row : Row w g 28 #[.slice s.na s.nodes.length s.nc, .slice s.pa s.parts.length s.pc, .slice s.qa s.queues.length s.qc, .int .i64 s.users, .int .i64 s.age, .int .i64 s.size, .int .i64 s.qos, .int .i64 s.share, .int .i64 s.decay, .int .i64 s.mode, .int .i64 s.jobs, .int .i64 s.ids, .int .i64 s.versions, .int .i64 s.linger, .int .i64 s.keep, .int .i64 s.inn, .int .i64 s.out, .int .i64 s.cache]
  ge : D ≤ g
  lists : Lists E w s
  le : D ≤ E
  top : E ≤ w.heap.size
theorem Lists.on {D : Nat} {w w' : World} {s : S} (h : Lists D w s) (hb : Below w.heap.size w w') : Lists D w' s :=
  ⟨own_later h.nodes hb, own_later h.parts hb, fun p hp => own_later (h.part p hp) hb, own_later h.queues hb, fun q hq => own_later (h.users q hq) hb⟩
theorem Built.on {E D g : Nat} {w w' : World} {s : S} (h : Built E D g s w) (hb : Below w.heap.size w w') : Built E D g s w' := ⟨h.row.on hb, h.ge, h.lists.on hb, h.le, Nat.le_trans h.top hb.size⟩
theorem Built.lt {E D g : Nat} {w : World} {s : S} (h : Built E D g s w) : D < w.heap.size := by have := h.row.lt; have := h.ge; omega
theorem own_not {w : World} {D : Nat} {e t : TypeId} {k n : Nat} {v : Value} {xs : List Value} {g : Nat} {cs : Array Value} (h : w.ownsRow D e k v n xs) (hg : Row w g t cs) (hne : e ≠ t) : v.ownBlock ≠ some g := by
  rcases h.2 with ⟨rfl, _⟩ | ⟨b, cap, cur, rfl, _, hb, _⟩
  · simp [Value.ownBlock]
  · intro e'
    obtain rfl : b = g := by simpa [Value.ownBlock] using e'
    unfold Row at hg
    rw [hb] at hg
    cases hg
    exact hne rfl
/-- a store into the set-up's own block -/
theorem Lists.put {D g : Nat} {w : World} {s : S} {cs : Array Value} (h : Lists D w s) (hg : Row w g 28 cs) (k : Nat) (u : Value) : Lists D (w.setCell ⟨g, k, none⟩ u) s :=
  have hk : w.grownBy (w.setCell ⟨g, k, none⟩ u) (some g) := ⟨rfl, rfl, rfl, by simp [World.setCell], fun j _ hj => Below.heap_setCell _ _ _ j (fun e => hj (by rw [e]))⟩
  ⟨h.nodes.kept hk (.inr (own_not h.nodes hg (by decide))), h.parts.kept hk (.inr (own_not h.parts hg (by decide))), fun p hp => (h.part p hp).kept hk (.inr (own_not (h.part p hp) hg (by decide))), h.queues.kept hk (.inr (own_not h.queues hg (by decide))), fun q hq => (h.users q hq).kept hk (.inr (own_not (h.users q hq) hg (by decide)))⟩
theorem own_row {w : World} {D : Nat} {e : TypeId} {k n : Nat} {v : Value} {xs : List Value} {a : Option Addr} {c : Nat} (h : w.ownsRow D e k v n xs) (hv : v = .slice a n c) : RowAt w a xs ∧ (a = none → c = 0) := by
  subst hv
  obtain ⟨hl, h | ⟨g, cap, cur, e1, hg, hh, hn, hm, hs, ht⟩⟩ := h
  · obtain ⟨h1, h2⟩ := h
    injection h1 with h3 h4 h5
    refine ⟨.inl ?_, fun _ => h5⟩
    exact List.length_eq_zero_iff.mp (by rw [hl, h2, Nat.zero_mul])
  · injection e1 with e2 e3 e4
    subst e2
    refine ⟨.inr ⟨g, 0, rfl, (Array.getElem?_eq_some_iff.1 hh).1, fun i u hu => ?_⟩, fun e => by cases e⟩
    rw [Nat.zero_add, cell_of_row w g i cur e (0, 0) hh, ← Array.getElem?_toList]
    rw [← ht] at hu
    have hi : i < (cur.toList.take (n * k)).length := (List.getElem?_eq_some_iff.1 hu).1
    rw [List.getElem?_take] at hu
    rw [List.length_take] at hi
    rwa [if_pos (by omega)] at hu
theorem Lists.rows {D : Nat} {w : World} {s : S} (h : Lists D w s) : Rows w s :=
  ⟨(own_row h.nodes rfl).1, (own_row h.parts rfl).1, fun p hp => (own_row (h.part p hp) rfl).1, (own_row h.queues rfl).1, fun q hq => (own_row (h.users q hq) rfl).1⟩
theorem Lists.cap {D : Nat} {w : World} {s : S} (h : Lists D w s) : ∀ q ∈ s.queues, q.users.a = none → q.users.cap = 0 := fun q hq => (own_row (h.users q hq) rfl).2
theorem row_box {w : World} {g : Nat} {s : S} {t : TypeId} (h : Row w g t #[.slice s.na s.nodes.length s.nc, .slice s.pa s.parts.length s.pc, .slice s.qa s.queues.length s.qc, .int .i64 s.users, .int .i64 s.age, .int .i64 s.size, .int .i64 s.qos, .int .i64 s.share, .int .i64 s.decay, .int .i64 s.mode, .int .i64 s.jobs, .int .i64 s.ids, .int .i64 s.versions, .int .i64 s.linger, .int .i64 s.keep, .int .i64 s.inn, .int .i64 s.out, .int .i64 s.cache]) : Box w g s :=
  ⟨h.cell 0, h.cell 1, h.cell 2, h.cell 3, h.cell 4, h.cell 5, h.cell 6, h.cell 7, h.cell 8, h.cell 9, h.cell 10, h.cell 11, h.cell 12, h.cell 13, h.cell 14, h.cell 15, h.cell 16, h.cell 17⟩

/-! what a line leaves alone: all but the set-up's block and its lists -/
def ListT (t : TypeId) : Prop := t = 41 ∨ t = 43 ∨ t = 45
structure Far (E g : Nat) (w w' : World) : Prop where
  size : w.heap.size ≤ w'.heap.size
  kept : ∀ k o, w.heap[k]? = some o → k ≠ g → (k < E ∨ ∀ cs t fr, o = .cells cs t fr → ¬ ListT t) → w'.heap[k]? = some o
theorem Far.of_below {E g : Nat} {w w' : World} (h : Below w.heap.size w w') : Far E g w w' := ⟨h.size, fun k o hk _ _ => (h.block k (Array.getElem?_eq_some_iff.1 hk).1).trans hk⟩
theorem Far.trans {E g : Nat} {a b c : World} (h : Far E g a b) (h' : Far E g b c) : Far E g a c := ⟨Nat.le_trans h.size h'.size, fun k o hk hg ht => h'.kept k o (h.kept k o hk hg ht) hg ht⟩
theorem Far.put {E g : Nat} (w : World) (k : Nat) (u : Value) : Far E g w (w.setCell ⟨g, k, none⟩ u) := ⟨by simp [World.setCell], fun j o hj hg _ => (Below.heap_setCell w ⟨g, k, none⟩ u j hg).trans hj⟩
theorem Far.grown {E g k n : Nat} {w w' : World} {e : TypeId} {v : Value} {xs : List Value} (h : w.ownsRow E e k v n xs) (he : ListT e) (hg : w.grownBy w' v.ownBlock) : Far E g w w' :=
  ⟨hg.size, fun j o hj _ ht => by
    refine (hg.block j (Array.getElem?_eq_some_iff.1 hj).1 fun e' => ?_).trans hj
    rcases h.2 with ⟨rfl, _⟩ | ⟨b, cap, cur, rfl, hE, hb, _⟩
    · simp [Value.ownBlock] at e'
    · obtain rfl : j = b := by simpa [Value.ownBlock] using e'
      rcases ht with ht | ht
      · omega
      · rw [hb] at hj
        injection hj with hj
        exact ht _ _ _ hj.symm he⟩
theorem size_put (w : World) (g k : Nat) (u : Value) : (w.setCell ⟨g, k, none⟩ u).heap.size = w.heap.size := by simp [World.setCell]
theorem le_put {E : Nat} {w : World} (h : E ≤ w.heap.size) (g k : Nat) (u : Value) : E ≤ (w.setCell ⟨g, k, none⟩ u).heap.size := by rw [size_put]; exact h
/-- what a line's putting in comes to -/
def Took (E D g : Nat) (w : World) (r : Option T) (e : Ending) (w' : World) : Prop :=
  Below D w w' ∧ Far E g w w' ∧ ((∃ s', r = some (tOf s') ∧ e = .returned (.bool true) ∧ Built E D g s' w') ∨ (r = none ∧ e = .returned (.bool false)))
theorem Took.no {E D g : Nat} {w w' : World} {s : S} {r : Option T} (hM : Built E D g s w) (hb : Below w.heap.size w w') (hr : r = none) : Took E D g w r (.returned (.bool false)) w' :=
  ⟨hb.mono (Nat.le_of_lt hM.lt), Far.of_below hb, .inr ⟨hr, rfl⟩⟩

set_option maxHeartbeats 2000000 in
set_option maxRecDepth 100000 in
theorem takeNumber (f : FuncId) (k E D g b : Nat) (s : S) (up : Int → S) (l : List UInt8) (hl : l.length ≤ 100000) (w : World) (hS : Std w) (hE : StdE w) (hM : Built E D g s w) (hbox : w.heap[b]? = some (.cells #[.func (.func f) #[] #[]] 79 (0, 0))) (hin : ∀ args w, (callFunc f args).run Tryz.prog w = .ok (.enter f args) w)
    (hf : ∀ w, Calls Tryz.prog f #[.pointer (some ⟨g, 0, none⟩)] w fun e w' => e = .returned (.pointer (some ⟨g, k, none⟩)) ∧ w = w') (m : Int) (hk : (#[.slice s.na s.nodes.length s.nc, .slice s.pa s.parts.length s.pc, .slice s.qa s.queues.length s.qc, .int .i64 s.users, .int .i64 s.age, .int .i64 s.size, .int .i64 s.qos, .int .i64 s.share, .int .i64 s.decay, .int .i64 s.mode, .int .i64 s.jobs, .int .i64 s.ids, .int .i64 s.versions, .int .i64 s.linger, .int .i64 s.keep, .int .i64 s.inn, .int .i64 s.out, .int .i64 s.cache] : Array Value)[k]? = some (.int .i64 m)) (hup : ∀ n, (#[.slice s.na s.nodes.length s.nc, .slice s.pa s.parts.length s.pc, .slice s.qa s.queues.length s.qc, .int .i64 s.users, .int .i64 s.age, .int .i64 s.size, .int .i64 s.qos, .int .i64 s.share, .int .i64 s.decay, .int .i64 s.mode, .int .i64 s.jobs, .int .i64 s.ids, .int .i64 s.versions, .int .i64 s.linger, .int .i64 s.keep, .int .i64 s.inn, .int .i64 s.out, .int .i64 s.cache] : Array Value).setIfInBounds k (.int .i64 n) = #[.slice (up n).na (up n).nodes.length (up n).nc, .slice (up n).pa (up n).parts.length (up n).pc, .slice (up n).qa (up n).queues.length (up n).qc, .int .i64 (up n).users, .int .i64 (up n).age, .int .i64 (up n).size, .int .i64 (up n).qos, .int .i64 (up n).share, .int .i64 (up n).decay, .int .i64 (up n).mode, .int .i64 (up n).jobs, .int .i64 (up n).ids, .int .i64 (up n).versions, .int .i64 (up n).linger, .int .i64 (up n).keep, .int .i64 (up n).inn, .int .i64 (up n).out, .int .i64 (up n).cache]) (hup' : ∀ n w, Lists E w s → Lists E w (up n)) :
    Calls Tryz.prog 82 #[.pointer (some ⟨g, 0, none⟩), .string (bs l), .pointer (some ⟨b, 0, none⟩)] w (Took E D g w ((one l).map fun n => tOf (up n))) := by
  have HP := Lib.hid (parted_ l hl w hS hE)
  have HF := Lib.hid hf
  have HM := Lib.hid hM
  have HB := Lib.hid hbox
  have HU := Lib.hid hup
  have HU' := Lib.hid hup'
  have HK := Lib.hid hk
  clear hS hE hf hM hbox hup hup' hk
  go_enter Tryz.func82, Tryz.ntmps82
  go_wp2_with fail
  refine HP.out.mono ?_
  rintro e w1 ⟨⟨ns, v, hp, rfl, how⟩ | ⟨hp, rfl⟩, hb1⟩
  · obtain ⟨a, c, rfl, _, hr, hr2⟩ := own_form how
    rcases ns with _ | ⟨n, ns⟩
    · have hT := Lib.hid (Took.no (g := g) (r := (one l).map fun n => tOf (up n)) HM.out hb1 (by simp [one, hp]))
      clear hr hr2 how hp
      go_wp2
      go_ret
      exact hT.out
    · rcases ns with _ | ⟨n', ns⟩
      · have hT := Lib.hid (show (one l).map (fun n => tOf (up n)) = some (tOf (up n)) by simp [one, hp])
        obtain ⟨bl, off, rfl, hbl, hc⟩ := hr.row (by simp [vals])
        have hc0 := hc 0 (.int .i64 n) (by simp [vals])
        rw [Nat.add_zero] at hc0
        have HM1 := Lib.hid (HM.out.on hb1)
        have q0 := cell_at (hcarry hb1 HB.out)
        have r1 := HM1.out.row.thaw k
        have r2 := (HM1.out.row.cell k).trans HK.out
        clear hr hr2 how hp hc
        go_wp2_with fail
        refine wp_region_still_tail 7 (by kernel_rfl) (by kernel_rfl) ?_
        change wpStill _ _ (World.drew _) (fun a' => wpList _ _ _ _ a' (World.drew _)) _ _
        simp only [List.take_succ_cons, List.take_zero, List.drop_succ_cons, List.drop_zero]
        repeat (first | still_step | still_call ((HF.out _).mono (fun _ _ h => ⟨h.1, h.2.symm⟩)))
        refine wpStill_nil ?_
        have r3 : w1.drew.frozen? ⟨g, k, none⟩ = false := r1
        have r4 : w1.drew.cell? ⟨g, k, none⟩ = some (.int .i64 m) := r2
        go_wp2
        go_ret
        have hb2 : Below D w w1.drew := (hb1.mono (Nat.le_of_lt HM.out.lt)).drew
        have hM2 : Built E D g s w1.drew := HM1.out.on ((Below.refl _ w1).drew)
        exact ⟨hb2.setCell (p := ⟨g, k, none⟩) HM.out.ge _, (Far.of_below (hb1.drew)).trans (Far.put _ _ _), .inl ⟨_, hT.out, rfl, by rw [← HU.out n]; exact hM2.row.put k _, HM.out.ge, HU'.out n _ (hM2.lists.put hM2.row k _), hM2.le, le_put hM2.top g k (.int .i64 n)⟩⟩
      · have hT := Lib.hid (Took.no (g := g) (r := (one l).map fun n => tOf (up n)) HM.out hb1 (by simp [one, hp]))
        have h1 : ¬ ((ns.length : Int) + 1 + 1 = 1) := by omega
        clear hr hr2 how hp
        go_wp2
        go_ret
        exact hT.out
  · have hT := Lib.hid (Took.no (g := g) (r := (one l).map fun n => tOf (up n)) HM.out hb1 (by simp [one, hp]))
    clear hp
    go_wp2
    go_ret
    exact hT.out
end Go.Proofs.YtgopjpnlpcmldaaGreatDoor.W
