/-
  Contract of reply.Write; an append to a slice that is full.
-/
import Derived.Test.YtbnlchbklpgejaaDoorReplyRight
import Derived.Test.YtbnlchbklpgejaaDoorCodecPut
import Derived.Deep.RegionLawGrows
namespace Go.Proofs.YtbnlchbklpgejaaDoor.W
set_option linter.unusedVariables false
set_option linter.unusedSimpArgs false
open Go.ChangeShapes Go.WideShapes Go.ChangeAt Go.RowKit

theorem pushAllN {P : Program} {ops : Array Oper} {rest : List Oper} {o : Oper} {a : Act} {Q : Exit → Act → World → Prop} (s x : Operand) (t : TypeId)
    (e : TypeId) (bytes : Nat) (hb0 : 0 < bytes) (z : Value) (i : TypeInfo) (ht : P.underlying t = some (.slice e)) (hi : P.info? e = some i) (hz : i.zero = some z) (hsize : i.size = 1) (hby : i.bytes = bytes) (hzs : z.cells.size = 1)
    (base B n m c : Nat) (xs news : List Value) (v : Value) (d : Addr) (w0 wr : World) (hgd : o.guard = none)
    (ho : o.op = .call { callee := .builtin .append, args := #[s, x], argTypes := #[t, t] })
    (hs : a.eval s = v) (hx : a.eval x = .slice (some d) m c) (hm : m = news.length)
    (hown : wr.ownsRow base e 1 v n xs) (hrow : RowAt wr (some d) news) (hbel : Below B w0 wr) (hB : B ≤ base) (hbase : base ≤ wr.heap.size)
    (h1 : ∀ u ∈ news, u.oneCell' = true) (hn : (n + m) * bytes ≤ 140737488355328)
    (h : ∀ v' w', w'.ownsRow base e 1 v' (n + m) (xs ++ news) → Below B w0 w' → wpList P ops Q rest (a.put o.dst v') w') :
    wpList P ops Q (o :: rest) a wr := by
  have hw := hbel.size
  refine wpList_append_own _ hgd s x t ho base e i z 1 bytes ht hi hz hsize hby hzs (by decide) v n xs hs hown d m c news hx (by omega) ?_ h1 ?_ hn hbase ?_
  · intro j y hj
    rcases hrow with rfl | ⟨b, off, e, hl, hc⟩
    · simp at hj
    · injection e with e
      subst e
      rw [add_plain]
      exact hc j y hj
  · have : n + m ≤ (n + m) * bytes := Nat.le_mul_of_pos_right _ hb0
    unfold maxLen; omega
  · intro v' w' o' g' _
    refine h v' w' o' (hbel.grown g' (by omega) ?_)
    intro k hk
    exact Nat.le_trans hB (hown.lt k hk).1

/-- the same, where there may be none -/
theorem pushAnyN {P : Program} {ops : Array Oper} {rest : List Oper} {o : Oper} {a : Act} {Q : Exit → Act → World → Prop} (s x : Operand) (t : TypeId)
    (e : TypeId) (bytes : Nat) (hb0 : 0 < bytes) (z : Value) (i : TypeInfo) (ht : P.underlying t = some (.slice e)) (hi : P.info? e = some i) (hz : i.zero = some z) (hsize : i.size = 1) (hby : i.bytes = bytes) (hzs : z.cells.size = 1)
    (base B n m c : Nat) (xs news : List Value) (v : Value) (d : Option Addr) (w0 wr : World) (hgd : o.guard = none)
    (ho : o.op = .call { callee := .builtin .append, args := #[s, x], argTypes := #[t, t] })
    (hs : a.eval s = v) (hx : a.eval x = .slice d m c) (hm : m = news.length) (hc : d = none → c = 0)
    (hown : wr.ownsRow base e 1 v n xs) (hrow : RowAt wr d news) (hbel : Below B w0 wr) (hB : B ≤ base) (hbase : base ≤ wr.heap.size)
    (h1 : ∀ u ∈ news, u.oneCell' = true) (hn : (n + m) * bytes ≤ 140737488355328)
    (h : ∀ v' w', w'.ownsRow base e 1 v' (n + m) (xs ++ news) → Below B w0 w' → wpList P ops Q rest (a.put o.dst v') w') :
    wpList P ops Q (o :: rest) a wr := by
  cases d with
  | some d => exact pushAllN s x t e bytes hb0 z i ht hi hz hsize hby hzs base B n m c xs news v d w0 wr hgd ho hs hx hm hown hrow hbel hB hbase h1 hn h
  | none =>
    have hx0 := hrow.none_
    subst hx0
    simp only [List.length_nil] at hm
    subst hm
    rw [hc rfl] at hx
    exact wpList_append_own_none hgd s x t ho base e i 1 ht hi v n xs hs hown hx (h v wr (by simpa using hown) hbel)
/-- an append of one to a slice that is full, wherever that lies: what it leaves is new -/
theorem step_append_full {P : Program} {ops : Array Oper} {o : Oper} {a : Act} {K : Act → World → Prop} {Q : Exit → Act → World → Prop} {E : Prop} (s x : Operand) (t : TypeId)
    (e : TypeId) (bytes : Nat) (z : Value) (i : TypeInfo) (ht : P.underlying t = some (.slice e)) (hi : P.info? e = some i) (hz : i.zero = some z) (hsize : i.size = 1) (hby : i.bytes = bytes) (hzs : z.cells.size = 1) (hb0 : 0 < bytes)
    (B n g : Nat) (olds : List Value) (u : Value) (ty : TypeId) (wr : World) (hgd : o.guard = none)
    (ho : o.op = .call { callee := .builtin .append, args := #[s, x], argTypes := #[t, t] })
    (hs : a.eval s = .slice (some ⟨g, 0, none⟩) n n) (hx : a.eval x = .slice (some ⟨wr.heap.size, 0, none⟩) 1 1) (hlo : olds.length = n) (hg : g < wr.heap.size)
    (holds : ∀ j y, olds[j]? = some y → wr.cell? ⟨g, j, none⟩ = some y) (hB : B ≤ wr.heap.size)
    (h1 : u.oneCell' = true) (hn : (n + 1) * bytes ≤ 140737488355328)
    (h : ∀ v' w', w'.ownsRow B e 1 v' (n + 1) (olds ++ [u]) → Below wr.heap.size wr w' → K (a.put o.dst v') w') :
    if Region.wanted o (yielded ops a.tmps) = true then Oper.wp P o a (wr.alloc (.cells #[u] ty)) K Q else E := by
  have h2 : n + 1 ≤ (n + 1) * bytes := Nat.le_mul_of_pos_right _ hb0
  refine step_append_grows hgd s x t ho e i z 1 bytes ht hi hz hsize hby hzs (by decide) (some ⟨g, 0, none⟩) n n olds hs (fun x => by cases x) (by omega) ?_ ⟨wr.heap.size, 0, none⟩ 1 1 [u] hx rfl ?_ ?_ (by omega) (by unfold maxLen; omega) hn ?_
  · intro b hb j y hj
    injection hb with hb
    subst hb
    rw [add_plain, Nat.zero_add]
    exact (((Below.refl _ wr).alloc (Nat.le_refl _) _).cell (p := ⟨g, j, none⟩) hg).trans (holds j y hj)
  · intro j y hj
    match j, hj with
    | 0, hj => simp at hj; subst hj; simp [Addr.add]
  · intro y hy; simp at hy; subst hy; exact h1
  · intro v' w' o' g'
    exact h v' w' (own_more o' (by simp; omega)) (((Below.refl _ wr).alloc (Nat.le_refl _) _).grown g' (by simp) (fun k hk => by cases hk))
theorem vals_one (xs : List Int) : ∀ u ∈ vals xs, u.oneCell' = true := by
  intro u hu
  obtain ⟨c, _, rfl⟩ := List.mem_map.1 hu
  rfl
theorem vals_app (xs ys : List Int) : vals (xs ++ ys) = vals xs ++ vals ys := by simp [vals]

theorem writeP_no (r : Rp) (w : World) (hS : Std w) (ha : RowAt w r.na (vals r.nums)) (h : rightP r = false) :
    Calls Tryd.prog 7 #[.agg #[.int .i64 r.key, .int .i64 r.err, .int .i64 r.job, .int .i64 r.ver, .slice r.na r.nums.length r.nc]] w fun e w' => e = .returned (.tuple #[.slice none 0 0, .int .i64 2]) ∧ Below w.heap.size w w' := by
  have K := fun w' hs ha => replyRight r w' hs ha
  rw [h] at K
  have HK := Lib.hid K
  have HA := Lib.hid ha
  have HS := Lib.hid hS
  clear K h ha hS
  go_enter Tryd.func7, Tryd.ntmps7
  go_wp2_with (with_reducible refine wpList_load_p (r := r) rfl (.tmp 1) rfl rfl (BoxP.new w r) ?_)
  refine (HK.out _ (HS.out.on ((by repeat' (first | exact Below.refl _ _ | assumption | exact And.left (by assumption) | refine Below.drew ?_ | refine below_drewN ?_ _ | refine Below.setCell ?_ (by first | (simp; done) | (simp; omega) | omega) _ | refine Below.alloc ?_ (by first | (simp; done) | (simp; omega) | omega) _ | refine after (by assumption) (by first | (simp; done) | (simp; omega) | omega) ?_)))) (HA.out.alloc _)).mono ?_; rintro e w1 ⟨rfl, hb1⟩
  have hW : Below w.heap.size w w1 := ((Below.refl _ w).alloc (Nat.le_refl _) _).trans (hb1.mono (by simp))
  go_wp2
  go_ret2
  exact ⟨rfl, hW⟩
set_option maxRecDepth 100000 in
set_option maxHeartbeats 3000000 in
theorem writeP_yes (r : Rp) (w : World) (hS : Std w) (hc : r.na = none → r.nc = 0) (ha : RowAt w r.na (vals r.nums)) (h : rightP r = true) :
    Calls Tryd.prog 7 #[.agg #[.int .i64 r.key, .int .i64 r.err, .int .i64 r.job, .int .i64 r.ver, .slice r.na r.nums.length r.nc]] w fun e w' => ∃ v, e = .returned (.tuple #[v, .int .i64 0]) ∧ w'.ownsRow w.heap.size 5 1 v (writeP r).length (bytesV (writeP r)) ∧ Below w.heap.size w w' := by
  have hr := rightP_is h
  have K := fun w' hs ha => replyRight r w' hs ha
  rw [h] at K
  have HK := Lib.hid K
  have HA := Lib.hid ha
  have HS := Lib.hid hS
  have HC := Lib.hid hc
  have HF := Lib.hid (fun w => four4 r w)
  have hfew := hr.few
  have hnl := numsP_len r
  have HPut := Lib.hid (fun (A : Option Addr) c w' hA => put_yes none A 0 c [] (numsP r) (by omega) (by simp) (numsP_ok hr) w' (fun _ => rfl) (.inl rfl) hA)
  obtain ⟨i0, hi, hz0, hz1, hz2⟩ := info_parts infoI
  have HNL := Lib.hid hnl
  have HV : Hid ([Value.int .i64 r.key, .int .i64 r.err, .int .i64 r.job, .int .i64 r.ver] ++ [.int .i64 (r.nums.length : Int)] ++ vals r.nums = vals (numsP r)) := Lib.hid (by unfold numsP; rw [vals_app]; rfl)
  clear K h ha hS hc hr hnl
  go_enter Tryd.func7, Tryd.ntmps7
  go_wp2_with (with_reducible refine wpList_load_p (r := r) rfl (.tmp 1) rfl rfl (BoxP.new w r) ?_)
  have HB0 := BoxP.new w r
  generalize hw0 : World.alloc w _ = w0 at HB0 ⊢
  have hb0 : Below w.heap.size w w0 := by rw [← hw0]; exact (by repeat' (first | exact Below.refl _ _ | assumption | exact And.left (by assumption) | refine Below.drew ?_ | refine below_drewN ?_ _ | refine Below.setCell ?_ (by first | (simp; done) | (simp; omega) | omega) _ | refine Below.alloc ?_ (by first | (simp; done) | (simp; omega) | omega) _ | refine after (by assumption) (by first | (simp; done) | (simp; omega) | omega) ?_))
  have hz00 : w.heap.size < w0.heap.size := HB0.lt
  clear hw0
  refine (HK.out _ (HS.out.on hb0) (HA.out.later hb0)).mono ?_; rintro e w1 ⟨rfl, hb1⟩
  have HB1 := Lib.hid (HB0.on hb1)
  have hzz1 := hb1.size
  have hW1 : Below w.heap.size w w1 := hb0.trans (hb1.mono (by omega))
  clear HB0 HK hb1 hb0
  go_wp2_with (with_reducible refine wpList_load_p (r := r) rfl (.tmp 1) rfl rfl HB1.out ?_)
  refine (HF.out w1).mono ?_; rintro e w2 ⟨rfl, hb2⟩
  have HB2 := Lib.hid (HB1.out.on hb2)
  have hzz2 := hb2.size
  have hW2 : Below w.heap.size w w2 := hW1.trans (hb2.mono (by omega))
  clear HB1 HF hb2
  go_wp2_with (refine wpList_store_row rfl 41 (.tmp 4) (.tmp 10) rfl w2.heap.size _ rfl rfl 41 #[.int .i64 0, .int .i64 0, .int .i64 0, .int .i64 0] (by repeat (first | (refine heap_top (by first | omega | (simp only [World.size_alloc]; done) | (simp only [World.size_alloc]; omega))) | refine heap_up ?_)) (by kernel_rfl) (by simp) (by simp [Value.oneCell']) ?_; generalize hw3 : World.setRow _ _ _ = w3)
  have hb3 : Below w2.heap.size w2 w3 := by rw [← hw3]; exact below_setRow ((by repeat' (first | exact Below.refl _ _ | assumption | exact And.left (by assumption) | refine Below.drew ?_ | refine below_drewN ?_ _ | refine Below.setCell ?_ (by first | (simp; done) | (simp; omega) | omega) _ | refine Below.alloc ?_ (by first | (simp; done) | (simp; omega) | omega) _ | refine after (by assumption) (by first | (simp; done) | (simp; omega) | omega) ?_))) (Nat.le_refl _) _
  have hg3 : w3.heap[w2.heap.size]? = some (.cells #[.int .i64 r.key, .int .i64 r.err, .int .i64 r.job, .int .i64 r.ver] 41 (0, 0)) := by rw [← hw3]; exact setRow_heap _ _ _ _ _ _ (by repeat (first | (refine heap_top (by first | omega | (simp only [World.size_alloc]; done) | (simp only [World.size_alloc]; omega))) | refine heap_up ?_))
  have HX3 : Hid (Row w3 w2.heap.size 41 #[.int .i64 r.key, .int .i64 r.err, .int .i64 r.job, .int .i64 r.ver]) := Lib.hid hg3
  have HB3 := Lib.hid (HB2.out.on hb3)
  have hlt3 := HX3.out.lt
  have hW3 : Below w.heap.size w w3 := hW2.trans (hb3.mono (by omega))
  have hzz3 : w.heap.size ≤ w3.heap.size := hW3.size
  clear hw3 hg3 HB2 hb3
  have c4 := HB3.out.c4
  have hcell : Hid (∀ j y, [Value.int .i64 r.key, .int .i64 r.err, .int .i64 r.job, .int .i64 r.ver][j]? = some y → w3.cell? ⟨w2.heap.size, j, none⟩ = some y) := Lib.hid (fun j y hj => by rw [HX3.out.cell]; simpa using hj)
  obtain ⟨g4, hg4⟩ : ∃ g4, g4 = w2.heap.size := ⟨_, rfl⟩
  rw [← hg4] at hcell hlt3 ⊢
  clear hg4 HX3
  have hbd : Below w3.heap.size w3 w3.drew := Below.drew (Below.refl _ _)
  have HBD := Lib.hid (HB3.out.on hbd)
  have hWD : Below w.heap.size w w3.drew := hW3.trans (hbd.mono hzz3)
  clear hbd
  go_region_law (refine step_append_full _ _ 23 3 8 (.int .i64 0) i0 Tryd.underlying23 hi hz0 hz1 hz2 rfl (by decide) w.heap.size 4 g4 [.int .i64 r.key, .int .i64 r.err, .int .i64 r.job, .int .i64 r.ver] (.int .i64 (r.nums.length : Int)) _ w3.drew rfl rfl rfl rfl rfl (by simpa using hlt3) (by simpa using hcell.out) (by simpa using hzz3) (by simp [Value.oneCell']) (by decide) ?_; intro v5 w5 hown5 hb5)
  have HO5 := Lib.hid hown5
  have HB5 := Lib.hid (HBD.out.on hb5)
  have hW5 : Below w.heap.size w w5 := hWD.trans (hb5.mono hWD.size)
  have HA5 := Lib.hid (HA.out.later hW5)
  have hz5 := hW5.size
  have d4 := HB5.out.c4
  clear hown5 hb5 hWD HBD HB3 c4 hcell
  go_wp2_with (at_builtin; refine pushAnyN _ _ 23 3 8 (by decide) (.int .i64 0) i0 Tryd.underlying23 hi hz0 hz1 hz2 rfl w.heap.size w.heap.size 5 r.nums.length r.nc _ (vals r.nums) _ r.na w _ rfl rfl rfl rfl (vals_len _).symm HC.out HO5.out HA5.out hW5 (Nat.le_refl _) hz5 (vals_one _) (by omega) ?_)
  intro v6 w6 hown6 hb6
  have hown6' : w6.ownsRow w.heap.size 3 1 v6 (numsP r).length (vals (numsP r)) := by
    rw [← HV.out, HNL.out]
    exact hown6
  obtain ⟨A6, c6, rfl, hc6, hrow6, _⟩ := own_form hown6'
  have K := HPut.out A6 c6 w6 hrow6
  have hz6 := hb6.size
  clear hown6 hown6' hrow6 HO5 HB5 HA5 d4
  go_wp2_with fail
  refine K.mono ?_; rintro e w7 ⟨v7, rfl, hown7, hb7⟩
  have HO7 := Lib.hid (own_more hown7 (show w.heap.size ≤ w6.heap.size by omega))
  have hbel7 : Below w.heap.size w w7 := hb6.trans (hb7.mono hz6)
  clear hown7 K
  go_wp2
  go_ret2
  exact ⟨_, rfl, HO7.out, hbel7⟩
end Go.Proofs.YtbnlchbklpgejaaDoor.W
