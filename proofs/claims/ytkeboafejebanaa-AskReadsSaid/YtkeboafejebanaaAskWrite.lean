/-
  Contracts of ask.appendAfter and ask.Write.
-/
import Derived.Test.YtkeboafejebanaaAskRight
namespace Go.Proofs.Ytkeboafejebanaa.W
set_option linter.unusedVariables false
set_option linter.unusedSimpArgs false
open Go.ChangeShapes Go.WideShapes Go.ChangeAt Go.RowKit

/-- a slice that reads as a list, in a block of a type -/
structure RowT (w : World) (a : Option Addr) (t : TypeId) (xs : List Value) : Prop where
  row : RowAt w a xs
  typ : ∀ b off, a = some ⟨b, off, none⟩ → ∃ cs, Row w b t cs
theorem RowT.grown {w w' : World} {a : Option Addr} {t : TypeId} {xs : List Value} {row : Option Nat} (h : RowT w a t xs) (hg : w.grownBy w' row) (hr : ∀ k, row = some k → ∃ t' cs, Row w k t' cs ∧ t' ≠ t) : RowT w' a t xs := by
  have ne : ∀ b off, a = some ⟨b, off, none⟩ → some b ≠ row := by
    intro b off e he
    obtain ⟨cs, hb⟩ := h.typ b off e
    obtain ⟨t', cs', hk, hn⟩ := hr b he.symm
    exact hn (hk.type hb)
  exact ⟨h.row.grown hg fun b off e _ => ne b off e, fun b off e => by
    obtain ⟨cs, hb⟩ := h.typ b off e
    exact ⟨cs, hb.grown hg (ne b off e)⟩⟩
theorem RowT.on {w w' : World} {a : Option Addr} {t : TypeId} {xs : List Value} (h : RowT w a t xs) (hb : Below w.heap.size w w') : RowT w' a t xs := ⟨h.row.later hb, fun b off e => by
    obtain ⟨cs, hr⟩ := h.typ b off e
    exact ⟨cs, hr.on hb⟩⟩
theorem RowT.of {w : World} {base : Nat} {e : TypeId} {n : Nat} {v : Value} {xs : List Value} (h : w.ownsRow base e 1 v n xs) :
    ∃ a cap, v = .slice a n cap ∧ n ≤ cap ∧ RowT w a e xs ∧ (a = none → cap = 0) := by
  obtain ⟨a, cap, h1, h2, h3, h4⟩ := own_form h
  refine ⟨a, cap, h1, h2, ⟨h3, fun b off ha => ?_⟩, fun ha => ?_⟩
  · rcases h4 with ⟨h, _, _⟩ | ⟨g, h, _, cur, hh⟩
    · rw [h] at ha; cases ha
    · rw [h] at ha; injection ha with ha; injection ha with e1 _; subst e1; exact ⟨cur, hh⟩
  · rcases h4 with ⟨_, _, h⟩ | ⟨g, h, _⟩
    · exact h
    · rw [ha] at h; cases h
theorem own_apart {w : World} {base : Nat} {e t : TypeId} {s n : Nat} {v : Value} {xs : List Value} (h : w.ownsRow base e s v n xs) (o : Obj) (hne : e ≠ t) : ∀ k, v.ownBlock = some k → ∃ t' cs, Row (w.alloc o) k t' cs ∧ t' ≠ t := fun k hk => by
  obtain ⟨cs, hr⟩ := own_row h k hk
  exact ⟨e, cs, hr.alloc o, hne⟩

theorem pushM {P : Program} {ops : Array Oper} {rest : List Oper} {o : Oper} {a : Act} {Q : Exit → Act → World → Prop} (s x : Operand) (t : TypeId)
    (e : TypeId) (bytes : Nat) (z : Value) (i : TypeInfo) (ht : P.underlying t = some (.slice e)) (hi : P.info? e = some i) (hz : i.zero = some z) (hsize : i.size = 1) (hby : i.bytes = bytes) (hzs : z.cells.size = 1) (hb0 : 0 < bytes)
    (base B n m : Nat) (xs : List Value) (us : Array Value) (v : Value) (ty : TypeId) (w0 wr : World) (g : Nat) (hgd : o.guard = none)
    (ho : o.op = .call { callee := .builtin .append, args := #[s, x], argTypes := #[t, t] })
    (hs : a.eval s = v) (hx : a.eval x = .slice (some ⟨g, 0, none⟩) m m) (hg : g = wr.heap.size) (hm : us.size = m)
    (hown : wr.ownsRow base e 1 v n xs) (hbel : Below B w0 wr) (hB : B ≤ base) (hbase : base ≤ wr.heap.size)
    (h1 : ∀ u ∈ us.toList, u.oneCell' = true) (hn : (n + m) * bytes ≤ 140737488355328)
    (h : ∀ v' w', w'.ownsRow base e 1 v' (n + m) (xs ++ us.toList) → Below B w0 w' → (wr.alloc (.cells us ty)).grownBy w' v.ownBlock → wpList P ops Q rest (a.put o.dst v') w') :
    wpList P ops Q (o :: rest) a (wr.alloc (.cells us ty)) := by
  subst hg
  exact pushL s x t e bytes z i ht hi hz hsize hby hzs hb0 base B n m xs us v ty w0 wr hgd ho hs hx hm hown hbel hB hbase h1 hn h
def aftTo (xs : List Int) (x : List (Int × Bool)) (k : Nat) : List Int := xs ++ (x.length : Int) :: (x.take k).flatMap depL
theorem aftTo_len (xs : List Int) (x : List (Int × Bool)) (k : Nat) : (aftTo xs x k).length ≤ xs.length + 1 + 2 * x.length := by
  unfold aftTo
  rw [List.length_append, List.length_cons, depL_len, List.length_take]
  omega
theorem aftTo_succ (xs : List Int) (x : List (Int × Bool)) (k : Nat) (h : k < x.length) : vals (aftTo xs x (k + 1)) = vals (aftTo xs x k) ++ [.int .i64 (x[k]).1, .int .i64 (if (x[k]).2 = true then 1 else 0)] := by
  unfold aftTo
  rw [take_snoc x k h, List.flatMap_append, ← List.cons_append, ← List.append_assoc]
  simp [vals, depL]
theorem aftTo_zero (xs : List Int) (x : List (Int × Bool)) : vals (aftTo xs x 0) = vals xs ++ [.int .i64 (x.length : Int)] := by simp [aftTo, vals]
set_option maxRecDepth 100000 in
set_option maxHeartbeats 2000000 in
theorem appendAfter (B : Nat) (v : Value) (xs : List Int) (x : List (Int × Bool)) (a : Option Addr) (ca : Nat) (hx : xs.length ≤ 1000) (hx2 : x.length ≤ 4) (wq w : World) (hq : RowAt wq a (depsV x)) (hqw : Below wq.heap.size wq w) (hqB : wq.heap.size ≤ B) (hB : B ≤ w.heap.size)
    (hown : w.ownsRow B 3 1 v xs.length (vals xs)) :
    Calls Try.prog 18 #[v, .slice a x.length ca] w fun e w' => ∃ v', e = .returned v' ∧ w'.ownsRow B 3 1 v' (aftTo xs x x.length).length (vals (aftTo xs x x.length)) ∧ Below B w w' := by
  obtain ⟨i0, hi, hz0, hz1, hz2⟩ := info_parts infoI
  have HO := Lib.hid hown
  have HQ := Lib.hid hq
  have HW := Lib.hid hqw
  have HLn := Lib.hid (aftTo_len xs x)
  have HS := Lib.hid (aftTo_succ xs x)
  have HZ := Lib.hid (aftTo_zero xs x)
  clear hown hq hqw
  go_enter Try.func18, Try.ntmps18
  go_wp2_with (at_builtin; refine pushL _ _ 42 3 8 (.int .i64 0) i0 Try.underlying42 hi hz0 hz1 hz2 rfl (by decide) B B _ 1 _ _ _ _ w _ rfl rfl rfl rfl rfl HO.out (Below.refl _ _) (Nat.le_refl _) hB (by simp [Value.oneCell']) (by omega) ?_)
  intro v1 w1 hown1 hb1 _
  have HO1 : Hid (w1.ownsRow B 3 1 v1 (aftTo xs x 0).length (vals (aftTo xs x 0))) := Lib.hid (by
    rw [HZ.out, show (aftTo xs x 0).length = xs.length + 1 by simp [aftTo]]
    exact hown1)
  clear hown1
  go_wp2
  go_loopw [0, 15] (fun v0 i wr => ∃ k : Nat, k ≤ x.length ∧ i = .int .i64 (k : Int) ∧ Hid (wr.ownsRow B 3 1 v0 (aftTo xs x k).length (vals (aftTo xs x k))) ∧ Below B w wr) (fun _ i _ => x.length - (intOf i).toNat)
  case atStart => exact ⟨0, Nat.zero_le _, rfl, HO1, hb1⟩
  case round =>
    obtain ⟨k, hk, rfl, HOk, hbw⟩ := hrel
    have hz := hbw.size
    clear HO1
    by_cases hlt : k < x.length
    · obtain ⟨b1, o1, e1, hbl, c1, c2⟩ := dep_at (HQ.out.later (HW.out.trans (hbw.mono hqB))) hlt
      have hsk := HS.out k hlt
      have hlk := HLn.out k
      have hlk1 : (aftTo xs x (k + 1)).length = (aftTo xs x k).length + 2 := by
        have := congrArg List.length hsk
        simpa [vals_len] using this
      have HSK := Lib.hid hsk
      have HLK := Lib.hid hlk1
      have E1 := Lib.hid e1
      clear e1 hsk hlk1
      generalize x[k] = p at c1 c2 HSK
      obtain ⟨p1, p2⟩ := p
      simp only at c1 c2
      obtain rfl := E1.out
      cases p2
      all_goals
        go_wp2_with (at_builtin; refine pushM _ _ 42 3 8 (.int .i64 0) i0 Try.underlying42 hi hz0 hz1 hz2 rfl (by decide) B B _ 2 _ _ _ _ w _ _ rfl rfl rfl rfl (by simp) rfl (own_later HOk.out ((by repeat' (first | exact Below.refl _ _ | assumption | exact And.left (by assumption) | refine Below.drew ?_ | refine below_drewN ?_ _ | refine Below.setCell ?_ (by first | (simp; done) | (simp; omega) | omega) _ | refine Below.alloc ?_ (by first | (simp; done) | (simp; omega) | omega) _ | refine after (by assumption) (by first | (simp; done) | (simp; omega) | omega) ?_)))) ((by repeat' (first | exact Below.refl _ _ | assumption | exact And.left (by assumption) | refine Below.drew ?_ | refine below_drewN ?_ _ | refine Below.setCell ?_ (by first | (simp; done) | (simp; omega) | omega) _ | refine Below.alloc ?_ (by first | (simp; done) | (simp; omega) | omega) _ | refine after (by assumption) (by first | (simp; done) | (simp; omega) | omega) ?_))) (Nat.le_refl _) (by simp; omega) (by simp [Value.oneCell']) (by omega) ?_)
        intro v2 w2 hown2 hb2 _
        have HO2 : Hid (w2.ownsRow B 3 1 v2 (aftTo xs x (k + 1)).length (vals (aftTo xs x (k + 1)))) := Lib.hid (by
          rw [HSK.out, HLK.out]
          exact hown2)
        clear hown2 HSK HLK HOk
        go_wp2
        go_roundw
        case rel => exact ⟨k + 1, by omega, by go_num, HO2, hb2⟩
        case measure => simp [intOf]; omega
    · have hkl : k = x.length := by omega
      subst hkl
      go_wp2
      go_ret
      exact ⟨_, rfl, HOk.out, hbw⟩

def partL (q : Rq) (fs : List Nat) (k : Nat) : List Int := [q.kind, q.key] ++ (fs.take k).map q.n
theorem partL_len (q : Rq) (fs : List Nat) (k : Nat) : (partL q fs k).length ≤ 2 + fs.length := by
  unfold partL; simp only [List.length_append, List.length_map, List.length_take, List.length_cons, List.length_nil]; omega
theorem partL_succ (q : Rq) (fs : List Nat) (k : Nat) (h : k < fs.length) : vals (partL q fs (k + 1)) = vals (partL q fs k) ++ [.int .i64 (q.n fs[k])] := by
  unfold partL
  rw [take_snoc fs k h, List.map_append, ← List.append_assoc]
  exact vals_snoc _ _
theorem nums_part (q : Rq) (h : q.kind = 1) : aftTo (partL q (fieldsN q.kind) (fieldsN q.kind).length) q.af q.af.length = numsL q := by
  unfold aftTo partL numsL aftL
  rw [if_pos h, List.take_length, List.take_length]
theorem nums_part' (q : Rq) (h : ¬ q.kind = 1) : partL q (fieldsN q.kind) (fieldsN q.kind).length = numsL q := by
  unfold partL numsL aftL
  rw [if_neg h, List.take_length, List.append_nil]
theorem write_no (q : Rq) (hl : q.l.length = 15) (w : World) (ha : RowAt w q.aa (depsV q.af)) (h : rightQ q = false) :
    Calls Try.prog 7 #[.agg #[.int .i64 q.kind, .int .i64 q.key, .int .i64 (q.n 1), .int .i64 (q.n 2), .int .i64 (q.n 3), .int .i64 (q.n 4), .int .i64 (q.n 5), .int .i64 (q.n 6), .int .i64 (q.n 7), .int .i64 (q.n 8), .int .i64 (q.n 9), .int .i64 (q.n 10), .slice q.aa q.af.length q.ac, .int .i64 (q.n 11), .int .i64 (q.n 12), .int .i64 (q.n 13), .int .i64 (q.n 14)]] w fun e w' => e = .returned (.tuple #[.slice none 0 0, .int .i64 2]) ∧ Below w.heap.size w w' := by
  have K := fun w' ha => askRight q hl w' ha
  rw [h] at K
  have HK := Lib.hid K
  have HA := Lib.hid ha
  clear K h ha hl
  go_enter Try.func7, Try.ntmps7
  go_wp2_with (with_reducible refine wpList_load_q (q := q) rfl (.tmp 1) rfl rfl (BoxQ.new w q) ?_)
  refine (HK.out _ (HA.out.alloc _)).mono ?_; rintro e w1 ⟨rfl, hb1⟩; obtain ⟨hc1, hf1⟩ := bcell hb1; have hz1 := hb1.size; (try simp at hz1); have lt_w1_0 : w.heap.size < w1.heap.size := (by omega)
  go_wp2
  go_ret2
  exact ⟨rfl, (by repeat' (first | exact Below.refl _ _ | assumption | exact And.left (by assumption) | refine Below.drew ?_ | refine below_drewN ?_ _ | refine Below.setCell ?_ (by first | (simp; done) | (simp; omega) | omega) _ | refine Below.alloc ?_ (by first | (simp; done) | (simp; omega) | omega) _ | refine after (by assumption) (by first | (simp; done) | (simp; omega) | omega) ?_))⟩
set_option maxRecDepth 100000 in
set_option maxHeartbeats 3000000 in
theorem write_yes (q : Rq) (hl : q.l.length = 15) (w : World) (ha : RowAt w q.aa (depsV q.af)) (h : rightQ q = true) :
    Calls Try.prog 7 #[.agg #[.int .i64 q.kind, .int .i64 q.key, .int .i64 (q.n 1), .int .i64 (q.n 2), .int .i64 (q.n 3), .int .i64 (q.n 4), .int .i64 (q.n 5), .int .i64 (q.n 6), .int .i64 (q.n 7), .int .i64 (q.n 8), .int .i64 (q.n 9), .int .i64 (q.n 10), .slice q.aa q.af.length q.ac, .int .i64 (q.n 11), .int .i64 (q.n 12), .int .i64 (q.n 13), .int .i64 (q.n 14)]] w fun e w' => ∃ v, e = .returned (.tuple #[v, .int .i64 0]) ∧ w'.ownsRow w.heap.size 5 1 v (writeQ q).length (bytesV (writeQ q)) ∧ Below w.heap.size w w' := by
  have hr := right_is h
  have K := fun w' ha => askRight q hl w' ha
  rw [h] at K
  have HK := Lib.hid K
  have HA := Lib.hid ha
  have hkb : kindB q.kind = true := decide_eq_true hr.kind
  have HP := Lib.hid (fun g w' hc => numbers g q.kind (.inl hkb) w' hc)
  have hnl := nums_len hr
  have hafl := hr.few
  have HPut := Lib.hid (fun (A : Option Addr) c w' hA => put_yes none A 0 c [] (numsL q) (by omega) (by simp) (nums_ok hr) w' (fun _ => rfl) (.inl rfl) hA)
  have HN := Lib.hid (nums_part q)
  have HN' := Lib.hid (nums_part' q)
  obtain ⟨i0, hi, hz0, hz1, hz2⟩ := info_parts infoI
  have HIN := Lib.hid (fields_in q.kind)
  have hfl0 := fields_len q.kind
  clear K h ha hl hr hkb
  go_enter Try.func7, Try.ntmps7
  go_wp2_with (with_reducible refine wpList_load_q (q := q) rfl (.tmp 1) rfl rfl (BoxQ.new w q) ?_)
  have HB0 := BoxQ.new w q
  generalize hw0 : World.alloc w _ = w0 at HB0 ⊢
  have hb0 : Below w.heap.size w w0 := by rw [← hw0]; exact (by repeat' (first | exact Below.refl _ _ | assumption | exact And.left (by assumption) | refine Below.drew ?_ | refine below_drewN ?_ _ | refine Below.setCell ?_ (by first | (simp; done) | (simp; omega) | omega) _ | refine Below.alloc ?_ (by first | (simp; done) | (simp; omega) | omega) _ | refine after (by assumption) (by first | (simp; done) | (simp; omega) | omega) ?_))
  have hz00 : w.heap.size < w0.heap.size := HB0.lt
  clear hw0
  refine (HK.out _ (HA.out.later hb0)).mono ?_; rintro e w1 ⟨rfl, hb1⟩
  have HB1 := Lib.hid (HB0.on hb1)
  have hzz1 := hb1.size
  have hW1 : Below w.heap.size w w1 := hb0.trans (hb1.mono (by omega))
  have k0 := HB1.out.c0
  have k1 := HB1.out.c1
  clear HB0
  go_wp2_with fail
  have HO2 : Hid ((w1.alloc (.cells #[.int .i64 q.kind, .int .i64 q.key] 3)).ownsRow w1.heap.size 3 1 (.slice (some ⟨w1.heap.size, 0, none⟩) 2 2) 2 (vals [q.kind, q.key])) := Lib.hid (World.ownsRow_lit w1 #[.int .i64 q.kind, .int .i64 q.key] 2 (Nat.le_refl _) (by decide) rfl)
  generalize hw2 : World.alloc w1 _ = w2 at HO2 ⊢
  have hb2 : Below w1.heap.size w1 w2 := by rw [← hw2]; exact (by repeat' (first | exact Below.refl _ _ | assumption | exact And.left (by assumption) | refine Below.drew ?_ | refine below_drewN ?_ _ | refine Below.setCell ?_ (by first | (simp; done) | (simp; omega) | omega) _ | refine Below.alloc ?_ (by first | (simp; done) | (simp; omega) | omega) _ | refine after (by assumption) (by first | (simp; done) | (simp; omega) | omega) ?_))
  have hzz2 := hb2.size
  have HB2 := Lib.hid (HB1.out.on hb2)
  clear hw2
  refine (HP.out w.heap.size w2 HB2.out.c0).mono ?_; rintro e w3 ⟨v3, rfl, hown3, hb3⟩
  obtain ⟨A3, c3, rfl, hc3, hrow3, _⟩ := RowT.of hown3
  have HO3 := Lib.hid (own_later HO2.out hb3)
  have HR3 := Lib.hid hrow3
  have hzz3 := hb3.size
  have hb13 : Below w1.heap.size w1 w3 := hb2.trans (hb3.mono hzz2)
  clear hown3 hrow3 HB2 HO2
  obtain ⟨fs, hfs⟩ : ∃ fs, fs = fieldsN q.kind := ⟨_, rfl⟩
  rw [← hfs] at HR3 hc3 hfl0 HN HN' HIN ⊢
  clear hfs
  have HPL := Lib.hid (partL_len q fs)
  have HPS := Lib.hid (partL_succ q fs)
  go_wp2_with fail
  go_loopw [4, 17] (fun v4 v17 wr => ∃ k : Nat, k ≤ fs.length ∧ v17 = .int .i64 (k : Int) ∧ Hid (wr.ownsRow w1.heap.size 3 1 v4 (partL q fs k).length (vals (partL q fs k))) ∧ Hid (RowT wr A3 46 (ptrsV w.heap.size fs)) ∧ Below w1.heap.size w1 wr) (fun _ v17 _ => fs.length - (intOf v17).toNat)
  case atStart => exact ⟨0, Nat.zero_le _, rfl, HO3, HR3, hb13⟩
  case round =>
    obtain ⟨k, hk, rfl, HO, HR, hbw⟩ := hrel
    have hz := hbw.size
    have hpl := HPL.out k
    clear HO3 HR3
    by_cases hlt : k < fs.length
    · obtain ⟨b1, o1, e1, hbl1, hcs⟩ := HR.out.row.row (by rw [ptrs_len]; omega)
      have c1 := hcs k _ (ptrs_at w.heap.size fs k hlt)
      have hin := HIN.out fs[k] (List.getElem_mem hlt)
      have hps := HPS.out k hlt
      have hps1 : (partL q fs (k + 1)).length = (partL q fs k).length + 1 := by
        have := congrArg List.length hps
        simpa [vals_len] using this
      have HPS1 := Lib.hid hps
      have HPS2 := Lib.hid hps1
      have E1 := Lib.hid e1
      clear e1 hcs hps hps1
      generalize fs[k] = i at c1 hin HPS1
      have d1 := (HB1.out.on hbw).num hin.1 hin.2
      generalize q.n i = x at d1 HPS1
      generalize cix i = c at c1 d1
      obtain rfl := E1.out
      have HAP := Lib.hid (fun o => own_apart HO.out o (show 3 ≠ 46 by decide))
      go_wp2_with (at_builtin; refine pushL _ _ 42 3 8 (.int .i64 0) i0 Try.underlying42 hi hz0 hz1 hz2 rfl (by decide) w1.heap.size w1.heap.size _ 1 _ _ _ _ w1 _ rfl rfl rfl rfl rfl HO.out hbw (Nat.le_refl _) hz (by simp [Value.oneCell']) (by omega) ?_)
      intro v5 w5 hown5 hb5 hg5
      have HO5 : Hid (w5.ownsRow w1.heap.size 3 1 v5 (partL q fs (k + 1)).length (vals (partL q fs (k + 1)))) := Lib.hid (by
        rw [HPS1.out, HPS2.out]
        exact hown5)
      have HR5 : Hid (RowT w5 (some ⟨b1, o1, none⟩) 46 (ptrsV w.heap.size fs)) := Lib.hid ((HR.out.on ((by repeat' (first | exact Below.refl _ _ | assumption | exact And.left (by assumption) | refine Below.drew ?_ | refine below_drewN ?_ _ | refine Below.setCell ?_ (by first | (simp; done) | (simp; omega) | omega) _ | refine Below.alloc ?_ (by first | (simp; done) | (simp; omega) | omega) _ | refine after (by assumption) (by first | (simp; done) | (simp; omega) | omega) ?_)))).grown hg5 (HAP.out _))
      clear hown5 hg5 HAP HO HR HPS1 HPS2
      go_wp2
      go_roundw
      case rel => exact ⟨k + 1, by omega, by go_num, HO5, HR5, hb5⟩
      case measure => simp [intOf]; omega
    · have hkl : k = fs.length := by omega
      subst hkl
      have HBr := Lib.hid (HB1.out.on hbw)
      have m0 := HBr.out.c0
      have m12 := HBr.out.c12
      by_cases he : q.kind = 1
      · have HNN := Lib.hid (HN.out he)
        rw [he] at m0 k0
        have HAq := Lib.hid (fun v4 (ho : wr.ownsRow w1.heap.size 3 1 v4 (partL q fs fs.length).length (vals (partL q fs fs.length))) => appendAfter w1.heap.size v4 (partL q fs fs.length) q.af q.aa q.ac (by omega) hafl w wr HA.out (hW1.trans (hbw.mono hW1.size)) hW1.size hz ho)
        have HEE := Lib.hid he
        clear he
        go_wp2_with fail
        refine (HAq.out _ HO.out).mono ?_; rintro e w6 ⟨v6, rfl, hown6, hb6⟩
        rw [HNN.out] at hown6
        obtain ⟨A6, c6, rfl, hc6, hrow6, hn6⟩ := RowT.of hown6
        have K := HPut.out A6 c6 w6 hrow6.row
        have hbw6 : Below w1.heap.size w1 w6 := hbw.trans hb6
        clear hown6 hrow6 HAq
        go_wp2_with fail
        refine K.mono ?_; rintro e w7 ⟨v7, rfl, hown7, hb7⟩
        have hz6 := hbw6.size
        have HO7 := Lib.hid (own_more hown7 (show w.heap.size ≤ w6.heap.size by omega))
        have hbel7 : Below w.heap.size w w7 := hW1.trans ((hbw6.trans (hb7.mono hz6)).mono hW1.size)
        clear hown7 K
        go_wp2
        go_ret2
        exact ⟨_, rfl, HO7.out, hbel7⟩
      · have HNN := Lib.hid (HN'.out he)
        have hkk : (q.kind == 1) = false := by simpa using he
        have HO6 : Hid (wr.ownsRow w1.heap.size 3 1 u4 (numsL q).length (vals (numsL q))) := Lib.hid (by have := HO.out; rwa [HNN.out] at this)
        obtain ⟨A6, c6, rfl, hc6, hrow6, hn6⟩ := RowT.of HO6.out
        have K := HPut.out A6 c6 wr hrow6.row
        clear hrow6 HO he
        go_wp2_with fail
        refine K.mono ?_; rintro e w7 ⟨v7, rfl, hown7, hb7⟩
        have HO7 := Lib.hid (own_more hown7 (show w.heap.size ≤ wr.heap.size by omega))
        have hbel7 : Below w.heap.size w w7 := hW1.trans ((hbw.trans (hb7.mono hz)).mono hW1.size)
        clear hown7 K
        go_wp2
        go_ret2
        exact ⟨_, rfl, HO7.out, hbel7⟩
end Go.Proofs.Ytkeboafejebanaa.W
