/-
  Several texts in one: TextTake, TextTake2, TextTake3, MonoT.
-/
import Derived.Test.YtgopjpnlpcmldaaGreatDoorJ35
import Derived.Deep.RegionLaw
import Derived.BigRegion
import Derived.Test.YtgopjpnlpcmldaaGreatDoorMono

/-
  What a line puts into a set-up: a mode's, a weights', a part's.
-/
namespace Go.Proofs.YtgopjpnlpcmldaaGreatDoor.W
set_option linter.unusedVariables false
set_option linter.unusedSimpArgs false
open Go.ChangeShapes Go.WideShapes Go.ChangeAt Go.RowKit

set_option maxHeartbeats 1000000 in
set_option maxRecDepth 100000 in
theorem takeMode_ (E D g : Nat) (s : S) (l : List UInt8) (w : World) (hM : Built E D g s w) :
    Calls Tryz.prog 40 #[.pointer (some ⟨g, 0, none⟩), .string (bs l)] w (Took E D g w (takeS (tOf s) l 6)) := by
  have HM := Lib.hid hM
  have r1 := hM.row.thaw 9
  have r2 := hM.row.cell 9
  have hb := Below.refl D w
  have hput : ∀ m, Built E D g { s with mode := m } (w.setCell ⟨g, 9, none⟩ (.int .i64 m)) := fun m => ⟨hM.row.put 9 _, hM.ge, (fun h => ⟨h.1, h.2, h.3, h.4, h.5⟩ : Lists E _ s → Lists E _ { s with mode := m }) (hM.lists.put hM.row 9 _), hM.le, le_put hM.top g 9 _⟩
  have HP := Lib.hid hput
  clear hM hput
  by_cases h1 : l = kEasy
  · have e1 : ((bs l).toList == [101, 97, 115, 121]) = true := by rw [Lib.toList_data, bs_list, h1]; rfl
    have hT := Lib.hid (show takeS (tOf s) l 6 = some (tOf { s with mode := 1 }) by simp only [takeS, if_pos h1]; rfl)
    clear h1
    go_enter Tryz.func40, Tryz.ntmps40
    go_wp2
    go_ret
    exact ⟨hb.setCell (p := ⟨g, 9, none⟩) HM.out.ge _, Far.put _ _ _, .inl ⟨_, hT.out, rfl, HP.out 1⟩⟩
  · have e1 : ((bs l).toList == [101, 97, 115, 121]) = false := by rw [Lib.toList_data, bs_list]; exact beq_eq_false_iff_ne.mpr h1
    by_cases h2 : l = kCons
    · have e2 : ((bs l).toList == [99, 111, 110, 115, 101, 114, 118, 97, 116, 105, 118, 101]) = true := by rw [Lib.toList_data, bs_list, h2]; rfl
      have hT := Lib.hid (show takeS (tOf s) l 6 = some (tOf { s with mode := 2 }) by simp only [takeS, if_neg h1, if_pos h2]; rfl)
      clear h1 h2
      go_enter Tryz.func40, Tryz.ntmps40
      go_wp2
      go_ret
      exact ⟨hb.setCell (p := ⟨g, 9, none⟩) HM.out.ge _, Far.put _ _ _, .inl ⟨_, hT.out, rfl, HP.out 2⟩⟩
    · have e2 : ((bs l).toList == [99, 111, 110, 115, 101, 114, 118, 97, 116, 105, 118, 101]) = false := by rw [Lib.toList_data, bs_list]; exact beq_eq_false_iff_ne.mpr h2
      have hT := Lib.hid (show takeS (tOf s) l 6 = none by simp only [takeS, if_neg h1, if_neg h2])
      clear h1 h2
      go_enter Tryz.func40, Tryz.ntmps40
      go_wp2
      go_ret
      exact Took.no HM.out (Below.refl _ _) hT.out
theorem list4 {ns : List Int} : (∃ a b c d, ns = [a, b, c, d]) ∨ ¬ ns.length = 4 := by
  rcases ns with _ | ⟨a, _ | ⟨b, _ | ⟨c, _ | ⟨d, _ | ⟨e, r⟩⟩⟩⟩⟩
  · exact .inr (by simp)
  · exact .inr (by simp)
  · exact .inr (by simp)
  · exact .inr (by simp)
  · exact .inl ⟨a, b, c, d, rfl⟩
  · exact .inr (by simp)
set_option maxHeartbeats 2000000 in
set_option maxRecDepth 100000 in
theorem takeWeights_ (E D g : Nat) (s : S) (l : List UInt8) (hl : l.length ≤ 100000) (w : World) (hS : Std w) (hE : StdE w) (hM : Built E D g s w) :
    Calls Tryz.prog 37 #[.pointer (some ⟨g, 0, none⟩), .string (bs l)] w (Took E D g w (takeS (tOf s) l 4)) := by
  have HP := Lib.hid (parted_ l hl w hS hE)
  have HM := Lib.hid hM
  clear hS hE hM
  go_enter Tryz.func37, Tryz.ntmps37
  go_wp2_with fail
  refine HP.out.mono ?_
  rintro e w1 ⟨⟨ns, v, hp, rfl, how⟩ | ⟨hp, rfl⟩, hb1⟩
  · obtain ⟨a, c, rfl, _, hr, hr2⟩ := own_form how
    rcases list4 (ns := ns) with ⟨n0, n1, n2, n3, rfl⟩ | hne
    · have hT := Lib.hid (show takeS (tOf s) l 4 = some (tOf { s with age := n0, size := n1, qos := n2, share := n3 }) by simp only [takeS, hp]; rfl)
      obtain ⟨bl, off, rfl, hbl, hc⟩ := hr.row (by simp [vals])
      have k0 := hc 0 (.int .i64 n0) (by simp [vals])
      have k1 := hc 1 (.int .i64 n1) (by simp [vals])
      have k2 := hc 2 (.int .i64 n2) (by simp [vals])
      have k3 := hc 3 (.int .i64 n3) (by simp [vals])
      rw [Nat.add_zero] at k0
      have HM1 := Lib.hid (HM.out.on hb1)
      clear hr hr2 how hp hc
      go_wp2_with fail
      refine wp_region_still_tail 16 (by kernel_rfl) (by kernel_rfl) ?_
      change wpStill _ _ (World.drew _) (fun a' => wpList _ _ _ _ a' (World.drew _)) _ _
      simp only [List.take_succ_cons, List.take_zero, List.drop_succ_cons, List.drop_zero]
      repeat still_step
      refine wpStill_nil ?_
      have r4 : w1.frozen? ⟨g, 4, none⟩ = false := HM1.out.row.thaw 4
      have r5 : w1.frozen? ⟨g, 5, none⟩ = false := HM1.out.row.thaw 5
      have r6 : w1.frozen? ⟨g, 6, none⟩ = false := HM1.out.row.thaw 6
      have r7 : w1.frozen? ⟨g, 7, none⟩ = false := HM1.out.row.thaw 7
      have q4 : w1.cell? ⟨g, 4, none⟩ = some (.int .i64 s.age) := HM1.out.row.cell 4
      have q5 : w1.cell? ⟨g, 5, none⟩ = some (.int .i64 s.size) := HM1.out.row.cell 5
      have q6 : w1.cell? ⟨g, 6, none⟩ = some (.int .i64 s.qos) := HM1.out.row.cell 6
      have q7 : w1.cell? ⟨g, 7, none⟩ = some (.int .i64 s.share) := HM1.out.row.cell 7
      go_wp2
      go_ret
      have hb2 : Below D w w1.drew := (hb1.mono (Nat.le_of_lt HM.out.lt)).drew
      have hM2 : Built E D g s w1.drew := HM1.out.on ((Below.refl _ w1).drew)
      have hge := HM.out.ge
      exact ⟨(((hb2.setCell (p := ⟨g, 4, none⟩) hge _).setCell (p := ⟨g, 5, none⟩) hge _).setCell (p := ⟨g, 6, none⟩) hge _).setCell (p := ⟨g, 7, none⟩) hge _, ((((Far.of_below (hb1.drew)).trans (Far.put _ _ _)).trans (Far.put _ _ _)).trans (Far.put _ _ _)).trans (Far.put _ _ _), .inl ⟨_, hT.out, rfl,
        (((hM2.row.put 4 _).put 5 _).put 6 _).put 7 _, hge, (fun h => ⟨h.1, h.2, h.3, h.4, h.5⟩ : Lists E _ s → Lists E _ { s with age := n0, size := n1, qos := n2, share := n3 }) ((((hM2.lists.put hM2.row 4 _).put (hM2.row.put 4 _) 5 _).put ((hM2.row.put 4 _).put 5 _) 6 _).put (((hM2.row.put 4 _).put 5 _).put 6 _) 7 _), hM2.le, le_put (le_put (le_put (le_put hM2.top g 4 (.int .i64 n0)) g 5 (.int .i64 n1)) g 6 (.int .i64 n2)) g 7 (.int .i64 n3)⟩⟩
    · have hT := Lib.hid (Took.no (g := g) (r := takeS (tOf s) l 4) HM.out hb1 (by
        simp only [takeS, hp]
        split
        · next a b c d e => injection e with e; subst e; exact absurd rfl hne
        · rfl))
      have h1 : ¬ ((ns.length : Int) = 4) := by omega
      clear hr hr2 how hp hne
      go_wp2
      go_ret
      exact hT.out
  · have hT := Lib.hid (Took.no (g := g) (r := takeS (tOf s) l 4) HM.out hb1 (by simp [takeS, hp]))
    clear hp
    go_wp2
    go_ret
    exact hT.out
end Go.Proofs.YtgopjpnlpcmldaaGreatDoor.W


/-
  What a part's line puts into a set-up.
-/
namespace Go.Proofs.YtgopjpnlpcmldaaGreatDoor.W
set_option linter.unusedVariables false
set_option linter.unusedSimpArgs false
open Go.ChangeShapes Go.WideShapes Go.ChangeAt Go.RowKit

/-- own rows of two types lie apart -/
theorem own_beside {w w' : World} {D D' : Nat} {e e' : TypeId} {k k' n n' : Nat} {v v' : Value} {xs xs' : List Value} (h : w.ownsRow D e k v n xs) (h' : w.ownsRow D' e' k' v' n' xs') (he : e ≠ e') (hg : w.grownBy w' v'.ownBlock) : w'.ownsRow D e k v n xs := by
  refine h.kept hg ?_
  rcases h'.2 with ⟨rfl, _⟩ | ⟨g, cap, cur, rfl, _, hh, _⟩
  · rcases h.2 with ⟨rfl, _⟩ | ⟨g, cap, cur, rfl, _⟩
    · exact .inl rfl
    · exact .inr (by simp [Value.ownBlock])
  · exact .inr (own_not h hh he)
theorem row_beside {w w' : World} {D : Nat} {e t : TypeId} {k n g : Nat} {v : Value} {xs : List Value} {cs : Array Value} (h : Row w g t cs) (h' : w.ownsRow D e k v n xs) (he : e ≠ t) (hg : w.grownBy w' v.ownBlock) : Row w' g t cs :=
  (hg.block g h.lt (fun e' => own_not h' h he e'.symm)).trans h
theorem below_own {w w' : World} {B D : Nat} {w0 : World} {e : TypeId} {k n : Nat} {v : Value} {xs : List Value} (hb : Below B w0 w) (h : w.ownsRow D e k v n xs) (hB : B ≤ D) (hz : B ≤ w.heap.size) (hg : w.grownBy w' v.ownBlock) : Below B w0 w' :=
  hb.grown hg hz fun j ej => Nat.le_trans hB (h.lt j ej).1
theorem infoL : (Tryz.prog.info? 43).map (fun i => (i.zero, i.size, i.bytes)) = some (some (.slice none 0 0), 1, 24) := by kernel_rfl

/-- the same of parted, in one case -/
theorem parted_one (l : List UInt8) (hl : l.length ≤ 100000) (w : World) (hS : Std w) (hE : StdE w) :
    Calls Tryz.prog 80 #[.string (bs l)] w fun e w' => ∃ (p : Sl) (ok : Bool), e = .returned (.tuple #[.slice p.a p.l.length p.cap, .bool ok]) ∧ (ok = true → partedS l = some p.l) ∧ (ok = false → partedS l = none) ∧ w'.ownsRow w.heap.size 3 1 (.slice p.a p.l.length p.cap) p.l.length (vals p.l) ∧ Below w.heap.size w w' := by
  refine (parted_ l hl w hS hE).mono ?_
  rintro e w1 ⟨⟨ns, v, hp, rfl, how⟩ | ⟨hp, rfl⟩, hb1⟩
  · obtain ⟨a, c, rfl, _, hr, hr2⟩ := own_form how
    exact ⟨⟨a, c, ns⟩, true, rfl, fun _ => hp, (fun h => nomatch h), how, hb1⟩
  · exact ⟨⟨none, 0, []⟩, false, rfl, (fun h => nomatch h), (fun _ => hp), World.ownsRow_nil .., hb1⟩
theorem Lists.part_in {D : Nat} {w w' : World} {s : S} (h : Lists D w s) {p : Sl} (hp : w.ownsRow D 3 1 (.slice p.a p.l.length p.cap) p.l.length (vals p.l)) (hg : w.grownBy w' (Value.slice s.pa s.parts.length s.pc).ownBlock) {g c : Nat}
    (ho : w'.ownsRow D 43 1 (.slice (some ⟨g, 0, none⟩) (s.parts.length + 1) c) (s.parts.length + 1) (partsV s.parts ++ [partV p])) : Lists D w' { s with pa := some ⟨g, 0, none⟩, pc := c, parts := s.parts ++ [p] } where
  nodes := own_beside h.nodes h.parts (by decide) hg
  parts := by
    show w'.ownsRow D 43 1 (.slice (some ⟨g, 0, none⟩) (s.parts ++ [p]).length c) (s.parts ++ [p]).length (partsV (s.parts ++ [p]))
    rw [List.length_append, show partsV (s.parts ++ [p]) = partsV s.parts ++ [partV p] by simp [partsV]]
    exact ho
  part := fun q hq => by
    rcases List.mem_append.1 hq with hq | hq
    · exact own_beside (h.part q hq) h.parts (by decide) hg
    · rw [List.mem_singleton.1 hq]
      exact own_beside hp h.parts (by decide) hg
  queues := own_beside h.queues h.parts (by decide) hg
  users := fun q hq => own_beside (h.users q hq) h.parts (by decide) hg
set_option maxHeartbeats 2000000 in
set_option maxRecDepth 100000 in
theorem takePart_ (E D g : Nat) (s : S) (hN : s.parts.length ≤ 5000) (l : List UInt8) (hl : l.length ≤ 100000) (w : World) (hS : Std w) (hE : StdE w) (hM : Built E D g s w) :
    Calls Tryz.prog 31 #[.pointer (some ⟨g, 0, none⟩), .string (bs l)] w (Took E D g w (takeS (tOf s) l 1)) := by
  have HP := Lib.hid (parted_one l hl w hS hE)
  have HM := Lib.hid hM
  obtain ⟨n, hn⟩ : ∃ n, n = s.parts.length := ⟨_, rfl⟩
  clear hS hE hM
  go_enter Tryz.func31, Tryz.ntmps31
  go_wp2_with fail
  refine HP.out.mono ?_
  rintro e w1 ⟨p, ok, rfl, hy, hno, how, hb1⟩
  have HM1 := Lib.hid (HM.out.on hb1)
  have hlt := HM.out.lt
  have hge := HM.out.ge
  have htop := HM.out.top
  have hle := HM.out.le
  have hz1 := hb1.size
  obtain ⟨i0, hi, hz0, hzz, hzb⟩ := info_parts infoL
  have hown : w1.ownsRow E 43 1 (.slice s.pa n s.pc) n (partsV s.parts) := hn ▸ HM1.out.lists.parts
  have q1 : w1.cell? ⟨g, 1, none⟩ = some (.slice s.pa n s.pc) := hn ▸ HM1.out.row.cell 1
  have HY := Lib.hid hy
  have HNO := Lib.hid hno
  have HH := Lib.hid how
  have hN' : n ≤ 5000 := hn ▸ hN
  obtain ⟨m, hm⟩ : ∃ m, m = p.l.length := ⟨_, rfl⟩
  rw [← hm] at how ⊢
  have HN := Lib.hid hn
  have HMM := Lib.hid hm
  clear hy hno hn hm hN how
  go_wp2_with (refine wpList_append_own _ rfl _ _ 23 rfl E 43 i0 _ 1 24 Tryz.underlying23 hi hz0 hzz hzb rfl (by decide) _ _ _ rfl (hown.alloc _) ⟨w1.heap.size, 0, none⟩ 1 1 [.slice p.a m p.cap] rfl rfl (cell_one_new _ _ _) (by simp [Value.oneCell']) (by unfold maxLen; omega) (by omega) (by simp; omega) ?_; intro v' w3 hown' hgrow _; obtain ⟨g', cap', rfl⟩ := ownsRow_succ hown'; have HGW := Lib.hid (show (w1.alloc (.cells #[.slice p.a m p.cap] 43)).grownBy w3 (Value.slice s.pa n s.pc).ownBlock from hgrow); clear hgrow; have HG3 := Lib.hid (row_beside (HM1.out.row.alloc _) (hown.alloc _) (by decide) HGW.out); have q3 : w3.cell? ⟨g, 1, none⟩ = some (.slice s.pa s.parts.length s.pc) := HG3.out.cell 1; have f3 := HG3.out.thaw 1)
  go_ret
  have hba : Below D w (w1.alloc (.cells #[.slice p.a m p.cap] 43)) := (hb1.mono (Nat.le_of_lt hlt)).alloc (by omega) _
  have hb3 : Below D w w3 := below_own hba (hown.alloc _) hle (by simp; omega) HGW.out
  have hf3 : Far E g w w3 := ((Far.of_below hb1).trans (Far.of_below ((Below.refl _ w1).alloc (Nat.le_refl _) _))).trans (Far.grown (hown.alloc _) (.inr (.inl rfl)) HGW.out)
  refine ⟨hb3.setCell (p := ⟨g, 1, none⟩) hge _, hf3.trans (Far.put _ _ _), ?_⟩
  have en : (s.parts ++ [p]).length = n + 1 := by rw [List.length_append, ← HN.out]; rfl
  have hrow : ∀ s2 : S, s2 = { s with pa := some ⟨g', 0, none⟩, pc := cap', parts := s.parts ++ [p] } → Row (w3.setCell ⟨g, 1, none⟩ (.slice (some ⟨g', 0, none⟩) (n + 1) cap')) g 28 #[.slice s2.na s2.nodes.length s2.nc, .slice s2.pa s2.parts.length s2.pc, .slice s2.qa s2.queues.length s2.qc, .int .i64 s2.users, .int .i64 s2.age, .int .i64 s2.size, .int .i64 s2.qos, .int .i64 s2.share, .int .i64 s2.decay, .int .i64 s2.mode, .int .i64 s2.jobs, .int .i64 s2.ids, .int .i64 s2.versions, .int .i64 s2.linger, .int .i64 s2.keep, .int .i64 s2.inn, .int .i64 s2.out, .int .i64 s2.cache] := by
    rintro s2 rfl
    show Row _ g _ #[.slice s.na s.nodes.length s.nc, .slice (some ⟨g', 0, none⟩) (s.parts ++ [p]).length cap', _, _, _, _, _, _, _, _, _, _, _, _, _, _, _, _]
    rw [en]
    exact HG3.out.put 1 _
  have hL : Lists E w3 { s with pa := some ⟨g', 0, none⟩, pc := cap', parts := s.parts ++ [p] } := by
    have hn := HN.out
    have hm := HMM.out
    subst hn hm
    exact Lists.part_in (HM1.out.lists.on ((Below.refl _ w1).alloc (Nat.le_refl _) _)) (own_more (HH.out.alloc _) (by omega)) HGW.out hown'
  have hL2 := hL.put HG3.out 1 (.slice (some ⟨g', 0, none⟩) (n + 1) cap')
  cases ok with
  | true => exact .inl ⟨_, by simp only [takeS, HY.out rfl, Option.map_some]; simp [tOf], rfl, hrow _ rfl, hge, hL2, hle, by rw [size_put]; exact Nat.le_trans htop (Nat.le_trans hz1 (Nat.le_trans (by simp) HGW.out.size))⟩
  | false => exact .inr ⟨by simp only [takeS, HNO.out rfl, Option.map_none], rfl⟩
end Go.Proofs.YtgopjpnlpcmldaaGreatDoor.W


/-
  What a node's line puts into a set-up.
-/
namespace Go.Proofs.YtgopjpnlpcmldaaGreatDoor.W
set_option linter.unusedVariables false
set_option linter.unusedSimpArgs false
open Go.ChangeShapes Go.WideShapes Go.ChangeAt Go.RowKit

/-- an append of elements of several cells, just written out, to a slice of the call's own: a step of a region that draws -/
theorem step_append_big {P : Program} {ops : Array Oper} {o : Oper} {a : Act} {K : Act → World → Prop} {Q : Exit → Act → World → Prop} {E : Prop} (s x : Operand) (t : TypeId)
    (e : TypeId) (size bytes : Nat) (z : Value) (i : TypeInfo) (ht : P.underlying t = some (.slice e)) (hi : P.info? e = some i) (hz : i.zero = some z) (hsize : i.size = size) (hby : i.bytes = bytes) (hzs : z.cells.size = size) (hsz : 0 < size) (hb0 : 0 < bytes)
    (base n m : Nat) (xs : List Value) (us : Array Value) (v : Value) (ty : TypeId) (wr : World) (hgd : o.guard = none)
    (ho : o.op = .call { callee := .builtin .append, args := #[s, x], argTypes := #[t, t] })
    (hs : a.eval s = v) (hx : a.eval x = .slice (some ⟨wr.heap.size, 0, none⟩) m m) (hm : us.size = m * size)
    (hown : wr.ownsRow base e size v n xs) (hbase : base ≤ wr.heap.size)
    (h1 : ∀ u ∈ us.toList, u.oneCell' = true) (hn : (n + m) * bytes ≤ 140737488355328)
    (h : ∀ v' w', w'.ownsRow base e size v' (n + m) (xs ++ us.toList) → (wr.alloc (.cells us ty)).grownBy w' v.ownBlock → K (a.put o.dst v') w') :
    if Region.wanted o (yielded ops a.tmps) = true then Oper.wp P o a (wr.alloc (.cells us ty)) K Q else E := by
  have hw : Region.wanted o (yielded ops a.tmps) = true := by simp [Region.wanted, hgd]
  rw [if_pos hw]
  refine wp_append_own _ s x t ho base e i z size bytes ht hi hz hsize hby hzs hsz v n xs hs (hown.alloc _) ⟨wr.heap.size, 0, none⟩ m m us.toList hx (by simp [hm]) ?_ h1 ?_ hn ?_ ?_
  · intro j y hj
    rw [add_plain, Nat.zero_add, cell_of_row _ _ _ us ty (0, 0) (heap_alloc_new wr _)]
    simpa using hj
  · have : n + m ≤ (n + m) * bytes := Nat.le_mul_of_pos_right _ hb0
    unfold maxLen; omega
  · simp; omega
  · intro v' w' o' g' _
    exact h v' w' o' g'
theorem infoR : (Tryz.prog.info? 41).map (fun i => (i.zero, i.size, i.bytes)) = some (some (.agg #[.int .i64 0, .int .i64 0, .int .i64 0, .int .i64 0]), 4, 32) := by kernel_rfl

theorem uRead_all (l : List UInt8) (hl : l.length ≤ 1000000) (w : World) (hS : Std w) :
    Calls Tryz.prog 78 #[.string (bs l)] w fun e w' => e = .returned (.tuple #[(.agg #[.int .i64 (readV l).cpu, .int .i64 (readV l).mem, .int .i64 (readV l).gpu, .int .i64 (readV l).lic]), .int .i64 (readE l)]) ∧ Below w.heap.size w w' := by
  by_cases h : l = unone
  · subst h
    obtain ⟨h1, h2⟩ := readV_some (show readU unone = some [0, 0, 0, 0] by decide)
    rw [h1, h2]
    exact uRead_none w
  · exact uRead_loop l hl h w hS
theorem readVec_of (l : List UInt8) : (readE l = 0 ∧ readVec l = some (readV l)) ∨ (readE l = 11 ∧ readVec l = none) := by
  unfold readE readV readVec
  cases h : readU l with
  | none => exact .inr ⟨rfl, rfl⟩
  | some ns =>
    obtain ⟨h4, _⟩ := readU_sound h
    match ns, h4 with
    | [a, b, c, d], _ => exact .inl ⟨rfl, rfl⟩
theorem Lists.node_in {D : Nat} {w w' : World} {s : S} (h : Lists D w s) {v : V} (hg : w.grownBy w' (Value.slice s.na s.nodes.length s.nc).ownBlock) {g c : Nat}
    (ho : w'.ownsRow D 41 4 (.slice (some ⟨g, 0, none⟩) (s.nodes.length + 1) c) (s.nodes.length + 1) (nodesV s.nodes ++ nodeV v)) : Lists D w' { s with na := some ⟨g, 0, none⟩, nc := c, nodes := s.nodes ++ [v] } where
  nodes := by
    show w'.ownsRow D 41 4 (.slice (some ⟨g, 0, none⟩) (s.nodes ++ [v]).length c) (s.nodes ++ [v]).length (nodesV (s.nodes ++ [v]))
    rw [List.length_append, show nodesV (s.nodes ++ [v]) = nodesV s.nodes ++ nodeV v by simp [nodesV]]
    exact ho
  parts := own_beside h.parts h.nodes (by decide) hg
  part := fun q hq => own_beside (h.part q hq) h.nodes (by decide) hg
  queues := own_beside h.queues h.nodes (by decide) hg
  users := fun q hq => own_beside (h.users q hq) h.nodes (by decide) hg
set_option maxHeartbeats 2000000 in
set_option maxRecDepth 100000 in
theorem takeNode_ (E D g : Nat) (s : S) (hN : s.nodes.length ≤ 5000) (l : List UInt8) (hl : l.length ≤ 100000) (w : World) (hS : Std w) (hM : Built E D g s w) :
    Calls Tryz.prog 29 #[.pointer (some ⟨g, 0, none⟩), .string (bs l)] w (Took E D g w (takeS (tOf s) l 0)) := by
  have HP := Lib.hid (uRead_all l (by omega) w hS)
  have HM := Lib.hid hM
  obtain ⟨n, hn⟩ : ∃ n, n = s.nodes.length := ⟨_, rfl⟩
  obtain ⟨v, hv⟩ : ∃ v, v = readV l := ⟨_, rfl⟩
  obtain ⟨er, her⟩ : ∃ er, er = readE l := ⟨_, rfl⟩
  have HC := Lib.hid (readVec_of l)
  rw [← hv, ← her] at HP HC
  clear hS hM hv her
  go_enter Tryz.func29, Tryz.ntmps29
  go_wp2_with fail
  refine HP.out.mono ?_
  rintro e w1 ⟨rfl, hb1⟩
  have hlt := HM.out.lt
  have hge := HM.out.ge
  have htop := HM.out.top
  have hle := HM.out.le
  have hz1 := hb1.size
  go_wp2_with fail
  have hB2 : Row (w1.alloc (.cells #[.int .i64 v.cpu, .int .i64 v.mem, .int .i64 v.gpu, .int .i64 v.lic] 41)) w1.heap.size 41 #[.int .i64 v.cpu, .int .i64 v.mem, .int .i64 v.gpu, .int .i64 v.lic] := Row.new rfl _ _
  have hb2 : Below w.heap.size w (w1.alloc (.cells #[.int .i64 v.cpu, .int .i64 v.mem, .int .i64 v.gpu, .int .i64 v.lic] 41)) := hb1.alloc hz1 _
  generalize w1.alloc (.cells #[.int .i64 v.cpu, .int .i64 v.mem, .int .i64 v.gpu, .int .i64 v.lic] 41) = w2 at hB2 hb2 ⊢
  generalize w1.heap.size = b2 at hB2 hz1 ⊢
  have hz2 := hb2.size
  have HM2 := Lib.hid (HM.out.on (Below.drew hb2))
  obtain ⟨i0, hi, hz0, hzz, hzb⟩ := info_parts infoR
  have HO := Lib.hid (show w2.drew.ownsRow E 41 4 (.slice s.na n s.nc) n (nodesV s.nodes) from hn ▸ HM2.out.lists.nodes)
  have q0 : w2.cell? ⟨g, 0, none⟩ = some (.slice s.na n s.nc) := hn ▸ HM2.out.row.cell 0
  have p0 : w2.cell? ⟨b2, 0, none⟩ = some (.int .i64 v.cpu) := hB2.cell 0
  have p1 : w2.cell? ⟨b2, 1, none⟩ = some (.int .i64 v.mem) := hB2.cell 1
  have p2 : w2.cell? ⟨b2, 2, none⟩ = some (.int .i64 v.gpu) := hB2.cell 2
  have p3 : w2.cell? ⟨b2, 3, none⟩ = some (.int .i64 v.lic) := hB2.cell 3
  have lb2 : b2 < w2.heap.size := hB2.lt
  have lg2 : g < w2.heap.size := HM2.out.row.lt
  have HN := Lib.hid hn
  have hN' : n ≤ 5000 := hn ▸ hN
  have HB := Lib.hid hb2
  clear hB2 hb1 hb2 hn hN
  go_region_law (refine step_append_big _ _ 22 41 4 32 _ i0 Tryz.underlying22 hi hz0 hzz hzb rfl (by decide) (by decide) E n 1 _ _ _ _ w2.drew rfl rfl rfl rfl rfl HO.out (show E ≤ w2.heap.size by omega) (by simp [Value.oneCell']) (by omega) ?_
                 intro v' w3 hown' hgrow
                 obtain ⟨g', cap', rfl⟩ := ownsRow_succ hown'
                 have HOW := Lib.hid hown'
                 have HGW := Lib.hid (show (w2.drew.alloc (.cells #[.int .i64 v.cpu, .int .i64 v.mem, .int .i64 v.gpu, .int .i64 v.lic] 41)).grownBy w3 (Value.slice s.na n s.nc).ownBlock from hgrow)
                 clear hgrow hown'
                 have HG3 := Lib.hid (row_beside (HM2.out.row.alloc _) (HO.out.alloc _) (by decide) HGW.out)
                 have q3 : w3.cell? ⟨g, 0, none⟩ = some (.slice s.na s.nodes.length s.nc) := HG3.out.cell 0
                 have f3 := HG3.out.thaw 0)
  all_goals
    have hba : Below D w (w2.drew.alloc (.cells #[.int .i64 v.cpu, .int .i64 v.mem, .int .i64 v.gpu, .int .i64 v.lic] 41)) := ((HB.out.mono (Nat.le_of_lt hlt)).drew).alloc (show D ≤ w2.heap.size by omega) _
    have hb3 : Below D w w3 := below_own hba (HO.out.alloc _) hle (by rw [World.size_alloc]; show D ≤ w2.heap.size + 1; omega) HGW.out
    have hf3 : Far E g w w3 := ((Far.of_below HB.out.drew).trans (Far.of_below ((Below.refl _ w2.drew).alloc (Nat.le_refl _) _))).trans (Far.grown (HO.out.alloc _) (.inl rfl) HGW.out)
    have en : (s.nodes ++ [v]).length = n + 1 := by rw [List.length_append, ← HN.out]; rfl
    have hrow : ∀ s2 : S, s2 = { s with na := some ⟨g', 0, none⟩, nc := cap', nodes := s.nodes ++ [v] } → Row (w3.setCell ⟨g, 0, none⟩ (.slice (some ⟨g', 0, none⟩) (n + 1) cap')) g 28 #[.slice s2.na s2.nodes.length s2.nc, .slice s2.pa s2.parts.length s2.pc, .slice s2.qa s2.queues.length s2.qc, .int .i64 s2.users, .int .i64 s2.age, .int .i64 s2.size, .int .i64 s2.qos, .int .i64 s2.share, .int .i64 s2.decay, .int .i64 s2.mode, .int .i64 s2.jobs, .int .i64 s2.ids, .int .i64 s2.versions, .int .i64 s2.linger, .int .i64 s2.keep, .int .i64 s2.inn, .int .i64 s2.out, .int .i64 s2.cache] := by
      rintro s2 rfl
      show Row _ g _ #[.slice (some ⟨g', 0, none⟩) (s.nodes ++ [v]).length cap', _, _, _, _, _, _, _, _, _, _, _, _, _, _, _, _, _]
      rw [en]
      exact HG3.out.put 0 _
    have hL : Lists E w3 { s with na := some ⟨g', 0, none⟩, nc := cap', nodes := s.nodes ++ [v] } := by
      have hn := HN.out
      subst hn
      exact Lists.node_in (HM2.out.lists.on ((Below.refl _ w2.drew).alloc (Nat.le_refl _) _)) HGW.out HOW.out
    have hL2 := Lib.hid (hL.put HG3.out 0 (.slice (some ⟨g', 0, none⟩) (n + 1) cap'))
    have HRW := Lib.hid hrow
    have HBF := Lib.hid (And.intro (hb3.setCell (p := ⟨g, 0, none⟩) hge (.slice (some ⟨g', 0, none⟩) (n + 1) cap')) (hf3.trans (Far.put w3 0 (.slice (some ⟨g', 0, none⟩) (n + 1) cap'))))
    have HTP := Lib.hid (show E ≤ (w3.setCell ⟨g, 0, none⟩ (.slice (some ⟨g', 0, none⟩) (n + 1) cap')).heap.size by rw [size_put]; have := HGW.out.size; rw [World.size_alloc] at this; have h2 : w2.heap.size + 1 ≤ w3.heap.size := this; omega)
    clear hba hb3 hf3 hrow hL HGW HOW HO en
    rcases HC.out with ⟨rfl, hV⟩ | ⟨rfl, hV⟩
    · have HV := Lib.hid (show takeS (tOf s) l 0 = some (tOf { s with na := some ⟨g', 0, none⟩, nc := cap', nodes := s.nodes ++ [v] }) by simp only [takeS, hV, Option.map_some]; simp [tOf])
      clear hV
      go_wp2
      go_ret
      exact ⟨HBF.out.1, HBF.out.2, .inl ⟨_, HV.out, rfl, HRW.out _ rfl, hge, hL2.out, hle, HTP.out⟩⟩
    · have HV := Lib.hid (show takeS (tOf s) l 0 = none by simp only [takeS, hV, Option.map_none])
      clear hV
      go_wp2
      go_ret
      exact ⟨HBF.out.1, HBF.out.2, .inr ⟨HV.out, rfl⟩⟩
end Go.Proofs.YtgopjpnlpcmldaaGreatDoor.W


/-
  A region that draws its order and ends in a tail of forced order (a store, say): the head as in XMono, each operation once; the tail by the walk.
-/
namespace Go.Proofs.YtgopjpnlpcmldaaGreatDoor.W
set_option linter.unusedVariables false
set_option linter.unusedSimpArgs false
open Go.ChangeShapes Go.WideShapes Go.ChangeAt Go.RowKit

def monoB2 (ops : Array Oper) (l : List Oper) (ds : List Tmp) (nds : List (List Nat × List Nat)) : Bool :=
  Region.noSelect ops && nodupB ds && monoFrom ops ds 0 l nds
/-- what has come up when the head is through -/
def headDone (n m : Nat) : Array Bool := ((List.range m).map fun i => decide (i < n)).toArray
def tailB (ops : Array Oper) (n : Nat) : Bool :=
  decide (n < ops.size) && Region.sinkB .any ops n && Region.chainB .any ops n && Region.seqB .any ops (ops.size - n) n (headDone n ops.size)
theorem count_take {l : List Bool} {n i : Nat} (hi : i < n) (h : l[i]? = some false) : ((l.set i true).take n).countP (fun b => !b) + 1 = (l.take n).countP (fun b => !b) := by
  rw [List.take_set]
  exact count_set _ _ (by rw [List.getElem?_take, if_pos hi]; exact h)
section
variable {P : Program} {ops : Array Oper} {Q : Exit → Act → World → Prop}
theorem region_mono_tail {id : Nat} {l : List Oper} {a : Act} {w : World} (n : Nat) (sp : List Sp) (ds : List Tmp) (hds : (l.take n).map (·.dst) = ds.map some) (hm : P.follows .mixedOrders = true) (hB : monoB2 l.toArray (l.take n) ds (sp.map fun s => (s.needs, s.late)) = true) (hT : tailB l.toArray n = true) (hD : dstsB ds a.tmps.size = true) (hst : stables sp)
    (hsteps : ∀ (am : Act) (wm : World) (L : Nat → Prop), Below w.heap.size w wm → (∀ t, ds.contains t = false → am.tmps.getD t undef = a.tmps.getD t undef) →
      (∀ j d, ds[j]? = some d → ¬ L j → am.tmps.getD d undef = a.tmps.getD d undef) → monoSteps P l.toArray am wm L 0 (l.take n) ds sp)
    (hend : ∀ w', Below w.heap.size w w' → monoEnd (fun t => wpList P l.toArray Q (l.drop n) ⟨t, a.defers⟩ w') w' ds sp a.tmps) : (Code.region id l.toArray true).wp P Q a w := by
  simp only [monoB2, Bool.and_eq_true] at hB
  obtain ⟨⟨hB0, hB1⟩, hB2⟩ := hB
  simp only [tailB, Bool.and_eq_true, decide_eq_true_eq] at hT
  obtain ⟨⟨⟨hn, hS⟩, hC⟩, hQ⟩ := hT
  have hnl : n < l.length := by simpa using hn
  have htl : (l.take n).length = n := by rw [List.length_take]; omega
  obtain ⟨hB3, hB4⟩ := monoFrom_at 0 (l.take n) _ hB2
  have hlen : sp.length = n := by rw [htl] at hB3; rw [hB3]; simp
  have hlat : ∀ (i : Nat) (o : Oper), i < n → l.toArray[i]? = some o → (l.take n)[i]? = some o := fun i o hi ho => by
    rw [List.getElem?_take, if_pos hi]; simpa using ho
  have hat : ∀ (i : Nat) (o : Oper) (s : Sp), l.toArray[i]? = some o → sp[i]? = some s → monoAt l.toArray ds (s.needs, s.late) i o = true := fun i o s ho hs => by
    have hin : i < n := by rw [← hlen]; exact (List.getElem?_eq_some_iff.1 hs).1
    have := hB4 i o (s.needs, s.late) (hlat i o hin ho) (by simp [hs])
    rwa [Nat.zero_add] at this
  have hdl : ds.length = n := by have := congrArg List.length hds; simpa [htl, Nat.min_eq_left (Nat.le_of_lt hnl)] using this.symm
  have hdat : ∀ (i : Nat) (d : Tmp), ds[i]? = some d → dstOf l.toArray i = some d := fun i d hd => by
    have hin : i < n := by rw [← hdl]; exact (List.getElem?_eq_some_iff.1 hd).1
    have h1 : ((l.take n).map (·.dst))[i]? = some (some d) := by rw [hds, List.getElem?_map, hd]; rfl
    rw [List.getElem?_map] at h1
    obtain ⟨o, ho, h2⟩ := Option.map_eq_some_iff.1 h1
    rw [List.getElem?_take, if_pos hin] at ho
    simp [dstOf, ho, h2]
  have hdof : ∀ (j : Nat) (t : Tmp), j < n → dstOf l.toArray j = some t → ds[j]? = some t := fun j t hjn hj => by
    have := hdat j _ (List.getElem?_eq_getElem (by omega))
    rw [hj] at this
    rw [List.getElem?_eq_getElem (by omega), Option.some.inj this]
  have hdst : ∀ (i : Nat) (o : Oper), i < n → l.toArray[i]? = some o → ∃ d, o.dst = some d ∧ d < a.tmps.size := fun i o hin ho => by
    have hil : i < ds.length := by rw [hdl]; exact hin
    have h1 := hdat i _ (List.getElem?_eq_getElem hil)
    have h2 : o.dst = some ds[i] := by simpa [dstOf, ho] using h1
    unfold dstsB at hD
    exact ⟨_, h2, of_decide_eq_true (List.all_eq_true.1 hD _ (List.getElem_mem hil))⟩
  have hnone : ∀ j, (Array.replicate l.toArray.size false).getD j false = false := fun j => by
    rcases Nat.lt_or_ge j l.toArray.size with h | h
    · simp at h; simp [h]
    · simp at h; simp [h]
  have hnone2 : ∀ j, j < l.toArray.size → (Array.replicate l.toArray.size false).getD j true = false := fun j h => by
    simp at h; simp [h]
  -- one operation of the head
  have step : ∀ i listed b w', Going l.toArray sp w a listed b w' → (∀ t, n ≤ t → t < l.toArray.size → listed.getD t true = false) → i < n → listed.getD i true = false → (∃ o, l.toArray[i]? = some o ∧ ∀ e ∈ o.after, Region.binds .any e = true → listed.getD e.on false = true) →
      wpOp P l.toArray Q i (Going l.toArray sp w a (listed.setIfInBounds i true)) b w' := by
    rintro i listed b w' g htail hin hi ⟨o, ho, hafter⟩
    have hil : i < l.length := by omega
    obtain ⟨s, hs⟩ : ∃ s, sp[i]? = some s := ⟨sp[i]'(by omega), List.getElem?_eq_getElem (by omega)⟩
    have hm1 := hat i o s ho hs
    obtain ⟨d, hd, hdn⟩ := hdst i o hin ho
    have hlisted : ∀ j ∈ s.needs, listed.getD j false = true := fun j hj => by
      obtain ⟨e, he, hb, e1⟩ := monoAt_waits hm1 hj
      rw [← e1]
      exact hafter e he hb
    have htl2 : ∀ j, n ≤ j → listed.getD j false = false := fun j hj => by
      rcases Nat.lt_or_ge j l.toArray.size with h | h
      · exact getD_both (htail j hj h)
      · have : listed.size ≤ j := by rw [g.ls]; exact h
        simp [Array.getElem?_eq_none this]
    have hnot : ∀ t, ds.contains t = false → ∀ j, dstOf l.toArray j = some t → listed.getD j false = false := fun t hno j hj => by
      rcases Nat.lt_or_ge j n with h | h
      · have := List.mem_of_getElem? (hdof j t h hj)
        simp [this] at hno
      · exact htl2 j h
    have hdi0 : ds[i]? = some d := hdof i d hin (by simp only [dstOf, ho]; exact hd)
    have hc := steps_at 0 (l.take n) ds sp (hsteps b w' (fun j => listed.getD j false = true) g.bel (fun t hno => by
      simp only [Array.getD_eq_getD_getElem?]
      rw [g.free t (hnot t hno)]) (fun j d' hd' hL => by
      simp only [Array.getD_eq_getD_getElem?]
      rw [g.free d' fun k hk => by
        rcases Nat.lt_or_ge k n with h | h
        · have := nodupB_spec hB1 (hdof k d' h hk) hd'
          subst this
          simpa using hL
        · exact htl2 k h])) (fun j d' s' hd' hs' hL => by
        rw [Nat.zero_add] at hL
        have h1 := g.vals j s' hs' hL
        rw [hdat j d' hd'] at h1
        exact h1) i o d s (hlat i o hin ho) hdi0 hs hlisted (fun j hj hL => by
        have h1 := g.anc _ j (monoAt_late hm1 hj) hL
        rw [getD_both hi] at h1
        cases h1)
    have hown : ∀ v w2, Below w'.heap.size w' w2 → s.R v w2 → Going l.toArray sp w a (listed.setIfInBounds i true) (b.put o.dst v) w2 := fun v w2 hb hr => by
      have hdi : dstOf l.toArray i = o.dst := by simp only [dstOf, ho]; rfl
      have hil' : i < listed.size := by rw [g.ls]; simpa using hil
      refine ⟨g.bel.trans (hb.mono g.bel.size), by simp [g.ls], by rw [put_size]; exact g.size, by rw [put_defers']; exact g.defers, fun t hno => ?_, fun j oj hoj hl e he hb => ?_, fun j s' hs' hl => ?_⟩
      · rw [put_other fun e => by have := hno i (hdi.trans e); simp [hil'] at this]
        refine g.free t fun j hj => ?_
        have h1 := hno j hj
        by_cases hij : i = j
        · subst hij; simp [hil'] at h1
        · rw [getD_set_ne false hij] at h1; exact h1
      · by_cases hij : i = j
        · subst hij
          rw [ho] at hoj
          obtain rfl := Option.some.inj hoj
          exact getD_set_true (hafter e he hb)
        · rw [getD_set_ne false hij] at hl
          exact getD_set_true (g.closed j oj hoj hl e he hb)
      · by_cases hij : i = j
        · subst hij
          rw [hs] at hs'
          obtain rfl := Option.some.inj hs'
          rw [hdi, hd]
          have : valOf (b.put (some d) v) (some d) = v := by
            have := val_at (a := b.put (some d) v) (t := d) (by rw [put_size, g.size]; exact hdn)
            rw [put_self (by rw [g.size]; exact hdn)] at this
            exact Option.some.inj this
          rw [this]
          exact hr
        · rw [getD_set_ne false hij] at hl
          have h1 := g.vals j s' hs' hl
          have hjn : j < n := by rw [← hlen]; exact (List.getElem?_eq_some_iff.1 hs').1
          have h2 : valOf (b.put o.dst v) (dstOf l.toArray j) = valOf b (dstOf l.toArray j) := by
            cases hj : dstOf l.toArray j with
            | none => rfl
            | some t =>
              have hne : o.dst ≠ some t := fun e => (Ne.symm hij) (nodupB_spec hB1 (hdof j t hjn hj) (hdof i t hin (hdi.trans e)))
              simp only [valOf, Array.getD_eq_getD_getElem?]
              rw [put_other hne]
          rw [h2]
          exact stables_at sp hst j s' hs' _ _ _ h1 hb
    unfold wpOp
    rw [ho]
    dsimp only
    replace hc := hc.ok
    by_cases hw : s.want = true
    · rw [if_pos hw] at hc
      rw [if_pos hc.1]
      refine .inl (wp_alike hd (by rw [g.size]; exact hdn) rfl hc.2 hown)
    · rw [if_neg hw] at hc
      rw [hc.1]
      simp only [Bool.false_eq_true, if_false]
      exact hown undef w' (Below.refl _ _) hc.2
  have go : ∀ (k : Nat) listed b w', Going l.toArray sp w a listed b w' → (∀ t, n ≤ t → t < l.toArray.size → listed.getD t true = false) → (listed.toList.take n).countP (fun b => !b) = k → wpAny P .any l.toArray Q (k + (l.toArray.size - n)) listed b w' := by
    intro k
    induction k with
    | zero =>
      intro listed b w' g htail hk
      have hall : ∀ i, i < n → listed.getD i false = true := fun i hi => by
        have h1 := List.countP_eq_zero.1 hk
        have hil : i < listed.toList.length := by have := g.ls; simp at this ⊢; omega
        have h2 := h1 (listed.toList[i]'hil) (List.mem_take_iff_getElem.2 ⟨i, by simp at hil ⊢; omega, rfl⟩)
        have hil' : i < listed.size := by simpa using hil
        simpa [hil'] using h2
      have hl : listed = headDone n l.toArray.size := by
        refine Array.ext_getElem? fun i => ?_
        rcases Nat.lt_or_ge i l.toArray.size with h | h
        · have hil' : i < listed.size := by rw [g.ls]; exact h
          have e1 : (headDone n l.toArray.size)[i]? = some (decide (i < n)) := by
            unfold headDone
            simp only [List.getElem?_toArray, List.getElem?_map]
            rw [List.getElem?_range h]
            rfl
          rw [e1]
          rcases Nat.lt_or_ge i n with h1 | h1
          · have := hall i h1
            simp [hil'] at this
            simp [hil', this, h1]
          · have := htail i h1 h
            simp [hil'] at this
            simp [hil', this, Nat.not_lt.2 h1]
        · rw [Array.getElem?_eq_none (by rw [g.ls]; exact h), Array.getElem?_eq_none (by unfold headDone; simpa using h)]
      have hfin : wpList P l.toArray Q (l.drop n) b w' := by
        have := end_at (Q := fun _ a' w'' => wpList P l.toArray Q (l.drop n) a' w'') (a := b) ds sp a (by omega) (fun i d s ho hs => ?_) (by rw [g.defers]; exact hend w' g.bel) g.size.symm g.defers.symm (fun t hno => (g.free t fun j hj => ?_).symm)
        · exact this
        · have hin : i < n := by rw [← hdl]; exact (List.getElem?_eq_some_iff.1 ho).1
          have h3 := g.vals i s hs (hall i hin)
          rw [hdat i d ho] at h3
          exact h3
        · rcases Nat.lt_or_ge j n with h | h
          · exact absurd (List.mem_of_getElem? (hdof j t h hj)) hno
          · rcases Nat.lt_or_ge j l.toArray.size with h' | h'
            · exact getD_both (htail j h h')
            · have : listed.size ≤ j := by rw [g.ls]; exact h'
              simp [Array.getElem?_eq_none this]
      have hsq := wpAny_of_seq (md := .any) (Q' := Q) (l.drop n) n listed b w' (fun j => by simp [List.getElem?_drop]) (by rw [hl]; simpa using hQ) hfin
      rw [Nat.zero_add]
      simpa using hsq
    | succ k ih =>
      intro listed b w' g htail hk
      have inv : HeadInv .any l.toArray n listed := ⟨g.ls, g.closed, htail⟩
      obtain ⟨i0, hi0n, hi0⟩ : ∃ i, i < n ∧ listed.getD i true = false := by
        apply Classical.byContradiction
        intro h
        have : (listed.toList.take n).countP (fun b => !b) = 0 := List.countP_eq_zero.2 fun x hx => by
          obtain ⟨j, hj, rfl⟩ := List.mem_take_iff_getElem.1 hx
          have hjl : j < listed.size := by simp at hj; omega
          have h1 : ¬ listed.getD j true = false := fun e => h ⟨j, by omega, e⟩
          simp [hjl] at h1
          simp [h1]
        omega
      have hready : ∀ (m i : Nat), i < m → i < n → listed.getD i true = false → Region.ready .any l.toArray listed ≠ [] := by
        intro m
        induction m with
        | zero => intro i h; omega
        | succ m ihm =>
          intro i him hin hi hr
          have hil : i < l.length := by omega
          have ho : l.toArray[i]? = some (l[i]'hil) := by simp [hil]
          have hs : sp[i]? = some (sp[i]'(by omega)) := List.getElem?_eq_getElem (by omega)
          have : i ∈ Region.ready .any l.toArray listed := mem_ready.2 ⟨hi, _, ho, fun e he hb => by
            have hb1 := monoAt_back (hat i _ _ ho hs) he hb
            cases h2 : listed.getD e.on true with
            | false => exact absurd hr (ihm e.on (by omega) (by omega) h2)
            | true =>
              have h3 : e.on < listed.size := by rw [g.ls]; simp; omega
              simp [h3] at h2 ⊢
              exact h2⟩
          rw [hr] at this; cases this
      have hne := hready (i0 + 1) i0 (by omega) hi0n hi0
      rw [show k + 1 + (l.toArray.size - n) = (k + (l.toArray.size - n)) + 1 by omega]
      refine ⟨fun h => absurd h hne, fun i hi => ?_⟩
      have hin : i < n := by
        rcases Nat.lt_or_ge i n with h | h
        · exact h
        · exact absurd hi (tail_waits hS hC hn inv _ i0 rfl hi0n hi0 i h)
      obtain ⟨h0, h2⟩ := mem_ready.1 hi
      have hil' : i < listed.size := by rw [g.ls]; simp; omega
      refine wpOp_mono (fun a' w'' g' => ih _ a' w'' g' (fun t ht ht' => ?_) ?_) (step i listed b w' g htail hin h0 h2)
      · rw [getD_set_ne true (by omega)]; exact htail t ht ht'
      · have h1 : listed.toList[i]? = some false := by
          simp [hil'] at h0
          simp [hil', h0]
        have := count_take hin h1
        rw [Array.toList_setIfInBounds]
        omega
  refine wp_region_any hm ?_
  have h0 : ((Array.replicate l.toArray.size false).toList.take n).countP (fun b => !b) = n := by
    simp [List.countP_replicate]
    omega
  have := go n (Array.replicate l.toArray.size false) a w.drew ⟨below_drew w, by simp, rfl, rfl, fun _ _ => rfl, fun j o _ h => (by rw [hnone] at h; cases h), fun j s _ h => (by rw [hnone] at h; cases h)⟩ (fun t _ ht => hnone2 t ht) h0
  rw [show n + (l.toArray.size - n) = l.toArray.size by omega] at this
  exact this
end
end Go.Proofs.YtgopjpnlpcmldaaGreatDoor.W
