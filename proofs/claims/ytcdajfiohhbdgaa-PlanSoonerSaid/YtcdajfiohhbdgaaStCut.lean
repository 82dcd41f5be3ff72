/-
  Contract of steps.cut.
-/
import Derived.Test.YtcdajfiohhbdgaaStRight
import Derived.Test.YtcdajfiohhbdgaaStConcat
import Derived.Test.YtcdajfiohhbdgaaMono
namespace Go.Proofs.Ytcdajfiohhbdgaa.W
set_option maxRecDepth 100000
set_option linter.unusedVariables false
set_option linter.unusedSimpArgs false
open Go.ChangeShapes Go.WideShapes Go.ChangeAt Go.RowKit

/-- one step, written out in a block; three slices of steps, the second one that one -/
structure OneAt (x : World) (g : Nat) (t : Int) (f : V) : Prop where
  row : RowAt x (some ⟨g, 0, none⟩) (stsV [⟨t, f⟩])
theorem OneAt.later {x x' : World} {g : Nat} {t : Int} {f : V} (h : OneAt x g t f) (hb : Below x.heap.size x x') : OneAt x' g t f := ⟨h.row.later hb⟩
theorem OneAt.new (x : World) (t : Int) (f : V) (ty : TypeId) : OneAt (x.alloc (.cells #[.int .i64 t, .int .i64 f.cpu, .int .i64 f.mem, .int .i64 f.gpu, .int .i64 f.lic] ty)) x.heap.size t f := ⟨row_new x _ ty⟩
structure ThreeAt (x : World) (g1 : Nat) (t : Int) (f : V) (u v : Value) : Prop where
  ex : ∃ g, OneAt x g t f ∧ x.cell? ⟨g1, 0, none⟩ = some u ∧ x.cell? ⟨g1, 1, none⟩ = some (.slice (some ⟨g, 0, none⟩) 1 1) ∧ x.cell? ⟨g1, 2, none⟩ = some v
theorem ThreeAt.later {x x' : World} {g : Nat} {t : Int} {f : V} {u v : Value} (h : ThreeAt x g t f u v) (hb : Below x.heap.size x x') : ThreeAt x' g t f u v := by
  obtain ⟨g0, h0, h1, h2, h3⟩ := h.ex
  exact ⟨⟨g0, h0.later hb, carry hb h1, carry hb h2, carry hb h3⟩⟩
theorem ThreeAt.new (x : World) {g : Nat} {t : Int} {f : V} (h : OneAt x g t f) (u v : Value) (ty : TypeId) : ThreeAt (x.alloc (.cells #[u, .slice (some ⟨g, 0, none⟩) 1 1, v] ty)) x.heap.size t f u v :=
  ⟨⟨g, h.later ((Below.refl _ _).alloc (Nat.le_refl _) _), by simp [go_sem], by simp [go_sem], by simp [go_sem]⟩⟩
def cutSp (b off cap n i o2 m c2 : Nat) (t : Int) (f : V) (B k : Nat) (xs : List Value) : List Sp :=
  [Sp.c (.slice (some ⟨b, off, none⟩) n cap) [],
   Sp.c (.int .i64 (i : Int)) [],
   Sp.c (.int .i64 ((i : Int) + 1)) [1],
   Sp.c (.slice (some ⟨b, off, none⟩) (i + 1) cap) [0, 2],
   Sp.c (.int .i64 t) [],
   Sp.c (.slice (some ⟨b, off, none⟩) n cap) [],
   Sp.c (.int .i64 (i : Int)) [],
   Sp.c (.pointer (some ⟨b, off + i * 5, none⟩)) [5, 6],
   Sp.c (.pointer (some ⟨b, off + i * 5 + 1, none⟩)) [7],
   Sp.c ((.agg #[.int .i64 f.cpu, .int .i64 f.mem, .int .i64 f.gpu, .int .i64 f.lic])) [8],
   Sp.c (.agg #[.int .i64 t, .int .i64 f.cpu, .int .i64 f.mem, .int .i64 f.gpu, .int .i64 f.lic]) [4, 9],
   Sp.m true (fun v x => ∃ g, v = .slice (some ⟨g, 0, none⟩) 1 1 ∧ OneAt x g t f) [10],
   Sp.c (.slice (some ⟨b, off, none⟩) n cap) [],
   Sp.c (.int .i64 (i : Int)) [],
   Sp.c (.int .i64 ((i : Int) + 1)) [13],
   Sp.c (.slice (some ⟨b, o2, none⟩) m c2) [12, 14],
   Sp.m true (fun v x => ∃ g1, v = .slice (some ⟨g1, 0, none⟩) 3 3 ∧ ThreeAt x g1 t f (.slice (some ⟨b, off, none⟩) (i + 1) cap) (.slice (some ⟨b, o2, none⟩) m c2)) [3, 11, 15],
   Sp.m true (fun v x => x.ownsRow B 101 5 v k xs) [16],
   Sp.m true (fun v x => x.ownsRow B 101 5 v k xs) [17]]
theorem RowAt.start {w : World} {a : Option Addr} {l : List St} (h : RowAt w a (stsV l)) (k : Nat) : RowAt w a (stsV (l.take k)) := by
  rcases h with h | ⟨b, off, rfl, hl, hc⟩
  · refine .inl ?_
    have h0 : l = [] := List.eq_nil_of_length_eq_zero (by have := congrArg List.length h; rw [stsV_len] at this; simp at this; omega)
    rw [h0, List.take_nil]; rfl
  · refine .inr ⟨b, off, rfl, hl, fun i u hu => hc i u ?_⟩
    rw [show stsV l = stsV (l.take k) ++ stsV (l.drop k) by rw [← stsV_app, List.take_append_drop]]
    have hi : i < (stsV (l.take k)).length := by
      rcases Nat.lt_or_ge i (stsV (l.take k)).length with h' | h'
      · exact h'
      · rw [List.getElem?_eq_none h'] at hu; cases hu
    rw [List.getElem?_append_left hi]; exact hu
set_option maxRecDepth 100000 in
set_option maxHeartbeats 8000000 in
theorem sCut (b off cap : Nat) (l : List St) (hl : l.length ≤ 90000) (h : OkS l) (t : Int) (h0 : begin_ l ≤ t) (w : World) (HA : StAt w (some ⟨b, off, none⟩) cap l) :
    Calls Try.prog 73 #[.slice (some ⟨b, off, none⟩) l.length cap, .int .i64 t] w fun e w' => ∃ v, e = .returned v ∧ w'.ownsRow w.heap.size 101 5 v (cutL l t).length (stsV (cutL l t)) ∧ Below w.heap.size w w' := by
  have HR := Lib.hid HA
  have hpos : 0 < l.length := List.length_pos_iff.2 h.1
  have HL := Lib.hid (fun w' h => sLast (some ⟨b, off, none⟩) cap l (by omega) hpos t w' h)
  have hrun : run t l.tail < l.length := by
    have := run_lt t l.tail
    rw [List.length_tail] at this; omega
  obtain ⟨b', off', ea', hbl', r0, r1, r2, r3, r4⟩ := HA.row.step hrun
  simp only [Option.some.injEq, Addr.mk.injEq, and_true] at ea'
  obtain ⟨rfl, rfl⟩ := ea'
  have hcap := HA.le
  have HE : Hid (cutL l t = if l[run t l.tail].at_ = t then l else l.take (run t l.tail + 1) ++ ⟨t, l[run t l.tail].free⟩ :: l.drop (run t l.tail + 1)) := Lib.hid (by unfold cutL lastOf; simp [hrun])
  generalize run t l.tail = i at hrun r0 r1 r2 r3 r4 HL HE
  generalize l[i] = s1 at r0 r1 r2 r3 r4 HE
  clear h h0 HA
  by_cases he : s1.at_ = t
  · have HC := Lib.hid (fun w' h => cloneSt b off cap l w' (by omega) h)
    have HE : Hid (cutL l t = l) := Lib.hid (by rw [HE.out, if_pos he])
    subst he
    go_enter Try.func73, Try.ntmps73
    go_wp2_with fail
    refine (HL.out _ HR.out).mono ?_; rintro e w1 ⟨rfl, hb1⟩
    have m0 := carry hb1 r0
    go_wp2_with fail
    refine (HC.out _ (HR.out.later hb1).row).mono ?_; rintro e w2 ⟨v2, rfl, hO, hb2⟩
    have HO := Lib.hid hO
    clear hO
    go_wp2
    go_ret
    exact ⟨v2, rfl, by rw [HE.out]; exact own_more HO.out hb1.size, hb1.trans (hb2.mono hb1.size)⟩
  · have HE : Hid (cutL l t = l.take (i + 1) ++ [⟨t, s1.free⟩] ++ l.drop (i + 1)) := Lib.hid (by rw [HE.out, if_neg he]; simp)
    have hne : (s1.at_ == t) = false := by simpa using he
    obtain ⟨o2, ho2⟩ : ∃ o2, o2 = if cap = i + 1 then off else off + (i + 1) * 5 := ⟨_, rfl⟩
    obtain ⟨c2, hc2⟩ : ∃ c2, c2 = cap - (i + 1) := ⟨_, rfl⟩
    have HD := Lib.hid (show ∀ x : World, Below w.heap.size w x → RowAt x (some ⟨b, o2, none⟩) (stsV (l.drop (i + 1))) from fun x hx => by
      rcases Nat.lt_or_ge (i + 1) l.length with h' | h'
      · rw [ho2, if_neg (by omega), stsV_drop]
        exact (HR.out.later hx).row.drop _
      · rw [List.drop_eq_nil_of_le h']; exact .inl rfl)
    have HK := Lib.hid (show ∀ (x : World) (g1 : Nat), Below w.heap.size w x → ThreeAt x g1 t s1.free (.slice (some ⟨b, off, none⟩) (i + 1) cap) (.slice (some ⟨b, o2, none⟩) (l.length - (i + 1)) c2) →
        Calls Try.prog 90 #[.slice (some ⟨g1, 0, none⟩) 3 3] x fun e x' => ∃ v, e = .returned v ∧ x'.ownsRow w.heap.size 101 5 v (cutL l t).length (stsV (cutL l t)) ∧ Below x.heap.size x x' from fun x g1 hx ⟨g, h1, h2, h3, h4⟩ => by
      have e1 : (l.take (i + 1)).length = i + 1 := by rw [List.length_take]; omega
      have e2 : (l.drop (i + 1)).length = l.length - (i + 1) := List.length_drop
      have K := concatSt g1 b off cap g 0 1 b o2 c2 (l.take (i + 1)) [⟨t, s1.free⟩] (l.drop (i + 1)) (by omega) (by simp) (by omega) (by omega) x (by rw [e1]; exact h2) h3 (by rw [e2]; exact h4) ((HR.out.later hx).row.start _) h1.row (HD.out x hx)
      refine K.mono ?_
      rintro e x' ⟨v, rfl, hO, hbx⟩
      exact ⟨v, rfl, by rw [HE.out]; exact own_more hO hx.size, hbx⟩)
    have hwr : IntKind.i64.wrap ((i : Int) + 1) = (i : Int) + 1 := IntWalk.i64_in _ (by omega)
    have hi0 : (0 : Int) ≤ i := by omega
    have hi1 : (i : Int) < l.length := by omega
    have hit : ((i : Int)).toNat = i := by omega
    have hit2 : ((i : Int) + 1).toNat = i + 1 := by omega
    have hi2 : (0 : Int) ≤ (i : Int) + 1 := by omega
    have hi3 : (i : Int) + 1 ≤ (cap : Int) := by omega
    have hi4 : (i : Int) + 1 ≤ (l.length : Int) := by omega
    have ho3 : (if cap = i + 1 then some (⟨b, off, none⟩ : Addr) else some ⟨b, off + (i + 1) * 5, none⟩) = some ⟨b, o2, none⟩ := by rw [ho2]; split <;> rfl
    have hc3 : cap - (i + 1) = c2 := hc2.symm
    clear ho2 hc2
    clear he HE
    go_enter Try.func73, Try.ntmps73
    go_wp2_with fail
    refine (HL.out _ HR.out).mono ?_; rintro e w1 ⟨rfl, hb1⟩
    replace r0 := carry hb1 r0
    replace r1 := carry hb1 r1
    have q2 : w1.cell? ⟨b, off + i * 5 + 1 + 1, none⟩ = some (.int .i64 s1.free.mem) := carry hb1 r2
    have q3 : w1.cell? ⟨b, off + i * 5 + 1 + 2, none⟩ = some (.int .i64 s1.free.gpu) := carry hb1 r3
    have q4 : w1.cell? ⟨b, off + i * 5 + 1 + 3, none⟩ = some (.int .i64 s1.free.lic) := carry hb1 r4
    clear r2 r3 r4
    have r2 := q2
    have r3 := q3
    have r4 := q4
    have HB1 := Lib.hid hb1
    go_wp2_with fail
    refine region_mono (cutSp b off cap l.length i o2 (l.length - (i + 1)) c2 t s1.free w.heap.size (cutL l t).length (stsV (cutL l t))) [18, 19, 20, 21, 22, 23, 24, 25, 26, 27, 28, 29, 30, 31, 32, 33, 34, 35, 4] (by kernel_rfl) (by kernel_rfl) (by kernel_rfl) (by kernel_rfl) (stables_cons (Sp.c_stable _ _) (stables_cons (Sp.c_stable _ _) (stables_cons (Sp.c_stable _ _) (stables_cons (Sp.c_stable _ _) (stables_cons (Sp.c_stable _ _) (stables_cons (Sp.c_stable _ _) (stables_cons (Sp.c_stable _ _) (stables_cons (Sp.c_stable _ _) (stables_cons (Sp.c_stable _ _) (stables_cons (Sp.c_stable _ _) (stables_cons (Sp.c_stable _ _) (stables_cons (Sp.m_stable _ _ _ (fun v x x' ⟨g, e, y0⟩ hbw => ⟨g, e, y0.later hbw⟩)) (stables_cons (Sp.c_stable _ _) (stables_cons (Sp.c_stable _ _) (stables_cons (Sp.c_stable _ _) (stables_cons (Sp.c_stable _ _) (stables_cons (Sp.m_stable _ _ _ (fun v x x' ⟨g, e, y0⟩ hbw => ⟨g, e, y0.later hbw⟩)) (stables_cons (Sp.m_stable _ _ _ (fun v x x' h hbw => own_later h hbw)) (stables_cons (Sp.m_stable _ _ _ (fun v x x' h hbw => own_later h hbw)) (trivial)))))))))))))))))))) ?_ ?_
    · intro am wm L hbm hbase hbase2
      have s0 : am.tmps.getD 0 undef = .slice (some ⟨b, off, none⟩) l.length cap := (hbase 0 rfl).trans (by simp only [Array.getD_eq_getD_getElem?, List.getElem?_toArray, List.getElem?_cons_succ, List.getElem?_cons_zero, Option.getD_some])
      have s1 : am.tmps.getD 1 undef = .int .i64 t := (hbase 1 rfl).trans (by simp only [Array.getD_eq_getD_getElem?, List.getElem?_toArray, List.getElem?_cons_succ, List.getElem?_cons_zero, Option.getD_some])
      have s5 : am.tmps.getD 5 undef = .int .i64 (i : Int) := (hbase 5 rfl).trans (by simp only [Array.getD_eq_getD_getElem?, List.getElem?_toArray, List.getElem?_cons_succ, List.getElem?_cons_zero, Option.getD_some])
      clear hbase hbase2
      have m1 := carry hbm r1
      have m2 := carry hbm r2
      have m3 := carry hbm r3
      have m4 := carry hbm r4
      refine steps_cons (fun hn hl => ?_) fun H0 => ?_
      · skip
        clear hn hl 
        refine stepC (wanted_free rfl) fun K hK => ?_
        go_simp
        exact hK _ (Below.refl _ _)
      refine steps_cons (fun hn hl => ?_) fun H1 => ?_
      · skip
        clear hn hl H0
        refine stepC (wanted_free rfl) fun K hK => ?_
        go_simp
        exact hK _ (Below.refl _ _)
      refine steps_cons (fun hn hl => ?_) fun H2 => ?_
      · skip
        have h19 := Sp.of_c (H1 (hn 1 (show 1 ∈ [1] from .head _)))
        clear hn hl H0 H1
        refine stepC (wanted_free rfl) fun K hK => ?_
        go_simp
        exact hK _ (Below.refl _ _)
      refine steps_cons (fun hn hl => ?_) fun H3 => ?_
      · skip
        have h18 := Sp.of_c (H0 (hn 0 (show 0 ∈ [0, 2] from .head _)))
        have h20 := Sp.of_c (H2 (hn 2 (show 2 ∈ [0, 2] from .tail _ (.head _))))
        clear hn hl H0 H1 H2
        refine stepC (wanted_free rfl) fun K hK => ?_
        go_simp
        exact hK _ (Below.refl _ _)
      refine steps_cons (fun hn hl => ?_) fun H4 => ?_
      · skip
        clear hn hl H0 H1 H2 H3
        refine stepC (wanted_free rfl) fun K hK => ?_
        go_simp
        exact hK _ (Below.refl _ _)
      refine steps_cons (fun hn hl => ?_) fun H5 => ?_
      · skip
        clear hn hl H0 H1 H2 H3 H4
        refine stepC (wanted_free rfl) fun K hK => ?_
        go_simp
        exact hK _ (Below.refl _ _)
      refine steps_cons (fun hn hl => ?_) fun H6 => ?_
      · skip
        clear hn hl H0 H1 H2 H3 H4 H5
        refine stepC (wanted_free rfl) fun K hK => ?_
        go_simp
        exact hK _ (Below.refl _ _)
      refine steps_cons (fun hn hl => ?_) fun H7 => ?_
      · skip
        have h23 := Sp.of_c (H5 (hn 5 (show 5 ∈ [5, 6] from .head _)))
        have h24 := Sp.of_c (H6 (hn 6 (show 6 ∈ [5, 6] from .tail _ (.head _))))
        clear hn hl H0 H1 H2 H3 H4 H5 H6
        refine stepC (wanted_free rfl) fun K hK => ?_
        go_simp
        exact hK _ (Below.refl _ _)
      refine steps_cons (fun hn hl => ?_) fun H8 => ?_
      · skip
        have h25 := Sp.of_c (H7 (hn 7 (show 7 ∈ [7] from .head _)))
        clear hn hl H0 H1 H2 H3 H4 H5 H6 H7
        refine stepC (wanted_free rfl) fun K hK => ?_
        go_simp
        exact hK _ (Below.refl _ _)
      refine steps_cons (fun hn hl => ?_) fun H9 => ?_
      · skip
        have h26 := Sp.of_c (H8 (hn 8 (show 8 ∈ [8] from .head _)))
        clear hn hl H0 H1 H2 H3 H4 H5 H6 H7 H8
        refine stepC (wanted_free rfl) fun K hK => ?_
        go_simp
        exact hK _ (Below.refl _ _)
      refine steps_cons (fun hn hl => ?_) fun H10 => ?_
      · skip
        have h22 := Sp.of_c (H4 (hn 4 (show 4 ∈ [4, 9] from .head _)))
        have h27 := Sp.of_c (H9 (hn 9 (show 9 ∈ [4, 9] from .tail _ (.head _))))
        clear hn hl H0 H1 H2 H3 H4 H5 H6 H7 H8 H9
        refine stepC (wanted_free rfl) fun K hK => ?_
        simp only [Array.getD_eq_getD_getElem?] at h22 h27
        go_simp
        exact hK _ (Below.refl _ _)
      refine steps_cons (fun hn hl => ?_) fun H11 => ?_
      · skip
        have h28 := Sp.of_c (H10 (hn 10 (show 10 ∈ [10] from .head _)))
        clear hn hl H0 H1 H2 H3 H4 H5 H6 H7 H8 H9 H10
        refine stepR (wanted_free rfl) fun K hK => ?_
        simp only [Array.getD_eq_getD_getElem?] at h28
        go_simp
        exact hK _ _ ((Below.refl _ _).alloc (Nat.le_refl _) _) ⟨_, rfl, OneAt.new _ _ _ _⟩
      refine steps_cons (fun hn hl => ?_) fun H12 => ?_
      · skip
        clear hn hl H0 H1 H2 H3 H4 H5 H6 H7 H8 H9 H10 H11
        refine stepC (wanted_free rfl) fun K hK => ?_
        go_simp
        exact hK _ (Below.refl _ _)
      refine steps_cons (fun hn hl => ?_) fun H13 => ?_
      · skip
        clear hn hl H0 H1 H2 H3 H4 H5 H6 H7 H8 H9 H10 H11 H12
        refine stepC (wanted_free rfl) fun K hK => ?_
        go_simp
        exact hK _ (Below.refl _ _)
      refine steps_cons (fun hn hl => ?_) fun H14 => ?_
      · skip
        have h31 := Sp.of_c (H13 (hn 13 (show 13 ∈ [13] from .head _)))
        clear hn hl H0 H1 H2 H3 H4 H5 H6 H7 H8 H9 H10 H11 H12 H13
        refine stepC (wanted_free rfl) fun K hK => ?_
        go_simp
        exact hK _ (Below.refl _ _)
      refine steps_cons (fun hn hl => ?_) fun H15 => ?_
      · skip
        have h30 := Sp.of_c (H12 (hn 12 (show 12 ∈ [12, 14] from .head _)))
        have h32 := Sp.of_c (H14 (hn 14 (show 14 ∈ [12, 14] from .tail _ (.head _))))
        clear hn hl H0 H1 H2 H3 H4 H5 H6 H7 H8 H9 H10 H11 H12 H13 H14
        refine stepC (wanted_free rfl) fun K hK => ?_
        go_simp
        exact hK _ (Below.refl _ _)
      refine steps_cons (fun hn hl => ?_) fun H16 => ?_
      · skip
        have h21 := Sp.of_c (H3 (hn 3 (show 3 ∈ [3, 11, 15] from .head _)))
        obtain ⟨g, h29, y0⟩ := Sp.of_m (H11 (hn 11 (show 11 ∈ [3, 11, 15] from .tail _ (.head _)))) rfl
        have h33 := Sp.of_c (H15 (hn 15 (show 15 ∈ [3, 11, 15] from .tail _ (.tail _ (.head _)))))
        clear hn hl H0 H1 H2 H3 H4 H5 H6 H7 H8 H9 H10 H11 H12 H13 H14 H15
        refine stepR (wanted_free rfl) fun K hK => ?_
        simp only [Array.getD_eq_getD_getElem?] at h21 h29 h33
        go_simp
        exact hK _ _ ((Below.refl _ _).alloc (Nat.le_refl _) _) ⟨_, rfl, ThreeAt.new _ y0 _ _ _⟩
      refine steps_cons (fun hn hl => ?_) fun H17 => ?_
      · skip
        obtain ⟨g1, h34, u0⟩ := Sp.of_m (H16 (hn 16 (show 16 ∈ [16] from .head _))) rfl
        clear hn hl H0 H1 H2 H3 H4 H5 H6 H7 H8 H9 H10 H11 H12 H13 H14 H15 H16
        refine stepR (wanted_free rfl) fun K hK => ?_
        go_simp
        refine (HK.out _ _ (HB1.out.trans (hbm.mono HB1.out.size)) u0).mono ?_; rintro e w6 ⟨v6, rfl, hO, hb6⟩; exact hK _ _ hb6 hO
      refine steps_cons (fun hn hl => ?_) fun H18 => ?_
      · skip
        obtain hO := Sp.of_m (H17 (hn 17 (show 17 ∈ [17] from .head _))) rfl
        clear hn hl H0 H1 H2 H3 H4 H5 H6 H7 H8 H9 H10 H11 H12 H13 H14 H15 H16 H17
        refine stepR (wanted_free rfl) fun K hK => ?_
        go_simp
        rw [Array.getD_eq_getD_getElem?] at hO; exact hK _ _ (Below.refl _ _) hO
      exact trivial
    · intro w5 hb5
      have hz5 := hb5.size
      refine end_cons ?_; rintro _ rfl
      refine end_cons ?_; rintro _ rfl
      refine end_cons ?_; rintro _ rfl
      refine end_cons ?_; rintro _ rfl
      refine end_cons ?_; rintro _ rfl
      refine end_cons ?_; rintro _ rfl
      refine end_cons ?_; rintro _ rfl
      refine end_cons ?_; rintro _ rfl
      refine end_cons ?_; rintro _ rfl
      refine end_cons ?_; rintro _ rfl
      refine end_cons ?_; rintro _ rfl
      refine end_cons ?_; rintro _ ⟨g, rfl, y29_0⟩
      refine end_cons ?_; rintro _ rfl
      refine end_cons ?_; rintro _ rfl
      refine end_cons ?_; rintro _ rfl
      refine end_cons ?_; rintro _ rfl
      refine end_cons ?_; rintro _ ⟨g1, rfl, u0⟩
      refine end_cons ?_; rintro _ hO
      refine end_cons ?_; rintro _ hO
      refine end_nil ?_
      simp only [List.setIfInBounds_toArray, List.set_cons_succ, List.set_cons_zero, Bool.not_false, Bool.not_true, Bool.true_or, Bool.or_true, Bool.false_or, Bool.or_false]
      go_wp2
      go_ret
      exact ⟨_, rfl, hO, hb1.trans (hb5.mono hb1.size)⟩
end Go.Proofs.Ytcdajfiohhbdgaa.W
