/-
  The document's Same of two set-ups that tell the same.
-/
import Derived.Test.YtgopjpnlpcmldaaGreatDoorJ30
import Derived.Test.YtgopjpnlpcmldaaGreatDoorJ42
import Derived.Test.YtgopjpnlpcmldaaGreatDoorSpecRFlaw
namespace Go.Proofs.YtgopjpnlpcmldaaGreatDoor.W
set_option linter.unusedVariables false
set_option linter.unusedSimpArgs false
open Go.ChangeShapes Go.WideShapes Go.ChangeAt Go.RowKit

def rsSp (g b1 o1 n pc k : Nat) (xa : Option Addr) (m xc b2 o2 pd : Nat) (ya : Option Addr) (yc : Nat) : List Sp :=
  [Sp.c (.pointer (some ⟨g, 1, none⟩)) [],
   Sp.c (.slice (some ⟨b1, o1, none⟩) n pc) [0],
   Sp.c (.int .i64 k) [],
   Sp.c (.pointer (some ⟨b1, o1 + k, none⟩)) [1, 2],
   Sp.c (.slice xa m xc) [3],
   Sp.c (.pointer (some ⟨g + 1, 1, none⟩)) [],
   Sp.c (.slice (some ⟨b2, o2, none⟩) n pd) [5],
   Sp.c (.int .i64 k) [],
   Sp.c (.pointer (some ⟨b2, o2 + k, none⟩)) [6, 7],
   Sp.c (.slice ya m yc) [8],
   Sp.c (.bool true) [4, 9],
   Sp.c (.bool false) [10]]
theorem same_parts {a b : S} (h : tOf a = tOf b) : b.nodes = a.nodes ∧ b.parts.length = a.parts.length ∧ b.queues.length = a.queues.length ∧
    (∀ k (h1 : k < a.parts.length) (h2 : k < b.parts.length), b.parts[k].l = a.parts[k].l) ∧ (∀ k (h1 : k < a.queues.length) (h2 : k < b.queues.length), qOf b.queues[k] = qOf a.queues[k]) ∧
    b.users = a.users ∧ b.age = a.age ∧ b.size = a.size ∧ b.qos = a.qos ∧ b.share = a.share ∧ b.decay = a.decay ∧ b.mode = a.mode ∧ b.jobs = a.jobs ∧ b.ids = a.ids ∧ b.versions = a.versions ∧ b.linger = a.linger ∧ b.keep = a.keep ∧ b.inn = a.inn ∧ b.out = a.out ∧ b.cache = a.cache := by
  simp only [tOf, T.mk.injEq] at h
  obtain ⟨h1, h2, h3, h4⟩ := h
  refine ⟨h1.symm, by simpa using (congrArg List.length h2).symm, by simpa using (congrArg List.length h3).symm, fun k k1 k2 => ?_, fun k k1 k2 => ?_, (by simp only [h4]), (by simp only [h4]), (by simp only [h4]), (by simp only [h4]), (by simp only [h4]), (by simp only [h4]), (by simp only [h4]), (by simp only [h4]), (by simp only [h4]), (by simp only [h4]), (by simp only [h4]), (by simp only [h4]), (by simp only [h4]), (by simp only [h4]), (by simp only [h4])⟩
  · have := congrArg (fun l => l[k]?) h2
    simpa [k1, k2] using this.symm
  · have := congrArg (fun l => l[k]?) h3
    simpa [k1, k2] using this.symm
set_option maxHeartbeats 4000000 in
set_option maxRecDepth 100000 in
theorem rSame7 (a b : S) (ht : tOf a = tOf b) (na nb pa pb qa qb : Option Addr) (e1 : a.na = na) (e2 : b.na = nb) (e3 : a.pa = pa) (e4 : b.pa = pb) (e5 : a.qa = qa) (e6 : b.qa = qb)
    (hn : a.nodes.length ≤ 100000) (hp : a.parts.length ≤ 100000) (hq : a.queues.length ≤ 100000) (hpl : ∀ p ∈ a.parts, p.l.length ≤ 100000) (hql : ∀ q ∈ a.queues, q.users.l.length ≤ 100000) (w : World) (ha : Rows w a) (hb : Rows w b) :
    Calls Tryz.prog 10 #[.agg #[.slice a.na a.nodes.length a.nc, .slice a.pa a.parts.length a.pc, .slice a.qa a.queues.length a.qc, .int .i64 a.users, .int .i64 a.age, .int .i64 a.size, .int .i64 a.qos, .int .i64 a.share, .int .i64 a.decay, .int .i64 a.mode, .int .i64 a.jobs, .int .i64 a.ids, .int .i64 a.versions, .int .i64 a.linger, .int .i64 a.keep, .int .i64 a.inn, .int .i64 a.out, .int .i64 a.cache], .agg #[.slice b.na b.nodes.length b.nc, .slice b.pa b.parts.length b.pc, .slice b.qa b.queues.length b.qc, .int .i64 b.users, .int .i64 b.age, .int .i64 b.size, .int .i64 b.qos, .int .i64 b.share, .int .i64 b.decay, .int .i64 b.mode, .int .i64 b.jobs, .int .i64 b.ids, .int .i64 b.versions, .int .i64 b.linger, .int .i64 b.keep, .int .i64 b.inn, .int .i64 b.out, .int .i64 b.cache]] w fun e w' => e = .returned (.bool true) ∧ Below w.heap.size w w' := by
  obtain ⟨s1, s2, s3, s4, s5, t0, t1, t2, t3, t4, t5, t6, t7, t8, t9, t10, t11, t12, t13, t14⟩ := same_parts ht
  rw [e1, e2, e3, e4, e5, e6, s1, s2, s3, t0, t1, t2, t3, t4, t5, t6, t7, t8, t9, t10, t11, t12, t13, t14]
  have HN : ∀ (w' : World), Below w.heap.size w w' → ∀ k (hk : k < a.nodes.length), (∃ b off, na = some ⟨b, off, none⟩ ∧ b < w'.heap.size ∧
      w'.cell? ⟨b, off + k * 4, none⟩ = some (.int .i64 a.nodes[k].cpu) ∧ w'.cell? ⟨b, off + k * 4 + 1, none⟩ = some (.int .i64 a.nodes[k].mem) ∧ w'.cell? ⟨b, off + k * 4 + 2, none⟩ = some (.int .i64 a.nodes[k].gpu) ∧ w'.cell? ⟨b, off + k * 4 + 3, none⟩ = some (.int .i64 a.nodes[k].lic)) ∧
      (∃ b off, nb = some ⟨b, off, none⟩ ∧ b < w'.heap.size ∧
      w'.cell? ⟨b, off + k * 4, none⟩ = some (.int .i64 a.nodes[k].cpu) ∧ w'.cell? ⟨b, off + k * 4 + 1, none⟩ = some (.int .i64 a.nodes[k].mem) ∧ w'.cell? ⟨b, off + k * 4 + 2, none⟩ = some (.int .i64 a.nodes[k].gpu) ∧ w'.cell? ⟨b, off + k * 4 + 3, none⟩ = some (.int .i64 a.nodes[k].lic)) := fun w' hw k hk => by
    have hk2 : k < b.nodes.length := by rw [s1]; exact hk
    have x2 := (hb.later hw).node hk2
    rw [e2] at x2
    simp only [s1] at x2
    exact ⟨e1 ▸ (ha.later hw).node hk, x2⟩
  have HN := Lib.hid HN
  have HA := Lib.hid ha
  have HB := Lib.hid hb
  have E3 := Lib.hid e3
  have E4 := Lib.hid e4
  have E5 := Lib.hid e5
  have E6 := Lib.hid e6
  have S2 := Lib.hid s2
  have S3 := Lib.hid s3
  have S4 := Lib.hid s4
  have S5 := Lib.hid s5
  have HPL := Lib.hid hpl
  have HQL := Lib.hid hql
  clear e1 e2 e3 e4 e5 e6 s1 s2 s3 s4 s5 t0 t1 t2 t3 t4 t5 t6 t7 t8 t9 t10 t11 t12 t13 t14 ha hb ht hpl hql
  go_enter Tryz.func10, Tryz.ntmps10
  go_wp2
  generalize hw0 : World.alloc (World.alloc w _) _ = w0
  have hb0 : Below w.heap.size w w0 := by rw [← hw0]; exact (by repeat' (first | exact Below.refl _ _ | assumption | exact And.left (by assumption) | refine Below.drew ?_ | refine below_drewN ?_ _ | refine Below.setCell ?_ (by first | (simp; done) | (simp; omega) | omega) _ | refine Below.alloc ?_ (by first | (simp; done) | (simp; omega) | omega) _ | refine after (by assumption) (by first | (simp; done) | (simp; omega) | omega) ?_))
  have c0 : w0.cell? ⟨w.heap.size, 0, none⟩ = some (.slice na a.nodes.length a.nc) := by rw [← hw0]; simp [go_sem]
  have c1 : w0.cell? ⟨w.heap.size, 1, none⟩ = some (.slice pa a.parts.length a.pc) := by rw [← hw0]; simp [go_sem]
  have c2 : w0.cell? ⟨w.heap.size, 2, none⟩ = some (.slice qa a.queues.length a.qc) := by rw [← hw0]; simp [go_sem]
  have c3 : w0.cell? ⟨w.heap.size, 3, none⟩ = some (.int .i64 a.users) := by rw [← hw0]; simp [go_sem]
  have c4 : w0.cell? ⟨w.heap.size, 4, none⟩ = some (.int .i64 a.age) := by rw [← hw0]; simp [go_sem]
  have c5 : w0.cell? ⟨w.heap.size, 5, none⟩ = some (.int .i64 a.size) := by rw [← hw0]; simp [go_sem]
  have c6 : w0.cell? ⟨w.heap.size, 6, none⟩ = some (.int .i64 a.qos) := by rw [← hw0]; simp [go_sem]
  have c7 : w0.cell? ⟨w.heap.size, 7, none⟩ = some (.int .i64 a.share) := by rw [← hw0]; simp [go_sem]
  have c8 : w0.cell? ⟨w.heap.size, 8, none⟩ = some (.int .i64 a.decay) := by rw [← hw0]; simp [go_sem]
  have c9 : w0.cell? ⟨w.heap.size, 9, none⟩ = some (.int .i64 a.mode) := by rw [← hw0]; simp [go_sem]
  have c10 : w0.cell? ⟨w.heap.size, 10, none⟩ = some (.int .i64 a.jobs) := by rw [← hw0]; simp [go_sem]
  have c11 : w0.cell? ⟨w.heap.size, 11, none⟩ = some (.int .i64 a.ids) := by rw [← hw0]; simp [go_sem]
  have c12 : w0.cell? ⟨w.heap.size, 12, none⟩ = some (.int .i64 a.versions) := by rw [← hw0]; simp [go_sem]
  have c13 : w0.cell? ⟨w.heap.size, 13, none⟩ = some (.int .i64 a.linger) := by rw [← hw0]; simp [go_sem]
  have c14 : w0.cell? ⟨w.heap.size, 14, none⟩ = some (.int .i64 a.keep) := by rw [← hw0]; simp [go_sem]
  have c15 : w0.cell? ⟨w.heap.size, 15, none⟩ = some (.int .i64 a.inn) := by rw [← hw0]; simp [go_sem]
  have c16 : w0.cell? ⟨w.heap.size, 16, none⟩ = some (.int .i64 a.out) := by rw [← hw0]; simp [go_sem]
  have c17 : w0.cell? ⟨w.heap.size, 17, none⟩ = some (.int .i64 a.cache) := by rw [← hw0]; simp [go_sem]
  have d0 : w0.cell? ⟨w.heap.size + 1, 0, none⟩ = some (.slice nb a.nodes.length b.nc) := by rw [← hw0]; simp [go_sem]
  have d1 : w0.cell? ⟨w.heap.size + 1, 1, none⟩ = some (.slice pb a.parts.length b.pc) := by rw [← hw0]; simp [go_sem]
  have d2 : w0.cell? ⟨w.heap.size + 1, 2, none⟩ = some (.slice qb a.queues.length b.qc) := by rw [← hw0]; simp [go_sem]
  have d3 : w0.cell? ⟨w.heap.size + 1, 3, none⟩ = some (.int .i64 a.users) := by rw [← hw0]; simp [go_sem]
  have d4 : w0.cell? ⟨w.heap.size + 1, 4, none⟩ = some (.int .i64 a.age) := by rw [← hw0]; simp [go_sem]
  have d5 : w0.cell? ⟨w.heap.size + 1, 5, none⟩ = some (.int .i64 a.size) := by rw [← hw0]; simp [go_sem]
  have d6 : w0.cell? ⟨w.heap.size + 1, 6, none⟩ = some (.int .i64 a.qos) := by rw [← hw0]; simp [go_sem]
  have d7 : w0.cell? ⟨w.heap.size + 1, 7, none⟩ = some (.int .i64 a.share) := by rw [← hw0]; simp [go_sem]
  have d8 : w0.cell? ⟨w.heap.size + 1, 8, none⟩ = some (.int .i64 a.decay) := by rw [← hw0]; simp [go_sem]
  have d9 : w0.cell? ⟨w.heap.size + 1, 9, none⟩ = some (.int .i64 a.mode) := by rw [← hw0]; simp [go_sem]
  have d10 : w0.cell? ⟨w.heap.size + 1, 10, none⟩ = some (.int .i64 a.jobs) := by rw [← hw0]; simp [go_sem]
  have d11 : w0.cell? ⟨w.heap.size + 1, 11, none⟩ = some (.int .i64 a.ids) := by rw [← hw0]; simp [go_sem]
  have d12 : w0.cell? ⟨w.heap.size + 1, 12, none⟩ = some (.int .i64 a.versions) := by rw [← hw0]; simp [go_sem]
  have d13 : w0.cell? ⟨w.heap.size + 1, 13, none⟩ = some (.int .i64 a.linger) := by rw [← hw0]; simp [go_sem]
  have d14 : w0.cell? ⟨w.heap.size + 1, 14, none⟩ = some (.int .i64 a.keep) := by rw [← hw0]; simp [go_sem]
  have d15 : w0.cell? ⟨w.heap.size + 1, 15, none⟩ = some (.int .i64 a.inn) := by rw [← hw0]; simp [go_sem]
  have d16 : w0.cell? ⟨w.heap.size + 1, 16, none⟩ = some (.int .i64 a.out) := by rw [← hw0]; simp [go_sem]
  have d17 : w0.cell? ⟨w.heap.size + 1, 17, none⟩ = some (.int .i64 a.cache) := by rw [← hw0]; simp [go_sem]
  have hz0 := hb0.size
  clear hw0
  go_loopw [5] (fun x wr => ∃ k : Nat, k ≤ a.nodes.length ∧ x = .int .i64 (k : Int) ∧ Below w0.heap.size w0 wr) (fun x _ => a.nodes.length - (intOf x).toNat)
  case atStart => exact ⟨0, Nat.zero_le _, rfl, Below.refl _ _⟩
  case round =>
    obtain ⟨k, hk, rfl, hbw⟩ := hrel
    have hb : Below w.heap.size w wr := hb0.trans (hbw.mono hz0)
    have f0 := carry hbw c0
    have g0 := carry hbw d0
    by_cases hlt : k < a.nodes.length
    · obtain ⟨⟨b1, o1, rfl, _, x0, x1, x2, x3⟩, ⟨b2, o2, rfl, _, y0, y1, y2, y3⟩⟩ := HN.out wr hb k hlt
      generalize a.nodes[k] = v at x0 x1 x2 x3 y0 y1 y2 y3
      go_wp2_with fail
      go_quiet (fail)
      go_wp2
      go_roundw
      case rel => exact ⟨k + 1, by omega, by go_num, below_drewN hbw _⟩
      case measure => simp [intOf]; omega
    · have hkl : k = a.nodes.length := by omega
      subst hkl
      clear HN hlt hk g0
      go_wp2
      rename World => w1
      go_loopw [6] (fun x wr => ∃ k : Nat, k ≤ a.parts.length ∧ x = .int .i64 (k : Int) ∧ Below w0.heap.size w0 wr) (fun x _ => a.parts.length - (intOf x).toNat)
      case atStart => exact ⟨0, Nat.zero_le _, rfl, hbw⟩
      case round =>
        obtain ⟨k, hk, rfl, hbv⟩ := hrel
        have hb : Below w.heap.size w wr := hb0.trans (hbv.mono hz0)
        have f1 := carry hbv c1
        have g1 := carry hbv d1
        by_cases hlt : k < a.parts.length
        · have hlt2 : k < b.parts.length := by rw [S2.out]; exact hlt
          obtain ⟨b1, o1, ea, _, k1⟩ := (HA.out.later hb).part_ hlt
          obtain ⟨b2, o2, eb, _, k2⟩ := (HB.out.later hb).part_ hlt2
          rw [E3.out] at ea
          rw [E4.out] at eb
          subst ea eb
          have hpr := S4.out k hlt hlt2
          have HP := HA.out.part _ (List.getElem_mem hlt)
          have HQ := HB.out.part _ (List.getElem_mem hlt2)
          have hpn := HPL.out _ (List.getElem_mem hlt)
          generalize a.parts[k] = p at hpr HP hpn k1
          generalize b.parts[k] = r at hpr HQ k2
          unfold SlAt at HQ
          rw [hpr] at k2 HQ
          have HP := Lib.hid (show RowAt w p.a (vals p.l) from HP)
          have HQ := Lib.hid HQ
          have HI := Lib.hid (fun w' (x : RowAt w' p.a (vals p.l)) (y : RowAt w' r.a (vals p.l)) => rInts p.a r.a p.cap r.cap p.l hpn w' x y)
          have hk0 : (0 : Int) ≤ k := by omega
          have hk1 : (k : Int) < a.parts.length := by omega
          clear hpr hlt2 hpn
          go_wp2_with fail
          refine region_mono (rsSp w.heap.size b1 o1 a.parts.length a.pc k p.a p.l.length p.cap b2 o2 b.pc r.a r.cap) [60, 61, 62, 63, 64, 65, 66, 67, 68, 69, 70, 71] (by kernel_rfl) (by kernel_rfl) (by kernel_rfl) (by kernel_rfl) (stables_cons (Sp.c_stable _ _) (stables_cons (Sp.c_stable _ _) (stables_cons (Sp.c_stable _ _) (stables_cons (Sp.c_stable _ _) (stables_cons (Sp.c_stable _ _) (stables_cons (Sp.c_stable _ _) (stables_cons (Sp.c_stable _ _) (stables_cons (Sp.c_stable _ _) (stables_cons (Sp.c_stable _ _) (stables_cons (Sp.c_stable _ _) (stables_cons (Sp.c_stable _ _) (stables_cons (Sp.c_stable _ _) (trivial))))))))))))) ?_ ?_
          · intro am wm L hbm hbase hbase2
            have s2 : am.tmps.getD 2 undef = .pointer (some ⟨w.heap.size, 0, none⟩) := (hbase 2 rfl).trans (by simp only [Array.getD_eq_getD_getElem?, List.getElem?_toArray, List.getElem?_cons_succ, List.getElem?_cons_zero, Option.getD_some])
            have s3 : am.tmps.getD 3 undef = .pointer (some ⟨w.heap.size + 1, 0, none⟩) := (hbase 3 rfl).trans (by simp only [Array.getD_eq_getD_getElem?, List.getElem?_toArray, List.getElem?_cons_succ, List.getElem?_cons_zero, Option.getD_some])
            have s6 : am.tmps.getD 6 undef = .int .i64 k := (hbase 6 rfl).trans (by simp only [Array.getD_eq_getD_getElem?, List.getElem?_toArray, List.getElem?_cons_succ, List.getElem?_cons_zero, Option.getD_some])
            clear hbase hbase2
            have m1 := carry hbm f1
            have n1 := carry hbm g1
            have u1 := carry hbm k1
            have u2 := carry hbm k2
            refine steps_cons (fun hn hl => ?_) fun H0 => ?_
            · skip
              clear hn hl 
              refine stepC (wanted_free rfl) fun K hK => ?_
              go_simp
              exact hK _ (Below.refl _ _)
            refine steps_cons (fun hn hl => ?_) fun H1 => ?_
            · skip
              have h60 := Sp.of_c (H0 (hn 0 (show 0 ∈ [0] from .head _)))
              clear hn hl H0
              refine stepC (wanted_free rfl) fun K hK => ?_
              go_simp
              exact hK _ (Below.refl _ _)
            refine steps_cons (fun hn hl => ?_) fun H2 => ?_
            · skip
              clear hn hl H0 H1
              refine stepC (wanted_free rfl) fun K hK => ?_
              go_simp
              exact hK _ (Below.refl _ _)
            refine steps_cons (fun hn hl => ?_) fun H3 => ?_
            · skip
              have h61 := Sp.of_c (H1 (hn 1 (show 1 ∈ [1, 2] from .head _)))
              have h62 := Sp.of_c (H2 (hn 2 (show 2 ∈ [1, 2] from .tail _ (.head _))))
              clear hn hl H0 H1 H2
              refine stepC (wanted_free rfl) fun K hK => ?_
              go_simp
              exact hK _ (Below.refl _ _)
            refine steps_cons (fun hn hl => ?_) fun H4 => ?_
            · skip
              have h63 := Sp.of_c (H3 (hn 3 (show 3 ∈ [3] from .head _)))
              clear hn hl H0 H1 H2 H3
              refine stepC (wanted_free rfl) fun K hK => ?_
              go_simp
              exact hK _ (Below.refl _ _)
            refine steps_cons (fun hn hl => ?_) fun H5 => ?_
            · skip
              clear hn hl H0 H1 H2 H3 H4
              refine stepC (wanted_free rfl) fun K hK => ?_
              go_simp
              exact hK _ (Below.refl _ _)
            refine steps_cons (fun hn hl => ?_) fun H6 => ?_
            · skip
              have h65 := Sp.of_c (H5 (hn 5 (show 5 ∈ [5] from .head _)))
              clear hn hl H0 H1 H2 H3 H4 H5
              refine stepC (wanted_free rfl) fun K hK => ?_
              go_simp
              exact hK _ (Below.refl _ _)
            refine steps_cons (fun hn hl => ?_) fun H7 => ?_
            · skip
              clear hn hl H0 H1 H2 H3 H4 H5 H6
              refine stepC (wanted_free rfl) fun K hK => ?_
              go_simp
              exact hK _ (Below.refl _ _)
            refine steps_cons (fun hn hl => ?_) fun H8 => ?_
            · skip
              have h66 := Sp.of_c (H6 (hn 6 (show 6 ∈ [6, 7] from .head _)))
              have h67 := Sp.of_c (H7 (hn 7 (show 7 ∈ [6, 7] from .tail _ (.head _))))
              clear hn hl H0 H1 H2 H3 H4 H5 H6 H7
              refine stepC (wanted_free rfl) fun K hK => ?_
              go_simp
              exact hK _ (Below.refl _ _)
            refine steps_cons (fun hn hl => ?_) fun H9 => ?_
            · skip
              have h68 := Sp.of_c (H8 (hn 8 (show 8 ∈ [8] from .head _)))
              clear hn hl H0 H1 H2 H3 H4 H5 H6 H7 H8
              refine stepC (wanted_free rfl) fun K hK => ?_
              go_simp
              exact hK _ (Below.refl _ _)
            refine steps_cons (fun hn hl => ?_) fun H10 => ?_
            · skip
              have h64 := Sp.of_c (H4 (hn 4 (show 4 ∈ [4, 9] from .head _)))
              have h69 := Sp.of_c (H9 (hn 9 (show 9 ∈ [4, 9] from .tail _ (.head _))))
              clear hn hl H0 H1 H2 H3 H4 H5 H6 H7 H8 H9
              refine stepC (wanted_free rfl) fun K hK => ?_
              go_simp
              first
                | ((with_reducible refine (HI.out _ (HP.out.later (hb.trans (hbm.mono hb.size))) (HQ.out.later (hb.trans (hbm.mono hb.size)))).mono ?_); rintro e w6 ⟨rfl, hb6⟩; exact hK _ hb6)
            refine steps_cons (fun hn hl => ?_) fun H11 => ?_
            · skip
              have h70 := Sp.of_c (H10 (hn 10 (show 10 ∈ [10] from .head _)))
              clear hn hl H0 H1 H2 H3 H4 H5 H6 H7 H8 H9 H10
              refine stepC (wanted_free rfl) fun K hK => ?_
              go_simp
              exact hK _ (Below.refl _ _)
            exact trivial
          · intro w5 hb5
            have hz5 := hb5.size
            refine end_cons ?_; rintro _ rfl
            refine end_cons ?_; rintro _ rfl
            refine end_cons ?_; rintro _ rfl
            refine end_cons ?_; rintro _ rfl
            refine end_cons ?_; rintro _ rfl
            refine end_cons ?_; rintro _ rfl
            refine end_cons ?_; rintro _ rfl
            refine end_cons ?_; rintro _ rfl
            refine end_cons ?_; rintro _ rfl
            refine end_cons ?_; rintro _ rfl
            refine end_cons ?_; rintro _ rfl
            refine end_cons ?_; rintro _ rfl
            refine end_nil ?_
            simp only [List.setIfInBounds_toArray, List.set_cons_succ, List.set_cons_zero, Bool.not_false, Bool.not_true, Bool.true_or, Bool.or_true, Bool.false_or, Bool.or_false]
            go_wp2
            go_roundw
            case rel => exact ⟨k + 1, by omega, by go_num, hbv.trans (hb5.mono hbv.size)⟩
            case measure => simp [intOf]; omega
        · have hkl : k = a.parts.length := by omega
          subst hkl
          clear hlt hk g1
          go_wp2
          rename World => w2
          go_loopw [7] (fun x wr => ∃ k : Nat, k ≤ a.queues.length ∧ x = .int .i64 (k : Int) ∧ Below w0.heap.size w0 wr) (fun x _ => a.queues.length - (intOf x).toNat)
          case atStart => exact ⟨0, Nat.zero_le _, rfl, hbv⟩
          case round =>
            obtain ⟨k, hk, rfl, hbx⟩ := hrel
            have hb : Below w.heap.size w wr := hb0.trans (hbx.mono hz0)
            have f2 := carry hbx c2
            have g2 := carry hbx d2
            by_cases hlt : k < a.queues.length
            · have hlt2 : k < b.queues.length := by rw [S3.out]; exact hlt
              obtain ⟨b1, o1, ea, _, x0, x1, x2, x3, x4, x5⟩ := (HA.out.later hb).queue hlt
              obtain ⟨b2, o2, eb, _, y0, y1, y2, y3, y4, y5⟩ := (HB.out.later hb).queue hlt2
              rw [E5.out] at ea
              rw [E6.out] at eb
              subst ea eb
              have hpr := S5.out k hlt hlt2
              have HP := HA.out.users _ (List.getElem_mem hlt)
              have HQ := HB.out.users _ (List.getElem_mem hlt2)
              have hpn := HQL.out _ (List.getElem_mem hlt)
              generalize a.queues[k] = p at hpr HP hpn x0 x1 x2 x3 x4 x5
              generalize b.queues[k] = r at hpr HQ y0 y1 y2 y3 y4 y5
              simp only [qOf, TQ.mk.injEq] at hpr
              obtain ⟨z1, z2, z3, z4, z5, z6⟩ := hpr
              unfold SlAt at HQ
              rw [z6] at y1 HQ
              rw [z1] at y0
              rw [z2] at y2
              rw [z3] at y3
              rw [z4] at y4
              rw [z5] at y5
              have HP := Lib.hid (show RowAt w p.users.a (vals p.users.l) from HP)
              have HQ := Lib.hid HQ
              have HI := Lib.hid (fun w' (x : RowAt w' p.users.a (vals p.users.l)) (y : RowAt w' r.users.a (vals p.users.l)) => rInts p.users.a r.users.a p.users.cap r.users.cap p.users.l hpn w' x y)
              have hk0 : (0 : Int) ≤ k := by omega
              have hk1 : (k : Int) < a.queues.length := by omega
              have hl1 := World.block_lt_of_cell? _ _ f2
              have hl2 := World.block_lt_of_cell? _ _ g2
              have hl3 := World.block_lt_of_cell? _ _ x0
              have hl4 := World.block_lt_of_cell? _ _ y0
              simp only at hl1 hl2 hl3 hl4
              clear hlt2 hpn z1 z2 z3 z4 z5 z6
              go_wp2_with fail
              generalize hw4 : World.alloc (World.alloc wr _) _ = w4
              have hb4 : Below wr.heap.size wr w4 := by rw [← hw4]; exact (by repeat' (first | exact Below.refl _ _ | assumption | exact And.left (by assumption) | refine Below.drew ?_ | refine below_drewN ?_ _ | refine Below.setCell ?_ (by first | (simp; done) | (simp; omega) | omega) _ | refine Below.alloc ?_ (by first | (simp; done) | (simp; omega) | omega) _ | refine after (by assumption) (by first | (simp; done) | (simp; omega) | omega) ?_))
              have u2 : w4.cell? ⟨wr.heap.size, 2, none⟩ = some (.int .i64 p.mj) := by rw [← hw4]; simp [go_sem]
              have u3 : w4.cell? ⟨wr.heap.size, 3, none⟩ = some (.int .i64 p.mr) := by rw [← hw4]; simp [go_sem]
              have u4 : w4.cell? ⟨wr.heap.size, 4, none⟩ = some (.int .i64 p.mu) := by rw [← hw4]; simp [go_sem]
              have u5 : w4.cell? ⟨wr.heap.size, 5, none⟩ = some (.int .i64 p.qos) := by rw [← hw4]; simp [go_sem]
              have v2 : w4.cell? ⟨wr.heap.size + 1, 2, none⟩ = some (.int .i64 p.mj) := by rw [← hw4]; simp [go_sem]
              have v3 : w4.cell? ⟨wr.heap.size + 1, 3, none⟩ = some (.int .i64 p.mr) := by rw [← hw4]; simp [go_sem]
              have v4 : w4.cell? ⟨wr.heap.size + 1, 4, none⟩ = some (.int .i64 p.mu) := by rw [← hw4]; simp [go_sem]
              have v5 : w4.cell? ⟨wr.heap.size + 1, 5, none⟩ = some (.int .i64 p.qos) := by rw [← hw4]; simp [go_sem]
              clear hw4 x0 x1 x2 x3 x4 x5 y0 y1 y2 y3 y4 y5
              refine (HI.out w4 (HP.out.later (hb.trans (hb4.mono hb.size))) (HQ.out.later (hb.trans (hb4.mono hb.size)))).mono ?_
              rintro e w5 ⟨rfl, hb5⟩
              replace u2 := carry hb5 u2
              replace u3 := carry hb5 u3
              replace u4 := carry hb5 u4
              replace u5 := carry hb5 u5
              replace v2 := carry hb5 v2
              replace v3 := carry hb5 v3
              replace v4 := carry hb5 v4
              replace v5 := carry hb5 v5
              go_wp2
              go_roundw
              case rel => exact ⟨k + 1, by omega, by go_num, hbx.trans ((hb4.trans (hb5.mono hb4.size)).mono hbx.size)⟩
              case measure => simp [intOf]; omega
            · have hkl : k = a.queues.length := by omega
              subst hkl
              have f3 := carry hbx c3
              have g3 := carry hbx d3
              have f4 := carry hbx c4
              have g4 := carry hbx d4
              have f5 := carry hbx c5
              have g5 := carry hbx d5
              have f6 := carry hbx c6
              have g6 := carry hbx d6
              have f7 := carry hbx c7
              have g7 := carry hbx d7
              have f8 := carry hbx c8
              have g8 := carry hbx d8
              have f9 := carry hbx c9
              have g9 := carry hbx d9
              have f10 := carry hbx c10
              have g10 := carry hbx d10
              have f11 := carry hbx c11
              have g11 := carry hbx d11
              have f12 := carry hbx c12
              have g12 := carry hbx d12
              have f13 := carry hbx c13
              have g13 := carry hbx d13
              have f14 := carry hbx c14
              have g14 := carry hbx d14
              have f15 := carry hbx c15
              have g15 := carry hbx d15
              have f16 := carry hbx c16
              have g16 := carry hbx d16
              have f17 := carry hbx c17
              have g17 := carry hbx d17
              clear c0 d0 c1 d1 c2 d2 c3 d3 c4 d4 c5 d5 c6 d6 c7 d7 c8 d8 c9 d9 c10 d10 c11 d11 c12 d12 c13 d13 c14 d14 c15 d15 c16 d16 c17 d17
              go_wp2
              go_ret
              exact ⟨rfl, hb⟩
end Go.Proofs.YtgopjpnlpcmldaaGreatDoor.W
