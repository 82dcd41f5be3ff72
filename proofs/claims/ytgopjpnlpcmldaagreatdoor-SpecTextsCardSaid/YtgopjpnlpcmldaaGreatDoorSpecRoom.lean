/-
  Contracts of Room and Fits (layer 7).
-/
import Derived.Test.YtgopjpnlpcmldaaGreatDoorSpecRight
import Derived.Test.YtgopjpnlpcmldaaGreatDoorRoomSpec
import Derived.Test.YtgopjpnlpcmldaaGreatDoorVecCount
namespace Go.Proofs.YtgopjpnlpcmldaaGreatDoor.W
set_option linter.unusedVariables false
set_option linter.unusedSimpArgs false
open Go.ChangeShapes Go.WideShapes Go.ChangeAt Go.RowKit

def roomSp (g b off nn nc : Nat) (i : Int) (need v : V) (c cnt : Int) : List Sp :=
  [Sp.cl (.int .i64 c) [] [9],
   Sp.c (.pointer (some ⟨g, 0, none⟩)) [],
   Sp.c (.slice (some ⟨b, off, none⟩) nn nc) [1],
   Sp.c (.int .i64 i) [],
   Sp.c (.pointer (some ⟨b, off + i.toNat * 4, none⟩)) [2, 3],
   Sp.c ((.agg #[.int .i64 v.cpu, .int .i64 v.mem, .int .i64 v.gpu, .int .i64 v.lic])) [4],
   Sp.c ((.agg #[.int .i64 need.cpu, .int .i64 need.mem, .int .i64 need.gpu, .int .i64 need.lic])) [],
   Sp.c (.int .i64 cnt) [5, 6],
   Sp.c (.int .i64 (c + cnt)) [0, 7],
   Sp.c (.int .i64 (c + cnt)) [8]]
theorem room_no (s : S) (hs : SmallS s) (part : Int) (need : V) (w : World) (HR : Rows w s) (h : rightS s = false ∨ (rightS s = true ∧ hasB s.parts.length part = false)) :
    Calls Tryz.prog 26 #[.agg #[.slice s.na s.nodes.length s.nc, .slice s.pa s.parts.length s.pc, .slice s.qa s.queues.length s.qc, .int .i64 s.users, .int .i64 s.age, .int .i64 s.size, .int .i64 s.qos, .int .i64 s.share, .int .i64 s.decay, .int .i64 s.mode, .int .i64 s.jobs, .int .i64 s.ids, .int .i64 s.versions, .int .i64 s.linger, .int .i64 s.keep, .int .i64 s.inn, .int .i64 s.out, .int .i64 s.cache], .int .i64 part, (.agg #[.int .i64 need.cpu, .int .i64 need.mem, .int .i64 need.gpu, .int .i64 need.lic])] w fun e w' => e = .returned (.int .i64 0) ∧ Below w.heap.size w w' := by
  have H := Lib.hid (fun w' hr => sright s hs w' hr)
  have HH := Lib.hid (fun w' => hasParts s.pa s.parts.length s.pc part w')
  have HR := Lib.hid HR
  rcases h with h | ⟨h, h'⟩
  · rw [h] at H
    clear h hs
    have HB := Lib.hid (fun t t' => (Box.new w s t).later (show Below (w.alloc (.cells #[.slice s.na s.nodes.length s.nc, .slice s.pa s.parts.length s.pc, .slice s.qa s.queues.length s.qc, .int .i64 s.users, .int .i64 s.age, .int .i64 s.size, .int .i64 s.qos, .int .i64 s.share, .int .i64 s.decay, .int .i64 s.mode, .int .i64 s.jobs, .int .i64 s.ids, .int .i64 s.versions, .int .i64 s.linger, .int .i64 s.keep, .int .i64 s.inn, .int .i64 s.out, .int .i64 s.cache] t)).heap.size _ ((w.alloc (.cells #[.slice s.na s.nodes.length s.nc, .slice s.pa s.parts.length s.pc, .slice s.qa s.queues.length s.qc, .int .i64 s.users, .int .i64 s.age, .int .i64 s.size, .int .i64 s.qos, .int .i64 s.share, .int .i64 s.decay, .int .i64 s.mode, .int .i64 s.jobs, .int .i64 s.ids, .int .i64 s.versions, .int .i64 s.linger, .int .i64 s.keep, .int .i64 s.inn, .int .i64 s.out, .int .i64 s.cache] t)).alloc (.cells #[.int .i64 need.cpu, .int .i64 need.mem, .int .i64 need.gpu, .int .i64 need.lic] t')) from (Below.refl _ _).alloc (Nat.le_refl _) _))
    go_enter Tryz.func26, Tryz.ntmps26
    go_wp2_with (with_reducible refine wpList_load_box rfl (.tmp 3) rfl rfl (HB.out _ _) ?_)
    refine (H.out _ (HR.out.later ((by repeat' (first | exact Below.refl _ _ | assumption | exact And.left (by assumption) | refine Below.drew ?_ | refine below_drewN ?_ _ | refine Below.setCell ?_ (by first | (simp; done) | (simp; omega) | omega) _ | refine Below.alloc ?_ (by first | (simp; done) | (simp; omega) | omega) _ | refine after (by assumption) (by first | (simp; done) | (simp; omega) | omega) ?_))))).mono ?_; rintro e w1 ⟨rfl, hb1⟩; obtain ⟨hc1, hf1⟩ := bcell hb1; have hz1 := hb1.size; (try simp at hz1); have lt_w1_0 : w.heap.size < w1.heap.size := (by omega); have lt_w1_1 : w.heap.size + 1 < w1.heap.size := (by omega)
    go_wp2
    go_ret
    exact ⟨rfl, (by repeat' (first | exact Below.refl _ _ | assumption | exact And.left (by assumption) | refine Below.drew ?_ | refine below_drewN ?_ _ | refine Below.setCell ?_ (by first | (simp; done) | (simp; omega) | omega) _ | refine Below.alloc ?_ (by first | (simp; done) | (simp; omega) | omega) _ | refine after (by assumption) (by first | (simp; done) | (simp; omega) | omega) ?_))⟩
  · rw [h] at H
    rw [h'] at HH
    clear h h' hs
    have HB := Lib.hid (fun t t' => (Box.new w s t).later (show Below (w.alloc (.cells #[.slice s.na s.nodes.length s.nc, .slice s.pa s.parts.length s.pc, .slice s.qa s.queues.length s.qc, .int .i64 s.users, .int .i64 s.age, .int .i64 s.size, .int .i64 s.qos, .int .i64 s.share, .int .i64 s.decay, .int .i64 s.mode, .int .i64 s.jobs, .int .i64 s.ids, .int .i64 s.versions, .int .i64 s.linger, .int .i64 s.keep, .int .i64 s.inn, .int .i64 s.out, .int .i64 s.cache] t)).heap.size _ ((w.alloc (.cells #[.slice s.na s.nodes.length s.nc, .slice s.pa s.parts.length s.pc, .slice s.qa s.queues.length s.qc, .int .i64 s.users, .int .i64 s.age, .int .i64 s.size, .int .i64 s.qos, .int .i64 s.share, .int .i64 s.decay, .int .i64 s.mode, .int .i64 s.jobs, .int .i64 s.ids, .int .i64 s.versions, .int .i64 s.linger, .int .i64 s.keep, .int .i64 s.inn, .int .i64 s.out, .int .i64 s.cache] t)).alloc (.cells #[.int .i64 need.cpu, .int .i64 need.mem, .int .i64 need.gpu, .int .i64 need.lic] t')) from (Below.refl _ _).alloc (Nat.le_refl _) _))
    go_enter Tryz.func26, Tryz.ntmps26
    go_wp2_with (with_reducible refine wpList_load_box rfl (.tmp 3) rfl rfl (HB.out _ _) ?_)
    refine (H.out _ (HR.out.later ((by repeat' (first | exact Below.refl _ _ | assumption | exact And.left (by assumption) | refine Below.drew ?_ | refine below_drewN ?_ _ | refine Below.setCell ?_ (by first | (simp; done) | (simp; omega) | omega) _ | refine Below.alloc ?_ (by first | (simp; done) | (simp; omega) | omega) _ | refine after (by assumption) (by first | (simp; done) | (simp; omega) | omega) ?_))))).mono ?_; rintro e w1 ⟨rfl, hb1⟩; obtain ⟨hc1, hf1⟩ := bcell hb1; have hz1 := hb1.size; (try simp at hz1); have lt_w1_0 : w.heap.size < w1.heap.size := (by omega); have lt_w1_1 : w.heap.size + 1 < w1.heap.size := (by omega)
    go_wp2_with fail
    refine (HH.out _).mono ?_; rintro e w2 ⟨rfl, rfl⟩
    go_wp2
    go_ret
    exact ⟨rfl, (by repeat' (first | exact Below.refl _ _ | assumption | exact And.left (by assumption) | refine Below.drew ?_ | refine below_drewN ?_ _ | refine Below.setCell ?_ (by first | (simp; done) | (simp; omega) | omega) _ | refine Below.alloc ?_ (by first | (simp; done) | (simp; omega) | omega) _ | refine after (by assumption) (by first | (simp; done) | (simp; omega) | omega) ?_))⟩

set_option maxRecDepth 100000 in
set_option maxHeartbeats 4000000 in
theorem room_in (s : S) (hs : SmallS s) (n : Nat) (hn : n < s.parts.length) (hr : Right s) (need : V) (w : World) (HR : Rows w s) (pa na : Option Addr) (hpa : s.pa = pa) (hna : s.na = na) :
    Calls Tryz.prog 26 #[.agg #[.slice s.na s.nodes.length s.nc, .slice s.pa s.parts.length s.pc, .slice s.qa s.queues.length s.qc, .int .i64 s.users, .int .i64 s.age, .int .i64 s.size, .int .i64 s.qos, .int .i64 s.share, .int .i64 s.decay, .int .i64 s.mode, .int .i64 s.jobs, .int .i64 s.ids, .int .i64 s.versions, .int .i64 s.linger, .int .i64 s.keep, .int .i64 s.inn, .int .i64 s.out, .int .i64 s.cache], .int .i64 (n : Int), (.agg #[.int .i64 need.cpu, .int .i64 need.mem, .int .i64 need.gpu, .int .i64 need.lic])] w fun e w' => e = .returned (.int .i64 (roomOf s.nodes need s.parts[n].l)) ∧ Below w.heap.size w w' := by
  have H := Lib.hid (fun w' hr => sright s hs w' hr)
  rw [show rightS s = true from decide_eq_true hr] at H
  have HH := Lib.hid (fun w' => hasParts pa s.parts.length s.pc (n : Int) w')
  rw [show hasB s.parts.length (n : Int) = true from decide_eq_true ⟨by omega, by omega⟩] at HH
  have ri := right_is hr
  have hlen := part_few ri hn
  have HIN := Lib.hid (fun i (hi : i < s.parts[n].l.length) => part_in ri hn hi)
  have HRO := Lib.hid (fun i (hi : i < s.parts[n].l.length) => roomOf_snoc s.nodes need (s.parts[n].l.take i) (s.parts[n].l.getD i 0))
  have HTK := Lib.hid (fun i (hi : i < s.parts[n].l.length) => (show s.parts[n].l.take (i + 1) = s.parts[n].l.take i ++ [s.parts[n].l.getD i 0] by rw [List.take_succ_eq_append_getElem hi]; simp [hi]))
  have HBD := Lib.hid (fun i => roomOf_bd s.nodes need (s.parts[n].l.take i))
  have HPT := Lib.hid (fun w' (h : Rows w' s) => h.part _ (List.getElem_mem hn))
  have HPC := Lib.hid (fun w' (h : Rows w' s) => h.part_ hn)
  have hnn := ri.nodes.1.2
  have hnp : (n : Int) < s.parts.length := by omega
  have HR := Lib.hid HR
  have HNA := Lib.hid hna
  have HPA := Lib.hid hpa
  clear hr ri hs hpa hna
  generalize s.parts[n] = p at hlen HIN HRO HTK HBD HPT HPC ⊢
  obtain ⟨pl, pcap, l⟩ := p
  simp only at hlen HIN HRO HTK HBD HPT HPC ⊢
  have HB := Lib.hid (fun t t' => (Box.new w s t).later (show Below (w.alloc (.cells #[.slice s.na s.nodes.length s.nc, .slice s.pa s.parts.length s.pc, .slice s.qa s.queues.length s.qc, .int .i64 s.users, .int .i64 s.age, .int .i64 s.size, .int .i64 s.qos, .int .i64 s.share, .int .i64 s.decay, .int .i64 s.mode, .int .i64 s.jobs, .int .i64 s.ids, .int .i64 s.versions, .int .i64 s.linger, .int .i64 s.keep, .int .i64 s.inn, .int .i64 s.out, .int .i64 s.cache] t)).heap.size _ ((w.alloc (.cells #[.slice s.na s.nodes.length s.nc, .slice s.pa s.parts.length s.pc, .slice s.qa s.queues.length s.qc, .int .i64 s.users, .int .i64 s.age, .int .i64 s.size, .int .i64 s.qos, .int .i64 s.share, .int .i64 s.decay, .int .i64 s.mode, .int .i64 s.jobs, .int .i64 s.ids, .int .i64 s.versions, .int .i64 s.linger, .int .i64 s.keep, .int .i64 s.inn, .int .i64 s.out, .int .i64 s.cache] t)).alloc (.cells #[.int .i64 need.cpu, .int .i64 need.mem, .int .i64 need.gpu, .int .i64 need.lic] t')) from (Below.refl _ _).alloc (Nat.le_refl _) _))
  go_enter Tryz.func26, Tryz.ntmps26
  go_wp2_with (with_reducible refine wpList_load_box rfl (.tmp 3) rfl rfl (HB.out _ _) ?_)
  generalize hw0 : World.alloc (World.alloc w _) _ = w0
  have hb0 : Below w.heap.size w w0 := by rw [← hw0]; exact (by repeat' (first | exact Below.refl _ _ | assumption | exact And.left (by assumption) | refine Below.drew ?_ | refine below_drewN ?_ _ | refine Below.setCell ?_ (by first | (simp; done) | (simp; omega) | omega) _ | refine Below.alloc ?_ (by first | (simp; done) | (simp; omega) | omega) _ | refine after (by assumption) (by first | (simp; done) | (simp; omega) | omega) ?_))
  have b0 : w0.cell? ⟨w.heap.size, 0, none⟩ = some (.slice na s.nodes.length s.nc) := by rw [← hw0, ← HNA.out]; simp [go_sem]
  have b1 : w0.cell? ⟨w.heap.size, 1, none⟩ = some (.slice pa s.parts.length s.pc) := by rw [← hw0, ← HPA.out]; simp [go_sem]
  have u0 : w0.cell? ⟨w.heap.size + 1, 0, none⟩ = some (.int .i64 need.cpu) := by rw [← hw0]; simp [go_sem]
  have u1 : w0.cell? ⟨w.heap.size + 1, 1, none⟩ = some (.int .i64 need.mem) := by rw [← hw0]; simp [go_sem]
  have u2 : w0.cell? ⟨w.heap.size + 1, 2, none⟩ = some (.int .i64 need.gpu) := by rw [← hw0]; simp [go_sem]
  have u3 : w0.cell? ⟨w.heap.size + 1, 3, none⟩ = some (.int .i64 need.lic) := by rw [← hw0]; simp [go_sem]
  have HR0 := Lib.hid (HR.out.later hb0)
  have hz0 := hb0.size
  clear hw0
  refine (H.out _ HR0.out).mono ?_; rintro e w1 ⟨rfl, hb1⟩
  have hz1 := hb1.size
  have HR1 := Lib.hid (HR0.out.later hb1)
  have a0 := carry hb1 b0
  have a1 := carry hb1 b1
  have t0 := carry hb1 u0
  have t1 := carry hb1 u1
  have t2 := carry hb1 u2
  have t3 := carry hb1 u3
  obtain ⟨bp, op, ea, hbl, q0⟩ := HPC.out _ HR1.out
  rw [HPA.out] at ea
  subst ea

  clear b0 b1 u0 u1 u2 u3
  have hW : Below w.heap.size w w1 := hb0.trans (hb1.mono hb0.size)
  go_wp2_with fail
  refine (HH.out _).mono ?_; rintro e w2 ⟨rfl, rfl⟩
  go_wp2
  go_loopw [7, 26] (fun y x wr => ∃ k : Nat, k ≤ l.length ∧ x = .int .i64 k ∧ y = .int .i64 (roomOf s.nodes need (l.take k)) ∧ Below w1.heap.size w1 wr) (fun _ x _ => l.length - (intOf x).toNat)
  case atStart => exact ⟨0, Nat.zero_le _, rfl, rfl, Below.refl _ _⟩
  case round =>
    obtain ⟨k, hk, rfl, rfl, hb⟩ := hrel
    have hz := hb.size
    by_cases hlt : k < l.length
    · have hin := HIN.out k hlt
      have hbd := HBD.out k
      have hro := HRO.out k hlt
      rw [← HTK.out k hlt] at hro
      have hl1 : (l.take k).length ≤ 16 := by have := List.length_take_le k l; omega
      obtain ⟨bl, ol, x, ex, rfl, hbl2, hc⟩ := ((HPT.out _ HR1.out).later hb).at_ hlt
      simp only at ex
      rw [← ex] at hin hro
      obtain ⟨j, rfl⟩ : ∃ j : Nat, x = (j : Int) := ⟨x.toNat, by omega⟩
      have hj : j < s.nodes.length := by omega
      obtain ⟨b, off, ea, hbl3, v0, v1, v2, v3⟩ := ((HR1.out).later hb).node hj
      rw [HNA.out] at ea
      subst ea
      have hcb := countV_bd s.nodes[j] need
      have HC := Lib.hid (fun w => count s.nodes[j] need w)
      have hro2 : roomOf s.nodes need (l.take (k + 1)) = roomOf s.nodes need (l.take k) + countV s.nodes[j] need := by
        rw [hro]; congr 2; simp [hj]
      have HRO2 := Lib.hid hro2
      have hc0 := hbd.1
      have hc1 : roomOf s.nodes need (l.take k) ≤ 1024 := by omega
      clear hro hro2 hin ex hbd
      generalize s.nodes[j] = v at v0 v1 v2 v3 hcb HC HRO2
      generalize countV v need = cnt at hcb HC HRO2
      generalize roomOf s.nodes need (l.take k) = c at hc0 hc1 HRO2 ⊢
      obtain ⟨hcb0, hcb1⟩ := hcb
      have hj0 : (0 : Int) ≤ j := by omega
      have hj1 : (j : Int) < s.nodes.length := by omega
      have d0 := carry hb a0
      have e0 := carry hb t0
      have e1 := carry hb t1
      have e2 := carry hb t2
      have e3 := carry hb t3
      have hwr : IntKind.i64.wrap (c + cnt) = c + cnt := IntWalk.i64_in _ (by omega)
      have htn : ((j : Int)).toNat = j := by omega
      go_wp2_with fail
      refine region_mono (roomSp w.heap.size b off s.nodes.length s.nc (j : Int) need v c cnt) [30, 31, 32, 33, 34, 35, 36, 37, 38, 7] (by kernel_rfl) (by kernel_rfl) (by kernel_rfl) (by kernel_rfl) (stables_cons (Sp.cl_stable _ _ _) (stables_cons (Sp.c_stable _ _) (stables_cons (Sp.c_stable _ _) (stables_cons (Sp.c_stable _ _) (stables_cons (Sp.c_stable _ _) (stables_cons (Sp.c_stable _ _) (stables_cons (Sp.c_stable _ _) (stables_cons (Sp.c_stable _ _) (stables_cons (Sp.c_stable _ _) (stables_cons (Sp.c_stable _ _) (trivial))))))))))) ?_ ?_
      · intro am wm L hbm hbase hbase2
        have s3 : am.tmps.getD 3 undef = .pointer (some ⟨w.heap.size, 0, none⟩) := (hbase 3 rfl).trans (by simp only [Array.getD_eq_getD_getElem?, List.getElem?_toArray, List.getElem?_cons_succ, List.getElem?_cons_zero, Option.getD_some])
        have s5 : am.tmps.getD 5 undef = .pointer (some ⟨w.heap.size + 1, 0, none⟩) := (hbase 5 rfl).trans (by simp only [Array.getD_eq_getD_getElem?, List.getElem?_toArray, List.getElem?_cons_succ, List.getElem?_cons_zero, Option.getD_some])
        have s9 : am.tmps.getD 9 undef = .int .i64 (j : Int) := (hbase 9 rfl).trans (by simp only [Array.getD_eq_getD_getElem?, List.getElem?_toArray, List.getElem?_cons_succ, List.getElem?_cons_zero, Option.getD_some])
        clear hbase
        have m0 := carry hbm d0
        have n0 := carry hbm e0
        have n1 := carry hbm e1
        have n2 := carry hbm e2
        have n3 := carry hbm e3
        have q0 := carry hbm v0
        have q1 := carry hbm v1
        have q2 := carry hbm v2
        have q3 := carry hbm v3
        refine steps_cons (fun hn hl => ?_) fun H0 => ?_
        · skip
          have h7 : am.tmps.getD 7 undef = .int .i64 c := (hbase2 9 7 rfl (hl 9 (show 9 ∈ [9] from .head _))).trans (by simp only [Array.getD_eq_getD_getElem?, List.getElem?_toArray, List.getElem?_cons_succ, List.getElem?_cons_zero, Option.getD_some])
          clear hbase2
          clear hn hl 
          refine stepL (wanted_free rfl) fun K hK => ?_
          go_simp
          exact hK _ (Below.refl _ _)
        refine steps_cons (fun hn hl => ?_) fun H1 => ?_
        · skip
          clear hn hl H0
          refine stepC (wanted_free rfl) fun K hK => ?_
          go_simp
          exact hK _ (Below.refl _ _)
        refine steps_cons (fun hn hl => ?_) fun H2 => ?_
        · skip
          have h31 := Sp.of_c (H1 (hn 1 (show 1 ∈ [1] from .head _)))
          clear hn hl H0 H1
          refine stepC (wanted_free rfl) fun K hK => ?_
          go_simp
          exact hK _ (Below.refl _ _)
        refine steps_cons (fun hn hl => ?_) fun H3 => ?_
        · skip
          clear hn hl H0 H1 H2
          refine stepC (wanted_free rfl) fun K hK => ?_
          go_simp
          exact hK _ (Below.refl _ _)
        refine steps_cons (fun hn hl => ?_) fun H4 => ?_
        · skip
          have h32 := Sp.of_c (H2 (hn 2 (show 2 ∈ [2, 3] from .head _)))
          have h33 := Sp.of_c (H3 (hn 3 (show 3 ∈ [2, 3] from .tail _ (.head _))))
          clear hn hl H0 H1 H2 H3
          refine stepC (wanted_free rfl) fun K hK => ?_
          go_simp
          exact hK _ (Below.refl _ _)
        refine steps_cons (fun hn hl => ?_) fun H5 => ?_
        · skip
          have h34 := Sp.of_c (H4 (hn 4 (show 4 ∈ [4] from .head _)))
          clear hn hl H0 H1 H2 H3 H4
          refine stepC (wanted_free rfl) fun K hK => ?_
          go_simp
          exact hK _ (Below.refl _ _)
        refine steps_cons (fun hn hl => ?_) fun H6 => ?_
        · skip
          clear hn hl H0 H1 H2 H3 H4 H5
          refine stepC (wanted_free rfl) fun K hK => ?_
          go_simp
          exact hK _ (Below.refl _ _)
        refine steps_cons (fun hn hl => ?_) fun H7 => ?_
        · skip
          have h35 := Sp.of_c (H5 (hn 5 (show 5 ∈ [5, 6] from .head _)))
          have h36 := Sp.of_c (H6 (hn 6 (show 6 ∈ [5, 6] from .tail _ (.head _))))
          clear hn hl H0 H1 H2 H3 H4 H5 H6
          refine stepC (wanted_free rfl) fun K hK => ?_
          go_simp
          first
            | ((with_reducible refine (HC.out _).mono ?_); rintro e w6 ⟨rfl, hb6⟩; exact hK _ hb6)
        refine steps_cons (fun hn hl => ?_) fun H8 => ?_
        · skip
          have h30 := Sp.of_cl (H0 (hn 0 (show 0 ∈ [0, 7] from .head _)))
          have h37 := Sp.of_c (H7 (hn 7 (show 7 ∈ [0, 7] from .tail _ (.head _))))
          clear hn hl H0 H1 H2 H3 H4 H5 H6 H7
          refine stepC (wanted_free rfl) fun K hK => ?_
          go_simp
          exact hK _ (Below.refl _ _)
        refine steps_cons (fun hn hl => ?_) fun H9 => ?_
        · skip
          have h38 := Sp.of_c (H8 (hn 8 (show 8 ∈ [8] from .head _)))
          clear hn hl H0 H1 H2 H3 H4 H5 H6 H7 H8
          refine stepC (wanted_free rfl) fun K hK => ?_
          go_simp
          exact hK _ (Below.refl _ _)
        exact trivial
      · intro w5 hb5
        have hz5 := hb5.size
        refine end_cons ?_; rintro _ rfl
        refine end_cons ?_; rintro _ rfl
        refine end_cons ?_; rintro _ rfl
        refine end_cons ?_; rintro _ rfl
        refine end_cons ?_; rintro _ rfl
        refine end_cons ?_; rintro _ rfl
        refine end_cons ?_; rintro _ rfl
        refine end_cons ?_; rintro _ rfl
        refine end_cons ?_; rintro _ rfl
        refine end_cons ?_; rintro _ rfl
        refine end_nil ?_
        simp only [List.setIfInBounds_toArray, List.set_cons_succ, List.set_cons_zero, Bool.not_false, Bool.not_true, Bool.true_or, Bool.or_true, Bool.false_or, Bool.or_false]
        go_wp2
        go_roundw
        case rel => exact ⟨k + 1, by omega, by go_num, by rw [HRO2.out], hb.trans (hb5.mono hb.size)⟩
        case measure => simp [intOf]; omega
    · have hkl : k = l.length := by omega
      subst hkl
      rw [List.take_length]
      obtain ⟨r, hr⟩ : ∃ r, r = roomOf s.nodes need l := ⟨_, rfl⟩
      rw [← hr]
      have E := Lib.hid hr
      clear hr
      go_wp2
      go_ret
      exact ⟨by rw [← E.out]; rfl, hW.trans (hb.mono hW.size)⟩
theorem room (s : S) (hs : SmallS s) (part : Int) (need : V) (w : World) (HR : Rows w s) :
    Calls Tryz.prog 26 #[.agg #[.slice s.na s.nodes.length s.nc, .slice s.pa s.parts.length s.pc, .slice s.qa s.queues.length s.qc, .int .i64 s.users, .int .i64 s.age, .int .i64 s.size, .int .i64 s.qos, .int .i64 s.share, .int .i64 s.decay, .int .i64 s.mode, .int .i64 s.jobs, .int .i64 s.ids, .int .i64 s.versions, .int .i64 s.linger, .int .i64 s.keep, .int .i64 s.inn, .int .i64 s.out, .int .i64 s.cache], .int .i64 part, (.agg #[.int .i64 need.cpu, .int .i64 need.mem, .int .i64 need.gpu, .int .i64 need.lic])] w fun e w' => e = .returned (.int .i64 (roomS s part need)) ∧ Below w.heap.size w w' := by
  by_cases h : rightS s = true
  · by_cases h' : hasB s.parts.length part = true
    · have hp := of_decide_eq_true h'
      obtain ⟨n, rfl⟩ : ∃ n : Nat, part = (n : Int) := ⟨part.toNat, by omega⟩
      have hn : n < s.parts.length := by omega
      have e : roomS s (n : Int) need = roomOf s.nodes need s.parts[n].l := by
        unfold roomS partL
        rw [if_pos ⟨h, h'⟩]
        simp [hn]
      rw [e]
      exact room_in s hs n hn (of_decide_eq_true h) need w HR _ _ rfl rfl
    · rw [show roomS s part need = 0 from if_neg fun x => h' x.2]
      exact room_no s hs part need w HR (.inr ⟨h, by simpa using h'⟩)
  · rw [show roomS s part need = 0 from if_neg fun x => h x.1]
    exact room_no s hs part need w HR (.inl (by simpa using h))

def fitsSp (g b off n : Nat) (s : S) (need : V) (many part r : Int) : List Sp :=
  [Sp.c (.int .i64 many) [],
   Sp.c (.agg #[.slice s.na s.nodes.length s.nc, .slice s.pa s.parts.length s.pc, .slice s.qa s.queues.length s.qc, .int .i64 s.users, .int .i64 s.age, .int .i64 s.size, .int .i64 s.qos, .int .i64 s.share, .int .i64 s.decay, .int .i64 s.mode, .int .i64 s.jobs, .int .i64 s.ids, .int .i64 s.versions, .int .i64 s.linger, .int .i64 s.keep, .int .i64 s.inn, .int .i64 s.out, .int .i64 s.cache]) [],
   Sp.c (.pointer (some ⟨g, 2, none⟩)) [],
   Sp.c (.slice (some ⟨b, off, none⟩) s.queues.length s.qc) [2],
   Sp.c (.int .i64 (n : Int)) [],
   Sp.c (.pointer (some ⟨b, off + n * 6, none⟩)) [3, 4],
   Sp.c (.pointer (some ⟨b, off + n * 6, none⟩)) [5],
   Sp.c (.int .i64 part) [6],
   Sp.c ((.agg #[.int .i64 need.cpu, .int .i64 need.mem, .int .i64 need.gpu, .int .i64 need.lic])) [],
   Sp.c (.int .i64 r) [1, 7, 8],
   Sp.c (.bool (decide (many ≤ r))) [0, 9],
   Sp.c (.bool (decide (many ≤ r))) [10]]
theorem fits7_no (s : S) (hs : SmallS s) (queue many : Int) (need : V) (w : World) (HR : Rows w s) (h : hasB s.queues.length queue = false ∨ (hasB s.queues.length queue = true ∧ many < 1)) :
    Calls Tryz.prog 13 #[.agg #[.slice s.na s.nodes.length s.nc, .slice s.pa s.parts.length s.pc, .slice s.qa s.queues.length s.qc, .int .i64 s.users, .int .i64 s.age, .int .i64 s.size, .int .i64 s.qos, .int .i64 s.share, .int .i64 s.decay, .int .i64 s.mode, .int .i64 s.jobs, .int .i64 s.ids, .int .i64 s.versions, .int .i64 s.linger, .int .i64 s.keep, .int .i64 s.inn, .int .i64 s.out, .int .i64 s.cache], .int .i64 queue, .int .i64 many, (.agg #[.int .i64 need.cpu, .int .i64 need.mem, .int .i64 need.gpu, .int .i64 need.lic])] w fun e w' => e = .returned (.bool false) ∧ Below w.heap.size w w' := by
  have HH := Lib.hid (fun w' => hasQueues s.qa s.queues.length s.qc queue w')
  rcases h with h | ⟨h, h'⟩
  · rw [h] at HH
    clear h hs
    go_enter Tryz.func13, Tryz.ntmps13
    go_wp2_with fail
    refine (HH.out _).mono ?_; rintro e w2 ⟨rfl, rfl⟩
    go_wp2
    go_ret
    exact ⟨rfl, (by repeat' (first | exact Below.refl _ _ | assumption | exact And.left (by assumption) | refine Below.drew ?_ | refine below_drewN ?_ _ | refine Below.setCell ?_ (by first | (simp; done) | (simp; omega) | omega) _ | refine Below.alloc ?_ (by first | (simp; done) | (simp; omega) | omega) _ | refine after (by assumption) (by first | (simp; done) | (simp; omega) | omega) ?_))⟩
  · rw [h] at HH
    have hm : decide (many < 1) = true := by simpa using h'
    clear h h' hs
    go_enter Tryz.func13, Tryz.ntmps13
    go_wp2_with fail
    refine (HH.out _).mono ?_; rintro e w2 ⟨rfl, rfl⟩
    go_wp2
    go_ret
    exact ⟨rfl, (by repeat' (first | exact Below.refl _ _ | assumption | exact And.left (by assumption) | refine Below.drew ?_ | refine below_drewN ?_ _ | refine Below.setCell ?_ (by first | (simp; done) | (simp; omega) | omega) _ | refine Below.alloc ?_ (by first | (simp; done) | (simp; omega) | omega) _ | refine after (by assumption) (by first | (simp; done) | (simp; omega) | omega) ?_))⟩
set_option maxRecDepth 100000 in
set_option maxHeartbeats 4000000 in
theorem fits7_in (s : S) (hs : SmallS s) (n : Nat) (hn : n < s.queues.length) (many : Int) (need : V) (hm : 1 ≤ many) (w : World) (HR : Rows w s) (qa : Option Addr) (hqa : s.qa = qa) :
    Calls Tryz.prog 13 #[.agg #[.slice s.na s.nodes.length s.nc, .slice s.pa s.parts.length s.pc, .slice s.qa s.queues.length s.qc, .int .i64 s.users, .int .i64 s.age, .int .i64 s.size, .int .i64 s.qos, .int .i64 s.share, .int .i64 s.decay, .int .i64 s.mode, .int .i64 s.jobs, .int .i64 s.ids, .int .i64 s.versions, .int .i64 s.linger, .int .i64 s.keep, .int .i64 s.inn, .int .i64 s.out, .int .i64 s.cache], .int .i64 (n : Int), .int .i64 many, (.agg #[.int .i64 need.cpu, .int .i64 need.mem, .int .i64 need.gpu, .int .i64 need.lic])] w fun e w' => e = .returned (.bool (decide (many ≤ roomS s s.queues[n].part need))) ∧ Below w.heap.size w w' := by
  have HH := Lib.hid (fun w' => hasQueues qa s.queues.length s.qc (n : Int) w')
  rw [show hasB s.queues.length (n : Int) = true from decide_eq_true ⟨by omega, by omega⟩] at HH
  have hmm : decide (many < 1) = false := by simpa using hm
  have HQ := Lib.hid (fun w' (h : Rows w' s) => h.queue hn)
  have hnp : (n : Int) < s.queues.length := by omega
  have HM := Lib.hid (fun w' hr => room s hs s.queues[n].part need w' hr)
  have HR := Lib.hid HR
  have HQA := Lib.hid hqa
  clear hs hm hqa
  generalize s.queues[n] = q at HQ HM ⊢
  generalize roomS s q.part need = rr at HM ⊢
  have HB := Lib.hid (fun t t' => (Box.new w s t).later (show Below (w.alloc (.cells #[.slice s.na s.nodes.length s.nc, .slice s.pa s.parts.length s.pc, .slice s.qa s.queues.length s.qc, .int .i64 s.users, .int .i64 s.age, .int .i64 s.size, .int .i64 s.qos, .int .i64 s.share, .int .i64 s.decay, .int .i64 s.mode, .int .i64 s.jobs, .int .i64 s.ids, .int .i64 s.versions, .int .i64 s.linger, .int .i64 s.keep, .int .i64 s.inn, .int .i64 s.out, .int .i64 s.cache] t)).heap.size _ ((w.alloc (.cells #[.slice s.na s.nodes.length s.nc, .slice s.pa s.parts.length s.pc, .slice s.qa s.queues.length s.qc, .int .i64 s.users, .int .i64 s.age, .int .i64 s.size, .int .i64 s.qos, .int .i64 s.share, .int .i64 s.decay, .int .i64 s.mode, .int .i64 s.jobs, .int .i64 s.ids, .int .i64 s.versions, .int .i64 s.linger, .int .i64 s.keep, .int .i64 s.inn, .int .i64 s.out, .int .i64 s.cache] t)).alloc (.cells #[.int .i64 need.cpu, .int .i64 need.mem, .int .i64 need.gpu, .int .i64 need.lic] t')) from (Below.refl _ _).alloc (Nat.le_refl _) _))
  go_enter Tryz.func13, Tryz.ntmps13
  go_wp2_with fail
  have HB := Lib.hid (HB.out 28 41)
  generalize hw0 : World.alloc (World.alloc w _) _ = w0 at HB ⊢
  have hb0 : Below w.heap.size w w0 := by rw [← hw0]; exact (by repeat' (first | exact Below.refl _ _ | assumption | exact And.left (by assumption) | refine Below.drew ?_ | refine below_drewN ?_ _ | refine Below.setCell ?_ (by first | (simp; done) | (simp; omega) | omega) _ | refine Below.alloc ?_ (by first | (simp; done) | (simp; omega) | omega) _ | refine after (by assumption) (by first | (simp; done) | (simp; omega) | omega) ?_))
  have b2 : w0.cell? ⟨w.heap.size, 2, none⟩ = some (.slice qa s.queues.length s.qc) := by rw [← hw0, ← HQA.out]; simp [go_sem]
  have u0 : w0.cell? ⟨w.heap.size + 1, 0, none⟩ = some (.int .i64 need.cpu) := by rw [← hw0]; simp [go_sem]
  have u1 : w0.cell? ⟨w.heap.size + 1, 1, none⟩ = some (.int .i64 need.mem) := by rw [← hw0]; simp [go_sem]
  have u2 : w0.cell? ⟨w.heap.size + 1, 2, none⟩ = some (.int .i64 need.gpu) := by rw [← hw0]; simp [go_sem]
  have u3 : w0.cell? ⟨w.heap.size + 1, 3, none⟩ = some (.int .i64 need.lic) := by rw [← hw0]; simp [go_sem]
  have HR0 := Lib.hid (HR.out.later hb0)
  have hz0 := hb0.size
  clear hw0
  rw [HQA.out]
  refine (HH.out _).mono ?_; rintro e w2 ⟨rfl, rfl⟩
  obtain ⟨b, off, ea, hbl, q0, q1, q2, q3, q4, q5⟩ := HQ.out _ HR0.out
  rw [HQA.out] at ea
  subst ea
  have hn0 : (0 : Int) ≤ n := by omega
  go_wp2_with fail
  refine region_mono (fitsSp w.heap.size b off n s need many q.part rr) [18, 19, 20, 21, 22, 23, 24, 25, 26, 27, 28, 8] (by kernel_rfl) (by kernel_rfl) (by kernel_rfl) (by kernel_rfl) (stables_cons (Sp.c_stable _ _) (stables_cons (Sp.c_stable _ _) (stables_cons (Sp.c_stable _ _) (stables_cons (Sp.c_stable _ _) (stables_cons (Sp.c_stable _ _) (stables_cons (Sp.c_stable _ _) (stables_cons (Sp.c_stable _ _) (stables_cons (Sp.c_stable _ _) (stables_cons (Sp.c_stable _ _) (stables_cons (Sp.c_stable _ _) (stables_cons (Sp.c_stable _ _) (stables_cons (Sp.c_stable _ _) (trivial))))))))))))) ?_ ?_
  · intro am wm L hbm hbase hbase2
    have s4 : am.tmps.getD 4 undef = .pointer (some ⟨w.heap.size, 0, none⟩) := (hbase 4 rfl).trans (by simp only [Array.getD_eq_getD_getElem?, List.getElem?_toArray, List.getElem?_cons_succ, List.getElem?_cons_zero, Option.getD_some])
    have s7 : am.tmps.getD 7 undef = .pointer (some ⟨w.heap.size + 1, 0, none⟩) := (hbase 7 rfl).trans (by simp only [Array.getD_eq_getD_getElem?, List.getElem?_toArray, List.getElem?_cons_succ, List.getElem?_cons_zero, Option.getD_some])
    have s1 : am.tmps.getD 1 undef = .int .i64 (n : Int) := (hbase 1 rfl).trans (by simp only [Array.getD_eq_getD_getElem?, List.getElem?_toArray, List.getElem?_cons_succ, List.getElem?_cons_zero, Option.getD_some])
    have s2 : am.tmps.getD 2 undef = .int .i64 many := (hbase 2 rfl).trans (by simp only [Array.getD_eq_getD_getElem?, List.getElem?_toArray, List.getElem?_cons_succ, List.getElem?_cons_zero, Option.getD_some])
    clear hbase hbase2
    have m2 := carry hbm b2
    have n0 := carry hbm u0
    have n1 := carry hbm u1
    have n2 := carry hbm u2
    have n3 := carry hbm u3
    have p0 := carry hbm q0
    have bm := HB.out.later hbm
    refine steps_cons (fun hn hl => ?_) fun H0 => ?_
    · skip
      clear hn hl 
      refine stepC (wanted_free rfl) fun K hK => ?_
      go_simp
      exact hK _ (Below.refl _ _)
    refine steps_cons (fun hn hl => ?_) fun H1 => ?_
    · skip
      clear hn hl H0
      refine stepC (wanted_free rfl) fun K hK => ?_
      exact wp_load_box (.tmp 4) rfl s4 bm (hK _ (Below.refl _ _))
    refine steps_cons (fun hn hl => ?_) fun H2 => ?_
    · skip
      clear hn hl H0 H1
      refine stepC (wanted_free rfl) fun K hK => ?_
      go_simp
      exact hK _ (Below.refl _ _)
    refine steps_cons (fun hn hl => ?_) fun H3 => ?_
    · skip
      have h20 := Sp.of_c (H2 (hn 2 (show 2 ∈ [2] from .head _)))
      clear hn hl H0 H1 H2
      refine stepC (wanted_free rfl) fun K hK => ?_
      go_simp
      exact hK _ (Below.refl _ _)
    refine steps_cons (fun hn hl => ?_) fun H4 => ?_
    · skip
      clear hn hl H0 H1 H2 H3
      refine stepC (wanted_free rfl) fun K hK => ?_
      go_simp
      exact hK _ (Below.refl _ _)
    refine steps_cons (fun hn hl => ?_) fun H5 => ?_
    · skip
      have h21 := Sp.of_c (H3 (hn 3 (show 3 ∈ [3, 4] from .head _)))
      have h22 := Sp.of_c (H4 (hn 4 (show 4 ∈ [3, 4] from .tail _ (.head _))))
      clear hn hl H0 H1 H2 H3 H4
      refine stepC (wanted_free rfl) fun K hK => ?_
      go_simp
      exact hK _ (Below.refl _ _)
    refine steps_cons (fun hn hl => ?_) fun H6 => ?_
    · skip
      have h23 := Sp.of_c (H5 (hn 5 (show 5 ∈ [5] from .head _)))
      clear hn hl H0 H1 H2 H3 H4 H5
      refine stepC (wanted_free rfl) fun K hK => ?_
      go_simp
      exact hK _ (Below.refl _ _)
    refine steps_cons (fun hn hl => ?_) fun H7 => ?_
    · skip
      have h24 := Sp.of_c (H6 (hn 6 (show 6 ∈ [6] from .head _)))
      clear hn hl H0 H1 H2 H3 H4 H5 H6
      refine stepC (wanted_free rfl) fun K hK => ?_
      go_simp
      exact hK _ (Below.refl _ _)
    refine steps_cons (fun hn hl => ?_) fun H8 => ?_
    · skip
      clear hn hl H0 H1 H2 H3 H4 H5 H6 H7
      refine stepC (wanted_free rfl) fun K hK => ?_
      go_simp
      exact hK _ (Below.refl _ _)
    refine steps_cons (fun hn hl => ?_) fun H9 => ?_
    · skip
      have h19 := Sp.of_c (H1 (hn 1 (show 1 ∈ [1, 7, 8] from .head _)))
      have h25 := Sp.of_c (H7 (hn 7 (show 7 ∈ [1, 7, 8] from .tail _ (.head _))))
      have h26 := Sp.of_c (H8 (hn 8 (show 8 ∈ [1, 7, 8] from .tail _ (.tail _ (.head _)))))
      clear hn hl H0 H1 H2 H3 H4 H5 H6 H7 H8
      refine stepC (wanted_free rfl) fun K hK => ?_
      go_simp
      first
        | ((with_reducible refine (HM.out _ (HR0.out.later hbm)).mono ?_); rintro e w6 ⟨rfl, hb6⟩; exact hK _ hb6)
    refine steps_cons (fun hn hl => ?_) fun H10 => ?_
    · skip
      have h18 := Sp.of_c (H0 (hn 0 (show 0 ∈ [0, 9] from .head _)))
      have h27 := Sp.of_c (H9 (hn 9 (show 9 ∈ [0, 9] from .tail _ (.head _))))
      clear hn hl H0 H1 H2 H3 H4 H5 H6 H7 H8 H9
      refine stepC (wanted_free rfl) fun K hK => ?_
      go_simp
      exact hK _ (Below.refl _ _)
    refine steps_cons (fun hn hl => ?_) fun H11 => ?_
    · skip
      have h28 := Sp.of_c (H10 (hn 10 (show 10 ∈ [10] from .head _)))
      clear hn hl H0 H1 H2 H3 H4 H5 H6 H7 H8 H9 H10
      refine stepC (wanted_free rfl) fun K hK => ?_
      go_simp
      exact hK _ (Below.refl _ _)
    exact trivial
  · intro w5 hb5
    have hz5 := hb5.size
    refine end_cons ?_; rintro _ rfl
    refine end_cons ?_; rintro _ rfl
    refine end_cons ?_; rintro _ rfl
    refine end_cons ?_; rintro _ rfl
    refine end_cons ?_; rintro _ rfl
    refine end_cons ?_; rintro _ rfl
    refine end_cons ?_; rintro _ rfl
    refine end_cons ?_; rintro _ rfl
    refine end_cons ?_; rintro _ rfl
    refine end_cons ?_; rintro _ rfl
    refine end_cons ?_; rintro _ rfl
    refine end_cons ?_; rintro _ rfl
    refine end_nil ?_
    simp only [List.setIfInBounds_toArray, List.set_cons_succ, List.set_cons_zero, Bool.not_false, Bool.not_true, Bool.true_or, Bool.or_true, Bool.false_or, Bool.or_false]
    go_wp2
    go_ret
    exact ⟨rfl, hb0.trans (hb5.mono hb0.size)⟩
theorem fits7 (s : S) (hs : SmallS s) (queue many : Int) (need : V) (w : World) (HR : Rows w s) :
    Calls Tryz.prog 13 #[.agg #[.slice s.na s.nodes.length s.nc, .slice s.pa s.parts.length s.pc, .slice s.qa s.queues.length s.qc, .int .i64 s.users, .int .i64 s.age, .int .i64 s.size, .int .i64 s.qos, .int .i64 s.share, .int .i64 s.decay, .int .i64 s.mode, .int .i64 s.jobs, .int .i64 s.ids, .int .i64 s.versions, .int .i64 s.linger, .int .i64 s.keep, .int .i64 s.inn, .int .i64 s.out, .int .i64 s.cache], .int .i64 queue, .int .i64 many, (.agg #[.int .i64 need.cpu, .int .i64 need.mem, .int .i64 need.gpu, .int .i64 need.lic])] w fun e w' => e = .returned (.bool (fitsS s queue many need)) ∧ Below w.heap.size w w' := by
  by_cases h : hasB s.queues.length queue = true
  · by_cases hm : 1 ≤ many
    · have hp := of_decide_eq_true h
      obtain ⟨n, rfl⟩ : ∃ n : Nat, queue = (n : Int) := ⟨queue.toNat, by omega⟩
      have hn : n < s.queues.length := by omega
      have e : fitsS s (n : Int) many need = decide (many ≤ roomS s s.queues[n].part need) := by
        unfold fitsS partOf
        have e1 : (s.queues.getD (n : Int).toNat ⟨0, ⟨none, 0, []⟩, 0, 0, 0, 0⟩) = s.queues[n] := by simp [hn]
        rw [e1]
        simp [h, hm]
      rw [e]
      exact fits7_in s hs n hn many need hm w HR _ rfl
    · rw [show fitsS s queue many need = false from decide_eq_false fun x => hm x.2.1]
      exact fits7_no s hs queue many need w HR (.inr ⟨h, by omega⟩)
  · rw [show fitsS s queue many need = false from decide_eq_false fun x => h x.1]
    exact fits7_no s hs queue many need w HR (.inl (by simpa using h))
end Go.Proofs.YtgopjpnlpcmldaaGreatDoor.W
