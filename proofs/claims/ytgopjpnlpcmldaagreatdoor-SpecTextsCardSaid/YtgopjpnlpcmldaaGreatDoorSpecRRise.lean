/-
  Contracts of the document's own answers of layer 7: Rising, nodes, parts.
-/
import Derived.Test.YtgopjpnlpcmldaaGreatDoorSpecMem
import Derived.Test.YtgopjpnlpcmldaaGreatDoorSpecSmall
import Derived.Test.YtgopjpnlpcmldaaGreatDoorVecRef
import Derived.Lib.QuietBelow
namespace Go.Proofs.YtgopjpnlpcmldaaGreatDoor.W
set_option linter.unusedVariables false
set_option linter.unusedSimpArgs false
open Go.ChangeShapes Go.WideShapes Go.ChangeAt Go.RowKit

def RiseAt (l : List Int) (n : Int) (i : Nat) : Prop := 0 ≤ l.getD i 0 ∧ l.getD i 0 < n ∧ (0 < i → l.getD (i - 1) 0 < l.getD i 0)
set_option maxHeartbeats 2000000 in
theorem rrising (a : Option Addr) (cap : Nat) (l : List Int) (n : Int) (w : World) (hp : SlAt w ⟨a, cap, l⟩) (hl : l.length ≤ 1000) :
    Calls Tryz.prog 85 #[.slice a l.length cap, .int .i64 n] w fun e w' => e = .returned (.bool (riseB l n)) ∧ Below w.heap.size w w' := by
  have HP := Lib.hid hp
  have HT := Lib.hid (show (∀ i, i < l.length → RiseAt l n i) → riseB l n = true from fun h => decide_eq_true ((rise_doc l n).1 h))
  have HF := Lib.hid (show ∀ i, i < l.length → ¬ RiseAt l n i → riseB l n = false from fun i hi' h => decide_eq_false fun x => h ((rise_doc l n).2 x i hi'))
  clear hp
  go_enter Tryz.func85, Tryz.ntmps85
  go_wp2
  go_loopw [5] (fun x wr => ∃ k : Nat, k ≤ l.length ∧ x = .int .i64 k ∧ Below w.heap.size w wr ∧ Hid (∀ i, i < k → RiseAt l n i)) (fun x _ => l.length - (intOf x).toNat)
  case atStart => exact ⟨0, Nat.zero_le _, rfl, (by repeat' (first | exact Below.refl _ _ | assumption | exact And.left (by assumption) | refine Below.drew ?_ | refine below_drewN ?_ _ | refine Below.setCell ?_ (by first | (simp; done) | (simp; omega) | omega) _ | refine Below.alloc ?_ (by first | (simp; done) | (simp; omega) | omega) _ | refine after (by assumption) (by first | (simp; done) | (simp; omega) | omega) ?_)), Lib.hid fun i h => by omega⟩
  case round =>
    obtain ⟨k, hk, rfl, hb, HA⟩ := hrel
    have hz := hb.size
    by_cases hlt : k < l.length
    · obtain ⟨b, off, x, ex, rfl, hbl, hc⟩ := (SlAt.later HP.out hb).at_ hlt
      have HX := Lib.hid ex
      clear ex
      have HG := Lib.hid (fun (h : RiseAt l n k) i (h' : i < k + 1) => (show RiseAt l n i by
          rcases Nat.lt_or_ge i k with h'' | h''
          · exact HA.out i h''
          · obtain rfl : i = k := by omega
            exact h))
      have hk0 : (0 : Int) ≤ k := by omega
      have hk1 : (k : Int) < l.length := by omega
      by_cases h0 : 0 ≤ x
      · have g0 : decide (x < 0) = false := by simp; omega
        by_cases h1 : x < n
        · have g1 : decide (n ≤ x) = false := by simp; omega
          by_cases h2 : 0 < k
          · have g2 : decide (0 < (k : Int)) = true := by simp; omega
            obtain ⟨b', off', y, ey, ea', hbl', hc'⟩ := (SlAt.later HP.out hb).at_ (show k - 1 < l.length by omega)
            obtain ⟨rfl, rfl⟩ : b' = b ∧ off' = off := by simpa [eq_comm] using ea'
            have HY := Lib.hid ey
            have hkm : IntKind.i64.wrap ((k : Int) - 1) = ((k - 1 : Nat) : Int) := by rw [IntWalk.i64_in _ (by omega)]; omega
            have hkm0 : ((k : Int) - 1) = ((k - 1 : Nat) : Int) := by omega
            have hkm1 : ((k - 1 : Nat) : Int) < l.length := by omega
            clear ey ea'
            by_cases h3 : y < x
            · have g3 : decide (x ≤ y) = false := by simp; omega
              have HO := Lib.hid (HG.out ⟨HX.out ▸ h0, HX.out ▸ h1, fun _ => by rw [← HX.out, ← HY.out]; exact h3⟩)
              go_wp2_with fail
              go_quiet (fail)
              go_wp2
              go_roundw
              case rel => exact ⟨k + 1, by omega, by go_num, (by repeat' (first | exact Below.refl _ _ | assumption | exact And.left (by assumption) | refine Below.drew ?_ | refine below_drewN ?_ _ | refine Below.setCell ?_ (by first | (simp; done) | (simp; omega) | omega) _ | refine Below.alloc ?_ (by first | (simp; done) | (simp; omega) | omega) _ | refine after (by assumption) (by first | (simp; done) | (simp; omega) | omega) ?_)), HO⟩
              case measure => simp [intOf]; omega
            · have g3 : decide (x ≤ y) = true := by simp; omega
              have E := Lib.hid (HF.out k hlt fun z => h3 (by rw [HX.out, HY.out]; exact z.2.2 h2))
              go_wp2_with fail
              go_quiet (fail)
              go_wp2
              go_ret
              exact ⟨by rw [E.out]; rfl, (by repeat' (first | exact Below.refl _ _ | assumption | exact And.left (by assumption) | refine Below.drew ?_ | refine below_drewN ?_ _ | refine Below.setCell ?_ (by first | (simp; done) | (simp; omega) | omega) _ | refine Below.alloc ?_ (by first | (simp; done) | (simp; omega) | omega) _ | refine after (by assumption) (by first | (simp; done) | (simp; omega) | omega) ?_))⟩
          · have g2 : decide (0 < (k : Int)) = false := by simp; omega
            have HO := Lib.hid (HG.out ⟨HX.out ▸ h0, HX.out ▸ h1, fun z => absurd z h2⟩)
            go_wp2_with fail
            go_quiet (fail)
            go_wp2
            go_roundw
            case rel => exact ⟨k + 1, by omega, by go_num, (by repeat' (first | exact Below.refl _ _ | assumption | exact And.left (by assumption) | refine Below.drew ?_ | refine below_drewN ?_ _ | refine Below.setCell ?_ (by first | (simp; done) | (simp; omega) | omega) _ | refine Below.alloc ?_ (by first | (simp; done) | (simp; omega) | omega) _ | refine after (by assumption) (by first | (simp; done) | (simp; omega) | omega) ?_)), HO⟩
            case measure => simp [intOf]; omega
        · have g1 : decide (n ≤ x) = true := by simp; omega
          have E := Lib.hid (HF.out k hlt fun z => h1 (HX.out ▸ z.2.1))
          go_wp2_with fail
          go_quiet (fail)
          go_wp2
          go_ret
          exact ⟨by rw [E.out]; rfl, (by repeat' (first | exact Below.refl _ _ | assumption | exact And.left (by assumption) | refine Below.drew ?_ | refine below_drewN ?_ _ | refine Below.setCell ?_ (by first | (simp; done) | (simp; omega) | omega) _ | refine Below.alloc ?_ (by first | (simp; done) | (simp; omega) | omega) _ | refine after (by assumption) (by first | (simp; done) | (simp; omega) | omega) ?_))⟩
      · have g0 : decide (x < 0) = true := by simp; omega
        have E := Lib.hid (HF.out k hlt fun z => h0 (HX.out ▸ z.1))
        go_wp2_with fail
        go_quiet (fail)
        go_wp2
        go_ret
        exact ⟨by rw [E.out]; rfl, (by repeat' (first | exact Below.refl _ _ | assumption | exact And.left (by assumption) | refine Below.drew ?_ | refine below_drewN ?_ _ | refine Below.setCell ?_ (by first | (simp; done) | (simp; omega) | omega) _ | refine Below.alloc ?_ (by first | (simp; done) | (simp; omega) | omega) _ | refine after (by assumption) (by first | (simp; done) | (simp; omega) | omega) ?_))⟩
    · have E := Lib.hid (HT.out fun i hi' => HA.out i (by omega))
      go_wp2
      go_ret
      exact ⟨by rw [E.out]; rfl, (by repeat' (first | exact Below.refl _ _ | assumption | exact And.left (by assumption) | refine Below.drew ?_ | refine below_drewN ?_ _ | refine Below.setCell ?_ (by first | (simp; done) | (simp; omega) | omega) _ | refine Below.alloc ?_ (by first | (simp; done) | (simp; omega) | omega) _ | refine after (by assumption) (by first | (simp; done) | (simp; omega) | omega) ?_))⟩

set_option maxHeartbeats 1000000 in
theorem rnodes (s : S) (na : Option Addr) (hna : s.na = na) (w : World) (HR : Rows w s) (hfew : s.nodes.length ≤ 40) :
    Calls Tryz.prog 51 #[.agg #[.slice s.na s.nodes.length s.nc, .slice s.pa s.parts.length s.pc, .slice s.qa s.queues.length s.qc, .int .i64 s.users, .int .i64 s.age, .int .i64 s.size, .int .i64 s.qos, .int .i64 s.share, .int .i64 s.decay, .int .i64 s.mode, .int .i64 s.jobs, .int .i64 s.ids, .int .i64 s.versions, .int .i64 s.linger, .int .i64 s.keep, .int .i64 s.inn, .int .i64 s.out, .int .i64 s.cache]] w fun e w' => e = .returned (.bool (nodesB s)) ∧ Below w.heap.size w w' := by
  have HN := Lib.hid hna
  have HR := Lib.hid HR
  rw [hna]
  clear hna
  have HT := Lib.hid (show (∀ i (hi : i < s.nodes.length), s.nodes[i].Ok) → nodesB s = inB s.nodes.length 1 16 from fun hh => by
    unfold nodesB inB NodesOk
    congr 1
    rw [eq_iff_iff]
    constructor
    · intro x; omega
    · intro x; exact ⟨by omega, fun v hv => by obtain ⟨i, hi, rfl⟩ := List.getElem_of_mem hv; exact hh i hi⟩)
  have HF := Lib.hid (show ∀ i (hi : i < s.nodes.length), ¬ s.nodes[i].Ok → nodesB s = false from fun i hi hh => decide_eq_false fun x => hh (x.2 _ (List.getElem_mem hi)))
  have HI := Lib.hid (fun w => rin (s.nodes.length : Int) 1 16 w)
  go_enter Tryz.func51, Tryz.ntmps51
  go_wp2
  generalize hw0 : w.alloc _ = w0
  have hb0 : Below w.heap.size w w0 := by rw [← hw0]; exact (by repeat' (first | exact Below.refl _ _ | assumption | exact And.left (by assumption) | refine Below.drew ?_ | refine below_drewN ?_ _ | refine Below.setCell ?_ (by first | (simp; done) | (simp; omega) | omega) _ | refine Below.alloc ?_ (by first | (simp; done) | (simp; omega) | omega) _ | refine after (by assumption) (by first | (simp; done) | (simp; omega) | omega) ?_))
  have b0 : w0.cell? ⟨w.heap.size, 0, none⟩ = some (.slice na s.nodes.length s.nc) := by rw [← hw0]; simp [go_sem]
  have hz0 := hb0.size
  clear hw0
  go_loopw [3] (fun x wr => ∃ k : Nat, k ≤ s.nodes.length ∧ x = .int .i64 k ∧ Below w0.heap.size w0 wr ∧ Hid (∀ i (hi : i < s.nodes.length), i < k → s.nodes[i].Ok)) (fun x _ => s.nodes.length - (intOf x).toNat)
  case atStart => exact ⟨0, Nat.zero_le _, rfl, (by repeat' (first | exact Below.refl _ _ | assumption | exact And.left (by assumption) | refine Below.drew ?_ | refine below_drewN ?_ _ | refine Below.setCell ?_ (by first | (simp; done) | (simp; omega) | omega) _ | refine Below.alloc ?_ (by first | (simp; done) | (simp; omega) | omega) _ | refine after (by assumption) (by first | (simp; done) | (simp; omega) | omega) ?_)), Lib.hid fun i hi h => by omega⟩
  case round =>
    obtain ⟨k, hk, rfl, hb, HA⟩ := hrel
    have hz := hb.size
    have d0 := carry hb b0
    by_cases hlt : k < s.nodes.length
    · obtain ⟨b, off, ea, hbl, q0, q1, q2, q3⟩ := ((HR.out.later hb0).later hb).node hlt
      rw [HN.out] at ea
      subst ea
      have hk1 : (k : Int) < s.nodes.length := by omega
      by_cases ho : s.nodes[k].Ok
      · have HK := Lib.hid (fun w => rright s.nodes[k] w)
        rw [right_yes ho] at HK
        have HO := Lib.hid ho
        clear ho
        go_wp2_with fail
        refine (HK.out _).mono ?_; rintro e w2 ⟨rfl, hb2⟩
        have hz2 := hb2.size; try simp at hz2
        go_wp2
        go_roundw
        case rel => exact ⟨k + 1, by omega, by go_num, (by repeat' (first | exact Below.refl _ _ | assumption | exact And.left (by assumption) | refine Below.drew ?_ | refine below_drewN ?_ _ | refine Below.setCell ?_ (by first | (simp; done) | (simp; omega) | omega) _ | refine Below.alloc ?_ (by first | (simp; done) | (simp; omega) | omega) _ | refine after (by assumption) (by first | (simp; done) | (simp; omega) | omega) ?_)), Lib.hid fun i hi h => by
            rcases Nat.lt_or_ge i k with h' | h'
            · exact HA.out i hi h'
            · obtain rfl : i = k := by omega
              exact HO.out⟩
        case measure => simp [intOf]; omega
      · have HK := Lib.hid (fun w => rright s.nodes[k] w)
        rw [right_no ho] at HK
        have E := Lib.hid (HF.out k hlt ho)
        clear ho
        go_wp2_with fail
        refine (HK.out _).mono ?_; rintro e w2 ⟨rfl, hb2⟩
        have hz2 := hb2.size; try simp at hz2
        go_wp2
        go_ret
        exact ⟨by rw [E.out]; rfl, (by repeat' (first | exact Below.refl _ _ | assumption | exact And.left (by assumption) | refine Below.drew ?_ | refine below_drewN ?_ _ | refine Below.setCell ?_ (by first | (simp; done) | (simp; omega) | omega) _ | refine Below.alloc ?_ (by first | (simp; done) | (simp; omega) | omega) _ | refine after (by assumption) (by first | (simp; done) | (simp; omega) | omega) ?_))⟩
    · have E := Lib.hid (HT.out fun i hi => HA.out i hi (by omega))
      go_wp2_with fail
      refine (HI.out _).mono ?_; rintro e w2 ⟨rfl, rfl⟩
      go_wp2
      go_ret
      exact ⟨by rw [E.out]; rfl, (by repeat' (first | exact Below.refl _ _ | assumption | exact And.left (by assumption) | refine Below.drew ?_ | refine below_drewN ?_ _ | refine Below.setCell ?_ (by first | (simp; done) | (simp; omega) | omega) _ | refine Below.alloc ?_ (by first | (simp; done) | (simp; omega) | omega) _ | refine after (by assumption) (by first | (simp; done) | (simp; omega) | omega) ?_))⟩

def rpSp (g b off k np pc : Nat) (p : Sl) (na : Option Addr) (nn nc : Nat) (e r : Bool) : List Sp :=
  [Sp.c (.pointer (some ⟨g, 1, none⟩)) [],
   Sp.c (.slice (some ⟨b, off, none⟩) np pc) [0],
   Sp.c (.int .i64 k) [],
   Sp.c (.pointer (some ⟨b, off + k, none⟩)) [1, 2],
   Sp.c (.slice p.a p.l.length p.cap) [3],
   Sp.c (.int .i64 p.l.length) [4],
   Sp.c (.bool e) [5],
   Sp.c (.bool e) [6],
   Sp.g (!e) (.pointer (some ⟨g, 1, none⟩)) [7],
   Sp.g (!e) (.slice (some ⟨b, off, none⟩) np pc) [8, 7],
   Sp.g (!e) (.int .i64 k) [7],
   Sp.g (!e) (.pointer (some ⟨b, off + k, none⟩)) [9, 10, 7],
   Sp.g (!e) (.slice p.a p.l.length p.cap) [11, 7],
   Sp.g (!e) (.pointer (some ⟨g, 0, none⟩)) [7],
   Sp.g (!e) (.slice na nn nc) [13, 7],
   Sp.g (!e) (.int .i64 nn) [14, 7],
   Sp.g (!e) (.bool r) [12, 15, 7],
   Sp.g (!e) (.bool (!r)) [16, 7],
   Sp.c (.bool (e || !r)) [7, 17]]
set_option maxHeartbeats 2000000 in
theorem rparts (s : S) (pa : Option Addr) (hpa : s.pa = pa) (w : World) (HR : Rows w s) (hfew : s.parts.length ≤ 40) (hs : ∀ p ∈ s.parts, p.l.length ≤ 1000) :
    Calls Tryz.prog 52 #[.agg #[.slice s.na s.nodes.length s.nc, .slice s.pa s.parts.length s.pc, .slice s.qa s.queues.length s.qc, .int .i64 s.users, .int .i64 s.age, .int .i64 s.size, .int .i64 s.qos, .int .i64 s.share, .int .i64 s.decay, .int .i64 s.mode, .int .i64 s.jobs, .int .i64 s.ids, .int .i64 s.versions, .int .i64 s.linger, .int .i64 s.keep, .int .i64 s.inn, .int .i64 s.out, .int .i64 s.cache]] w fun e w' => e = .returned (.bool (partsB s)) ∧ Below w.heap.size w w' := by
  have HN := Lib.hid hpa
  have HR := Lib.hid HR
  have HW := Lib.hid hs
  rw [hpa]
  clear hpa hs
  have HT := Lib.hid (show (∀ i (hi : i < s.parts.length), s.parts[i].l ≠ [] ∧ Rise s.parts[i].l s.nodes.length) → partsB s = inB s.parts.length 1 8 from fun hh => by
    unfold partsB inB PartsOk
    congr 1
    rw [eq_iff_iff]
    constructor
    · intro x; omega
    · intro x; exact ⟨by omega, fun v hv => by obtain ⟨i, hi, rfl⟩ := List.getElem_of_mem hv; exact hh i hi⟩)
  have HF := Lib.hid (show ∀ i (hi : i < s.parts.length), ¬ (s.parts[i].l ≠ [] ∧ Rise s.parts[i].l s.nodes.length) → partsB s = false from fun i hi hh => decide_eq_false fun x => hh (x.2 _ (List.getElem_mem hi)))
  have HI := Lib.hid (fun w => rin (s.parts.length : Int) 1 8 w)
  go_enter Tryz.func52, Tryz.ntmps52
  go_wp2
  generalize hw0 : w.alloc _ = w0
  have hb0 : Below w.heap.size w w0 := by rw [← hw0]; exact (by repeat' (first | exact Below.refl _ _ | assumption | exact And.left (by assumption) | refine Below.drew ?_ | refine below_drewN ?_ _ | refine Below.setCell ?_ (by first | (simp; done) | (simp; omega) | omega) _ | refine Below.alloc ?_ (by first | (simp; done) | (simp; omega) | omega) _ | refine after (by assumption) (by first | (simp; done) | (simp; omega) | omega) ?_))
  have b0 : w0.cell? ⟨w.heap.size, 0, none⟩ = some (.slice s.na s.nodes.length s.nc) := by rw [← hw0]; simp [go_sem]
  have b1 : w0.cell? ⟨w.heap.size, 1, none⟩ = some (.slice pa s.parts.length s.pc) := by rw [← hw0]; simp [go_sem]
  have hz0 := hb0.size
  clear hw0
  go_loopw [3] (fun x wr => ∃ k : Nat, k ≤ s.parts.length ∧ x = .int .i64 k ∧ Below w0.heap.size w0 wr ∧ Hid (∀ i (hi : i < s.parts.length), i < k → s.parts[i].l ≠ [] ∧ Rise s.parts[i].l s.nodes.length)) (fun x _ => s.parts.length - (intOf x).toNat)
  case atStart => exact ⟨0, Nat.zero_le _, rfl, (by repeat' (first | exact Below.refl _ _ | assumption | exact And.left (by assumption) | refine Below.drew ?_ | refine below_drewN ?_ _ | refine Below.setCell ?_ (by first | (simp; done) | (simp; omega) | omega) _ | refine Below.alloc ?_ (by first | (simp; done) | (simp; omega) | omega) _ | refine after (by assumption) (by first | (simp; done) | (simp; omega) | omega) ?_)), Lib.hid fun i hi h => by omega⟩
  case round =>
    obtain ⟨k, hk, rfl, hb, HA⟩ := hrel
    have hz := hb.size
    have d1 := carry hb b1
    by_cases hlt : k < s.parts.length
    · obtain ⟨b, off, ea, hbl, q0⟩ := ((HR.out.later hb0).later hb).part_ hlt
      rw [HN.out] at ea
      subst ea
      have hk0 : (0 : Int) ≤ k := by omega
      have hk1 : (k : Int) < s.parts.length := by omega
      have HSP := Lib.hid (((HR.out.later hb0).later hb).part _ (List.getElem_mem hlt))
      have HWL := HW.out _ (List.getElem_mem hlt)
      have HL := Lib.hid (HF.out k hlt)
      have HG := Lib.hid (fun (h : s.parts[k].l ≠ [] ∧ Rise s.parts[k].l s.nodes.length) i (hi : i < s.parts.length) (h' : i < k + 1) => (show s.parts[i].l ≠ [] ∧ Rise s.parts[i].l s.nodes.length by
          rcases Nat.lt_or_ge i k with h'' | h''
          · exact HA.out i hi h''
          · obtain rfl : i = k := by omega
            exact h))
      generalize s.parts[k] = p at q0 HSP HWL HL HG
      have HP := Lib.hid (fun w' (h : SlAt w' p) => rrising p.a p.cap p.l (s.nodes.length : Int) w' h HWL)
      go_wp2_with fail
      have c0 := carry hb b0
      by_cases hne : p.l = []
      · have E := Lib.hid (HL.out (fun z => z.1 hne))
        have hz1 : decide ((p.l.length : Int) < 1) = true := by rw [hne]; rfl
        clear hne
        refine region_mono (rpSp w.heap.size b off k s.parts.length s.pc p s.na s.nodes.length s.nc true true) [11, 12, 13, 14, 15, 16, 17, 18, 19, 20, 21, 22, 23, 24, 25, 26, 27, 28, 29] (by kernel_rfl) (by kernel_rfl) (by kernel_rfl) (by kernel_rfl) (stables_cons (Sp.c_stable _ _) (stables_cons (Sp.c_stable _ _) (stables_cons (Sp.c_stable _ _) (stables_cons (Sp.c_stable _ _) (stables_cons (Sp.c_stable _ _) (stables_cons (Sp.c_stable _ _) (stables_cons (Sp.c_stable _ _) (stables_cons (Sp.c_stable _ _) (stables_cons (Sp.g_stable _ _ _) (stables_cons (Sp.g_stable _ _ _) (stables_cons (Sp.g_stable _ _ _) (stables_cons (Sp.g_stable _ _ _) (stables_cons (Sp.g_stable _ _ _) (stables_cons (Sp.g_stable _ _ _) (stables_cons (Sp.g_stable _ _ _) (stables_cons (Sp.g_stable _ _ _) (stables_cons (Sp.g_stable _ _ _) (stables_cons (Sp.g_stable _ _ _) (stables_cons (Sp.c_stable _ _) (trivial)))))))))))))))))))) ?_ ?_
        · intro am wm L hbm hbase hbase2
          have s1 : am.tmps.getD 1 undef = .pointer (some ⟨w.heap.size, 0, none⟩) := (hbase 1 rfl).trans (by simp only [Array.getD_eq_getD_getElem?, List.getElem?_toArray, List.getElem?_cons_succ, List.getElem?_cons_zero, Option.getD_some])
          have s3 : am.tmps.getD 3 undef = .int .i64 k := (hbase 3 rfl).trans (by simp only [Array.getD_eq_getD_getElem?, List.getElem?_toArray, List.getElem?_cons_succ, List.getElem?_cons_zero, Option.getD_some])
          clear hbase hbase2
          have m0 := carry hbm c0
          have m1 := carry hbm d1
          have m2 := carry hbm q0
          refine steps_cons (fun hn hl => ?_) fun H0 => ?_
          · skip
            clear hn hl 
            refine stepC (wanted_free rfl) fun K hK => ?_
            go_simp
            exact hK _ (Below.refl _ _)
          refine steps_cons (fun hn hl => ?_) fun H1 => ?_
          · skip
            have h11 := Sp.of_c (H0 (hn 0 (show 0 ∈ [0] from .head _)))
            clear hn hl H0
            refine stepC (wanted_free rfl) fun K hK => ?_
            go_simp
            exact hK _ (Below.refl _ _)
          refine steps_cons (fun hn hl => ?_) fun H2 => ?_
          · skip
            clear hn hl H0 H1
            refine stepC (wanted_free rfl) fun K hK => ?_
            go_simp
            exact hK _ (Below.refl _ _)
          refine steps_cons (fun hn hl => ?_) fun H3 => ?_
          · skip
            have h12 := Sp.of_c (H1 (hn 1 (show 1 ∈ [1, 2] from .head _)))
            have h13 := Sp.of_c (H2 (hn 2 (show 2 ∈ [1, 2] from .tail _ (.head _))))
            clear hn hl H0 H1 H2
            refine stepC (wanted_free rfl) fun K hK => ?_
            go_simp
            exact hK _ (Below.refl _ _)
          refine steps_cons (fun hn hl => ?_) fun H4 => ?_
          · skip
            have h14 := Sp.of_c (H3 (hn 3 (show 3 ∈ [3] from .head _)))
            clear hn hl H0 H1 H2 H3
            refine stepC (wanted_free rfl) fun K hK => ?_
            go_simp
            exact hK _ (Below.refl _ _)
          refine steps_cons (fun hn hl => ?_) fun H5 => ?_
          · skip
            have h15 := Sp.of_c (H4 (hn 4 (show 4 ∈ [4] from .head _)))
            clear hn hl H0 H1 H2 H3 H4
            refine stepC (wanted_free rfl) fun K hK => ?_
            go_simp
            exact hK _ (Below.refl _ _)
          refine steps_cons (fun hn hl => ?_) fun H6 => ?_
          · skip
            have h16 := Sp.of_c (H5 (hn 5 (show 5 ∈ [5] from .head _)))
            clear hn hl H0 H1 H2 H3 H4 H5
            refine stepC (wanted_free rfl) fun K hK => ?_
            go_simp
            exact hK _ (Below.refl _ _)
          refine steps_cons (fun hn hl => ?_) fun H7 => ?_
          · skip
            have h17 := Sp.of_c (H6 (hn 6 (show 6 ∈ [6] from .head _)))
            clear hn hl H0 H1 H2 H3 H4 H5 H6
            refine stepC (wanted_free rfl) fun K hK => ?_
            go_simp
            exact hK _ (Below.refl _ _)
          refine steps_cons (fun hn hl => ?_) fun H8 => ?_
          · skip
            have h18 := Sp.of_c (H7 (hn 7 (show 7 ∈ [7] from .head _)))
            clear hn hl H0 H1 H2 H3 H4 H5 H6 H7
            exact stepN (unwanted_guard rfl rfl h18 rfl)
          refine steps_cons (fun hn hl => ?_) fun H9 => ?_
          · skip
            have h19 := Sp.of_off (H8 (hn 8 (show 8 ∈ [8, 7] from .head _))) rfl
            have h18 := Sp.of_c (H7 (hn 7 (show 7 ∈ [8, 7] from .tail _ (.head _))))
            clear hn hl H0 H1 H2 H3 H4 H5 H6 H7 H8
            exact stepN (unwanted_guard rfl rfl h18 rfl)
          refine steps_cons (fun hn hl => ?_) fun H10 => ?_
          · skip
            have h18 := Sp.of_c (H7 (hn 7 (show 7 ∈ [7] from .head _)))
            clear hn hl H0 H1 H2 H3 H4 H5 H6 H7 H8 H9
            exact stepN (unwanted_guard rfl rfl h18 rfl)
          refine steps_cons (fun hn hl => ?_) fun H11 => ?_
          · skip
            have h20 := Sp.of_off (H9 (hn 9 (show 9 ∈ [9, 10, 7] from .head _))) rfl
            have h21 := Sp.of_off (H10 (hn 10 (show 10 ∈ [9, 10, 7] from .tail _ (.head _)))) rfl
            have h18 := Sp.of_c (H7 (hn 7 (show 7 ∈ [9, 10, 7] from .tail _ (.tail _ (.head _)))))
            clear hn hl H0 H1 H2 H3 H4 H5 H6 H7 H8 H9 H10
            exact stepN (unwanted_guard rfl rfl h18 rfl)
          refine steps_cons (fun hn hl => ?_) fun H12 => ?_
          · skip
            have h22 := Sp.of_off (H11 (hn 11 (show 11 ∈ [11, 7] from .head _))) rfl
            have h18 := Sp.of_c (H7 (hn 7 (show 7 ∈ [11, 7] from .tail _ (.head _))))
            clear hn hl H0 H1 H2 H3 H4 H5 H6 H7 H8 H9 H10 H11
            exact stepN (unwanted_guard rfl rfl h18 rfl)
          refine steps_cons (fun hn hl => ?_) fun H13 => ?_
          · skip
            have h18 := Sp.of_c (H7 (hn 7 (show 7 ∈ [7] from .head _)))
            clear hn hl H0 H1 H2 H3 H4 H5 H6 H7 H8 H9 H10 H11 H12
            exact stepN (unwanted_guard rfl rfl h18 rfl)
          refine steps_cons (fun hn hl => ?_) fun H14 => ?_
          · skip
            have h24 := Sp.of_off (H13 (hn 13 (show 13 ∈ [13, 7] from .head _))) rfl
            have h18 := Sp.of_c (H7 (hn 7 (show 7 ∈ [13, 7] from .tail _ (.head _))))
            clear hn hl H0 H1 H2 H3 H4 H5 H6 H7 H8 H9 H10 H11 H12 H13
            exact stepN (unwanted_guard rfl rfl h18 rfl)
          refine steps_cons (fun hn hl => ?_) fun H15 => ?_
          · skip
            have h25 := Sp.of_off (H14 (hn 14 (show 14 ∈ [14, 7] from .head _))) rfl
            have h18 := Sp.of_c (H7 (hn 7 (show 7 ∈ [14, 7] from .tail _ (.head _))))
            clear hn hl H0 H1 H2 H3 H4 H5 H6 H7 H8 H9 H10 H11 H12 H13 H14
            exact stepN (unwanted_guard rfl rfl h18 rfl)
          refine steps_cons (fun hn hl => ?_) fun H16 => ?_
          · skip
            have h23 := Sp.of_off (H12 (hn 12 (show 12 ∈ [12, 15, 7] from .head _))) rfl
            have h26 := Sp.of_off (H15 (hn 15 (show 15 ∈ [12, 15, 7] from .tail _ (.head _)))) rfl
            have h18 := Sp.of_c (H7 (hn 7 (show 7 ∈ [12, 15, 7] from .tail _ (.tail _ (.head _)))))
            clear hn hl H0 H1 H2 H3 H4 H5 H6 H7 H8 H9 H10 H11 H12 H13 H14 H15
            exact stepN (unwanted_guard rfl rfl h18 rfl)
          refine steps_cons (fun hn hl => ?_) fun H17 => ?_
          · skip
            have h27 := Sp.of_off (H16 (hn 16 (show 16 ∈ [16, 7] from .head _))) rfl
            have h18 := Sp.of_c (H7 (hn 7 (show 7 ∈ [16, 7] from .tail _ (.head _))))
            clear hn hl H0 H1 H2 H3 H4 H5 H6 H7 H8 H9 H10 H11 H12 H13 H14 H15 H16
            exact stepN (unwanted_guard rfl rfl h18 rfl)
          refine steps_cons (fun hn hl => ?_) fun H18 => ?_
          · skip
            have h18 := Sp.of_c (H7 (hn 7 (show 7 ∈ [7, 17] from .head _)))
            have h28 := Sp.of_off (H17 (hn 17 (show 17 ∈ [7, 17] from .tail _ (.head _)))) rfl
            clear hn hl H0 H1 H2 H3 H4 H5 H6 H7 H8 H9 H10 H11 H12 H13 H14 H15 H16 H17
            refine stepC (wanted_free rfl) fun K hK => ?_
            go_simp
            exact hK _ (Below.refl _ _)
          exact trivial
        · intro w5 hb5
          have hz5 := hb5.size
          refine end_cons ?_; rintro _ rfl
          refine end_cons ?_; rintro _ rfl
          refine end_cons ?_; rintro _ rfl
          refine end_cons ?_; rintro _ rfl
          refine end_cons ?_; rintro _ rfl
          refine end_cons ?_; rintro _ rfl
          refine end_cons ?_; rintro _ rfl
          refine end_cons ?_; rintro _ rfl
          refine end_cons ?_; rintro _ rfl
          refine end_cons ?_; rintro _ rfl
          refine end_cons ?_; rintro _ rfl
          refine end_cons ?_; rintro _ rfl
          refine end_cons ?_; rintro _ rfl
          refine end_cons ?_; rintro _ rfl
          refine end_cons ?_; rintro _ rfl
          refine end_cons ?_; rintro _ rfl
          refine end_cons ?_; rintro _ rfl
          refine end_cons ?_; rintro _ rfl
          refine end_cons ?_; rintro _ rfl
          refine end_nil ?_
          simp only [List.setIfInBounds_toArray, List.set_cons_succ, List.set_cons_zero, Bool.not_false, Bool.not_true, Bool.true_or, Bool.or_true, Bool.false_or, Bool.or_false]
          go_wp2
          go_ret
          exact ⟨by rw [E.out]; rfl, (by repeat' (first | exact Below.refl _ _ | assumption | exact And.left (by assumption) | refine Below.drew ?_ | refine below_drewN ?_ _ | refine Below.setCell ?_ (by first | (simp; done) | (simp; omega) | omega) _ | refine Below.alloc ?_ (by first | (simp; done) | (simp; omega) | omega) _ | refine after (by assumption) (by first | (simp; done) | (simp; omega) | omega) ?_))⟩
      · have hpos : 0 < p.l.length := List.length_pos_iff.2 hne
        have hz1 : decide ((p.l.length : Int) < 1) = false := by simp; omega
        by_cases ho : Rise p.l s.nodes.length
        · rw [show riseB p.l s.nodes.length = true from decide_eq_true ho] at HP
          have HO := Lib.hid (HG.out ⟨hne, ho⟩)
          clear ho hne hpos
          refine region_mono (rpSp w.heap.size b off k s.parts.length s.pc p s.na s.nodes.length s.nc false true) [11, 12, 13, 14, 15, 16, 17, 18, 19, 20, 21, 22, 23, 24, 25, 26, 27, 28, 29] (by kernel_rfl) (by kernel_rfl) (by kernel_rfl) (by kernel_rfl) (stables_cons (Sp.c_stable _ _) (stables_cons (Sp.c_stable _ _) (stables_cons (Sp.c_stable _ _) (stables_cons (Sp.c_stable _ _) (stables_cons (Sp.c_stable _ _) (stables_cons (Sp.c_stable _ _) (stables_cons (Sp.c_stable _ _) (stables_cons (Sp.c_stable _ _) (stables_cons (Sp.g_stable _ _ _) (stables_cons (Sp.g_stable _ _ _) (stables_cons (Sp.g_stable _ _ _) (stables_cons (Sp.g_stable _ _ _) (stables_cons (Sp.g_stable _ _ _) (stables_cons (Sp.g_stable _ _ _) (stables_cons (Sp.g_stable _ _ _) (stables_cons (Sp.g_stable _ _ _) (stables_cons (Sp.g_stable _ _ _) (stables_cons (Sp.g_stable _ _ _) (stables_cons (Sp.c_stable _ _) (trivial)))))))))))))))))))) ?_ ?_
          · intro am wm L hbm hbase hbase2
            have s1 : am.tmps.getD 1 undef = .pointer (some ⟨w.heap.size, 0, none⟩) := (hbase 1 rfl).trans (by simp only [Array.getD_eq_getD_getElem?, List.getElem?_toArray, List.getElem?_cons_succ, List.getElem?_cons_zero, Option.getD_some])
            have s3 : am.tmps.getD 3 undef = .int .i64 k := (hbase 3 rfl).trans (by simp only [Array.getD_eq_getD_getElem?, List.getElem?_toArray, List.getElem?_cons_succ, List.getElem?_cons_zero, Option.getD_some])
            clear hbase hbase2
            have m0 := carry hbm c0
            have m1 := carry hbm d1
            have m2 := carry hbm q0
            refine steps_cons (fun hn hl => ?_) fun H0 => ?_
            · skip
              clear hn hl 
              refine stepC (wanted_free rfl) fun K hK => ?_
              go_simp
              exact hK _ (Below.refl _ _)
            refine steps_cons (fun hn hl => ?_) fun H1 => ?_
            · skip
              have h11 := Sp.of_c (H0 (hn 0 (show 0 ∈ [0] from .head _)))
              clear hn hl H0
              refine stepC (wanted_free rfl) fun K hK => ?_
              go_simp
              exact hK _ (Below.refl _ _)
            refine steps_cons (fun hn hl => ?_) fun H2 => ?_
            · skip
              clear hn hl H0 H1
              refine stepC (wanted_free rfl) fun K hK => ?_
              go_simp
              exact hK _ (Below.refl _ _)
            refine steps_cons (fun hn hl => ?_) fun H3 => ?_
            · skip
              have h12 := Sp.of_c (H1 (hn 1 (show 1 ∈ [1, 2] from .head _)))
              have h13 := Sp.of_c (H2 (hn 2 (show 2 ∈ [1, 2] from .tail _ (.head _))))
              clear hn hl H0 H1 H2
              refine stepC (wanted_free rfl) fun K hK => ?_
              go_simp
              exact hK _ (Below.refl _ _)
            refine steps_cons (fun hn hl => ?_) fun H4 => ?_
            · skip
              have h14 := Sp.of_c (H3 (hn 3 (show 3 ∈ [3] from .head _)))
              clear hn hl H0 H1 H2 H3
              refine stepC (wanted_free rfl) fun K hK => ?_
              go_simp
              exact hK _ (Below.refl _ _)
            refine steps_cons (fun hn hl => ?_) fun H5 => ?_
            · skip
              have h15 := Sp.of_c (H4 (hn 4 (show 4 ∈ [4] from .head _)))
              clear hn hl H0 H1 H2 H3 H4
              refine stepC (wanted_free rfl) fun K hK => ?_
              go_simp
              exact hK _ (Below.refl _ _)
            refine steps_cons (fun hn hl => ?_) fun H6 => ?_
            · skip
              have h16 := Sp.of_c (H5 (hn 5 (show 5 ∈ [5] from .head _)))
              clear hn hl H0 H1 H2 H3 H4 H5
              refine stepC (wanted_free rfl) fun K hK => ?_
              go_simp
              exact hK _ (Below.refl _ _)
            refine steps_cons (fun hn hl => ?_) fun H7 => ?_
            · skip
              have h17 := Sp.of_c (H6 (hn 6 (show 6 ∈ [6] from .head _)))
              clear hn hl H0 H1 H2 H3 H4 H5 H6
              refine stepC (wanted_free rfl) fun K hK => ?_
              go_simp
              exact hK _ (Below.refl _ _)
            refine steps_cons (fun hn hl => ?_) fun H8 => ?_
            · skip
              have h18 := Sp.of_c (H7 (hn 7 (show 7 ∈ [7] from .head _)))
              clear hn hl H0 H1 H2 H3 H4 H5 H6 H7
              refine stepC (wanted_guard rfl rfl h18 rfl) fun K hK => ?_
              go_simp
              exact hK _ (Below.refl _ _)
            refine steps_cons (fun hn hl => ?_) fun H9 => ?_
            · skip
              have h19 := Sp.of_g (H8 (hn 8 (show 8 ∈ [8, 7] from .head _))) rfl
              have h18 := Sp.of_c (H7 (hn 7 (show 7 ∈ [8, 7] from .tail _ (.head _))))
              clear hn hl H0 H1 H2 H3 H4 H5 H6 H7 H8
              refine stepC (wanted_guard rfl rfl h18 rfl) fun K hK => ?_
              go_simp
              exact hK _ (Below.refl _ _)
            refine steps_cons (fun hn hl => ?_) fun H10 => ?_
            · skip
              have h18 := Sp.of_c (H7 (hn 7 (show 7 ∈ [7] from .head _)))
              clear hn hl H0 H1 H2 H3 H4 H5 H6 H7 H8 H9
              refine stepC (wanted_guard rfl rfl h18 rfl) fun K hK => ?_
              go_simp
              exact hK _ (Below.refl _ _)
            refine steps_cons (fun hn hl => ?_) fun H11 => ?_
            · skip
              have h20 := Sp.of_g (H9 (hn 9 (show 9 ∈ [9, 10, 7] from .head _))) rfl
              have h21 := Sp.of_g (H10 (hn 10 (show 10 ∈ [9, 10, 7] from .tail _ (.head _)))) rfl
              have h18 := Sp.of_c (H7 (hn 7 (show 7 ∈ [9, 10, 7] from .tail _ (.tail _ (.head _)))))
              clear hn hl H0 H1 H2 H3 H4 H5 H6 H7 H8 H9 H10
              refine stepC (wanted_guard rfl rfl h18 rfl) fun K hK => ?_
              go_simp
              exact hK _ (Below.refl _ _)
            refine steps_cons (fun hn hl => ?_) fun H12 => ?_
            · skip
              have h22 := Sp.of_g (H11 (hn 11 (show 11 ∈ [11, 7] from .head _))) rfl
              have h18 := Sp.of_c (H7 (hn 7 (show 7 ∈ [11, 7] from .tail _ (.head _))))
              clear hn hl H0 H1 H2 H3 H4 H5 H6 H7 H8 H9 H10 H11
              refine stepC (wanted_guard rfl rfl h18 rfl) fun K hK => ?_
              go_simp
              exact hK _ (Below.refl _ _)
            refine steps_cons (fun hn hl => ?_) fun H13 => ?_
            · skip
              have h18 := Sp.of_c (H7 (hn 7 (show 7 ∈ [7] from .head _)))
              clear hn hl H0 H1 H2 H3 H4 H5 H6 H7 H8 H9 H10 H11 H12
              refine stepC (wanted_guard rfl rfl h18 rfl) fun K hK => ?_
              go_simp
              exact hK _ (Below.refl _ _)
            refine steps_cons (fun hn hl => ?_) fun H14 => ?_
            · skip
              have h24 := Sp.of_g (H13 (hn 13 (show 13 ∈ [13, 7] from .head _))) rfl
              have h18 := Sp.of_c (H7 (hn 7 (show 7 ∈ [13, 7] from .tail _ (.head _))))
              clear hn hl H0 H1 H2 H3 H4 H5 H6 H7 H8 H9 H10 H11 H12 H13
              refine stepC (wanted_guard rfl rfl h18 rfl) fun K hK => ?_
              go_simp
              exact hK _ (Below.refl _ _)
            refine steps_cons (fun hn hl => ?_) fun H15 => ?_
            · skip
              have h25 := Sp.of_g (H14 (hn 14 (show 14 ∈ [14, 7] from .head _))) rfl
              have h18 := Sp.of_c (H7 (hn 7 (show 7 ∈ [14, 7] from .tail _ (.head _))))
              clear hn hl H0 H1 H2 H3 H4 H5 H6 H7 H8 H9 H10 H11 H12 H13 H14
              refine stepC (wanted_guard rfl rfl h18 rfl) fun K hK => ?_
              go_simp
              exact hK _ (Below.refl _ _)
            refine steps_cons (fun hn hl => ?_) fun H16 => ?_
            · skip
              have h23 := Sp.of_g (H12 (hn 12 (show 12 ∈ [12, 15, 7] from .head _))) rfl
              have h26 := Sp.of_g (H15 (hn 15 (show 15 ∈ [12, 15, 7] from .tail _ (.head _)))) rfl
              have h18 := Sp.of_c (H7 (hn 7 (show 7 ∈ [12, 15, 7] from .tail _ (.tail _ (.head _)))))
              clear hn hl H0 H1 H2 H3 H4 H5 H6 H7 H8 H9 H10 H11 H12 H13 H14 H15
              refine stepC (wanted_guard rfl rfl h18 rfl) fun K hK => ?_
              go_simp
              first
                | ((refine (HP.out _ (SlAt.later HSP.out hbm)).mono ?_; rintro e w6 ⟨rfl, hb6⟩; exact hK _ hb6))
            refine steps_cons (fun hn hl => ?_) fun H17 => ?_
            · skip
              have h27 := Sp.of_g (H16 (hn 16 (show 16 ∈ [16, 7] from .head _))) rfl
              have h18 := Sp.of_c (H7 (hn 7 (show 7 ∈ [16, 7] from .tail _ (.head _))))
              clear hn hl H0 H1 H2 H3 H4 H5 H6 H7 H8 H9 H10 H11 H12 H13 H14 H15 H16
              refine stepC (wanted_guard rfl rfl h18 rfl) fun K hK => ?_
              go_simp
              exact hK _ (Below.refl _ _)
            refine steps_cons (fun hn hl => ?_) fun H18 => ?_
            · skip
              have h18 := Sp.of_c (H7 (hn 7 (show 7 ∈ [7, 17] from .head _)))
              have h28 := Sp.of_g (H17 (hn 17 (show 17 ∈ [7, 17] from .tail _ (.head _)))) rfl
              clear hn hl H0 H1 H2 H3 H4 H5 H6 H7 H8 H9 H10 H11 H12 H13 H14 H15 H16 H17
              refine stepC (wanted_free rfl) fun K hK => ?_
              go_simp
              exact hK _ (Below.refl _ _)
            exact trivial
          · intro w5 hb5
            have hz5 := hb5.size
            refine end_cons ?_; rintro _ rfl
            refine end_cons ?_; rintro _ rfl
            refine end_cons ?_; rintro _ rfl
            refine end_cons ?_; rintro _ rfl
            refine end_cons ?_; rintro _ rfl
            refine end_cons ?_; rintro _ rfl
            refine end_cons ?_; rintro _ rfl
            refine end_cons ?_; rintro _ rfl
            refine end_cons ?_; rintro _ rfl
            refine end_cons ?_; rintro _ rfl
            refine end_cons ?_; rintro _ rfl
            refine end_cons ?_; rintro _ rfl
            refine end_cons ?_; rintro _ rfl
            refine end_cons ?_; rintro _ rfl
            refine end_cons ?_; rintro _ rfl
            refine end_cons ?_; rintro _ rfl
            refine end_cons ?_; rintro _ rfl
            refine end_cons ?_; rintro _ rfl
            refine end_cons ?_; rintro _ rfl
            refine end_nil ?_
            simp only [List.setIfInBounds_toArray, List.set_cons_succ, List.set_cons_zero, Bool.not_false, Bool.not_true, Bool.true_or, Bool.or_true, Bool.false_or, Bool.or_false]
            go_wp2
            go_roundw
            case rel => exact ⟨k + 1, by omega, by go_num, (by repeat' (first | exact Below.refl _ _ | assumption | exact And.left (by assumption) | refine Below.drew ?_ | refine below_drewN ?_ _ | refine Below.setCell ?_ (by first | (simp; done) | (simp; omega) | omega) _ | refine Below.alloc ?_ (by first | (simp; done) | (simp; omega) | omega) _ | refine after (by assumption) (by first | (simp; done) | (simp; omega) | omega) ?_)), HO⟩
            case measure => simp [intOf]; omega
        · rw [show riseB p.l s.nodes.length = false from decide_eq_false ho] at HP
          have E := Lib.hid (HL.out fun z => ho z.2)
          clear ho hne hpos
          refine region_mono (rpSp w.heap.size b off k s.parts.length s.pc p s.na s.nodes.length s.nc false false) [11, 12, 13, 14, 15, 16, 17, 18, 19, 20, 21, 22, 23, 24, 25, 26, 27, 28, 29] (by kernel_rfl) (by kernel_rfl) (by kernel_rfl) (by kernel_rfl) (stables_cons (Sp.c_stable _ _) (stables_cons (Sp.c_stable _ _) (stables_cons (Sp.c_stable _ _) (stables_cons (Sp.c_stable _ _) (stables_cons (Sp.c_stable _ _) (stables_cons (Sp.c_stable _ _) (stables_cons (Sp.c_stable _ _) (stables_cons (Sp.c_stable _ _) (stables_cons (Sp.g_stable _ _ _) (stables_cons (Sp.g_stable _ _ _) (stables_cons (Sp.g_stable _ _ _) (stables_cons (Sp.g_stable _ _ _) (stables_cons (Sp.g_stable _ _ _) (stables_cons (Sp.g_stable _ _ _) (stables_cons (Sp.g_stable _ _ _) (stables_cons (Sp.g_stable _ _ _) (stables_cons (Sp.g_stable _ _ _) (stables_cons (Sp.g_stable _ _ _) (stables_cons (Sp.c_stable _ _) (trivial)))))))))))))))))))) ?_ ?_
          · intro am wm L hbm hbase hbase2
            have s1 : am.tmps.getD 1 undef = .pointer (some ⟨w.heap.size, 0, none⟩) := (hbase 1 rfl).trans (by simp only [Array.getD_eq_getD_getElem?, List.getElem?_toArray, List.getElem?_cons_succ, List.getElem?_cons_zero, Option.getD_some])
            have s3 : am.tmps.getD 3 undef = .int .i64 k := (hbase 3 rfl).trans (by simp only [Array.getD_eq_getD_getElem?, List.getElem?_toArray, List.getElem?_cons_succ, List.getElem?_cons_zero, Option.getD_some])
            clear hbase hbase2
            have m0 := carry hbm c0
            have m1 := carry hbm d1
            have m2 := carry hbm q0
            refine steps_cons (fun hn hl => ?_) fun H0 => ?_
            · skip
              clear hn hl 
              refine stepC (wanted_free rfl) fun K hK => ?_
              go_simp
              exact hK _ (Below.refl _ _)
            refine steps_cons (fun hn hl => ?_) fun H1 => ?_
            · skip
              have h11 := Sp.of_c (H0 (hn 0 (show 0 ∈ [0] from .head _)))
              clear hn hl H0
              refine stepC (wanted_free rfl) fun K hK => ?_
              go_simp
              exact hK _ (Below.refl _ _)
            refine steps_cons (fun hn hl => ?_) fun H2 => ?_
            · skip
              clear hn hl H0 H1
              refine stepC (wanted_free rfl) fun K hK => ?_
              go_simp
              exact hK _ (Below.refl _ _)
            refine steps_cons (fun hn hl => ?_) fun H3 => ?_
            · skip
              have h12 := Sp.of_c (H1 (hn 1 (show 1 ∈ [1, 2] from .head _)))
              have h13 := Sp.of_c (H2 (hn 2 (show 2 ∈ [1, 2] from .tail _ (.head _))))
              clear hn hl H0 H1 H2
              refine stepC (wanted_free rfl) fun K hK => ?_
              go_simp
              exact hK _ (Below.refl _ _)
            refine steps_cons (fun hn hl => ?_) fun H4 => ?_
            · skip
              have h14 := Sp.of_c (H3 (hn 3 (show 3 ∈ [3] from .head _)))
              clear hn hl H0 H1 H2 H3
              refine stepC (wanted_free rfl) fun K hK => ?_
              go_simp
              exact hK _ (Below.refl _ _)
            refine steps_cons (fun hn hl => ?_) fun H5 => ?_
            · skip
              have h15 := Sp.of_c (H4 (hn 4 (show 4 ∈ [4] from .head _)))
              clear hn hl H0 H1 H2 H3 H4
              refine stepC (wanted_free rfl) fun K hK => ?_
              go_simp
              exact hK _ (Below.refl _ _)
            refine steps_cons (fun hn hl => ?_) fun H6 => ?_
            · skip
              have h16 := Sp.of_c (H5 (hn 5 (show 5 ∈ [5] from .head _)))
              clear hn hl H0 H1 H2 H3 H4 H5
              refine stepC (wanted_free rfl) fun K hK => ?_
              go_simp
              exact hK _ (Below.refl _ _)
            refine steps_cons (fun hn hl => ?_) fun H7 => ?_
            · skip
              have h17 := Sp.of_c (H6 (hn 6 (show 6 ∈ [6] from .head _)))
              clear hn hl H0 H1 H2 H3 H4 H5 H6
              refine stepC (wanted_free rfl) fun K hK => ?_
              go_simp
              exact hK _ (Below.refl _ _)
            refine steps_cons (fun hn hl => ?_) fun H8 => ?_
            · skip
              have h18 := Sp.of_c (H7 (hn 7 (show 7 ∈ [7] from .head _)))
              clear hn hl H0 H1 H2 H3 H4 H5 H6 H7
              refine stepC (wanted_guard rfl rfl h18 rfl) fun K hK => ?_
              go_simp
              exact hK _ (Below.refl _ _)
            refine steps_cons (fun hn hl => ?_) fun H9 => ?_
            · skip
              have h19 := Sp.of_g (H8 (hn 8 (show 8 ∈ [8, 7] from .head _))) rfl
              have h18 := Sp.of_c (H7 (hn 7 (show 7 ∈ [8, 7] from .tail _ (.head _))))
              clear hn hl H0 H1 H2 H3 H4 H5 H6 H7 H8
              refine stepC (wanted_guard rfl rfl h18 rfl) fun K hK => ?_
              go_simp
              exact hK _ (Below.refl _ _)
            refine steps_cons (fun hn hl => ?_) fun H10 => ?_
            · skip
              have h18 := Sp.of_c (H7 (hn 7 (show 7 ∈ [7] from .head _)))
              clear hn hl H0 H1 H2 H3 H4 H5 H6 H7 H8 H9
              refine stepC (wanted_guard rfl rfl h18 rfl) fun K hK => ?_
              go_simp
              exact hK _ (Below.refl _ _)
            refine steps_cons (fun hn hl => ?_) fun H11 => ?_
            · skip
              have h20 := Sp.of_g (H9 (hn 9 (show 9 ∈ [9, 10, 7] from .head _))) rfl
              have h21 := Sp.of_g (H10 (hn 10 (show 10 ∈ [9, 10, 7] from .tail _ (.head _)))) rfl
              have h18 := Sp.of_c (H7 (hn 7 (show 7 ∈ [9, 10, 7] from .tail _ (.tail _ (.head _)))))
              clear hn hl H0 H1 H2 H3 H4 H5 H6 H7 H8 H9 H10
              refine stepC (wanted_guard rfl rfl h18 rfl) fun K hK => ?_
              go_simp
              exact hK _ (Below.refl _ _)
            refine steps_cons (fun hn hl => ?_) fun H12 => ?_
            · skip
              have h22 := Sp.of_g (H11 (hn 11 (show 11 ∈ [11, 7] from .head _))) rfl
              have h18 := Sp.of_c (H7 (hn 7 (show 7 ∈ [11, 7] from .tail _ (.head _))))
              clear hn hl H0 H1 H2 H3 H4 H5 H6 H7 H8 H9 H10 H11
              refine stepC (wanted_guard rfl rfl h18 rfl) fun K hK => ?_
              go_simp
              exact hK _ (Below.refl _ _)
            refine steps_cons (fun hn hl => ?_) fun H13 => ?_
            · skip
              have h18 := Sp.of_c (H7 (hn 7 (show 7 ∈ [7] from .head _)))
              clear hn hl H0 H1 H2 H3 H4 H5 H6 H7 H8 H9 H10 H11 H12
              refine stepC (wanted_guard rfl rfl h18 rfl) fun K hK => ?_
              go_simp
              exact hK _ (Below.refl _ _)
            refine steps_cons (fun hn hl => ?_) fun H14 => ?_
            · skip
              have h24 := Sp.of_g (H13 (hn 13 (show 13 ∈ [13, 7] from .head _))) rfl
              have h18 := Sp.of_c (H7 (hn 7 (show 7 ∈ [13, 7] from .tail _ (.head _))))
              clear hn hl H0 H1 H2 H3 H4 H5 H6 H7 H8 H9 H10 H11 H12 H13
              refine stepC (wanted_guard rfl rfl h18 rfl) fun K hK => ?_
              go_simp
              exact hK _ (Below.refl _ _)
            refine steps_cons (fun hn hl => ?_) fun H15 => ?_
            · skip
              have h25 := Sp.of_g (H14 (hn 14 (show 14 ∈ [14, 7] from .head _))) rfl
              have h18 := Sp.of_c (H7 (hn 7 (show 7 ∈ [14, 7] from .tail _ (.head _))))
              clear hn hl H0 H1 H2 H3 H4 H5 H6 H7 H8 H9 H10 H11 H12 H13 H14
              refine stepC (wanted_guard rfl rfl h18 rfl) fun K hK => ?_
              go_simp
              exact hK _ (Below.refl _ _)
            refine steps_cons (fun hn hl => ?_) fun H16 => ?_
            · skip
              have h23 := Sp.of_g (H12 (hn 12 (show 12 ∈ [12, 15, 7] from .head _))) rfl
              have h26 := Sp.of_g (H15 (hn 15 (show 15 ∈ [12, 15, 7] from .tail _ (.head _)))) rfl
              have h18 := Sp.of_c (H7 (hn 7 (show 7 ∈ [12, 15, 7] from .tail _ (.tail _ (.head _)))))
              clear hn hl H0 H1 H2 H3 H4 H5 H6 H7 H8 H9 H10 H11 H12 H13 H14 H15
              refine stepC (wanted_guard rfl rfl h18 rfl) fun K hK => ?_
              go_simp
              first
                | ((refine (HP.out _ (SlAt.later HSP.out hbm)).mono ?_; rintro e w6 ⟨rfl, hb6⟩; exact hK _ hb6))
            refine steps_cons (fun hn hl => ?_) fun H17 => ?_
            · skip
              have h27 := Sp.of_g (H16 (hn 16 (show 16 ∈ [16, 7] from .head _))) rfl
              have h18 := Sp.of_c (H7 (hn 7 (show 7 ∈ [16, 7] from .tail _ (.head _))))
              clear hn hl H0 H1 H2 H3 H4 H5 H6 H7 H8 H9 H10 H11 H12 H13 H14 H15 H16
              refine stepC (wanted_guard rfl rfl h18 rfl) fun K hK => ?_
              go_simp
              exact hK _ (Below.refl _ _)
            refine steps_cons (fun hn hl => ?_) fun H18 => ?_
            · skip
              have h18 := Sp.of_c (H7 (hn 7 (show 7 ∈ [7, 17] from .head _)))
              have h28 := Sp.of_g (H17 (hn 17 (show 17 ∈ [7, 17] from .tail _ (.head _)))) rfl
              clear hn hl H0 H1 H2 H3 H4 H5 H6 H7 H8 H9 H10 H11 H12 H13 H14 H15 H16 H17
              refine stepC (wanted_free rfl) fun K hK => ?_
              go_simp
              exact hK _ (Below.refl _ _)
            exact trivial
          · intro w5 hb5
            have hz5 := hb5.size
            refine end_cons ?_; rintro _ rfl
            refine end_cons ?_; rintro _ rfl
            refine end_cons ?_; rintro _ rfl
            refine end_cons ?_; rintro _ rfl
            refine end_cons ?_; rintro _ rfl
            refine end_cons ?_; rintro _ rfl
            refine end_cons ?_; rintro _ rfl
            refine end_cons ?_; rintro _ rfl
            refine end_cons ?_; rintro _ rfl
            refine end_cons ?_; rintro _ rfl
            refine end_cons ?_; rintro _ rfl
            refine end_cons ?_; rintro _ rfl
            refine end_cons ?_; rintro _ rfl
            refine end_cons ?_; rintro _ rfl
            refine end_cons ?_; rintro _ rfl
            refine end_cons ?_; rintro _ rfl
            refine end_cons ?_; rintro _ rfl
            refine end_cons ?_; rintro _ rfl
            refine end_cons ?_; rintro _ rfl
            refine end_nil ?_
            simp only [List.setIfInBounds_toArray, List.set_cons_succ, List.set_cons_zero, Bool.not_false, Bool.not_true, Bool.true_or, Bool.or_true, Bool.false_or, Bool.or_false]
            go_wp2
            go_ret
            exact ⟨by rw [E.out]; rfl, (by repeat' (first | exact Below.refl _ _ | assumption | exact And.left (by assumption) | refine Below.drew ?_ | refine below_drewN ?_ _ | refine Below.setCell ?_ (by first | (simp; done) | (simp; omega) | omega) _ | refine Below.alloc ?_ (by first | (simp; done) | (simp; omega) | omega) _ | refine after (by assumption) (by first | (simp; done) | (simp; omega) | omega) ?_))⟩
    · have E := Lib.hid (HT.out fun i hi => HA.out i hi (by omega))
      go_wp2_with fail
      refine (HI.out _).mono ?_; rintro e w2 ⟨rfl, rfl⟩
      go_wp2
      go_ret
      exact ⟨by rw [E.out]; rfl, (by repeat' (first | exact Below.refl _ _ | assumption | exact And.left (by assumption) | refine Below.drew ?_ | refine below_drewN ?_ _ | refine Below.setCell ?_ (by first | (simp; done) | (simp; omega) | omega) _ | refine Below.alloc ?_ (by first | (simp; done) | (simp; omega) | omega) _ | refine after (by assumption) (by first | (simp; done) | (simp; omega) | omega) ?_))⟩
end Go.Proofs.YtgopjpnlpcmldaaGreatDoor.W
