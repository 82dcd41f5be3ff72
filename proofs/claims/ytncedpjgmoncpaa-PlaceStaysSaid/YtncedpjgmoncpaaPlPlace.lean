/-
  Contract of place.Place.
-/
import Derived.Test.YtncedpjgmoncpaaPlFit
import Derived.WalkMore
namespace Go.Proofs.Ytncedpjgmoncpaa.W
set_option linter.unusedVariables false
set_option linter.unusedSimpArgs false
open Go.ChangeShapes Go.WideShapes Go.ChangeAt Go.RowKit

theorem min2_run (P : Program) (ts : Array TypeId) (t : TypeId) (a b : Int) (W : World) : (Builtin.min_ ts t #[.int .i64 a, .int .i64 b]).run P W = .ok (.int .i64 (low b a)) W := by
  simp [Builtin.min_, Builtin.min2]; rfl
/-- what is done, what is left -/
def PlInv (fs : List V) (need : V) (part : List Int) (many : Int) (k : Nat) (left : Int) (acc : List Sh) : Prop :=
  plPut fs need many part = acc ++ plPut fs need left (part.drop k) ∧ plLeft fs need many part = plLeft fs need left (part.drop k)
set_option maxHeartbeats 4000000 in
theorem pPlace (a : Option Addr) (cap : Nat) (fs : List V) (hl : fs.length ≤ 100000) (b : Option Addr) (cb : Nat) (part : List Int) (hp : part.length ≤ 100000) (many : Int) (hm : many ≤ 9223372036854775807) (need : V) (w : World) (HA : VcAt w a cap fs) (HB : NmAt w b cb part) :
    Calls Try.prog 14 #[.slice a fs.length cap, .slice b part.length cb, .int .i64 many, (.agg #[.int .i64 need.cpu, .int .i64 need.mem, .int .i64 need.gpu, .int .i64 need.lic])] w
      fun e w' => ∃ v, e = .returned (.tuple #[v, .bool (placeB fs part many need)]) ∧ w'.ownsRow w.heap.size 39 2 v (placeS fs part many need).length (shsV (placeS fs part many need)) ∧ Below w.heap.size w w' := by
  obtain ⟨i0, hi, hzz, hzs, hzb⟩ := info_parts infoSh
  have HR := Lib.hid HA
  have HP := Lib.hid HB
  have HF := Lib.hid (fun n w' h => pFit a cap fs hl n need w' h)
  have hmn := fun ts t x y W => min2_run Try.prog ts t x y W
  clear HA HB
  go_enter Try.func14, Try.ntmps14
  go_wp2
  generalize hw0 : World.alloc w _ = w0
  have hb0 : Below w.heap.size w w0 := by rw [← hw0]; exact (by repeat' (first | exact Below.refl _ _ | assumption | exact And.left (by assumption) | refine Below.drew ?_ | refine below_drewN ?_ _ | refine Below.setCell ?_ (by first | (simp; done) | (simp; omega) | omega) _ | refine Below.alloc ?_ (by first | (simp; done) | (simp; omega) | omega) _ | refine after (by assumption) (by first | (simp; done) | (simp; omega) | omega) ?_))
  have n0 : w0.cell? ⟨w.heap.size, 0, none⟩ = some (.int .i64 need.cpu) := by rw [← hw0]; simp [go_sem]
  have n1 : w0.cell? ⟨w.heap.size, 1, none⟩ = some (.int .i64 need.mem) := by rw [← hw0]; simp [go_sem]
  have n2 : w0.cell? ⟨w.heap.size, 2, none⟩ = some (.int .i64 need.gpu) := by rw [← hw0]; simp [go_sem]
  have n3 : w0.cell? ⟨w.heap.size, 3, none⟩ = some (.int .i64 need.lic) := by rw [← hw0]; simp [go_sem]
  clear hw0
  have hz0 := hb0.size
  go_step3
  go_wp2
  go_step3
  go_wp2
  have HE := Lib.hid (fun (left : Int) (acc : List Sh) (k : Nat) (hk : left < 1 ∨ part.length ≤ k) (h : PlInv fs need part many k left acc) => (show plPut fs need many part = acc ∧ plLeft fs need many part = left by
    rcases hk with hk | hk
    · rw [h.1, h.2, (put_stop hk _).1, (put_stop hk _).2]; simp
    · rw [h.1, h.2, List.drop_eq_nil_of_le hk]; simp [plPut, plLeft]))
  go_loopw [10, 11, 18] (fun v10 v11 x wr => ∃ k : Nat, k ≤ part.length ∧ x = .int .i64 k ∧ ∃ left : Int, v11 = .int .i64 left ∧ left ≤ many ∧ Below w0.heap.size w0 wr ∧ Hid (∃ acc : List Sh, wr.ownsRow w0.heap.size 39 2 v10 acc.length (shsV acc) ∧ acc.length ≤ k ∧ PlInv fs need part many k left acc)) (fun _ _ x _ => part.length - (intOf x).toNat)
  case atStart => exact ⟨0, Nat.zero_le _, rfl, many, rfl, Int.le_refl _, Below.refl _ _, Lib.hid ⟨[], World.ownsRow_nil _ _ _ _, by simp, by simp [PlInv]⟩⟩
  case round =>
    obtain ⟨k, hk, rfl, left, rfl, hleft, hb, HI⟩ := hrel
    have hz := hb.size
    have hbw := hb0.trans (hb.mono hb0.size)
    by_cases hlt : k < part.length
    · obtain ⟨b1, off, ea, hbl, q0⟩ := (HP.out.later hbw).row.nm hlt
      subst ea
      have HD := Lib.hid (drop_at part k hlt)
      have hfb := fitN_bd fs need part[k]
      have m0 := carry hb n0
      have m1 := carry hb n1
      have m2 := carry hb n2
      have m3 := carry hb n3
      generalize part[k] = n at q0 HD hfb
      have HF2 := Lib.hid (HF.out n)
      have HU := Lib.hid (show fitN fs need n = fitN fs need n from rfl)
      generalize hf : fitN fs need n = f at hfb HF2
      have HFF := Lib.hid hf
      clear hf HU
      go_wp2_with fail
      refine (HF2.out _ (HR.out.later hbw)).mono ?_; rintro e w2 ⟨rfl, hb2⟩
      have hb2' := hb.trans (hb2.mono hz)
      have hz2 := hb2.size
      by_cases h1 : left < 1
      · obtain ⟨acc, hO, hacc, hI⟩ := HI.out
        have hE := HE.out left acc k (.inl h1) hI
        have HX := Lib.hid hE
        have HO := Lib.hid (own_later hO hb2)
        clear hI hE HI hO
        by_cases h2 : many < 1
        · have E : Hid (placeB fs part many need = false ∧ placeS fs part many need = []) := Lib.hid ⟨decide_eq_false (fun x => x.1 h2), if_neg (fun x => x.1 h2)⟩
          go_wp2
          (try rw [Exit.noGoto_ret])
          go_ret2
          exact ⟨_, by rw [E.out.1]; rfl, by rw [E.out.2]; exact World.ownsRow_nil _ _ _ _, hb0.trans (hb2'.mono hb0.size)⟩
        · have h3 : decide (0 < left) = false := by simp; omega
          have E : Hid (placeB fs part many need = true ∧ placeS fs part many need = acc) := Lib.hid (by
            have : ¬ many < 1 ∧ ¬ 0 < plLeft fs need many part := ⟨h2, by rw [HX.out.2]; omega⟩
            exact ⟨decide_eq_true this, (if_pos this).trans HX.out.1⟩)
          go_wp2
          (try rw [Exit.noGoto_ret])
          go_ret2
          exact ⟨_, by rw [E.out.1]; rfl, by rw [E.out.2]; exact own_more HO.out hz0, hb0.trans (hb2'.mono hb0.size)⟩
      · have hlow := low_bd h1 hfb
        replace hmn := fun ts t W => hmn ts t f left W
        by_cases h2 : low left f = 0
        · have h3 : (low left f == 0) = true := by simpa using h2
          have HX : Hid (∃ acc : List Sh, w2.ownsRow w0.heap.size 39 2 u10 acc.length (shsV acc) ∧ acc.length ≤ k + 1 ∧ PlInv fs need part many (k + 1) left acc) := Lib.hid (by
            obtain ⟨acc, hO, hacc, hI⟩ := HI.out
            refine ⟨acc, own_later hO hb2, by omega, ?_⟩
            have := put_skip (fs := fs) (need := need) h1 (n := n) (by rw [HFF.out]; exact h2) (part.drop (k + 1))
            unfold PlInv at hI ⊢
            rw [HD.out, this.1, this.2] at hI
            exact hI)
          clear h2 HI
          generalize low left f = p at h3 hlow hmn
          go_wp2
          go_roundw
          case rel => exact ⟨k + 1, by omega, by go_num, left, rfl, hleft, hb2', HX⟩
          case measure => simp [intOf]; omega
        · have h3 : (low left f == 0) = false := by simpa using h2
          obtain ⟨acc, hO, hacc, hI⟩ := HI.out
          have HO := Lib.hid (own_later hO hb2)
          have HX : Hid (PlInv fs need part many (k + 1) (left - low left f) (acc ++ [⟨n, low left f⟩])) := Lib.hid (by
            have := put_next (fs := fs) (need := need) h1 (n := n) (by rw [HFF.out]; exact h2) (part.drop (k + 1))
            unfold PlInv at hI ⊢
            rw [HD.out, this.1, this.2, HFF.out] at hI
            exact ⟨by rw [hI.1]; simp, hI.2⟩)
          clear h2 HI hI hO
          generalize low left f = p at h3 hlow HX hmn
          generalize hmm : acc.length = m at HO hacc
          have HM := Lib.hid hmm
          clear hmm
          go_wp2_with (at_builtin; refine pushOne _ _ 22 39 2 16 _ i0 Try.underlying22 hi hzz hzs hzb rfl (by decide) (by decide) w0.heap.size w0.heap.size m _ _ _ _ w0 _ rfl rfl rfl rfl rfl HO.out hb2' (Nat.le_refl _) (hb2'.size) (by simp [Value.oneCell']) (by omega) ?_)
          intro v' w3 hown hb3
          have hwr : IntKind.i64.wrap (left - p) = left - p := IntWalk.i64_in _ (by omega)
          go_wp2
          go_roundw
          case rel => exact ⟨k + 1, by omega, by go_num, left - p, rfl, by omega, hb3, Lib.hid ⟨acc ++ [⟨n, p⟩], by rw [List.length_append, shsV_app, shsV_one, HM.out]; exact hown, by rw [List.length_append, HM.out]; simp; omega, HX.out⟩⟩
          case measure => simp [intOf]; omega
    · obtain ⟨acc, hO, hacc, hI⟩ := HI.out
      have hE := HE.out left acc k (.inr (by omega)) hI
      have HX := Lib.hid hE
      have HO := Lib.hid hO
      clear hI hE HI hO
      by_cases h2 : many < 1
      · have E : Hid (placeB fs part many need = false ∧ placeS fs part many need = []) := Lib.hid ⟨decide_eq_false (fun x => x.1 h2), if_neg (fun x => x.1 h2)⟩
        go_wp2
        (try rw [Exit.noGoto_ret])
        go_ret2
        exact ⟨_, by rw [E.out.1]; rfl, by rw [E.out.2]; exact World.ownsRow_nil _ _ _ _, hbw⟩
      · by_cases h4 : 0 < left
        · have h3 : decide (0 < left) = true := by simp; omega
          have E : Hid (placeB fs part many need = false ∧ placeS fs part many need = []) := Lib.hid (by
            have : ¬ (¬ many < 1 ∧ ¬ 0 < plLeft fs need many part) := fun x => x.2 (by rw [HX.out.2]; omega)
            exact ⟨decide_eq_false this, if_neg this⟩)
          go_wp2
          (try rw [Exit.noGoto_ret])
          go_ret2
          exact ⟨_, by rw [E.out.1]; rfl, by rw [E.out.2]; exact World.ownsRow_nil _ _ _ _, hbw⟩
        · have h3 : decide (0 < left) = false := by simp; omega
          have E : Hid (placeB fs part many need = true ∧ placeS fs part many need = acc) := Lib.hid (by
            have : ¬ many < 1 ∧ ¬ 0 < plLeft fs need many part := ⟨h2, by rw [HX.out.2]; omega⟩
            exact ⟨decide_eq_true this, (if_pos this).trans HX.out.1⟩)
          go_wp2
          (try rw [Exit.noGoto_ret])
          go_ret2
          exact ⟨_, by rw [E.out.1]; rfl, by rw [E.out.2]; exact own_more HO.out hz0, hbw⟩
end Go.Proofs.Ytncedpjgmoncpaa.W
