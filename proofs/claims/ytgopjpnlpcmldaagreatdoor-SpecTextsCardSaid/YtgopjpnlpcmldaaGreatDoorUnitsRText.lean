/-
  Contract of drayageref03.Text: a right vector's text.
-/
import Derived.Test.YtgopjpnlpcmldaaGreatDoorJ32
import Derived.Test.YtgopjpnlpcmldaaGreatDoorVecRef
import Derived.Lib.QuietBelow
namespace Go.Proofs.YtgopjpnlpcmldaaGreatDoor.W
set_option linter.unusedVariables false
set_option linter.unusedSimpArgs false
open Go.ChangeShapes Go.WideShapes Go.ChangeAt Go.RowKit

/-- a contract that ends in 'Below', in a world of the class of a region that reads -/
theorem quiet_below {P : Program} {f : FuncId} {args : Array Value} {w : World} {d : Nat} {os : Array Obj} {v : Value}
    (h : ∀ w', Calls P f args w' fun e w'' => e = .returned v ∧ Below w'.heap.size w' w'') : Calls P f args (Go.Sort.grow (redrawn w d) os) fun e w'' => e = .returned v ∧ ∃ p : Regrown, w'' = Go.Sort.grow (redrawn w p.d) p.os :=
  Calls.regrown_of (h _)

theorem empty_of (l : List UInt8) (h : l ≠ []) : (bs l).toList.isEmpty = false := by
  cases l with
  | nil => exact absurd rfl h
  | cons c t => exact empty_cons c t

/-- what stands ahead of the part that comes next -/
def lead (ps : List (List UInt8)) : List UInt8 := if ps = [] then [] else ujoin ps ++ [44]
theorem lead_snoc (ps : List (List UInt8)) (wd : List UInt8) (n : Nat) : ujoin (ps ++ [upart wd n]) = lead ps ++ wd ++ [61] ++ Lib.decDigits n := by
  rw [ujoin_snoc]
  unfold lead upart
  by_cases h : ps = []
  · simp [h]
  · simp [h]

set_option maxHeartbeats 4000000 in
set_option maxRecDepth 100000 in
theorem rText (a : V) (h : a.Ok) (w : World) :
    Calls Tryz.prog 22 #[(.agg #[.int .i64 a.cpu, .int .i64 a.mem, .int .i64 a.gpu, .int .i64 a.lic])] w fun e w' => e = .returned (.string (bs (utext a.ns))) ∧ Below w.heap.size w w' := by
  have HOK := Lib.hid h
  clear h
  go_enter Tryz.func22, Tryz.ntmps22
  go_wp2_with fail
  generalize hw2 : World.alloc _ _ = w2
  have hbB : Below w.heap.size w w2 := by rw [← hw2]; exact (by repeat' (first | exact Below.refl _ _ | assumption | exact And.left (by assumption) | refine Below.drew ?_ | refine below_drewN ?_ _ | refine Below.setCell ?_ (by first | (simp; done) | (simp; omega) | omega) _ | refine Below.alloc ?_ (by first | (simp; done) | (simp; omega) | omega) _ | refine after (by assumption) (by first | (simp; done) | (simp; omega) | omega) ?_))
  have hlt2 : w.heap.size + 1 + 1 < w2.heap.size := by rw [← hw2]; simp
  have HN2 : Hid (∀ k, k < 4 → w2.cell? ⟨w.heap.size + 1, k, none⟩ = some (.int .i64 ((a.ns.getD k 0 : Nat) : Int))) := Lib.hid (by
    intro k hk
    rw [← HOK.out.at_eq hk, ← hw2]
    rcases k with _ | _ | _ | _ | k
    · simp [go_sem, V.at_]
    · simp [go_sem, V.at_]
    · simp [go_sem, V.at_]
    · simp [go_sem, V.at_]
    · omega)
  have HW2 : Hid (∀ k, k < 4 → w2.cell? ⟨w.heap.size + 1 + 1, k, none⟩ = some (.string (wordAt k))) := Lib.hid (by
    intro k hk
    rw [← hw2]
    rcases k with _ | _ | _ | _ | k
    · simp [go_sem, wordAt, uwords, bs]
    · simp [go_sem, wordAt, uwords, bs]
    · simp [go_sem, wordAt, uwords, bs]
    · simp [go_sem, wordAt, uwords, bs]
    · omega)
  have Hns := Lib.hid HOK.out.bounds
  clear hw2 HOK
  go_loopw [5, 6] (fun v5 v6 wr => ∃ k : Nat, k ≤ 4 ∧ v6 = .int .i64 k ∧ v5 = .string (bs (ujoin (uacc k a.ns))) ∧ Below w2.heap.size w2 wr) (fun _ v6 _ => 4 - (intOf v6).toNat)
  case atStart => exact ⟨0, by omega, rfl, rfl, Below.refl _ _⟩
  case round =>
    obtain ⟨k, hk, rfl, rfl, hbw⟩ := hrel
    have hlen := uacc_len k Hns.out
    have hszw := hbw.size
    by_cases hlt : k < 4
    · have cA : wr.cell? ⟨w.heap.size + 1, k, none⟩ = some (.int .i64 ((a.ns.getD k 0 : Nat) : Int)) := (hbw.cell (p := ⟨w.heap.size + 1, k, none⟩) (show w.heap.size + 1 < w2.heap.size by omega)).trans (HN2.out k hlt)
      have cW : wr.cell? ⟨w.heap.size + 1 + 1, k, none⟩ = some (.string (wordAt k)) := (hbw.cell (p := ⟨w.heap.size + 1 + 1, k, none⟩) (show w.heap.size + 1 + 1 < w2.heap.size by omega)).trans (HW2.out k hlt)
      obtain ⟨n, hn⟩ : ∃ n, n = a.ns.getD k 0 := ⟨_, rfl⟩
      obtain ⟨wd, hwd⟩ : ∃ wd, wd = uwords.getD k [] := ⟨_, rfl⟩
      have hnk : a.ns[k]? = some n := by rw [hn, List.getD_eq_getElem?_getD, List.getElem?_eq_getElem (by rw [V.ns_len]; omega)]; rfl
      have hwk : uwords[k]? = some wd := by rw [hwd, List.getD_eq_getElem?_getD, List.getElem?_eq_getElem (by rw [words_len]; omega)]; rfl
      have hs := Lib.hid (uacc_succ hwk hnk)
      have hb1 : n ≤ 1048576 := Hns.out n (List.mem_of_getElem? hnk)
      have hw3 : wd.length = 3 := words_3 wd (List.mem_of_getElem? hwk)
      unfold wordAt at cW
      rw [← hn] at cA
      rw [← hwd] at cW
      clear hn hwd hnk hwk
      by_cases hn0 : n = 0
      · subst hn0
        have hs' : Hid (uacc (k + 1) a.ns = uacc k a.ns) := Lib.hid (by rw [hs.out]; simp)
        go_wp2
        go_roundw
        case rel => exact ⟨k + 1, by omega, by go_num, by rw [hs'.out], hbw⟩
        case measure => simp [intOf]; omega
      · have hs' : Hid (uacc (k + 1) a.ns = uacc k a.ns ++ [upart wd n]) := Lib.hid (by rw [hs.out, if_neg hn0])
        have hl : Hid (ujoin (uacc (k + 1) a.ns) = lead (uacc k a.ns) ++ wd ++ [61] ++ Lib.decDigits n) := Lib.hid (by rw [hs'.out, lead_snoc])
        have hd7 := dec_len7 hb1
        have hll : (lead (uacc k a.ns)).length ≤ 49 := by
          unfold lead
          by_cases hp : uacc k a.ns = []
          · simp [hp]
          · rw [if_neg hp]; simp; omega
        obtain ⟨ld, hld⟩ : ∃ ld, ld = lead (uacc k a.ns) := ⟨_, rfl⟩
        have hld' := Lib.hid hld
        rw [← hld] at hl hll
        clear hld hs hs'
        obtain ⟨x1, hx1⟩ : ∃ x1, x1 = ld ++ wd := ⟨_, rfl⟩
        obtain ⟨x2, hx2⟩ : ∃ x2, x2 = x1 ++ [61] := ⟨_, rfl⟩
        obtain ⟨dd, hdd⟩ : ∃ dd, dd = Lib.decDigits n := ⟨_, rfl⟩
        obtain ⟨x3, hx3⟩ : ∃ x3, x3 = x2 ++ dd := ⟨_, rfl⟩
        have hl3 : Hid (ujoin (uacc (k + 1) a.ns) = x3) := Lib.hid (by rw [hl.out, hx3, hx2, hx1, hdd])
        have hl1 : x1.length ≤ 100 := by rw [hx1, List.length_append]; omega
        have hl2 : x2.length ≤ 101 := by rw [hx2, List.length_append, List.length_singleton]; omega
        have ha1 : ∀ w', (Op.stringOp .add (bs ld) (bs wd)).run Tryz.prog w' = .ok (.string (bs x1)) w' := fun w' => by rw [hx1]; exact add_bs w' ld wd (by omega)
        have ha2 : ∀ w', (Op.stringOp .add (bs x1) ⟨#[61]⟩).run Tryz.prog w' = .ok (.string (bs x2)) w' := fun w' => by rw [hx2]; exact add_bs w' x1 [61] (by simp; omega)
        have ha3 : ∀ w', (Op.stringOp .add (bs x2) (bs dd)).run Tryz.prog w' = .ok (.string (bs x3)) w' := fun w' => by rw [hx3]; exact add_bs w' x2 dd (by rw [hdd]; omega)
        have HD := fun w' => digits n hb1 w'
        rw [← hdd] at HD
        clear hx1 hx2 hx3 hdd hl
        have gA := fun d os => cell_regrown (w := wr) cA d os
        have gW := fun d os => cell_regrown (w := wr) cW d os
        -- where the parts' text stands, a comma behind it if there is one
        have tail : ∀ b : List UInt8, True → True := fun _ _ => trivial
        by_cases hp : uacc k a.ns = []
        · have e0 : ld = [] := by rw [hld'.out, hp]; rfl
          have e1 : ujoin (uacc k a.ns) = [] := by rw [hp]; rfl
          rw [e1]
          rw [e0] at ha1
          have he := empty_nil
          clear hp hld' e1 e0 tail
          go_wp2_with fail
          refine wp_region_quiet_below (by kernel_rfl) (by kernel_rfl) ?_
          repeat (quiet_step (with_reducible exact quiet_below HD))
          refine wpQuiet_nil ?_
          intro _ hw'
          obtain ⟨⟨dq, osq⟩, rfl⟩ := hw'
          have hb5 := below_regrown wr dq osq
          have hbw5 : Below w2.heap.size w2 (Go.Sort.grow (redrawn wr dq) osq) := after hb5 hszw hbw
          clear gA gW
          generalize Go.Sort.grow (redrawn wr dq) osq = w5 at hb5 hbw5 ⊢
          go_wp2
          go_roundw
          case rel => exact ⟨k + 1, by omega, by go_num, by rw [hl3.out], hbw5⟩
          case measure => simp [intOf]; omega
        · have e1 : ld = ujoin (uacc k a.ns) ++ [44] := by rw [hld'.out]; unfold lead; rw [if_neg hp]
          have he := empty_of (ujoin (uacc k a.ns)) (fun x => hp ((ujoin_nil_iff _ _).mp x))
          obtain ⟨cur, hcur⟩ : ∃ cur, cur = ujoin (uacc k a.ns) := ⟨_, rfl⟩
          rw [← hcur] at he e1 hlen ⊢
          have ha0 : ∀ w', (Op.stringOp .add (bs cur) ⟨#[44]⟩).run Tryz.prog w' = .ok (.string (bs ld)) w' := fun w' => by
            rw [e1]
            exact add_bs w' cur [44] (by simp; omega)
          clear hp hld' hcur e1 tail
          go_wp2_with fail
          refine wp_region_quiet_below (by kernel_rfl) (by kernel_rfl) ?_
          repeat (quiet_step (with_reducible exact quiet_below HD))
          refine wpQuiet_nil ?_
          intro _ hw'
          obtain ⟨⟨dq, osq⟩, rfl⟩ := hw'
          have hb5 := below_regrown wr dq osq
          have hbw5 : Below w2.heap.size w2 (Go.Sort.grow (redrawn wr dq) osq) := after hb5 hszw hbw
          clear gA gW
          generalize Go.Sort.grow (redrawn wr dq) osq = w5 at hb5 hbw5 ⊢
          go_wp2
          go_roundw
          case rel => exact ⟨k + 1, by omega, by go_num, by rw [hl3.out], hbw5⟩
          case measure => simp [intOf]; omega
    · have hk4 : k = 4 := by omega
      subst hk4
      have hu := uacc_all a.ns_len
      rw [hu] at hlen ⊢
      by_cases hp : uparts uwords a.ns = []
      · have hf : Hid (utext a.ns = unone) := Lib.hid (by unfold utext; rw [if_pos hp])
        rw [hp, show ujoin [] = [] from rfl]
        have he := empty_nil
        clear hp hu
        go_wp2
        go_ret
        exact ⟨by rw [hf.out]; rfl, after hbw (by omega) hbB⟩
      · have hf : Hid (utext a.ns = ujoin (uparts uwords a.ns)) := Lib.hid (by unfold utext; rw [if_neg hp])
        have he := empty_of _ (fun x => hp ((ujoin_nil_iff _ _).mp x))
        clear hp hu
        go_wp2
        go_ret
        exact ⟨by rw [hf.out]; rfl, after hbw (by omega) hbB⟩

end Go.Proofs.YtgopjpnlpcmldaaGreatDoor.W
