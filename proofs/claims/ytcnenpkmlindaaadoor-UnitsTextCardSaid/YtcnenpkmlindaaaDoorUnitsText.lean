/-
  Contract of units.Text: a right vector's text, of one that isn't right none.
-/
import Derived.Test.YtcnenpkmlindaaaDoorUnitsLib
import Derived.Maps.AppendAt
namespace Go.Proofs.YtcnenpkmlindaaaDoor.W
set_option linter.unusedVariables false
set_option linter.unusedSimpArgs false
open Go.ChangeShapes Go.WideShapes Go.ChangeAt Go.RowKit

/-- a vector's numbers, as a list -/
def V.ns (a : V) : List Nat := [a.cpu.toNat, a.mem.toNat, a.gpu.toNat, a.lic.toNat]
def vOf (ns : List Nat) : V := ⟨((ns.getD 0 0 : Nat) : Int), ((ns.getD 1 0 : Nat) : Int), ((ns.getD 2 0 : Nat) : Int), ((ns.getD 3 0 : Nat) : Int)⟩
def V.at_ (a : V) (k : Nat) : Int := match k with | 0 => a.cpu | 1 => a.mem | 2 => a.gpu | _ => a.lic
theorem V.ns_len (a : V) : a.ns.length = 4 := rfl
theorem V.Ok.bounds {a : V} (h : a.Ok) : ∀ n ∈ a.ns, n ≤ 1048576 := by
  obtain ⟨⟨_, _⟩, ⟨_, _⟩, ⟨_, _⟩, _, _⟩ := h
  intro n hn
  simp only [V.ns, List.mem_cons, List.not_mem_nil, or_false] at hn
  rcases hn with rfl | rfl | rfl | rfl <;> omega
theorem V.Ok.at_eq {a : V} (h : a.Ok) {k : Nat} (hk : k < 4) : a.at_ k = ((a.ns.getD k 0 : Nat) : Int) := by
  obtain ⟨⟨_, _⟩, ⟨_, _⟩, ⟨_, _⟩, _, _⟩ := h
  rcases k with _ | _ | _ | _ | k
  · simp [V.at_, V.ns]; omega
  · simp [V.at_, V.ns]; omega
  · simp [V.at_, V.ns]; omega
  · simp [V.at_, V.ns]; omega
  · omega
theorem V.Ok.back {a : V} (h : a.Ok) : vOf a.ns = a := by
  obtain ⟨⟨_, _⟩, ⟨_, _⟩, ⟨_, _⟩, _, _⟩ := h
  apply V.ext' <;> (simp [vOf, V.ns]; omega)
theorem vOf_ok {ns : List Nat} (hl : ns.length = 4) (hb : ∀ n ∈ ns, n ≤ 1048576) : (vOf ns).Ok ∧ (vOf ns).ns = ns := by
  match ns, hl with
  | [p, q, r, s], _ =>
    have h0 := hb p (by simp)
    have h1 := hb q (by simp)
    have h2 := hb r (by simp)
    have h3 := hb s (by simp)
    refine ⟨?_, rfl⟩
    simp only [vOf, V.Ok, List.getD_cons_zero, List.getD_cons_succ]
    omega

/-- what Text comes to -/
def textS (a : V) : List UInt8 := if a.Ok then utext a.ns else []
def textE (a : V) : Int := if a.Ok then 0 else 2

/-- a text's length -/
theorem dec_len7 {n : Nat} (h : n ≤ 1048576) : (Lib.decDigits n).length ≤ 7 := dec_len 6 n (by omega)
theorem parts_len : ∀ (ws : List (List UInt8)) (ns : List Nat), (∀ w ∈ ws, w.length = 3) → (∀ n ∈ ns, n ≤ 1048576) → (uparts ws ns).length ≤ ws.length ∧ (ujoin (uparts ws ns)).length ≤ 12 * ws.length
  | [], ns, _, _ => by simp [uparts, ujoin]
  | _ :: _, [], _, _ => by simp [uparts, ujoin]
  | w :: ws, n :: ns, hw, hn => by
    have ih := parts_len ws ns (fun x hx => hw x (by simp [hx])) (fun x hx => hn x (by simp [hx]))
    have h3 := hw w (by simp)
    have h7 := dec_len7 (hn n (by simp))
    by_cases h0 : n = 0
    · simp only [uparts, if_pos h0, List.length_cons]
      omega
    · simp only [uparts, if_neg h0, List.length_cons]
      have hp : (upart w n).length ≤ 11 := by simp [upart]; omega
      refine ⟨by omega, ?_⟩
      by_cases hr : uparts ws ns = []
      · rw [hr, ujoin_one]; omega
      · rw [ujoin_more _ hr, List.length_append, List.length_cons]
        omega
theorem words_3 : ∀ w ∈ uwords, w.length = 3 := by unfold uwords; decide
theorem uparts_len {ns : List Nat} (hb : ∀ n ∈ ns, n ≤ 1048576) : (uparts uwords ns).length ≤ 4 ∧ (ujoin (uparts uwords ns)).length ≤ 48 := parts_len uwords ns words_3 hb
theorem uacc_len (k : Nat) {ns : List Nat} (hb : ∀ n ∈ ns, n ≤ 1048576) : (uacc k ns).length ≤ 4 ∧ (ujoin (uacc k ns)).length ≤ 48 := by
  have h := parts_len (uwords.take k) (ns.take k) (fun w hw => words_3 w (List.mem_of_mem_take hw)) (fun n hn => hb n (List.mem_of_mem_take hn))
  have hl : (uwords.take k).length ≤ 4 := by rw [List.length_take]; have : uwords.length = 4 := rfl; omega
  unfold uacc
  omega
theorem utext_len {ns : List Nat} (hb : ∀ n ∈ ns, n ≤ 1048576) : (utext ns).length ≤ 48 := by
  unfold utext
  by_cases h : uparts uwords ns = []
  · rw [if_pos h]; simp [unone]
  · rw [if_neg h]; exact (uparts_len hb).2

theorem own_later {w w' : World} {base : Nat} {e : TypeId} {size : Nat} {v : Value} {n : Nat} {xs : List Value} (h : w.ownsRow base e size v n xs) (hb : Below w.heap.size w w') : w'.ownsRow base e size v n xs := by
  obtain ⟨h1, h2⟩ := h
  refine ⟨h1, ?_⟩
  rcases h2 with h2 | ⟨g, cap, cur, a, b, c, d⟩
  · exact .inl h2
  · exact .inr ⟨g, cap, cur, a, b, by rw [hb.block g (Array.getElem?_eq_some_iff.1 c).1]; exact c, d⟩

theorem add_plain0 (g j : Nat) : (⟨g, 0, none⟩ : Addr).add j = ⟨g, j, none⟩ := by
  unfold Addr.add
  split
  · rename_i h; rw [h]
  · simp
def strs (ps : List (List UInt8)) : List Value := ps.map (fun p => Value.string (bs p))
theorem strs_snoc (ps : List (List UInt8)) (p : List UInt8) : strs (ps ++ [p]) = strs ps ++ [.string (bs p)] := by simp [strs]
theorem strs_len (ps : List (List UInt8)) : (strs ps).length = ps.length := by simp [strs]

theorem infoS : (Tryd.prog.info? 9).map (fun i => (i.zero, i.size, i.bytes)) = some (some (.string ⟨#[]⟩), 1, 16) := by kernel_rfl

theorem uText_no (a : V) (h : ¬ a.Ok) (w : World) :
    Calls Tryd.prog 6 #[(.agg #[.int .i64 a.cpu, .int .i64 a.mem, .int .i64 a.gpu, .int .i64 a.lic])] w fun e w' => e = .returned (.tuple #[.string (bs []), .int .i64 2]) ∧ Below w.heap.size w w' := by
  have H := Lib.hid (fun w => right a w)
  rw [right_no h] at H
  clear h
  go_enter Tryd.func6, Tryd.ntmps6
  go_wp2_with fail
  refine (H.out _).mono ?_; rintro e w1 ⟨rfl, hb1⟩; obtain ⟨hc1, hf1⟩ := bcell hb1; have hz1 := hb1.size; (try simp at hz1); have lt_w1_0 : w.heap.size < w1.heap.size := (by omega)
  go_wp2
  go_ret2
  exact ⟨rfl, (by repeat' (first | exact Below.refl _ _ | assumption | exact And.left (by assumption) | refine Below.drew ?_ | refine below_drewN ?_ _ | refine Below.setCell ?_ (by first | (simp; done) | (simp; omega) | omega) _ | refine Below.alloc ?_ (by first | (simp; done) | (simp; omega) | omega) _ | refine after (by assumption) (by first | (simp; done) | (simp; omega) | omega) ?_))⟩

set_option maxHeartbeats 4000000 in
set_option maxRecDepth 100000 in
theorem uText_yes (a : V) (h : a.Ok) (w : World) (hS : Std w) :
    Calls Tryd.prog 6 #[(.agg #[.int .i64 a.cpu, .int .i64 a.mem, .int .i64 a.gpu, .int .i64 a.lic])] w fun e w' => e = .returned (.tuple #[.string (bs (utext a.ns)), .int .i64 0]) ∧ Below w.heap.size w w' := by
  have H := Lib.hid (fun w => right a w)
  rw [right_yes h] at H
  obtain ⟨i0, hj, hj0, hj1, hj2⟩ := info_parts infoS
  have HOK := Lib.hid h
  have HW := Lib.hid uWords
  clear h
  go_enter Tryd.func6, Tryd.ntmps6
  go_wp2_with fail
  refine (H.out _).mono ?_; rintro e w1 ⟨rfl, hb1⟩; obtain ⟨hc1, hf1⟩ := bcell hb1; have hz1 := hb1.size; (try simp at hz1); have lt_w1_0 : w.heap.size < w1.heap.size := (by omega)
  go_wp2_with fail
  refine (HW.out _).mono ?_; rintro e w2 ⟨rfl, hb2, hlt2, hw2⟩
  have hn2 : w2.heap.size = w2.heap.size := rfl
  have hbB : Below w.heap.size w w2 := (by repeat' (first | exact Below.refl _ _ | assumption | exact And.left (by assumption) | refine Below.drew ?_ | refine below_drewN ?_ _ | refine Below.setCell ?_ (by first | (simp; done) | (simp; omega) | omega) _ | refine Below.alloc ?_ (by first | (simp; done) | (simp; omega) | omega) _ | refine after (by assumption) (by first | (simp; done) | (simp; omega) | omega) ?_))
  have hS2 : Std w2 := hS.on hbB
  have hN2 : ∀ k, k < 4 → w2.cell? ⟨w1.heap.size, k, none⟩ = some (.int .i64 ((a.ns.getD k 0 : Nat) : Int)) := by
    intro k hk
    rw [hb2.cell (p := ⟨w1.heap.size, k, none⟩) (by simp), World.cell?_alloc_new, ← HOK.out.at_eq hk]
    rcases k with _ | _ | _ | _ | k
    · rfl
    · rfl
    · rfl
    · rfl
    · omega
  simp only [World.size_alloc] at hlt2 hw2 hb2
  have HN2 := Lib.hid hN2
  have HW2 := Lib.hid hw2
  have HSS := Lib.hid hS2
  have hlt1 : w1.heap.size < w2.heap.size := by omega
  have Hns := Lib.hid HOK.out.bounds
  clear hN2 hw2 hS2 hb1 hb2 H HW HOK hn2 hS hc1 hf1
  go_wp2_with fail
  go_loopw [5, 22] (fun v5 v22 wr => ∃ k : Nat, k ≤ 4 ∧ v22 = .int .i64 k ∧ wr.ownsRow w2.heap.size 9 1 v5 (uacc k a.ns).length (strs (uacc k a.ns)) ∧ Below w2.heap.size w2 wr) (fun _ v22 _ => 4 - (intOf v22).toNat)
  case atStart => exact ⟨0, by omega, rfl, by rw [uacc_zero]; exact World.ownsRow_nil _ _ _ _, Below.refl _ _⟩
  case round =>
    obtain ⟨k, hk, rfl, hown, hbw⟩ := hrel
    have hSr : Std wr := HSS.out.on hbw
    have hlen := uacc_len k Hns.out
    by_cases hlt : k < 4
    · have cA : wr.cell? ⟨w1.heap.size, k, none⟩ = some (.int .i64 ((a.ns.getD k 0 : Nat) : Int)) := (hbw.cell (p := ⟨w1.heap.size, k, none⟩) (by omega)).trans (HN2.out k hlt)
      have cW : wr.cell? ⟨w1.heap.size + 1, k, none⟩ = some (.string (wordAt k)) := (hbw.cell (p := ⟨w1.heap.size + 1, k, none⟩) (by omega)).trans (HW2.out k hlt)
      obtain ⟨n, hn⟩ : ∃ n, n = a.ns.getD k 0 := ⟨_, rfl⟩
      obtain ⟨wd, hwd⟩ : ∃ wd, wd = uwords.getD k [] := ⟨_, rfl⟩
      have hnk : a.ns[k]? = some n := by rw [hn, List.getD_eq_getElem?_getD, List.getElem?_eq_getElem (by rw [V.ns_len]; omega)]; rfl
      have hwk : uwords[k]? = some wd := by rw [hwd, List.getD_eq_getElem?_getD, List.getElem?_eq_getElem (by rw [words_len]; omega)]; rfl
      have hs := Lib.hid (uacc_succ hwk hnk)
      have hb1 : n ≤ 1048576 := Hns.out n (List.mem_of_getElem? hnk)
      have hw3 : wd.length = 3 := words_3 wd (List.mem_of_getElem? hwk)
      unfold wordAt at cW
      rw [← hn] at cA
      rw [← hwd] at cW
      clear hn hwd hnk hwk
      by_cases hn0 : n = 0
      · subst hn0
        have hs' : Hid (uacc (k + 1) a.ns = uacc k a.ns) := Lib.hid (by rw [hs.out]; simp)
        go_wp2
        go_roundw
        case rel => exact ⟨k + 1, by omega, by go_num, by rw [hs'.out]; exact hown, hbw⟩
        case measure => simp [intOf]; omega
      · have hs' : Hid (uacc (k + 1) a.ns = uacc k a.ns ++ [upart wd n]) := Lib.hid (by rw [hs.out, if_neg hn0])
        have hd7 := dec_len7 hb1
        have ha1 : ∀ w', (Op.stringOp .add (bs wd) ⟨#[61]⟩).run Tryd.prog w' = .ok (.string (bs (wd ++ [61]))) w' := fun w' => add_bs w' wd [61] (by simp; omega)
        have ha2 : ∀ w', (Op.stringOp .add (bs (wd ++ [61])) (bs (Lib.decDigits n))).run Tryd.prog w' = .ok (.string (bs (upart wd n))) w' := fun w' => by
          rw [add_bs w' (wd ++ [61]) (Lib.decDigits n) (by simp; omega)]
          unfold upart
          simp
        have HI := Lib.hid (cItoa n wr hSr hb1)
        clear hs
        go_wp2_with fail
        refine (HI.out).mono ?_; rintro e w3 ⟨rfl, hb3⟩
        have hown3 := own_later hown hb3
        have hsz3 := hb3.size
        have hszw := hbw.size
        have hnew := cell_one_new w3 (.string (bs (upart wd n))) 9
        have hone : ∀ u ∈ [Value.string (bs (upart wd n))], u.oneCell' = true := by intro u hu; simp at hu; subst hu; rfl
        have hm1 : (uacc k a.ns).length + 1 ≤ maxLen := by unfold maxLen; omega
        have hm2 : ((uacc k a.ns).length + 1) * 16 ≤ 140737488355328 := by omega
        have hm3 : ∀ o, w2.heap.size ≤ (w3.alloc o).heap.size := fun o => by simp; omega
        go_wp2_with (at_builtin; refine wpList_append_own _ rfl _ _ 35 rfl w2.heap.size 9 i0 (.string ⟨#[]⟩) 1 16 Tryd.underlying35 hj hj0 hj1 hj2 rfl (by decide) _ _ _ rfl (hown3.alloc _) ⟨w3.heap.size, 0, none⟩ 1 1 [.string (bs (upart wd n))] rfl rfl hnew hone hm1 hm2 (hm3 _) ?_; intro v4 w4 hown4 hgrow _)
        have hbw4 : Below w2.heap.size w2 w4 := Below.grown ((by repeat' (first | exact Below.refl _ _ | assumption | exact And.left (by assumption) | refine Below.drew ?_ | refine below_drewN ?_ _ | refine Below.setCell ?_ (by first | (simp; done) | (simp; omega) | omega) _ | refine Below.alloc ?_ (by first | (simp; done) | (simp; omega) | omega) _ | refine after (by assumption) (by first | (simp; done) | (simp; omega) | omega) ?_))) hgrow (by simp; omega) (fun j hj => by have := (hown3.lt _ hj).1; omega)
        go_roundw
        case rel => exact ⟨k + 1, by omega, by go_num, by rw [hs'.out, strs_snoc, List.length_append]; exact hown4, hbw4⟩
        case measure => simp [intOf]; omega
    · have hk4 : k = 4 := by omega
      subst hk4
      have hu : Hid (uacc 4 a.ns = uparts uwords a.ns) := Lib.hid (uacc_all a.ns_len)
      obtain ⟨ps, hps⟩ : ∃ ps, ps = uacc 4 a.ns := ⟨_, rfl⟩
      rw [← hps] at hown hlen
      have hps' := Lib.hid (hps.trans hu.out)
      clear hps hu
      have fin1 : ps = [] → Hid (utext a.ns = unone) := fun e => Lib.hid (by unfold utext; rw [← hps'.out, if_pos e])
      have fin2 : ps ≠ [] → Hid (utext a.ns = ujoin ps) := fun e => Lib.hid (by unfold utext; rw [← hps'.out, if_neg e])
      rcases hown.2 with ⟨rfl, hz⟩ | ⟨g, cap, cur, rfl, hg, hgb, hgc, hgm, hgs, hgt⟩
      · have hf := fin1 (List.eq_nil_of_length_eq_zero hz)
        clear fin1 fin2
        go_wp2
        go_ret2
        exact ⟨by rw [hf.out]; rfl, after hbw (by simp at *; omega) hbB⟩
      · by_cases hp0 : ps.length = 0
        · have hf := fin1 (List.eq_nil_of_length_eq_zero hp0)
          clear fin1 fin2
          go_wp2
          go_ret2
          exact ⟨by rw [hf.out]; rfl, after hbw (by simp at *; omega) hbB⟩
        · have hf := fin2 (fun e => hp0 (by rw [e]; rfl))
          have hJ := Lib.hid (cJoin g cap ps wr (fun j x hx => by
            have := hown.cells (g := g) rfl j (.string (bs x)) (by simp [strs, hx])
            rwa [add_plain0] at this) (Array.getElem?_eq_some_iff.1 hgb).1 hlen.1 hgc (by omega))
          clear fin1 fin2
          go_wp2_with fail
          refine (hJ.out).mono ?_; rintro e w5 ⟨rfl, hb5⟩
          go_wp2
          go_ret2
          exact ⟨by rw [hf.out]; rfl, after hb5 (by have := hbB.size; have := hbw.size; omega) (after hbw (by have := hbB.size; omega) hbB)⟩

end Go.Proofs.YtcnenpkmlindaaaDoor.W
