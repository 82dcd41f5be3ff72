/-
  Several texts in one: UnitsText, UnitsRead.
-/
import Derived.Test.YtgopjpnlpcmldaaGreatDoorJ31
import Derived.Maps.AppendAt

/-
  Contract of units.Text: a right vector's text, of one that isn't right none.
-/
namespace Go.Proofs.YtgopjpnlpcmldaaGreatDoor.W
set_option linter.unusedVariables false
set_option linter.unusedSimpArgs false
open Go.ChangeShapes Go.WideShapes Go.ChangeAt Go.RowKit

/-- a vector's numbers, as a list -/
def V.ns (a : V) : List Nat := [a.cpu.toNat, a.mem.toNat, a.gpu.toNat, a.lic.toNat]
def vOf (ns : List Nat) : V := ⟨((ns.getD 0 0 : Nat) : Int), ((ns.getD 1 0 : Nat) : Int), ((ns.getD 2 0 : Nat) : Int), ((ns.getD 3 0 : Nat) : Int)⟩
def V.at_ (a : V) (k : Nat) : Int := match k with | 0 => a.cpu | 1 => a.mem | 2 => a.gpu | _ => a.lic
theorem V.ns_len (a : V) : a.ns.length = 4 := rfl
theorem V.Ok.bounds {a : V} (h : a.Ok) : ∀ n ∈ a.ns, n ≤ 1048576 := by
  obtain ⟨⟨_, _⟩, ⟨_, _⟩, ⟨_, _⟩, _, _⟩ := h
  intro n hn
  simp only [V.ns, List.mem_cons, List.not_mem_nil, or_false] at hn
  rcases hn with rfl | rfl | rfl | rfl <;> omega
theorem V.Ok.at_eq {a : V} (h : a.Ok) {k : Nat} (hk : k < 4) : a.at_ k = ((a.ns.getD k 0 : Nat) : Int) := by
  obtain ⟨⟨_, _⟩, ⟨_, _⟩, ⟨_, _⟩, _, _⟩ := h
  rcases k with _ | _ | _ | _ | k
  · simp [V.at_, V.ns]; omega
  · simp [V.at_, V.ns]; omega
  · simp [V.at_, V.ns]; omega
  · simp [V.at_, V.ns]; omega
  · omega
theorem V.Ok.back {a : V} (h : a.Ok) : vOf a.ns = a := by
  obtain ⟨⟨_, _⟩, ⟨_, _⟩, ⟨_, _⟩, _, _⟩ := h
  apply V.ext' <;> (simp [vOf, V.ns]; omega)
theorem vOf_ok {ns : List Nat} (hl : ns.length = 4) (hb : ∀ n ∈ ns, n ≤ 1048576) : (vOf ns).Ok ∧ (vOf ns).ns = ns := by
  match ns, hl with
  | [p, q, r, s], _ =>
    have h0 := hb p (by simp)
    have h1 := hb q (by simp)
    have h2 := hb r (by simp)
    have h3 := hb s (by simp)
    refine ⟨?_, rfl⟩
    simp only [vOf, V.Ok, List.getD_cons_zero, List.getD_cons_succ]
    omega

/-- what Text comes to -/
def textS (a : V) : List UInt8 := if a.Ok then utext a.ns else []
def textE (a : V) : Int := if a.Ok then 0 else 2

/-- a text's length -/
theorem dec_len7 {n : Nat} (h : n ≤ 1048576) : (Lib.decDigits n).length ≤ 7 := dec_len 6 n (by omega)
theorem parts_len : ∀ (ws : List (List UInt8)) (ns : List Nat), (∀ w ∈ ws, w.length = 3) → (∀ n ∈ ns, n ≤ 1048576) → (uparts ws ns).length ≤ ws.length ∧ (ujoin (uparts ws ns)).length ≤ 12 * ws.length
  | [], ns, _, _ => by simp [uparts, ujoin]
  | _ :: _, [], _, _ => by simp [uparts, ujoin]
  | w :: ws, n :: ns, hw, hn => by
    have ih := parts_len ws ns (fun x hx => hw x (by simp [hx])) (fun x hx => hn x (by simp [hx]))
    have h3 := hw w (by simp)
    have h7 := dec_len7 (hn n (by simp))
    by_cases h0 : n = 0
    · simp only [uparts, if_pos h0, List.length_cons]
      omega
    · simp only [uparts, if_neg h0, List.length_cons]
      have hp : (upart w n).length ≤ 11 := by simp [upart]; omega
      refine ⟨by omega, ?_⟩
      by_cases hr : uparts ws ns = []
      · rw [hr, ujoin_one]; omega
      · rw [ujoin_more _ hr, List.length_append, List.length_cons]
        omega
theorem words_3 : ∀ w ∈ uwords, w.length = 3 := by unfold uwords; decide
theorem uparts_len {ns : List Nat} (hb : ∀ n ∈ ns, n ≤ 1048576) : (uparts uwords ns).length ≤ 4 ∧ (ujoin (uparts uwords ns)).length ≤ 48 := parts_len uwords ns words_3 hb
theorem uacc_len (k : Nat) {ns : List Nat} (hb : ∀ n ∈ ns, n ≤ 1048576) : (uacc k ns).length ≤ 4 ∧ (ujoin (uacc k ns)).length ≤ 48 := by
  have h := parts_len (uwords.take k) (ns.take k) (fun w hw => words_3 w (List.mem_of_mem_take hw)) (fun n hn => hb n (List.mem_of_mem_take hn))
  have hl : (uwords.take k).length ≤ 4 := by rw [List.length_take]; have : uwords.length = 4 := rfl; omega
  unfold uacc
  omega
theorem utext_len {ns : List Nat} (hb : ∀ n ∈ ns, n ≤ 1048576) : (utext ns).length ≤ 48 := by
  unfold utext
  by_cases h : uparts uwords ns = []
  · rw [if_pos h]; simp [unone]
  · rw [if_neg h]; exact (uparts_len hb).2

theorem own_laterU {w w' : World} {base : Nat} {e : TypeId} {size : Nat} {v : Value} {n : Nat} {xs : List Value} (h : w.ownsRow base e size v n xs) (hb : Below w.heap.size w w') : w'.ownsRow base e size v n xs := by
  obtain ⟨h1, h2⟩ := h
  refine ⟨h1, ?_⟩
  rcases h2 with h2 | ⟨g, cap, cur, a, b, c, d⟩
  · exact .inl h2
  · exact .inr ⟨g, cap, cur, a, b, by rw [hb.block g (Array.getElem?_eq_some_iff.1 c).1]; exact c, d⟩

theorem add_plain0 (g j : Nat) : (⟨g, 0, none⟩ : Addr).add j = ⟨g, j, none⟩ := by
  unfold Addr.add
  split
  · rename_i h; rw [h]
  · simp
def strs (ps : List (List UInt8)) : List Value := ps.map (fun p => Value.string (bs p))
theorem strs_snoc (ps : List (List UInt8)) (p : List UInt8) : strs (ps ++ [p]) = strs ps ++ [.string (bs p)] := by simp [strs]
theorem strs_len (ps : List (List UInt8)) : (strs ps).length = ps.length := by simp [strs]

theorem infoS : (Tryz.prog.info? 9).map (fun i => (i.zero, i.size, i.bytes)) = some (some (.string ⟨#[]⟩), 1, 16) := by kernel_rfl

theorem uText_no (a : V) (h : ¬ a.Ok) (w : World) :
    Calls Tryz.prog 77 #[(.agg #[.int .i64 a.cpu, .int .i64 a.mem, .int .i64 a.gpu, .int .i64 a.lic])] w fun e w' => e = .returned (.tuple #[.string (bs []), .int .i64 2]) ∧ Below w.heap.size w w' := by
  have H := Lib.hid (fun w => right a w)
  rw [right_no h] at H
  clear h
  go_enter Tryz.func77, Tryz.ntmps77
  go_wp2_with fail
  refine (H.out _).mono ?_; rintro e w1 ⟨rfl, hb1⟩; obtain ⟨hc1, hf1⟩ := bcell hb1; have hz1 := hb1.size; (try simp at hz1); have lt_w1_0 : w.heap.size < w1.heap.size := (by omega)
  go_wp2
  go_ret2
  exact ⟨rfl, (by repeat' (first | exact Below.refl _ _ | assumption | exact And.left (by assumption) | refine Below.drew ?_ | refine below_drewN ?_ _ | refine Below.setCell ?_ (by first | (simp; done) | (simp; omega) | omega) _ | refine Below.alloc ?_ (by first | (simp; done) | (simp; omega) | omega) _ | refine after (by assumption) (by first | (simp; done) | (simp; omega) | omega) ?_))⟩

set_option maxHeartbeats 4000000 in
set_option maxRecDepth 100000 in
theorem uText_yes (a : V) (h : a.Ok) (w : World) (hS : Std w) :
    Calls Tryz.prog 77 #[(.agg #[.int .i64 a.cpu, .int .i64 a.mem, .int .i64 a.gpu, .int .i64 a.lic])] w fun e w' => e = .returned (.tuple #[.string (bs (utext a.ns)), .int .i64 0]) ∧ Below w.heap.size w w' := by
  have H := Lib.hid (fun w => right a w)
  rw [right_yes h] at H
  obtain ⟨i0, hj, hj0, hj1, hj2⟩ := info_parts infoS
  have HOK := Lib.hid h
  have HW := Lib.hid uWords
  clear h
  go_enter Tryz.func77, Tryz.ntmps77
  go_wp2_with fail
  refine (H.out _).mono ?_; rintro e w1 ⟨rfl, hb1⟩; obtain ⟨hc1, hf1⟩ := bcell hb1; have hz1 := hb1.size; (try simp at hz1); have lt_w1_0 : w.heap.size < w1.heap.size := (by omega)
  go_wp2_with fail
  refine (HW.out _).mono ?_; rintro e w2 ⟨rfl, hb2, hlt2, hw2⟩
  have hn2 : w2.heap.size = w2.heap.size := rfl
  have hbB : Below w.heap.size w w2 := (by repeat' (first | exact Below.refl _ _ | assumption | exact And.left (by assumption) | refine Below.drew ?_ | refine below_drewN ?_ _ | refine Below.setCell ?_ (by first | (simp; done) | (simp; omega) | omega) _ | refine Below.alloc ?_ (by first | (simp; done) | (simp; omega) | omega) _ | refine after (by assumption) (by first | (simp; done) | (simp; omega) | omega) ?_))
  have hS2 : Std w2 := hS.on hbB
  have hN2 : ∀ k, k < 4 → w2.cell? ⟨w1.heap.size, k, none⟩ = some (.int .i64 ((a.ns.getD k 0 : Nat) : Int)) := by
    intro k hk
    rw [hb2.cell (p := ⟨w1.heap.size, k, none⟩) (by simp), World.cell?_alloc_new, ← HOK.out.at_eq hk]
    rcases k with _ | _ | _ | _ | k
    · rfl
    · rfl
    · rfl
    · rfl
    · omega
  simp only [World.size_alloc] at hlt2 hw2 hb2
  have HN2 := Lib.hid hN2
  have HW2 := Lib.hid hw2
  have HSS := Lib.hid hS2
  have hlt1 : w1.heap.size < w2.heap.size := by omega
  have Hns := Lib.hid HOK.out.bounds
  clear hN2 hw2 hS2 hb1 hb2 H HW HOK hn2 hS hc1 hf1
  go_wp2_with fail
  go_loopw [5, 22] (fun v5 v22 wr => ∃ k : Nat, k ≤ 4 ∧ v22 = .int .i64 k ∧ wr.ownsRow w2.heap.size 9 1 v5 (uacc k a.ns).length (strs (uacc k a.ns)) ∧ Below w2.heap.size w2 wr) (fun _ v22 _ => 4 - (intOf v22).toNat)
  case atStart => exact ⟨0, by omega, rfl, by rw [uacc_zero]; exact World.ownsRow_nil _ _ _ _, Below.refl _ _⟩
  case round =>
    obtain ⟨k, hk, rfl, hown, hbw⟩ := hrel
    have hSr : Std wr := HSS.out.on hbw
    have hlen := uacc_len k Hns.out
    by_cases hlt : k < 4
    · have cA : wr.cell? ⟨w1.heap.size, k, none⟩ = some (.int .i64 ((a.ns.getD k 0 : Nat) : Int)) := (hbw.cell (p := ⟨w1.heap.size, k, none⟩) (by omega)).trans (HN2.out k hlt)
      have cW : wr.cell? ⟨w1.heap.size + 1, k, none⟩ = some (.string (wordAt k)) := (hbw.cell (p := ⟨w1.heap.size + 1, k, none⟩) (by omega)).trans (HW2.out k hlt)
      obtain ⟨n, hn⟩ : ∃ n, n = a.ns.getD k 0 := ⟨_, rfl⟩
      obtain ⟨wd, hwd⟩ : ∃ wd, wd = uwords.getD k [] := ⟨_, rfl⟩
      have hnk : a.ns[k]? = some n := by rw [hn, List.getD_eq_getElem?_getD, List.getElem?_eq_getElem (by rw [V.ns_len]; omega)]; rfl
      have hwk : uwords[k]? = some wd := by rw [hwd, List.getD_eq_getElem?_getD, List.getElem?_eq_getElem (by rw [words_len]; omega)]; rfl
      have hs := Lib.hid (uacc_succ hwk hnk)
      have hb1 : n ≤ 1048576 := Hns.out n (List.mem_of_getElem? hnk)
      have hw3 : wd.length = 3 := words_3 wd (List.mem_of_getElem? hwk)
      unfold wordAt at cW
      rw [← hn] at cA
      rw [← hwd] at cW
      clear hn hwd hnk hwk
      by_cases hn0 : n = 0
      · subst hn0
        have hs' : Hid (uacc (k + 1) a.ns = uacc k a.ns) := Lib.hid (by rw [hs.out]; simp)
        go_wp2
        go_roundw
        case rel => exact ⟨k + 1, by omega, by go_num, by rw [hs'.out]; exact hown, hbw⟩
        case measure => simp [intOf]; omega
      · have hs' : Hid (uacc (k + 1) a.ns = uacc k a.ns ++ [upart wd n]) := Lib.hid (by rw [hs.out, if_neg hn0])
        have hd7 := dec_len7 hb1
        have ha1 : ∀ w', (Op.stringOp .add (bs wd) ⟨#[61]⟩).run Tryz.prog w' = .ok (.string (bs (wd ++ [61]))) w' := fun w' => add_bs w' wd [61] (by simp; omega)
        have ha2 : ∀ w', (Op.stringOp .add (bs (wd ++ [61])) (bs (Lib.decDigits n))).run Tryz.prog w' = .ok (.string (bs (upart wd n))) w' := fun w' => by
          rw [add_bs w' (wd ++ [61]) (Lib.decDigits n) (by simp; omega)]
          unfold upart
          simp
        have HI := Lib.hid (cItoa n wr hSr hb1)
        clear hs
        go_wp2_with fail
        refine (HI.out).mono ?_; rintro e w3 ⟨rfl, hb3⟩
        have hown3 := own_laterU hown hb3
        have hsz3 := hb3.size
        have hszw := hbw.size
        have hnew := cell_one_new w3 (.string (bs (upart wd n))) 9
        have hone : ∀ u ∈ [Value.string (bs (upart wd n))], u.oneCell' = true := by intro u hu; simp at hu; subst hu; rfl
        have hm1 : (uacc k a.ns).length + 1 ≤ maxLen := by unfold maxLen; omega
        have hm2 : ((uacc k a.ns).length + 1) * 16 ≤ 140737488355328 := by omega
        have hm3 : ∀ o, w2.heap.size ≤ (w3.alloc o).heap.size := fun o => by simp; omega
        go_wp2_with (at_builtin; refine wpList_append_own _ rfl _ _ 56 rfl w2.heap.size 9 i0 (.string ⟨#[]⟩) 1 16 Tryz.underlying56 hj hj0 hj1 hj2 rfl (by decide) _ _ _ rfl (hown3.alloc _) ⟨w3.heap.size, 0, none⟩ 1 1 [.string (bs (upart wd n))] rfl rfl hnew hone hm1 hm2 (hm3 _) ?_; intro v4 w4 hown4 hgrow _)
        have hbw4 : Below w2.heap.size w2 w4 := Below.grown ((by repeat' (first | exact Below.refl _ _ | assumption | exact And.left (by assumption) | refine Below.drew ?_ | refine below_drewN ?_ _ | refine Below.setCell ?_ (by first | (simp; done) | (simp; omega) | omega) _ | refine Below.alloc ?_ (by first | (simp; done) | (simp; omega) | omega) _ | refine after (by assumption) (by first | (simp; done) | (simp; omega) | omega) ?_))) hgrow (by simp; omega) (fun j hj => by have := (hown3.lt _ hj).1; omega)
        go_roundw
        case rel => exact ⟨k + 1, by omega, by go_num, by rw [hs'.out, strs_snoc, List.length_append]; exact hown4, hbw4⟩
        case measure => simp [intOf]; omega
    · have hk4 : k = 4 := by omega
      subst hk4
      have hu : Hid (uacc 4 a.ns = uparts uwords a.ns) := Lib.hid (uacc_all a.ns_len)
      obtain ⟨ps, hps⟩ : ∃ ps, ps = uacc 4 a.ns := ⟨_, rfl⟩
      rw [← hps] at hown hlen
      have hps' := Lib.hid (hps.trans hu.out)
      clear hps hu
      have fin1 : ps = [] → Hid (utext a.ns = unone) := fun e => Lib.hid (by unfold utext; rw [← hps'.out, if_pos e])
      have fin2 : ps ≠ [] → Hid (utext a.ns = ujoin ps) := fun e => Lib.hid (by unfold utext; rw [← hps'.out, if_neg e])
      rcases hown.2 with ⟨rfl, hz⟩ | ⟨g, cap, cur, rfl, hg, hgb, hgc, hgm, hgs, hgt⟩
      · have hf := fin1 (List.eq_nil_of_length_eq_zero hz)
        clear fin1 fin2
        go_wp2
        go_ret2
        exact ⟨by rw [hf.out]; rfl, after hbw (by simp at *; omega) hbB⟩
      · by_cases hp0 : ps.length = 0
        · have hf := fin1 (List.eq_nil_of_length_eq_zero hp0)
          clear fin1 fin2
          go_wp2
          go_ret2
          exact ⟨by rw [hf.out]; rfl, after hbw (by simp at *; omega) hbB⟩
        · have hf := fin2 (fun e => hp0 (by rw [e]; rfl))
          have hJ := Lib.hid (cJoin g cap ps wr (fun j x hx => by
            have := hown.cells (g := g) rfl j (.string (bs x)) (by simp [strs, hx])
            rwa [add_plain0] at this) (Array.getElem?_eq_some_iff.1 hgb).1 hlen.1 hgc (by omega))
          clear fin1 fin2
          go_wp2_with fail
          refine (hJ.out).mono ?_; rintro e w5 ⟨rfl, hb5⟩
          go_wp2
          go_ret2
          exact ⟨by rw [hf.out]; rfl, after hb5 (by have := hbB.size; have := hbw.size; omega) (after hbw (by have := hbB.size; omega) hbB)⟩

end Go.Proofs.YtgopjpnlpcmldaaGreatDoor.W


/-
  Contract of units.Read: which vector a text is.
-/
namespace Go.Proofs.YtgopjpnlpcmldaaGreatDoor.W
set_option linter.unusedVariables false
set_option linter.unusedSimpArgs false
open Go.ChangeShapes Go.WideShapes Go.ChangeAt Go.RowKit

def readV (l : List UInt8) : V := match readU l with | some ns => vOf ns | none => V.zero
def readE (l : List UInt8) : Int := match readU l with | some _ => 0 | none => 11
theorem readV_some {l : List UInt8} {ns : List Nat} (h : readU l = some ns) : readV l = vOf ns ∧ readE l = 0 := by unfold readV readE; rw [h]; exact ⟨rfl, rfl⟩
theorem readV_none {l : List UInt8} (h : readU l = none) : readV l = V.zero ∧ readE l = 11 := by unfold readV readE; rw [h]; exact ⟨rfl, rfl⟩

/-- a block of the call's own: all that it holds -/
def Row (w : World) (g : Nat) (t : TypeId) (cs : Array Value) : Prop := w.heap[g]? = some (.cells cs t (0, 0))
theorem Row.lt {w : World} {g : Nat} {t : TypeId} {cs : Array Value} (h : Row w g t cs) : g < w.heap.size := (Array.getElem?_eq_some_iff.1 h).1
theorem Row.cell {w : World} {g : Nat} {t : TypeId} {cs : Array Value} (h : Row w g t cs) (i : Nat) : w.cell? ⟨g, i, none⟩ = cs[i]? := cell_of_row w g i cs t (0, 0) h
theorem Row.thaw {w : World} {g : Nat} {t : TypeId} {cs : Array Value} (h : Row w g t cs) (i : Nat) : w.frozen? ⟨g, i, none⟩ = false := by
  unfold Row at h
  simp [World.frozen?, h]
theorem Row.on {w w' : World} {g : Nat} {t : TypeId} {cs : Array Value} (h : Row w g t cs) (hb : Below w.heap.size w w') : Row w' g t cs := (hb.block g h.lt).trans h
theorem Row.put {w : World} {g : Nat} {t : TypeId} {cs : Array Value} (h : Row w g t cs) (i : Nat) (u : Value) : Row (w.setCell ⟨g, i, none⟩ u) g t (cs.setIfInBounds i u) := by
  unfold Row at h ⊢
  simp [World.setCell, Array.getElem?_modify, h]
theorem Row.far {w : World} {g : Nat} {t : TypeId} {cs : Array Value} (h : Row w g t cs) {p : Addr} (hp : g ≠ p.block) (u : Value) : Row (w.setCell p u) g t cs := (Below.heap_setCell w p u g hp).trans h

theorem Row.new {w : World} {g : Nat} (hg : g = w.heap.size) (t : TypeId) (cs : Array Value) : Row (w.alloc (.cells cs t)) g t cs := by subst hg; exact heap_alloc_new w _
theorem Row.alloc {w : World} {g : Nat} {t : TypeId} {cs : Array Value} (h : Row w g t cs) (o : Obj) : Row (w.alloc o) g t cs := (Below.heap_alloc w o g h.lt).trans h
/-- how far a loop over a text that goes on is from its end -/
def leftOf (v0 v6 : Value) : Nat := 2 * (match v0 with | .string s => s.size | _ => 0) + (match v6 with | .bool true => 1 | _ => 0)
theorem leftOf_yes (s : List UInt8) : leftOf (.string (bs s)) (.bool true) = 2 * s.length + 1 := by simp [leftOf, bs_size]
theorem leftOf_no (s : List UInt8) : leftOf (.string (bs s)) (.bool false) = 2 * s.length := by simp [leftOf, bs_size]
def cells4 (ns : List Nat) : Array Value := (ns.map (fun n : Nat => Value.int .i64 (n : Int))).toArray
theorem cells4_at (ns : List Nat) (k : Nat) : (cells4 ns)[k]? = (ns[k]?).map (fun n : Nat => Value.int .i64 (n : Int)) := by simp [cells4]
theorem cells4_set (ns : List Nat) (k n : Nat) : (cells4 ns).setIfInBounds k (.int .i64 (n : Int)) = cells4 (ns.set k n) := by
  apply Array.ext'
  simp [cells4, List.map_set]

set_option maxHeartbeats 4000000 in
set_option maxRecDepth 100000 in
theorem uRead_none (w : World) :
    Calls Tryz.prog 78 #[.string (bs unone)] w fun e w' => e = .returned (.tuple #[(.agg #[.int .i64 V.zero.cpu, .int .i64 V.zero.mem, .int .i64 V.zero.gpu, .int .i64 V.zero.lic]), .int .i64 0]) ∧ Below w.heap.size w w' := by
  have he : ((bs unone).toList == [110, 111, 110, 101]) = true := by rw [Lib.toList_data, bs_list]; rfl
  go_enter Tryz.func78, Tryz.ntmps78
  go_wp2
  refine bodyPost_ret (v := .tuple #[(.agg #[.int .i64 V.zero.cpu, .int .i64 V.zero.mem, .int .i64 V.zero.gpu, .int .i64 V.zero.lic]), .int .i64 0]) (by simp [results, Tryz.results78, go_sem, V.zero, *]) rfl ⟨rfl, (by repeat' (first | exact Below.refl _ _ | assumption | exact And.left (by assumption) | refine Below.drew ?_ | refine below_drewN ?_ _ | refine Below.setCell ?_ (by first | (simp; done) | (simp; omega) | omega) _ | refine Below.alloc ?_ (by first | (simp; done) | (simp; omega) | omega) _ | refine after (by assumption) (by first | (simp; done) | (simp; omega) | omega) ?_))⟩

set_option maxHeartbeats 4000000 in
set_option maxRecDepth 100000 in
theorem uRead_loop (l : List UInt8) (hl : l.length ≤ 1000000) (hne : l ≠ unone) (w : World) (hS : Std w) :
    Calls Tryz.prog 78 #[.string (bs l)] w fun e w' => e = .returned (.tuple #[(.agg #[.int .i64 (readV l).cpu, .int .i64 (readV l).mem, .int .i64 (readV l).gpu, .int .i64 (readV l).lic]), .int .i64 (readE l)]) ∧ Below w.heap.size w w' := by
  have he : ((bs l).toList == [110, 111, 110, 101]) = false := by
    rw [Lib.toList_data, bs_list]
    exact beq_eq_false_iff_ne.mpr hne
  have HL := Lib.hid (goU_start l hne)
  clear hne
  go_enter Tryz.func78, Tryz.ntmps78
  go_wp2
  generalize hw2 : World.alloc _ _ = w2
  have hbB : Below w.heap.size w w2 := by rw [← hw2]; exact (by repeat' (first | exact Below.refl _ _ | assumption | exact And.left (by assumption) | refine Below.drew ?_ | refine below_drewN ?_ _ | refine Below.setCell ?_ (by first | (simp; done) | (simp; omega) | omega) _ | refine Below.alloc ?_ (by first | (simp; done) | (simp; omega) | omega) _ | refine after (by assumption) (by first | (simp; done) | (simp; omega) | omega) ?_))
  have hlt2 : w.heap.size + 2 ≤ w2.heap.size := by rw [← hw2]; simp
  have hR2 : Row w2 w.heap.size 41 (cells4 [0, 0, 0, 0]) := by
    rw [← hw2]
    exact (Row.new rfl _ _).alloc _
  have hN2 : Row w2 (w.heap.size + 1) 103 (cells4 [0, 0, 0, 0]) := by
    rw [← hw2]
    exact Row.new (by simp) _ _
  clear hw2
  go_loopw [0, 5, 6] (fun v0 v5 v6 wr => ∃ (next : Nat) (ns : List Nat) (s : List UInt8) (more : Bool), v0 = .string (bs s) ∧ v5 = .int .i64 next ∧ v6 = .bool more ∧ s.length ≤ l.length ∧ Hid (late next ns) ∧
    Hid (Row wr w.heap.size 41 (cells4 [0, 0, 0, 0])) ∧ Hid (Row wr (w.heap.size + 1) 103 (cells4 ns)) ∧ Below w.heap.size w wr ∧ w.heap.size + 2 ≤ wr.heap.size ∧
    Hid ((more = true → goU next ns s = readU l) ∧ (more = false → readU l = some ns)))
    (fun v0 v5 v6 wr => leftOf v0 v6)
  case atStart => exact ⟨0, [0, 0, 0, 0], l, true, rfl, rfl, rfl, Nat.le_refl _, Lib.hid late_start, Lib.hid hR2, Lib.hid hN2, hbB, hlt2, Lib.hid ⟨fun _ => HL.out, fun h => by cases h⟩⟩
  case round =>
    obtain ⟨next, ns, s, more, rfl, rfl, rfl, hsl, HLate, HR, HN, hbw, hlt, HG⟩ := hrel
    clear hR2 hN2 hbB hlt2 HL
    have hSr : Std wr := hS.below hbw hS.size hbw.size
    cases more with
    | false =>
      have hout := HG.out.2 rfl
      have HE := Lib.hid (readV_some hout)
      match ns, HLate.out.1 with
      | [p, q, r, t], _ =>
      have g0 := HN.out.cell 0
      have g1 := HN.out.cell 1
      have g2 := HN.out.cell 2
      have g3 := HN.out.cell 3
      have q0 := HR.out.cell 0
      have q1 := HR.out.cell 1
      have q2 := HR.out.cell 2
      have q3 := HR.out.cell 3
      have qf := HR.out.thaw
      simp only [cells4, List.map_cons, List.map_nil, List.getElem?_toArray, List.getElem?_cons_zero, List.getElem?_cons_succ] at g0 g1 g2 g3 q0 q1 q2 q3
      clear HLate HR HN HG hout
      go_wp2
      refine bodyPost_ret (v := .tuple #[.agg #[.int .i64 p, .int .i64 q, .int .i64 r, .int .i64 t], .int .i64 0]) (by simp [results, Tryz.results78, go_sem, *]) rfl ⟨by rw [HE.out.1, HE.out.2]; rfl, (((hbw.setCell (Nat.le_refl _) _).setCell (Nat.le_refl _) _).setCell (Nat.le_refl _) _).setCell (Nat.le_refl _) _⟩
    | true =>
      have HGo := HG.out.1 rfl
      have hl44 := cutAt_len 44 s
      obtain ⟨pt, hpt⟩ : ∃ pt, pt = (cutAt 44 s).1 := ⟨_, rfl⟩
      obtain ⟨rs, hrs⟩ : ∃ rs, rs = (cutAt 44 s).2.1 := ⟨_, rfl⟩
      obtain ⟨mo, hmo⟩ : ∃ mo, mo = (cutAt 44 s).2.2 := ⟨_, rfl⟩
      have hl61 := cutAt_len 61 pt
      obtain ⟨wd, hwd⟩ : ∃ wd, wd = (cutAt 61 pt).1 := ⟨_, rfl⟩
      obtain ⟨dg, hdg⟩ : ∃ dg, dg = (cutAt 61 pt).2.1 := ⟨_, rfl⟩
      obtain ⟨fd, hfd⟩ : ∃ fd, fd = (cutAt 61 pt).2.2 := ⟨_, rfl⟩
      have HC1 := Lib.hid (cCut s 44 wr hSr (by omega))
      rw [← hpt, ← hrs, ← hmo] at HC1 hl44
      have HC2 := Lib.hid (fun w' h' => cCut pt 61 w' h' (by omega))
      rw [← hwd, ← hdg, ← hfd] at HC2
      rw [← hwd, ← hdg] at hl61
      have HNm := Lib.hid (fun w' => unumber dg (by omega) w')
      have HW := Lib.hid uWords
      have HRd := Lib.hid (goU_round next ns s HLate.out)
      rw [← hrs, ← hmo] at HRd
      have hidx : Hid (idxU next s = Lib.idxOfS ((uwords.drop next).map bs) (bs wd)) := Lib.hid (by unfold idxU; rw [← hpt, ← hwd])
      have hnum : Hid (numU s = numL 0 dg) := Lib.hid (by unfold numU; rw [← hpt, ← hdg])
      have hn4 := HLate.out.2.1
      clear hpt hrs hmo hwd hdg hfd HG
      rcases HRd.out with ⟨hi1, hi2⟩ | ⟨k, hk4, hi1, hi2, hi3⟩
      · have HE := Lib.hid (readV_none (HGo.symm.trans hi2))
        by_cases hnx : next < 4
        · have HI : Hid (∀ b w, (∀ j, j < 4 → w.cell? ⟨b, j, none⟩ = some (.string (wordAt j))) → Calls Tryz.prog 95 #[.slice (some ⟨b, next, none⟩) (4 - next) (4 - next), .string (bs wd)] w fun e w' => e = .returned (.int .i64 (-1)) ∧ w = w') := Lib.hid (fun b w hc => by
            have := cIndex b next wd w hnx hc
            rwa [← hidx.out, hi1] at this)
          clear hi1 hi2 HGo HRd hidx hnum
          go_wp2_with fail
          refine (HC1.out).mono ?_; rintro e wA ⟨rfl, hbA⟩
          have hSA := hSr.on hbA
          go_wp2_with fail
          refine (HC2.out _ hSA).mono ?_; rintro e wB ⟨rfl, hbB⟩
          go_wp2_with fail
          refine (HW.out _).mono ?_; rintro e wC ⟨rfl, hbC, hltC, hwC⟩
          have hwC' := Lib.hid hwC
          clear hwC
          go_wp2_with fail
          refine (HI.out _ _ hwC'.out).mono ?_; rintro e w' ⟨rfl, rfl⟩
          go_wp2_with fail
          refine (HNm.out _).mono ?_; rintro e wD ⟨rfl, hbD⟩
          have zA := hbA.size; have zB := hbB.size; have zC := hbC.size; have zD := hbD.size
          have hRD := (((HR.out.on hbA).on hbB).on hbC).on hbD
          have hND := Lib.hid ((((HN.out.on hbA).on hbB).on hbC).on hbD)
          have hbwD : Below w.heap.size w wD := after hbD (by omega) (after hbC (by omega) (after hbB (by omega) (after hbA (by omega) hbw)))
          have q0 := hRD.cell 0
          have q1 := hRD.cell 1
          have q2 := hRD.cell 2
          have q3 := hRD.cell 3
          have qf := hRD.thaw
          have HRD := Lib.hid hRD
          simp only [cells4, List.map_cons, List.map_nil, List.getElem?_toArray, List.getElem?_cons_zero, List.getElem?_cons_succ] at q0 q1 q2 q3
          clear hRD hbA hbB hbC hbD hwC' hSA
          clear hND HRD
          go_wp2
          refine bodyPost_ret (v := .tuple #[(.agg #[.int .i64 V.zero.cpu, .int .i64 V.zero.mem, .int .i64 V.zero.gpu, .int .i64 V.zero.lic]), .int .i64 11]) (by simp [results, Tryz.results78, go_sem, V.zero, *]) rfl ⟨by rw [HE.out.1, HE.out.2], (((hbwD.setCell (Nat.le_refl _) _).setCell (Nat.le_refl _) _).setCell (Nat.le_refl _) _).setCell (Nat.le_refl _) _⟩
        · have hnx4 : next = 4 := by omega
          subst hnx4
          have HI := Lib.hid (fun a c w => cIndex4 a c wd w)
          clear hi1 hi2 HGo HRd hidx hnum
          go_wp2_with fail
          refine (HC1.out).mono ?_; rintro e wA ⟨rfl, hbA⟩
          have hSA := hSr.on hbA
          go_wp2_with fail
          refine (HC2.out _ hSA).mono ?_; rintro e wB ⟨rfl, hbB⟩
          go_wp2_with fail
          refine (HW.out _).mono ?_; rintro e wC ⟨rfl, hbC, hltC, hwC⟩
          have hwC' := Lib.hid hwC
          clear hwC
          go_wp2_with fail
          refine (HI.out _ _ _).mono ?_; rintro e w' ⟨rfl, rfl⟩
          go_wp2_with fail
          refine (HNm.out _).mono ?_; rintro e wD ⟨rfl, hbD⟩
          have zA := hbA.size; have zB := hbB.size; have zC := hbC.size; have zD := hbD.size
          have hRD := (((HR.out.on hbA).on hbB).on hbC).on hbD
          have hND := Lib.hid ((((HN.out.on hbA).on hbB).on hbC).on hbD)
          have hbwD : Below w.heap.size w wD := after hbD (by omega) (after hbC (by omega) (after hbB (by omega) (after hbA (by omega) hbw)))
          have q0 := hRD.cell 0
          have q1 := hRD.cell 1
          have q2 := hRD.cell 2
          have q3 := hRD.cell 3
          have qf := hRD.thaw
          have HRD := Lib.hid hRD
          simp only [cells4, List.map_cons, List.map_nil, List.getElem?_toArray, List.getElem?_cons_zero, List.getElem?_cons_succ] at q0 q1 q2 q3
          clear hRD hbA hbB hbC hbD hwC' hSA
          clear hND HRD
          go_wp2
          refine bodyPost_ret (v := .tuple #[(.agg #[.int .i64 V.zero.cpu, .int .i64 V.zero.mem, .int .i64 V.zero.gpu, .int .i64 V.zero.lic]), .int .i64 11]) (by simp [results, Tryz.results78, go_sem, V.zero, *]) rfl ⟨by rw [HE.out.1, HE.out.2], (((hbwD.setCell (Nat.le_refl _) _).setCell (Nat.le_refl _) _).setCell (Nat.le_refl _) _).setCell (Nat.le_refl _) _⟩
      · have hnx : next < 4 := by omega
        have HI : Hid (∀ b w, (∀ j, j < 4 → w.cell? ⟨b, j, none⟩ = some (.string (wordAt j))) → Calls Tryz.prog 95 #[.slice (some ⟨b, next, none⟩) (4 - next) (4 - next), .string (bs wd)] w fun e w' => e = .returned (.int .i64 (k : Int)) ∧ w = w') := Lib.hid (fun b w hc => by
          have := cIndex b next wd w hnx hc
          rwa [← hidx.out, hi1] at this)
        obtain ⟨n, hn⟩ : ∃ n, n = numU s := ⟨_, rfl⟩
        rw [← hn] at hi2 hi3 hnum
        rw [← hnum.out] at HNm
        by_cases hn0 : n = 0
        · have HE := Lib.hid (readV_none (HGo.symm.trans (hi2 hn0)))
          subst hn0
          clear hi1 hi2 hi3 HGo HRd hidx hnum hn
          go_wp2_with fail
          refine (HC1.out).mono ?_; rintro e wA ⟨rfl, hbA⟩
          have hSA := hSr.on hbA
          go_wp2_with fail
          refine (HC2.out _ hSA).mono ?_; rintro e wB ⟨rfl, hbB⟩
          go_wp2_with fail
          refine (HW.out _).mono ?_; rintro e wC ⟨rfl, hbC, hltC, hwC⟩
          have hwC' := Lib.hid hwC
          clear hwC
          go_wp2_with fail
          refine (HI.out _ _ hwC'.out).mono ?_; rintro e w' ⟨rfl, rfl⟩
          go_wp2_with fail
          refine (HNm.out _).mono ?_; rintro e wD ⟨rfl, hbD⟩
          have zA := hbA.size; have zB := hbB.size; have zC := hbC.size; have zD := hbD.size
          have hRD := (((HR.out.on hbA).on hbB).on hbC).on hbD
          have hND := Lib.hid ((((HN.out.on hbA).on hbB).on hbC).on hbD)
          have hbwD : Below w.heap.size w wD := after hbD (by omega) (after hbC (by omega) (after hbB (by omega) (after hbA (by omega) hbw)))
          have q0 := hRD.cell 0
          have q1 := hRD.cell 1
          have q2 := hRD.cell 2
          have q3 := hRD.cell 3
          have qf := hRD.thaw
          have HRD := Lib.hid hRD
          simp only [cells4, List.map_cons, List.map_nil, List.getElem?_toArray, List.getElem?_cons_zero, List.getElem?_cons_succ] at q0 q1 q2 q3
          clear hRD hbA hbB hbC hbD hwC' hSA
          clear hND HRD
          go_wp2
          refine bodyPost_ret (v := .tuple #[(.agg #[.int .i64 V.zero.cpu, .int .i64 V.zero.mem, .int .i64 V.zero.gpu, .int .i64 V.zero.lic]), .int .i64 11]) (by simp [results, Tryz.results78, go_sem, V.zero, *]) rfl ⟨by rw [HE.out.1, HE.out.2], (((hbwD.setCell (Nat.le_refl _) _).setCell (Nat.le_refl _) _).setCell (Nat.le_refl _) _).setCell (Nat.le_refl _) _⟩
        · obtain ⟨hla, hyes, hno⟩ := hi3 hn0
          have HLa := Lib.hid hla
          have HY := Lib.hid (fun h => (hyes h).symm.trans HGo)
          have HNo := Lib.hid (fun h => HGo.symm.trans (hno h))
          have hns4 := HLate.out.1
          obtain ⟨old, hold⟩ : ∃ old, ns[next + k]? = some old := ⟨_, List.getElem?_eq_getElem (by omega)⟩
          clear hi1 hi2 hi3 HGo HRd hidx hnum hn hla hyes hno
          go_wp2_with fail
          refine (HC1.out).mono ?_; rintro e wA ⟨rfl, hbA⟩
          have hSA := hSr.on hbA
          go_wp2_with fail
          refine (HC2.out _ hSA).mono ?_; rintro e wB ⟨rfl, hbB⟩
          go_wp2_with fail
          refine (HW.out _).mono ?_; rintro e wC ⟨rfl, hbC, hltC, hwC⟩
          have hwC' := Lib.hid hwC
          clear hwC
          go_wp2_with fail
          refine (HI.out _ _ hwC'.out).mono ?_; rintro e w' ⟨rfl, rfl⟩
          go_wp2_with fail
          refine (HNm.out _).mono ?_; rintro e wD ⟨rfl, hbD⟩
          have zA := hbA.size; have zB := hbB.size; have zC := hbC.size; have zD := hbD.size
          have hRD := (((HR.out.on hbA).on hbB).on hbC).on hbD
          have hND := Lib.hid ((((HN.out.on hbA).on hbB).on hbC).on hbD)
          have hbwD : Below w.heap.size w wD := after hbD (by omega) (after hbC (by omega) (after hbB (by omega) (after hbA (by omega) hbw)))
          have q0 := hRD.cell 0
          have q1 := hRD.cell 1
          have q2 := hRD.cell 2
          have q3 := hRD.cell 3
          have qf := hRD.thaw
          have HRD := Lib.hid hRD
          simp only [cells4, List.map_cons, List.map_nil, List.getElem?_toArray, List.getElem?_cons_zero, List.getElem?_cons_succ] at q0 q1 q2 q3
          clear hRD hbA hbB hbC hbD hwC' hSA
          have gk := hND.out.cell (next + k)
          rw [cells4_at, hold] at gk
          simp only [Option.map_some] at gk
          have gf := hND.out.thaw
          have hk0 : decide ((k : Int) < 0) = false := decide_eq_false (by omega)
          have hnb : ((n : Int) == 0) = false := by rw [beq_eq_false_iff_ne]; omega
          go_wp2
          go_roundw
          case rel => exact ⟨next + k + 1, ns.set (next + k) n, rs, mo, rfl, by go_num, rfl, by omega, HLa, Lib.hid (HRD.out.far (by simp) _), Lib.hid (by rw [← cells4_set]; exact hND.out.put _ _), hbwD.setCell (by simp) _, by simp; omega, Lib.hid ⟨HY.out, HNo.out⟩⟩
          case measure =>
            cases mo with
            | true => rw [leftOf_yes, leftOf_yes]; have := hl44.2.2 rfl; omega
            | false => rw [leftOf_no, leftOf_yes]; have := hl44.2.1; omega

end Go.Proofs.YtgopjpnlpcmldaaGreatDoor.W
