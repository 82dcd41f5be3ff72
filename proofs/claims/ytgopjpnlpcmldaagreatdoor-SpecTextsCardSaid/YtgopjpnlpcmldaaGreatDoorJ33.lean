/-
  Several texts in one: TextSplit, TextJoin, TextSay, TextSay2.
-/
import Derived.Test.YtgopjpnlpcmldaaGreatDoorJ31
import Derived.Test.YtgopjpnlpcmldaaGreatDoorShelf
import Derived.Test.YtgopjpnlpcmldaaGreatDoorJ32
import Derived.Shelf.Abstract
import Derived.Shelf.RegionOpen
import Derived.WalkKit
import Derived.OwnWalkIn
import Derived.TacticsInMore
import Derived.LoopNIn
import Derived.LoopIn
import Derived.Lib.IndexLaws
import Derived.Test.YtgopjpnlpcmldaaGreatDoorSpecFlaw

/-
  strings.SplitSeq at one byte: its function value gives the parts one behind the other; what is left stands in a cell of its own.
-/
namespace Go.Proofs.YtgopjpnlpcmldaaGreatDoor.W
set_option linter.unusedVariables false
set_option linter.unusedSimpArgs false
open Go.ChangeShapes Go.WideShapes Go.ChangeAt Go.RowKit
attribute [local go_sem] Oper.semAt_some

theorem splitAll_index : ∀ (l : List UInt8) (c : UInt8), (Lib.indexByte l c = -1 ∧ splitAll c l = [l]) ∨
    ∃ i : Nat, Lib.indexByte l c = i ∧ i + 1 ≤ l.length ∧ splitAll c l = l.take i :: splitAll c (l.drop (i + 1))
  | [], c => .inl ⟨rfl, rfl⟩
  | b :: l, c => by
    by_cases h : b = c
    · subst h
      exact .inr ⟨0, by simp [Lib.indexByte], by simp, by simp [splitAll]⟩
    · have hb : (b == c) = false := by simp [h]
      rcases splitAll_index l c with ⟨e, s⟩ | ⟨i, e, hi, s⟩
      · exact .inl ⟨by simp [Lib.indexByte, hb, e], by rw [splitAll, if_neg h, s]⟩
      · refine .inr ⟨i + 1, ?_, by simp; omega, ?_⟩
        · have : ¬ (i : Int) = -1 := by omega
          simp [Lib.indexByte, hb, e, this]
        · rw [splitAll, if_neg h, s]
          simp

theorem sIndex (l : List UInt8) (c : UInt8) (w : World) :
    Calls Tryz.prog 118 #[.string (bs l), .string (bs [c])] w fun e w' => e = .returned (.int .i64 (Lib.indexByte l c)) ∧ w' = w := by
  have HI := Lib.hid (Tryz.stringslite_Index_one (bs l) c)
  rw [bs_list] at HI
  rw [show bs [c] = ⟨#[c]⟩ from rfl]
  generalize Lib.indexByte l c = i at HI ⊢
  go_enter Tryz.func118, Tryz.ntmps118
  go_wp2_with fail
  refine (HI.out _).mono ?_; rintro e w1 ⟨rfl, rfl⟩
  go_wp2
  go_ret
  exact ⟨rfl, rfl⟩
theorem take_bs (s : List UInt8) (i : Nat) (h : i ≤ s.length) (w : World) : (Instr.slice 9 (.string (bs s)) none (some (.int .i64 (i : Int))) none).run Tryz.prog w = .ok (.string (bs (s.take i))) w := by
  have hz := bs_size s
  rw [run_slice_string_to_if _ _ _ _ _ Tryz.underlying9, if_pos ⟨by omega, by omega⟩]
  rw [show ((i : Int)).toNat = i by omega, Lib.extract_eq, bs_list]
  simp [bs]
theorem drop_bs (s : List UInt8) (i : Nat) (h : i ≤ s.length) (w : World) : (Instr.slice 9 (.string (bs s)) (some (.int .i64 (i : Int))) none none).run Tryz.prog w = .ok (.string (bs (s.drop i))) w := by
  have hz := bs_size s
  rw [run_slice_string_from_if _ _ _ _ _ Tryz.underlying9, if_pos ⟨by omega, by omega⟩]
  rw [show ((i : Int)).toNat = i by omega, Lib.extract_eq, bs_list, bs_size]
  rw [List.take_of_length_le (by simp)]
  simp [bs]

/-- the three blocks that the giver reads -/
def SplitAt (p Bs z : Nat) (c : UInt8) (r : List UInt8) (w : World) : Prop :=
  Row w p 9 #[.string (bs [c])] ∧ Row w Bs 9 #[.string (bs r)] ∧ Row w z 3 #[.int .i64 0]
def splitKb (p Bs z : Nat) (k : Nat) : Prop := k = p ∨ k = Bs ∨ k = z
theorem SplitAt.on {p Bs z : Nat} {c : UInt8} {r : List UInt8} {w w' : World} (h : SplitAt p Bs z c r w) (hk : ∀ k, splitKb p Bs z k → w'.heap[k]? = w.heap[k]?) : SplitAt p Bs z c r w' :=
  ⟨(hk p (.inl rfl)).trans h.1, (hk Bs (.inr (.inl rfl))).trans h.2.1, (hk z (.inr (.inr rfl))).trans h.2.2⟩
theorem grown_put {w : World} {b : Nat} {t : TypeId} {cs : Array Value} (h : Row w b t cs) (i : Nat) (v : Value) : w.grownBy (w.setCell ⟨b, i, none⟩ v) (some b) :=
  ⟨rfl, rfl, rfl, by simp [World.setCell], fun k hk hr => Below.heap_setCell w ⟨b, i, none⟩ v k (fun e => hr (by rw [e]))⟩
def leftAt (Bs : Nat) (w : World) : Nat := match w.cell? ⟨Bs, 0, none⟩ with
  | some (.string s) => s.size
  | _ => 0
theorem leftAt_of {p Bs z : Nat} {c : UInt8} {r : List UInt8} {w : World} (h : SplitAt p Bs z c r w) : leftAt Bs w = r.length := by
  unfold leftAt
  rw [h.2.1.cell]
  simp [bs_size]
theorem grown_drewS (w : World) (row : Option Nat) : w.grownBy w.drew row := ⟨rfl, rfl, rfl, Nat.le_refl _, fun _ _ _ => rfl⟩
set_option maxHeartbeats 2000000 in
set_option maxRecDepth 100000 in
theorem split_gives (F : Fence) (n : Nat) (hFf : F.fn 116) (hF2 : F.fn 118) {c : UInt8} (hFI : ∀ s w, CallsIn F (n - 1) Tryz.prog 118 #[.string (bs s), .string (bs [c])] w fun e w' => e = .returned (.int .i64 (Lib.indexByte s c)) ∧ w' = w) (hro : F.round = none) (hn : 1 ≤ n) (p Bs z : Nat) (hp : p ≠ Bs) (hz : z ≠ Bs) (l : List UInt8) (hl : l.length ≤ 100000) (w : World) (hw : SplitAt p Bs z c l w) :
    Gives F n Tryz.prog 116 #[.pointer (some ⟨p, 0, none⟩), .pointer (some ⟨Bs, 0, none⟩), .pointer (some ⟨z, 0, none⟩)] (fun x : List UInt8 => #[.string (bs x)]) Bs (splitKb p Bs z)
      (fun pre x => ∃ rest, splitAll c l = pre ++ x :: rest) (fun xs => xs = splitAll c l) (fun pre => pre <+: splitAll c l) w := fun y J Jx W hW hJ hY h0 => by
  have hw0 : SplitAt p Bs z c l W := hw.on (by rintro k (rfl | rfl | rfl); exact hW.block _ hw.1.lt; exact hW.block _ hw.2.1.lt; exact hW.block _ hw.2.2.lt)
  clear hw
  have mixed : Tryz.prog.follows .mixedOrders = true := by kernel_rfl
  refine callsIn_of_wp Tryz.func116 rfl hFf ?_ hro
  simp only [Tryz.ntmps116, List.size_toArray, List.length_cons, List.length_nil, Nat.reduceAdd, Nat.reduceSub, Array.replicate_succ, Array.replicate_zero, List.push_toArray, List.append_toArray, List.nil_append, List.cons_append]
  have HC := hw0
  have c1 := HC.1.cell 0
  have c2 := HC.2.1.cell 0
  have c3 := HC.2.2.cell 0
  have e1 : ((bs [c]).size : Int) = 1 := by rw [bs_size]; rfl
  simp at c1 c2 c3
  gi_wp2
  gi_loopw [7] (fun v7 wr => ∃ (pre : List (List UInt8)) (r : List UInt8), SplitAt p Bs z c r wr ∧ J pre wr ∧ Hid (splitAll c l = pre ++ splitAll c r) ∧ r.length ≤ l.length) (fun v7 wr => leftAt Bs wr)
  case atStart => exact ⟨[], l, hw0, h0, Lib.hid rfl, Nat.le_refl _⟩
  case round =>
    obtain ⟨pre, r, HS, hJr, HG, hr⟩ := hrel
    clear c1 c2 c3 HC hw0 h0 hW
    have HI := hFI r
    have hm := leftAt_of HS
    have c1 := HS.1.cell 0
    have c2 := HS.2.1.cell 0
    have c3 := HS.2.2.cell 0
    simp at c1 c2 c3
    rcases splitAll_index r c with ⟨e, s⟩ | ⟨i, e, hi, s⟩
    · rw [e] at HI
      obtain ⟨fn, tmps, assign, body, hy, hR⟩ := hY pre r wr hJr ⟨[], by rw [HG.out, s]⟩
      rw [s] at HG
      clear s
      gi_wp2
      refine (HI wr).mono ?_
      rintro e w' ⟨rfl, rfl⟩
      gi_wp2
      refine hR.mono ?_
      rintro e W' (⟨rfl, hJ', hk⟩ | ⟨rfl, hJx'⟩)
      · gi_wp2
        go_end0
        exact ⟨⟨_, rfl⟩, .inl ⟨_, HG.out.symm, hJ'⟩⟩
      · gi_wp2
        go_end0
        exact ⟨⟨_, rfl⟩, .inr ⟨_, by rw [HG.out]; exact List.prefix_refl _, hJx'⟩⟩
    · rw [e] at HI
      obtain ⟨fn, tmps, assign, body, hy, hR⟩ := hY pre (r.take i) wr hJr ⟨splitAll c (r.drop (i + 1)), by rw [HG.out, s]⟩
      rw [s] at HG
      clear s
      have ht := take_bs r i (by omega)
      have hd := drop_bs r (i + 1) (by omega)
      rw [show ((i + 1 : Nat) : Int) = (i : Int) + 1 from rfl] at hd
      gi_wp2
      refine (HI wr).mono ?_
      rintro e w' ⟨rfl, rfl⟩
      gi_wp2
      refine hR.mono ?_
      rintro e W' (⟨rfl, hJ', hk⟩ | ⟨rfl, hJx'⟩)
      · have HS' := HS.on hk
        have d1 := HS'.1.cell 0
        have d2 := HS'.2.1.cell 0
        have d4 := HS'.2.1.thaw 0
        simp at d1 d2
        gi_wp2
        have HS2 : SplitAt p Bs z c (r.drop (i + 1)) (W'.setCell ⟨Bs, 0, none⟩ (.string (bs (r.drop (i + 1))))) := ⟨HS'.1.far (by simpa using hp) _, HS'.2.1.put 0 _, HS'.2.2.far (by simpa using hz) _⟩
        go_roundw
        case rel => exact ⟨pre ++ [r.take i], r.drop (i + 1), HS2, hJ _ _ _ hJ' (grown_put HS'.2.1 0 _), Lib.hid (by rw [HG.out]; simp), by simp; omega⟩
        case measure => rw [leftAt_of HS2, hm]; simp; omega
      · gi_wp2
        refine bodyPost_ret (results_none rfl _ _ _) rfl ?_
        exact ⟨⟨_, rfl⟩, .inr ⟨_, by rw [HG.out]; exact ⟨splitAll c (r.drop (i + 1)), by simp⟩, hJx'⟩⟩
set_option maxHeartbeats 1000000 in
set_option maxRecDepth 100000 in
theorem cSplitSeq (l : List UInt8) (c : UInt8) (w : World) :
    Calls Tryz.prog 98 #[.string (bs l), .string (bs [c])] w fun e w' => ∃ p Bs z, e = .returned (.func (.func 116) #[] #[.pointer (some ⟨p, 0, none⟩), .pointer (some ⟨Bs, 0, none⟩), .pointer (some ⟨z, 0, none⟩)]) ∧
      w.heap.size ≤ p ∧ w.heap.size ≤ Bs ∧ w.heap.size ≤ z ∧ p ≠ Bs ∧ z ≠ Bs ∧ SplitAt p Bs z c l w' ∧ Below w.heap.size w w' := by
  have HS : ∀ w, Hid (Calls Tryz.prog 107 #[.string (bs l), .string (bs [c]), .int .i64 0] w fun e w' => ∃ p Bs z, e = .returned (.func (.func 116) #[] #[.pointer (some ⟨p, 0, none⟩), .pointer (some ⟨Bs, 0, none⟩), .pointer (some ⟨z, 0, none⟩)]) ∧
      w.heap.size ≤ p ∧ w.heap.size ≤ Bs ∧ w.heap.size ≤ z ∧ p ≠ Bs ∧ z ≠ Bs ∧ SplitAt p Bs z c l w' ∧ Below w.heap.size w w') := by
    intro w
    refine Lib.hid ?_
    go_enter Tryz.func107, Tryz.ntmps107
    go_wp2
    go_ret
    refine ⟨w.heap.size + 1, w.heap.size, w.heap.size + 2, rfl, by omega, by omega, by omega, by omega, by omega, ⟨?_, ?_, ?_⟩, (by repeat' (first | exact Below.refl _ _ | assumption | exact And.left (by assumption) | refine Below.drew ?_ | refine below_drewN ?_ _ | refine Below.setCell ?_ (by first | (simp; done) | (simp; omega) | omega) _ | refine Below.alloc ?_ (by first | (simp; done) | (simp; omega) | omega) _ | refine after (by assumption) (by first | (simp; done) | (simp; omega) | omega) ?_))⟩
    · exact (Row.new (by simp) _ _).alloc _
    · exact ((Row.new rfl _ _).alloc _).alloc _
    · exact Row.new (by simp) _ _
  go_enter Tryz.func98, Tryz.ntmps98
  go_wp2_with fail
  refine (HS _).out.mono ?_
  rintro e w1 ⟨p, Bs, z, rfl, h1, h2, h3, h4, h5, h6, h7⟩
  go_wp2
  go_ret
  exact ⟨p, Bs, z, rfl, h1, h2, h3, h4, h5, h6, h7⟩
end Go.Proofs.YtgopjpnlpcmldaaGreatDoor.W


/-
  Contract of spec.joined: numbers with one blank between.
-/
namespace Go.Proofs.YtgopjpnlpcmldaaGreatDoor.W
set_option linter.unusedVariables false
set_option linter.unusedSimpArgs false
open Go.ChangeShapes Go.WideShapes Go.ChangeAt Go.RowKit

set_option maxHeartbeats 4000000 in
set_option maxRecDepth 100000 in
theorem joined (p : Sl) (hp : p.l.length ≤ 100) (hn : ∀ n ∈ p.l, Num n) (w : World) (hS : Std w) (hA : SlAt w p) :
    Calls Tryz.prog 79 #[.slice p.a p.l.length p.cap] w fun e w' => e = .returned (.string (bs (joinN p.l))) ∧ Below w.heap.size w w' := by
  obtain ⟨i0, hi, hz0, hz1, hz2⟩ := info_parts info8
  have HA := Lib.hid hA
  have HN := Lib.hid hn
  have HS := Lib.hid hS
  have h4 := hS.size
  obtain ⟨a, cap, l⟩ := p
  simp only at hp
  clear hA hn hS
  have HI := Lib.hid (appendInt w.heap.size)
  go_enter Tryz.func79, Tryz.ntmps79
  go_wp2_with fail
  go_loopw [3, 8] (fun v3 v8 wr => ∃ k : Nat, k ≤ l.length ∧ v8 = .int .i64 (k : Int) ∧ Hid (wr.ownsRow w.heap.size 5 1 v3 (joinN (l.take k)).length (bytesV (joinN (l.take k)))) ∧ Below w.heap.size w wr) (fun _ v8 _ => l.length - (intOf v8).toNat)
  case atStart => exact ⟨0, Nat.zero_le _, rfl, Lib.hid (World.ownsRow_nil _ _ _ _), Below.refl _ _⟩
  case round =>
    obtain ⟨k, hk, rfl, HO, hbw⟩ := hrel
    have hz := hbw.size
    have hlen := take_len HN.out k
    try simp only at hlen
    by_cases hlt : k < l.length
    · obtain ⟨b, off, x, hx, ha, hbl, hc⟩ := SlAt.at_ HA.out (k := k) hlt
      try simp only at hx ha
      have cA : wr.cell? ⟨b, off + k, none⟩ = some (.int .i64 x) := (hbw.cell (p := ⟨b, off + k, none⟩) hbl).trans hc
      have hxn : Num x := by
        rw [hx]
        have e : l.getD k 0 = l[k] := by simp [hlt]
        rw [e]; exact HN.out _ (List.getElem_mem hlt)
      have hx0 := hxn.1
      have hx1 := hxn.2
      have hjt := Lib.hid (join_take hlt)
      rw [← hx] at hjt
      clear hx hc hxn
      subst ha
      by_cases h0 : k = 0
      · subst h0
        have e0 : joinN (l.take 0) = [] := by simp [joinN]
        rw [e0] at HO
        have hk0 : Hid (joinN (l.take 1) = decI x) := Lib.hid (by have := hjt.out; simpa using this)
        clear hjt e0
        rw [Nat.add_zero] at cA
        go_wp2_with fail
        refine (HI.out x (by omega) (by omega) _ [] wr (HS.out.on hbw) h4 hz (by simp) HO.out).mono ?_
        rintro e w1 ⟨v', rfl, ho, hb1⟩
        have HO1 : Hid (w1.ownsRow w.heap.size 5 1 v' (joinN (l.take (0 + 1))).length (bytesV (joinN (l.take (0 + 1))))) := Lib.hid (by
          rw [Nat.zero_add, hk0.out]; exact ho)
        clear ho
        go_wp2
        go_roundw
        case rel => exact ⟨1, by omega, by go_num, HO1, hbw.trans hb1⟩
        case measure => simp [intOf]; omega
      · have hkp : 0 < k := by omega
        have hj : Hid (joinN (l.take (k + 1)) = joinN (l.take k) ++ 32 :: decI x) := Lib.hid (by have := hjt.out; rw [if_neg h0] at this; exact this)
        clear hjt
        generalize hcur : joinN (l.take k) = cur at HO hj hlen
        have e1 : Hid ((32 : Int) = ((32 : UInt8).toNat : Int)) := Lib.hid rfl
        go_wp2_with (at_builtin; refine push _ _ 47 5 1 (.int .u8 0) i0 Tryz.underlying47 hi hz0 hz1 hz2 rfl w.heap.size w.heap.size cur.length (bytesV cur) _ _ _ w _ rfl rfl rfl rfl HO.out hbw (Nat.le_refl _) (by omega) rfl (by omega) (by omega) ?_)
        intro v1 w1 hown1 hb1
        have HO1 : Hid (w1.ownsRow w.heap.size 5 1 v1 (cur ++ [32]).length (bytesV (cur ++ [32]))) := Lib.hid (by
          rw [bytesV_app, List.length_append]
          exact hown1)
        clear hown1
        have hz1 := hb1.size
        go_wp2_with fail
        refine (HI.out x (by omega) (by omega) v1 (cur ++ [32]) w1 (HS.out.on hb1) h4 hz1 (by simp; omega) HO1.out).mono ?_
        rintro e w2 ⟨v', rfl, ho, hb2⟩
        have HO2 : Hid (w2.ownsRow w.heap.size 5 1 v' (joinN (l.take (k + 1))).length (bytesV (joinN (l.take (k + 1))))) := Lib.hid (by
          rw [hj.out, show cur ++ 32 :: decI x = (cur ++ [32]) ++ decI x by simp]; exact ho)
        clear ho
        go_wp2
        go_roundw
        case rel => exact ⟨k + 1, by omega, by go_num, HO2, hb1.trans hb2⟩
        case measure => simp [intOf]; omega
    · have hkk : k = l.length := by omega
      subst hkk
      rw [List.take_length] at HO
      have hcv := own_string HO.out
      go_wp2_with fail
      go_ret
      exact ⟨rfl, hbw⟩
end Go.Proofs.YtgopjpnlpcmldaaGreatDoor.W


/-
  Contracts of spec.sayParts, spec.sayMode: what stands behind a kind's word, in each of its lines.
-/
namespace Go.Proofs.YtgopjpnlpcmldaaGreatDoor.W
set_option linter.unusedVariables false
set_option linter.unusedSimpArgs false
open Go.ChangeShapes Go.WideShapes Go.ChangeAt Go.RowKit

/-- what a sayer answers: these texts, in a row of its own -/
def Said (w : World) (L : List (List UInt8)) (e : Ending) (w' : World) : Prop := ∃ v, e = .returned v ∧ w'.ownsRow w.heap.size 9 1 v L.length (strs L) ∧ Below w.heap.size w w'

set_option maxHeartbeats 4000000 in
set_option maxRecDepth 100000 in
theorem sayParts (s : S) (g : Nat) (pa : Option Addr) (hpa : s.pa = pa) (w : World) (hS : Std w) (HB : Box w g s) (HR : Rows w s) (hR : RightIs s) :
    Calls Tryz.prog 30 #[.pointer (some ⟨g, 0, none⟩)] w (Said w (s.parts.map fun p => joinN p.l)) := by
  obtain ⟨i0, hi, hz0, hz1, hz2⟩ := info_parts infoS
  have c1 : w.cell? ⟨g, 1, none⟩ = some (.slice pa s.parts.length s.pc) := by rw [← hpa]; exact HB.c1
  have hg := HB.lt
  have HN := Lib.hid hpa
  have HR := Lib.hid HR
  have HS := Lib.hid hS
  have hn8 := hR.parts.1.2
  have HF := Lib.hid (right_tok hR).fine
  have hlen : ∀ i (hi : i < s.parts.length), s.parts[i].l.length ≤ 100 := fun i hi => by
    have h1 := hR.parts.2 _ (List.getElem_mem hi)
    have h2 := rise_len h1.2 (by omega)
    have h3 := hR.nodes.1.2
    omega
  have HL := Lib.hid hlen
  obtain ⟨L, hL⟩ : ∃ L, L = s.parts.map fun p => joinN p.l := ⟨_, rfl⟩
  have hLl : L.length = s.parts.length := by rw [hL, List.length_map]
  have hsn : ∀ k (hk : k < s.parts.length), strs (L.take (k + 1)) = strs (L.take k) ++ [.string (bs (joinN s.parts[k].l))] := fun k hk => by
    rw [List.take_add_one, List.getElem?_eq_getElem (by omega), ← strs_snoc]
    simp [hL]
  have HSN := Lib.hid hsn
  rw [← hL]
  clear hpa HB hS hR hlen hsn hL
  go_enter Tryz.func30, Tryz.ntmps30
  go_wp2_with fail
  go_loopw [3, 11] (fun v3 v11 wr => ∃ k : Nat, k ≤ s.parts.length ∧ v11 = .int .i64 (k : Int) ∧ Hid (wr.ownsRow w.heap.size 9 1 v3 k (strs (L.take k))) ∧ Below w.heap.size w wr) (fun _ v11 _ => s.parts.length - (intOf v11).toNat)
  case atStart => exact ⟨0, Nat.zero_le _, rfl, Lib.hid (World.ownsRow_nil _ _ _ _), Below.refl _ _⟩
  case round =>
    obtain ⟨k, hk, rfl, HO, hbw⟩ := hrel
    have hz := hbw.size
    by_cases hlt : k < s.parts.length
    · obtain ⟨b, off, ea, hbl, q0⟩ := (HR.out.later hbw).part_ hlt
      rw [HN.out] at ea
      subst ea
      have HP := Lib.hid ((HR.out.part _ (List.getElem_mem hlt)).later hbw)
      have hl := HL.out k hlt
      have HJ := Lib.hid (joined s.parts[k] hl (fun n hn => (HF.out.parts s.parts[k].l (List.mem_map.mpr ⟨_, List.getElem_mem hlt, rfl⟩)).2 n hn) wr (HS.out.on hbw) HP.out)
      have hsn := Lib.hid (HSN.out k hlt)
      go_wp2_with fail
      refine HJ.out.mono ?_; rintro e w1 ⟨rfl, hb1⟩
      have HO1 := Lib.hid (own_later HO.out hb1)
      have hzb := hb1.size
      have hbw1 : Below w.heap.size w w1 := hbw.trans (hb1.mono hz)
      go_wp2_with (at_builtin; refine push _ _ 56 9 16 (.string ⟨#[]⟩) i0 Tryz.underlying56 hi hz0 hz1 hz2 rfl w.heap.size w.heap.size k (strs (L.take k)) _ u3 _ w _ rfl rfl rfl rfl HO1.out hbw1 (Nat.le_refl _) (by omega) rfl (by omega) (by omega) ?_)
      intro v2 w2 hown2 hb2
      have HO2 : Hid (w2.ownsRow w.heap.size 9 1 v2 (k + 1) (strs (L.take (k + 1)))) := Lib.hid (by
        rw [hsn.out]; exact hown2)
      clear hown2
      go_wp2
      go_roundw
      case rel => exact ⟨k + 1, by omega, by go_num, HO2, hb2⟩
      case measure => simp [intOf]; omega
    · have hkk : k = s.parts.length := by omega
      rw [hkk, ← hLl, List.take_length] at HO
      go_wp2_with fail
      go_ret
      exact ⟨_, rfl, HO.out, hbw⟩

set_option maxHeartbeats 4000000 in
set_option maxRecDepth 100000 in
theorem sayMode (s : S) (g : Nat) (w : World) (HB : Box w g s) :
    Calls Tryz.prog 39 #[.pointer (some ⟨g, 0, none⟩)] w (Said w [if s.mode = 1 then kEasy else kCons]) := by
  have c9 := HB.c9
  have hg := HB.lt
  clear HB
  have own : ∀ (x : List UInt8), World.ownsRow (w.alloc (.cells #[.string (bs x)] 9)) w.heap.size 9 1 (.slice (some ⟨w.heap.size, 0, none⟩) 1 1) [x].length (strs [x]) := fun x =>
    ⟨rfl, .inr ⟨w.heap.size, 1, #[.string (bs x)], rfl, Nat.le_refl _, heap_alloc_new w _, Nat.le_refl _, (by unfold maxLen; omega), rfl, by simp [strs]⟩⟩
  have HO := Lib.hid own
  clear own
  obtain ⟨M, hM⟩ : ∃ M, M = if s.mode = 1 then kEasy else kCons := ⟨_, rfl⟩
  rw [← hM]
  by_cases h : s.mode = 1
  · have HI : Hid (M = kEasy) := Lib.hid (hM.trans (if_pos h))
    clear hM
    go_enter Tryz.func39, Tryz.ntmps39
    go_wp2_with fail
    go_ret
    exact ⟨_, rfl, by rw [HI.out]; exact HO.out kEasy, (by repeat' (first | exact Below.refl _ _ | assumption | exact And.left (by assumption) | refine Below.drew ?_ | refine below_drewN ?_ _ | refine Below.setCell ?_ (by first | (simp; done) | (simp; omega) | omega) _ | refine Below.alloc ?_ (by first | (simp; done) | (simp; omega) | omega) _ | refine after (by assumption) (by first | (simp; done) | (simp; omega) | omega) ?_))⟩
  · have HI : Hid (M = kCons) := Lib.hid (hM.trans (if_neg h))
    clear hM
    go_enter Tryz.func39, Tryz.ntmps39
    go_wp2_with fail
    go_ret
    exact ⟨_, rfl, by rw [HI.out]; exact HO.out kCons, (by repeat' (first | exact Below.refl _ _ | assumption | exact And.left (by assumption) | refine Below.drew ?_ | refine below_drewN ?_ _ | refine Below.setCell ?_ (by first | (simp; done) | (simp; omega) | omega) _ | refine Below.alloc ?_ (by first | (simp; done) | (simp; omega) | omega) _ | refine after (by assumption) (by first | (simp; done) | (simp; omega) | omega) ?_))⟩
end Go.Proofs.YtgopjpnlpcmldaaGreatDoor.W


/-
  Contracts of spec.sayWeights, spec.sayNodes.
-/
namespace Go.Proofs.YtgopjpnlpcmldaaGreatDoor.W
set_option linter.unusedVariables false
set_option linter.unusedSimpArgs false
open Go.ChangeShapes Go.WideShapes Go.ChangeAt Go.RowKit

/-- a row of one text, just made -/
theorem said_one (w : World) (x : List UInt8) : World.ownsRow (w.alloc (.cells #[.string (bs x)] 9)) w.heap.size 9 1 (.slice (some ⟨w.heap.size, 0, none⟩) 1 1) [x].length (strs [x]) :=
  ⟨rfl, .inr ⟨w.heap.size, 1, #[.string (bs x)], rfl, Nat.le_refl _, heap_alloc_new w _, Nat.le_refl _, (by unfold maxLen; omega), rfl, by simp [strs]⟩⟩

/-- joined, of a slice of four just written -/
theorem joined4 (a b c d : Int) (ha : Num a) (hb : Num b) (hc : Num c) (hd : Num d) (g : Nat) (w : World) (hS : Std w) (h0 : w.cell? ⟨g, 0, none⟩ = some (.int .i64 a)) (h1 : w.cell? ⟨g, 1, none⟩ = some (.int .i64 b)) (h2 : w.cell? ⟨g, 2, none⟩ = some (.int .i64 c)) (h3 : w.cell? ⟨g, 3, none⟩ = some (.int .i64 d)) :
    Calls Tryz.prog 79 #[.slice (some ⟨g, 0, none⟩) 4 4] w fun e w' => e = .returned (.string (bs (joinN [a, b, c, d]))) ∧ Below w.heap.size w w' := by
  refine joined ⟨some ⟨g, 0, none⟩, 4, [a, b, c, d]⟩ (by simp) (by simp [ha, hb, hc, hd]) w hS (slAt_lit (xs := [a, b, c, d]) (fun i hi' => ?_) (by simp))
  match i, hi' with
  | 0, _ => exact h0
  | 1, _ => exact h1
  | 2, _ => exact h2
  | 3, _ => exact h3
  | n + 4, h => simp at h; omega
set_option maxHeartbeats 4000000 in
set_option maxRecDepth 100000 in
theorem sayWeights (s : S) (g : Nat) (w : World) (hS : Std w) (HB : Box w g s) (hR : RightIs s) :
    Calls Tryz.prog 36 #[.pointer (some ⟨g, 0, none⟩)] w (Said w [joinN [s.age, s.size, s.qos, s.share]]) := by
  have h0 := HB.c4
  have h1 := HB.c5
  have h2 := HB.c6
  have h3 := HB.c7
  have hg := HB.lt
  have hw := hR.weights
  have nu : ∀ n : Int, 0 ≤ n ∧ n ≤ 1000 → Num n := fun n h => ⟨h.1, by omega⟩
  have H := Lib.hid (fun b w hS h0 h1 h2 h3 => joined4 s.age s.size s.qos s.share (nu _ hw.1) (nu _ hw.2.1) (nu _ hw.2.2.1) (nu _ hw.2.2.2) b w hS h0 h1 h2 h3)
  have HS := Lib.hid hS
  obtain ⟨x, hx⟩ : ∃ x, x = joinN [s.age, s.size, s.qos, s.share] := ⟨_, rfl⟩
  rw [← hx] at H ⊢
  clear HB hR hS hw nu hx
  go_enter Tryz.func36, Tryz.ntmps36
  go_wp2_with fail
  refine (H.out _ _ (HS.out.on (by repeat' (first | exact Below.refl _ _ | assumption | exact And.left (by assumption) | refine Below.drew ?_ | refine below_drewN ?_ _ | refine Below.setCell ?_ (by first | (simp; done) | (simp; omega) | omega) _ | refine Below.alloc ?_ (by first | (simp; done) | (simp; omega) | omega) _ | refine after (by assumption) (by first | (simp; done) | (simp; omega) | omega) ?_))) (by simp [go_sem]) (by simp [go_sem]) (by simp [go_sem]) (by simp [go_sem])).mono ?_; rintro e w1 ⟨rfl, hb1⟩; obtain ⟨hc1, hf1⟩ := bcell hb1; have hz1 := hb1.size; (try simp at hz1); have lt_w1_0 : w.heap.size < w1.heap.size := (by omega); have lt_w1_1 : w.heap.size + 1 < w1.heap.size := (by omega)
  go_wp2
  go_ret
  exact ⟨_, rfl, own_more (said_one w1 x) (by omega), (by repeat' (first | exact Below.refl _ _ | assumption | exact And.left (by assumption) | refine Below.drew ?_ | refine below_drewN ?_ _ | refine Below.setCell ?_ (by first | (simp; done) | (simp; omega) | omega) _ | refine Below.alloc ?_ (by first | (simp; done) | (simp; omega) | omega) _ | refine after (by assumption) (by first | (simp; done) | (simp; omega) | omega) ?_))⟩

set_option maxHeartbeats 4000000 in
set_option maxRecDepth 100000 in
theorem sayNodes (s : S) (g : Nat) (na : Option Addr) (hna : s.na = na) (w : World) (hS : Std w) (HB : Box w g s) (HR : Rows w s) (hR : RightIs s) :
    Calls Tryz.prog 28 #[.pointer (some ⟨g, 0, none⟩)] w (Said w (s.nodes.map vtext)) := by
  obtain ⟨i0, hi, hz0, hz1, hz2⟩ := info_parts infoS
  have c1 : w.cell? ⟨g, 0, none⟩ = some (.slice na s.nodes.length s.nc) := by rw [← hna]; exact HB.c0
  have hg := HB.lt
  have HN := Lib.hid hna
  have HR := Lib.hid HR
  have HS := Lib.hid hS
  have hn8 := hR.nodes.1.2
  have HK := Lib.hid hR.nodes.2
  obtain ⟨L, hL⟩ : ∃ L, L = s.nodes.map vtext := ⟨_, rfl⟩
  have hLl : L.length = s.nodes.length := by rw [hL, List.length_map]
  have hsn : ∀ k (hk : k < s.nodes.length), strs (L.take (k + 1)) = strs (L.take k) ++ [.string (bs (utext s.nodes[k].ns))] := fun k hk => by
    rw [List.take_add_one, List.getElem?_eq_getElem (by omega)]
    simp only [hL, List.getElem_map, Option.toList_some]
    exact strs_snoc _ _
  have HSN := Lib.hid hsn
  rw [← hL]
  clear hna HB hS hR hsn hL
  go_enter Tryz.func28, Tryz.ntmps28
  go_wp2_with fail
  go_loopw [3, 13] (fun v3 v13 wr => ∃ k : Nat, k ≤ s.nodes.length ∧ v13 = .int .i64 (k : Int) ∧ Hid (wr.ownsRow w.heap.size 9 1 v3 k (strs (L.take k))) ∧ Below w.heap.size w wr) (fun _ v13 _ => s.nodes.length - (intOf v13).toNat)
  case atStart => exact ⟨0, Nat.zero_le _, rfl, Lib.hid (World.ownsRow_nil _ _ _ _), Below.refl _ _⟩
  case round =>
    obtain ⟨k, hk, rfl, HO, hbw⟩ := hrel
    have hz := hbw.size
    by_cases hlt : k < s.nodes.length
    · obtain ⟨b, off, ea, hbl, q0, q1, q2, q3⟩ := (HR.out.later hbw).node hlt
      rw [HN.out] at ea
      subst ea
      have HJ := Lib.hid (fun w' hS' => uText_yes s.nodes[k] (HK.out _ (List.getElem_mem hlt)) w' hS')
      have hsn := Lib.hid (HSN.out k hlt)
      obtain ⟨x, hx⟩ : ∃ x, x = utext s.nodes[k].ns := ⟨_, rfl⟩
      rw [← hx] at HJ hsn
      clear hx
      go_wp2_with fail
      refine (HJ.out _ (HS.out.on (hbw.alloc hz _))).mono ?_; rintro e w1 ⟨rfl, hb1⟩
      have hzb := hb1.size; try simp at hzb
      have hbw1 : Below w.heap.size w w1 := (hbw.alloc hz _).trans (hb1.mono (by simp; omega))
      have HO1 : Hid (w1.ownsRow w.heap.size 9 1 u3 k (strs (L.take k))) := Lib.hid (own_later (HO.out.alloc _) hb1)
      go_wp2_with (at_builtin; refine push _ _ 56 9 16 (.string ⟨#[]⟩) i0 Tryz.underlying56 hi hz0 hz1 hz2 rfl w.heap.size w.heap.size k (strs (L.take k)) _ u3 _ w _ rfl rfl rfl rfl HO1.out hbw1 (Nat.le_refl _) (by omega) rfl (by omega) (by omega) ?_)
      intro v2 w2 hown2 hb2
      have HO2 : Hid (w2.ownsRow w.heap.size 9 1 v2 (k + 1) (strs (L.take (k + 1)))) := Lib.hid (by
        rw [hsn.out]; exact hown2)
      clear hown2
      go_wp2
      go_roundw
      case rel => exact ⟨k + 1, by omega, by go_num, HO2, hb2⟩
      case measure => simp [intOf]; omega
    · have hkk : k = s.nodes.length := by omega
      rw [hkk, ← hLl, List.take_length] at HO
      go_wp2_with fail
      go_ret
      exact ⟨_, rfl, HO.out, hbw⟩
end Go.Proofs.YtgopjpnlpcmldaaGreatDoor.W
