/-
  Contracts of book.Expire, of plan's unbooked.
-/
import Derived.Test.YtcdajfiohhbdgaaJ37
namespace Go.Proofs.Ytcdajfiohhbdgaa.W
set_option maxRecDepth 100000
set_option linter.unusedVariables false
set_option linter.unusedSimpArgs false
open Go.ChangeShapes Go.WideShapes Go.ChangeAt Go.RowKit

theorem expire_next {now : Int} {l : List Bk} {k : Nat} (h : k < l.length) : expireL now (l.take (k + 1)) = expireL now (l.take k) ++ if now < l[k].til then [l[k]] else [] := by
  unfold expireL
  rw [take_app l k h, List.filter_append]
  congr 1
  by_cases e : now < l[k].til <;> simp [e]
theorem expire_len (now : Int) (l : List Bk) : (expireL now l).length ≤ l.length := List.length_filter_le _ _
set_option maxHeartbeats 2000000 in
theorem bExpire (a : Option Addr) (cap : Nat) (l : List Bk) (hl : l.length ≤ 1000) (now : Int) (w : World) (HA : BkAt w a cap l) :
    Calls Try.prog 38 #[.slice a l.length cap, .int .i64 now] w fun e w' => ∃ v, e = .returned v ∧ w'.ownsRow w.heap.size 65 4 v (expireL now l).length (bksV (expireL now l)) ∧ Below w.heap.size w w' := by
  obtain ⟨i0, hi, hzz, hzs, hzb⟩ := info_parts infoBk
  have HR := Lib.hid HA
  clear HA
  go_enter Try.func38, Try.ntmps38
  go_wp2
  go_loopw [5, 10] (fun v5 x wr => ∃ k : Nat, k ≤ l.length ∧ x = .int .i64 k ∧ Below w.heap.size w wr ∧ Hid (∃ m, m = (expireL now (l.take k)).length ∧ m ≤ k ∧ wr.ownsRow w.heap.size 65 4 v5 m (bksV (expireL now (l.take k))))) (fun _ x _ => l.length - (intOf x).toNat)
  case atStart => exact ⟨0, Nat.zero_le _, rfl, Below.refl _ _, Lib.hid ⟨0, rfl, Nat.le_refl _, World.ownsRow_nil _ _ _ _⟩⟩
  case round =>
    obtain ⟨k, hk, rfl, hb, HI⟩ := hrel
    have hz := hb.size
    by_cases hlt : k < l.length
    · obtain ⟨b, off, ea, hbl, q0, q1, q2, q3⟩ := (HR.out.later hb).row.bk hlt
      subst ea
      have HN := Lib.hid (expire_next (now := now) hlt)
      generalize l[k] = s at q0 q1 q2 q3 HN
      by_cases h : now < s.til
      · have g := decide_eq_true h
        obtain ⟨m, hm, hmk, hO⟩ := HI.out
        have HE : Hid (expireL now (l.take (k + 1)) = expireL now (l.take k) ++ [s]) := Lib.hid (HN.out.trans (by rw [if_pos h]))
        have HO := Lib.hid hO
        have HM := Lib.hid hm
        clear hO HI HN h hm
        have hbx : ∀ o, Below w.heap.size w (wr.alloc o) := fun o => hb.alloc hz o
        go_upto_region 6 with fail
        generalize hw2 : World.alloc wr _ = w2
        have hb2 : Below wr.heap.size wr w2 := by rw [← hw2]; exact (by repeat' (first | exact Below.refl _ _ | assumption | exact And.left (by assumption) | refine Below.drew ?_ | refine below_drewN ?_ _ | refine Below.setCell ?_ (by first | (simp; done) | (simp; omega) | omega) _ | refine Below.alloc ?_ (by first | (simp; done) | (simp; omega) | omega) _ | refine after (by assumption) (by first | (simp; done) | (simp; omega) | omega) ?_))
        have z0 : w2.cell? ⟨wr.heap.size, 0, none⟩ = some (.int .i64 s.id) := by rw [← hw2]; simp [go_sem]
        have z1 : w2.cell? ⟨wr.heap.size, 1, none⟩ = some (.int .i64 s.node) := by rw [← hw2]; simp [go_sem]
        have z2 : w2.cell? ⟨wr.heap.size, 2, none⟩ = some (.int .i64 s.frm) := by rw [← hw2]; simp [go_sem]
        have z3 : w2.cell? ⟨wr.heap.size, 3, none⟩ = some (.int .i64 s.til) := by rw [← hw2]; simp [go_sem]
        clear hw2
        have k2 := hb.trans (hb2.mono hz)
        have hz2 := k2.size
        have HO2 := Lib.hid (own_later HO.out hb2)
        go_wp2_with (at_builtin; refine pushOne _ _ 30 65 4 32 _ i0 Try.underlying30 hi hzz hzs hzb rfl (by decide) (by decide) w.heap.size w.heap.size m _ _ _ _ w _ rfl rfl rfl rfl rfl HO2.out k2 (Nat.le_refl _) hz2 (by simp [Value.oneCell']) (by omega) ?_)
        intro v' w3 hown hb3
        go_wp2
        go_roundw
        case rel => exact ⟨k + 1, by omega, by go_num, hb3, Lib.hid ⟨m + 1, by rw [HE.out, List.length_append, ← HM.out]; rfl, by omega, by rw [HE.out, bksV_app, bksV_one]; exact hown⟩⟩
        case measure => simp [intOf]; omega
      · have g := decide_eq_false h
        have HE : Hid (expireL now (l.take (k + 1)) = expireL now (l.take k)) := Lib.hid (HN.out.trans (by rw [if_neg h, List.append_nil]))
        clear HN h
        go_wp2
        generalize hw2 : World.alloc wr _ = w2
        have hb2 : Below wr.heap.size wr w2 := by rw [← hw2]; exact (by repeat' (first | exact Below.refl _ _ | assumption | exact And.left (by assumption) | refine Below.drew ?_ | refine below_drewN ?_ _ | refine Below.setCell ?_ (by first | (simp; done) | (simp; omega) | omega) _ | refine Below.alloc ?_ (by first | (simp; done) | (simp; omega) | omega) _ | refine after (by assumption) (by first | (simp; done) | (simp; omega) | omega) ?_))
        go_roundw
        case rel =>
          obtain ⟨m, hm, hmk, hO⟩ := HI.out
          exact ⟨k + 1, by omega, by go_num, hb.trans (hb2.mono hz), Lib.hid ⟨m, by rw [HE.out]; exact hm, by omega, by rw [HE.out]; exact own_later hO hb2⟩⟩
        case measure => simp [intOf]; omega
    · have hkl : k = l.length := by omega
      obtain ⟨m, hm, hmk, hO⟩ := HI.out
      rw [hkl, List.take_length] at hm hO
      have HO : Hid (wr.ownsRow w.heap.size 65 4 u5 (expireL now l).length (bksV (expireL now l))) := Lib.hid (by rw [← hm]; exact hO)
      clear hO HI hm
      go_wp2
      go_ret
      exact ⟨_, rfl, HO.out, hb⟩
def puSp (gg n nb no nc sb kk : Nat) (pa : Option Addr) (pl pc : Nat) (now fr ti mx : Int) (d : V) (R : List St) : List Sp :=
  [Sp.c (.slice (some ⟨gg, 0, none⟩) n n) [],
   Sp.c (.pointer (some ⟨sb, 1, none⟩)) [],
   Sp.c (.int .i64 (kk : Int)) [1],
   Sp.c (.slice (some ⟨gg, 0, none⟩) n n) [],
   Sp.c (.pointer (some ⟨sb, 1, none⟩)) [],
   Sp.c (.int .i64 (kk : Int)) [4],
   Sp.c (.pointer (some ⟨gg, kk, none⟩)) [3, 5],
   Sp.c (.slice pa pl pc) [6],
   Sp.c (.pointer (some ⟨sb, 2, none⟩)) [],
   Sp.c (.int .i64 fr) [8],
   Sp.c (.int .i64 now) [],
   Sp.c (.int .i64 mx) [9, 10],
   Sp.c (.pointer (some ⟨sb, 3, none⟩)) [],
   Sp.c (.int .i64 ti) [12],
   Sp.c (.slice (some ⟨nb, no, none⟩) n nc) [],
   Sp.c (.pointer (some ⟨sb, 1, none⟩)) [],
   Sp.c (.int .i64 (kk : Int)) [15],
   Sp.c (.pointer (some ⟨nb, no + kk * 4, none⟩)) [14, 16],
   Sp.c ((.agg #[.int .i64 d.cpu, .int .i64 d.mem, .int .i64 d.gpu, .int .i64 d.lic])) [17],
   Sp.m true (fun x wm => ∃ a c, x = .tuple #[.slice a R.length c, .int .i64 0] ∧ StlAt wm ⟨a, c, R⟩) [7, 11, 13, 18],
   Sp.m true (fun x wm => ∃ a c, x = .tuple #[.slice a R.length c, .int .i64 0] ∧ StlAt wm ⟨a, c, R⟩) [19],
   Sp.m true (fun x wm => ∃ a c, x = .slice a R.length c ∧ StlAt wm ⟨a, c, R⟩) [20],
   Sp.c (.int .i64 0) [20],
   Sp.c (.pointer (some ⟨gg, kk, none⟩)) [0, 2]]
def noStl : Stl := ⟨none, 0, []⟩
theorem noStl_at (w : World) : StlAt w noStl := ⟨⟨.inl rfl, Nat.le_refl _, fun _ => rfl⟩, fun d h => by cases h⟩
theorem stl_made (n : Nat) : madeCells (Value.slice none 0 0).cells n = ((List.replicate n noStl).map stlV).toArray := by
  apply Array.ext'
  rw [show (Value.slice none 0 0).cells = #[.slice none 0 0] from rfl, Go.toList_madeCells_one]
  simp [stlV, noStl]
theorem bookF_head {caps : List V} {now : Int} {F F0 : FL} {b : Bk} {r : List Bk} {kk : Nat} (hk : b.node.toNat = kk) (h : bookF caps now F (b :: r) = some F0) :
    turnE false (F.getD kk []) (if b.frm < now then now else b.frm) b.til (caps.getD kk V.zero) = 0 ∧ bookF caps now (F.set kk (turnR false (F.getD kk []) (if b.frm < now then now else b.frm) b.til (caps.getD kk V.zero))) r = some F0 := by
  subst hk
  rw [bookF] at h
  unfold takeL at h
  by_cases e : turnE false (F.getD b.node.toNat []) (if b.frm < now then now else b.frm) b.til (caps.getD b.node.toNat V.zero) = 0
  · rw [if_pos e] at h
    exact ⟨e, h⟩
  · rw [if_neg e] at h
    cases h
theorem new_one (now : Int) (h0 : 0 ≤ now) (h1 : now ≤ 1099511627776) (v : V) (h : v.Ok) (w' : World) :
    Calls Try.prog 37 #[.int .i64 now, (.agg #[.int .i64 v.cpu, .int .i64 v.mem, .int .i64 v.gpu, .int .i64 v.lic])] w' fun e w'' => ∃ a c, e = .returned (.tuple #[.slice a 1 c, .int .i64 0]) ∧ StlAt w'' ⟨a, c, [⟨now, v⟩]⟩ ∧ Below w'.heap.size w' w'' := by
  refine (sNew now v w').mono ?_
  rintro e w'' ⟨x, rfl, ho, hb⟩
  have hr : newR now v = [⟨now, v⟩] := if_pos ⟨⟨h0, by omega⟩, h⟩
  rw [show newE now v = 0 from if_pos ⟨⟨h0, by omega⟩, h⟩]
  rw [hr] at ho
  obtain ⟨a, c, rfl, h2⟩ := own_stl ho
  exact ⟨a, c, rfl, h2, hb⟩
/-- the nodes' own steps so far -/
def NewTo (now : Int) (caps : List V) (F : List Stl) (k : Nat) : Prop := ∀ i (hi : i < F.length) (hc : i < caps.length), i < k → F[i].l = [⟨now, caps[i]⟩]
set_option maxHeartbeats 8000000 in
theorem pUnb (nb no nc : Nat) (caps : List V) (hn : caps.length ≤ 16) (hcap : ∀ c ∈ caps, c.Ok) (now : Int) (h0 : 0 ≤ now) (h1 : now ≤ 1099511627776) (ba : Option Addr) (bc : Nat) (books : List Bk) (hbk : RightBk caps.length books) (F0 : FL) (hF0 : bookF caps now (newF now caps) (expireL now books) = some F0) (w : World)
    (HC : RowAt w (some ⟨nb, no, none⟩) (vcsV caps)) (HB : BkAt w ba bc books) :
    Calls Try.prog 23 #[.slice (some ⟨nb, no, none⟩) caps.length nc, .int .i64 now, .slice ba books.length bc] w fun e w' =>
      ∃ v F', e = .returned (.tuple #[v, .int .i64 0]) ∧ FrOwn w' w.heap.size v F' ∧ flOf F' = F0 ∧ Below w.heap.size w w' := by
  have HR := Lib.hid HC
  have HBR := Lib.hid HB
  have HF0 := Lib.hid hF0
  have hb16 := hbk.2
  have HEB := Lib.hid (fun b hb => rightK_mem hbk.1 b ((expire_sub now books).subset hb))
  have HEX := Lib.hid (fun w' h => bExpire ba bc books (by omega) now w' h)
  have hel := expire_len now books
  have HNW := Lib.hid (fun (v : V) (h : v.Ok) (w' : World) => new_one now h0 h1 v h w')
  have HOK := Lib.hid hcap
  obtain ⟨i0, hi, hzz, hzs, hzb⟩ := info_parts infoStl
  have hmk := fun W => run_make (P := Try.prog) W 71 79 i0 _ Try.underlying71 hi hzz .i64 .i64 (caps.length : Int) (caps.length : Int) (by omega) (by omega) (by rw [hzb]; omega) (by omega)
  simp only [Int.toNat_natCast, hzs, Nat.mul_one, stl_made] at hmk
  clear HC HB hbk hF0 hcap h0 h1
  generalize hnn : caps.length = n at hmk hn
  have HN := Lib.hid hnn
  clear hnn
  generalize hgz : ((List.replicate n noStl).map stlV).toArray = zs at hmk
  have HGZ := Lib.hid hgz
  clear hgz
  go_enter Try.func23, Try.ntmps23
  go_wp2
  generalize hw0 : World.alloc w _ = w0
  have hb0 : Below w.heap.size w w0 := by rw [← hw0]; exact (by repeat' (first | exact Below.refl _ _ | assumption | exact And.left (by assumption) | refine Below.drew ?_ | refine below_drewN ?_ _ | refine Below.setCell ?_ (by first | (simp; done) | (simp; omega) | omega) _ | refine Below.alloc ?_ (by first | (simp; done) | (simp; omega) | omega) _ | refine after (by assumption) (by first | (simp; done) | (simp; omega) | omega) ?_))
  have H0 : Hid (FrOwn w0 w.heap.size (.slice (some ⟨w.heap.size, 0, none⟩) n n) (List.replicate n noStl)) := Lib.hid (by
    refine ⟨?_, fun p hp => by rw [(List.mem_replicate.1 hp).2]; exact noStl_at _⟩
    rw [List.length_replicate, ← hw0]
    exact own_whole (by rw [HGZ.out]; exact heap_alloc_new _ _) (Nat.le_refl _) (by unfold maxLen; omega) (by simp))
  have hw0l : w.heap.size < w0.heap.size := by rw [← hw0]; simp
  clear hw0
  have hz0 := hb0.size
  go_loopw [9, 19] (fun v9 x wr => v9 = .int .i64 0 ∧ ∃ k : Nat, k ≤ n ∧ x = .int .i64 k ∧ Below w.heap.size w wr ∧ Hid (∃ F', FrOwn wr w.heap.size (.slice (some ⟨w.heap.size, 0, none⟩) n n) F' ∧ F'.length = n ∧ NewTo now caps F' k)) (fun _ x _ => n - (intOf x).toNat)
  case atStart => exact ⟨rfl, 0, Nat.zero_le _, rfl, hb0, Lib.hid ⟨_, H0.out, by simp, fun i _ _ h => absurd h (by omega)⟩⟩
  case round =>
    obtain ⟨rfl, k, hk, rfl, hb, HI⟩ := hrel
    have hz := hb.size
    by_cases hlt : k < n
    · have hlc : k < caps.length := by rw [HN.out]; exact hlt
      obtain ⟨b, off, ea, hbl, q0, q1, q2, q3⟩ := (HR.out.later hb).vc hlc
      injection ea with ea
      injection ea with ea1 ea2
      subst ea1 ea2
      have HQ := Lib.hid (HNW.out caps[k] (HOK.out _ (List.getElem_mem hlc)))
      have HV : Hid (∃ v, caps[k] = v) := Lib.hid ⟨_, rfl⟩
      obtain ⟨F', hO, hFn, hFN⟩ := HI.out
      have hkF : k < F'.length := by omega
      have HPUT := Lib.hid (fun (W : World) (p : Stl) (h : FrOwn W w.heap.size (.slice (some ⟨w.heap.size, 0, none⟩) n n) F') (hp : StlAt W p) => h.put hFn.symm hkF hp)
      have HFR := Lib.hid (fun (W : World) (hw : Below wr.heap.size wr W) => hO.later hw)
      have HCL := Lib.hid (fun (W : World) (hw : Below wr.heap.size wr W) => (show W.cell? ⟨w.heap.size, k, none⟩ = some (stlV F'[k]) ∧ W.frozen? ⟨w.heap.size, k, none⟩ = false from by
        have h := (hO.later hw).own
        rw [hFn] at h
        exact ⟨by rw [h.cellAt k (by omega)]; simp [hkF], h.frozenAt k⟩))
      have HNX := Lib.hid (fun (a : Option Addr) (c : Nat) => (show NewTo now caps (F'.set k ⟨a, c, [⟨now, caps[k]⟩]⟩) (k + 1) from by
        intro i hi1 hi2 hi3
        rw [List.getElem_set]
        by_cases e : k = i
        · subst e; simp
        · rw [if_neg e]; exact hFN i (by simpa using hi1) hi2 (by omega)))
      have HFN := Lib.hid hFn
      generalize stlV F'[k] = sv at HCL
      generalize caps[k] = v at q0 q1 q2 q3 HQ HNX
      clear hO hFn hFN HI HV
      go_upto_region 6 with fail
      generalize hw2 : World.alloc wr _ = w2
      have hb2 : Below wr.heap.size wr w2 := by rw [← hw2]; exact (by repeat' (first | exact Below.refl _ _ | assumption | exact And.left (by assumption) | refine Below.drew ?_ | refine below_drewN ?_ _ | refine Below.setCell ?_ (by first | (simp; done) | (simp; omega) | omega) _ | refine Below.alloc ?_ (by first | (simp; done) | (simp; omega) | omega) _ | refine after (by assumption) (by first | (simp; done) | (simp; omega) | omega) ?_))
      have x0 : w2.cell? ⟨wr.heap.size, 0, none⟩ = some (.int .i64 v.cpu) := by rw [← hw2]; simp [go_sem]
      have x1 : w2.cell? ⟨wr.heap.size, 1, none⟩ = some (.int .i64 v.mem) := by rw [← hw2]; simp [go_sem]
      have x2 : w2.cell? ⟨wr.heap.size, 2, none⟩ = some (.int .i64 v.gpu) := by rw [← hw2]; simp [go_sem]
      have x3 : w2.cell? ⟨wr.heap.size, 3, none⟩ = some (.int .i64 v.lic) := by rw [← hw2]; simp [go_sem]
      clear hw2
      have k2 := hb.trans (hb2.mono hz)
      have hz2 := hb2.size
      go_wp2_with fail
      refine (HQ.out w2).mono ?_; rintro e w3 ⟨a3, c3, rfl, hst3, hb3⟩
      have k3 := k2.trans (hb3.mono k2.size)
      have hr3 := hb2.trans (hb3.mono hz2)
      obtain ⟨y0, y1⟩ := HCL.out w3 hr3
      have hput := HPUT.out w3 ⟨a3, c3, [⟨now, v⟩]⟩ (HFR.out w3 hr3) hst3
      clear HCL HPUT HFR hst3 x0 x1 x2 x3 q0 q1 q2 q3
      go_upto_region 7 with fail
      generalize hw4 : World.setCell w3 _ _ = w4
      have HO4 : Hid (FrOwn w4 w.heap.size (.slice (some ⟨w.heap.size, 0, none⟩) n n) (F'.set k ⟨a3, c3, [⟨now, v⟩]⟩)) := Lib.hid (by rw [← hw4]; exact hput)
      have k4 : Below w.heap.size w w4 := by rw [← hw4]; exact k3.setCell (p := ⟨w.heap.size, k, none⟩) (Nat.le_refl _) _
      clear hw4 hput
      go_wp2
      go_roundw
      case rel => exact ⟨rfl, k + 1, by omega, by go_num, k4, Lib.hid ⟨_, HO4.out, by rw [List.length_set, HFN.out], HNX.out a3 c3⟩⟩
      case measure => simp [intOf]; omega
    · obtain ⟨F', hO, hFn, hFN⟩ := HI.out
      have hkn : k = n := by omega
      have HF1 : Hid (∃ F', FrOwn wr w.heap.size (.slice (some ⟨w.heap.size, 0, none⟩) n n) F' ∧ F'.length = n ∧ flOf F' = newF now caps) := Lib.hid ⟨F', hO, hFn, by
        refine List.ext_getElem (by rw [flOf_len, hFn, ← HN.out]; simp [newF]) fun i hi1 hi2 => ?_
        rw [flOf_len] at hi1
        have hi3 : i < caps.length := by rw [HN.out]; omega
        have := hFN i hi1 hi3 (by omega)
        simp only [flOf, newF, List.getElem_map]
        exact this⟩
      clear hO hFn hFN HI HNW HOK
      rename World => wr
      go_wp2_with fail
      refine (HEX.out wr (HBR.out.later hb)).mono ?_; rintro e w1 ⟨v1, rfl, hO1, hb1⟩
      obtain ⟨ea, ec, rfl, hE1⟩ := own_bk hO1
      have HE1 := Lib.hid (And.intro hE1 (Ty.own hO1))
      have k1 := hb.trans (hb1.mono hz)
      have hz1 := k1.size
      have HF2 : Hid (∃ F', FrOwn w1 w.heap.size (.slice (some ⟨w.heap.size, 0, none⟩) n n) F' ∧ F'.length = n ∧ flOf F' = newF now caps) := Lib.hid (by
        obtain ⟨F', h1, h2, h3⟩ := HF1.out
        exact ⟨F', h1.later hb1, h2, h3⟩)
      clear hO1 hE1 HF1 HEX
      have hel2 : (expireL now books).length ≤ 16 := by omega
      generalize expireL now books = E at HF0 HEB HE1 hel2 ⊢
      clear hel
      go_wp2
      go_loopw [9, 41] (fun v9 x wr => v9 = .int .i64 0 ∧ ∃ k : Nat, k ≤ E.length ∧ x = .int .i64 k ∧ Below w.heap.size w wr ∧ Below w1.heap.size w1 w1 ∧ Hid (BkAt wr ea ec E ∧ Ty wr 65 ea) ∧ Hid (∃ F', FrOwn wr w.heap.size (.slice (some ⟨w.heap.size, 0, none⟩) n n) F' ∧ F'.length = n ∧ LenLe (flOf F') (1 + 2 * k) ∧ bookF caps now (flOf F') (E.drop k) = some F0)) (fun _ x _ => E.length - (intOf x).toNat)
      case atStart =>
        refine ⟨rfl, 0, Nat.zero_le _, rfl, k1, Below.refl _ _, HE1, Lib.hid ?_⟩
        obtain ⟨F', h1, h2, h3⟩ := HF2.out
        refine ⟨F', h1, h2, by rw [h3]; intro l hl; obtain ⟨c, _, rfl⟩ := List.mem_map.1 hl; simp, by rw [h3]; exact HF0.out⟩
      case round =>
        rename World => wq
        obtain ⟨rfl, k, hk, rfl, hb, _, HEQ, HI⟩ := hrel
        have hz := hb.size
        by_cases hlt : k < E.length
        · obtain ⟨b, off, ea1, hbl, q0, q1, q2, q3⟩ := HEQ.out.1.row.bk hlt
          subst ea1
          obtain ⟨_, ⟨g1, g2⟩, g3, g4, g5⟩ := HEB.out E[k] (List.getElem_mem hlt)
          obtain ⟨F', hO, hFn, hFB, hFe⟩ := HI.out
          obtain ⟨kk, hkk⟩ : ∃ kk : Nat, (kk : Int) = E[k].node := ⟨E[k].node.toNat, by omega⟩
          have hkn : kk < n := by have := HN.out; omega
          have hkt : E[k].node.toNat = kk := by omega
          rw [drop_at E k hlt] at hFe
          obtain ⟨hT0, hT1⟩ := bookF_head hkt hFe
          rw [← hkk] at q1
          have hkF : kk < F'.length := by omega
          rw [flOf_at hkF] at hT0 hT1
          have hlc : kk < caps.length := by rw [HN.out]; exact hkn
          have hmx : ∀ ts ty W, (Builtin.max_ ts ty #[.int .i64 E[k].frm, .int .i64 now]).run Try.prog W = .ok (.int .i64 (if E[k].frm < now then now else E[k].frm)) W := fun ts ty W => max2_run _ ts ty _ _ W
          have hcg : caps.getD kk V.zero = caps[kk] := by simp [hlc]
          rw [hcg] at hT0 hT1
          have HTK := Lib.hid (fun (w' : World) (h : StAt w' F'[kk].a F'[kk].cap F'[kk].l) => sTake2 F'[kk].a F'[kk].cap F'[kk].l (by have := hFB F'[kk].l (List.mem_map.2 ⟨_, List.getElem_mem hkF, rfl⟩); omega) (if E[k].frm < now then now else E[k].frm) E[k].til caps[kk] w' h)
          rw [hT0] at HTK
          have HLL : Hid (LenLe ((flOf F').set kk (turnR false F'[kk].l (if E[k].frm < now then now else E[k].frm) E[k].til caps[kk])) (1 + 2 * (k + 1))) := Lib.hid (by
            intro y hy
            rcases List.mem_or_eq_of_mem_set hy with hy | rfl
            · have := hFB y hy; omega
            · have := turnR_lenP (m := false) (l := F'[kk].l) (f := (if E[k].frm < now then now else E[k].frm)) (t := E[k].til) (need := caps[kk])
              have := hFB F'[kk].l (List.mem_map.2 ⟨_, List.getElem_mem hkF, rfl⟩)
              omega)
          have HT1 := Lib.hid hT1
          obtain ⟨nb2, no2, eb, hcl, e0, e1, e2, e3⟩ := (HR.out.later hb).vc hlc
          injection eb with eb
          injection eb with eb1 eb2
          subst eb1 eb2
          have hzl0 : wq.cell? ⟨w.heap.size, kk, none⟩ = some (.slice F'[kk].a F'[kk].l.length F'[kk].cap) := by
            have h := hO.own
            rw [hFn] at h
            rw [h.cellAt kk (by omega)]
            simp [hkF, stlV]
          have hzf : wq.frozen? ⟨w.heap.size, kk, none⟩ = false := by
            have h := hO.own
            rw [hFn] at h
            exact h.frozenAt kk
          have HEX := Lib.hid (hO.each _ (List.getElem_mem hkF))
          have HPUT := Lib.hid (fun (W : World) (p : Stl) (h : FrOwn W w.heap.size (.slice (some ⟨w.heap.size, 0, none⟩) n n) F') (hp : StlAt W p) => h.put hFn.symm hkF hp)
          have HFR := Lib.hid (fun (W : World) (hw : Below wq.heap.size wq W) => hO.later hw)
          have HFN := Lib.hid hFn
          clear hO hFB hFe HI hT0 hT1 g1 g2 g3 g4 g5 hcg hkk hkt hFn
          generalize turnR false F'[kk].l (if E[k].frm < now then now else E[k].frm) E[k].til caps[kk] = R at HTK HT1 HLL
          generalize (if E[k].frm < now then now else E[k].frm) = mx at HTK hmx
          generalize F'[kk] = p at hzl0 HEX HTK
          obtain ⟨pa, pc, pls⟩ := p
          generalize hpl : pls.length = pl at hzl0
          simp only [hpl] at HTK
          clear hpl
          generalize E[k] = s at q0 q1 q2 q3 hmx HTK
          obtain ⟨sid, snode, fr, ti⟩ := s
          generalize caps[kk] = d at e0 e1 e2 e3 HTK
          have hwq : w.heap.size < wq.heap.size := World.block_lt_of_cell? _ _ hzl0
          go_upto_region 13 with fail
          generalize hw2 : World.alloc wq _ = w2
          have hb2 : Below wq.heap.size wq w2 := by rw [← hw2]; exact (by repeat' (first | exact Below.refl _ _ | assumption | exact And.left (by assumption) | refine Below.drew ?_ | refine below_drewN ?_ _ | refine Below.setCell ?_ (by first | (simp; done) | (simp; omega) | omega) _ | refine Below.alloc ?_ (by first | (simp; done) | (simp; omega) | omega) _ | refine after (by assumption) (by first | (simp; done) | (simp; omega) | omega) ?_))
          have z1 : w2.cell? ⟨wq.heap.size, 1, none⟩ = some (.int .i64 (kk : Int)) := by rw [← hw2]; simp [go_sem]
          have z2 : w2.cell? ⟨wq.heap.size, 2, none⟩ = some (.int .i64 fr) := by rw [← hw2]; simp [go_sem]
          have z3 : w2.cell? ⟨wq.heap.size, 3, none⟩ = some (.int .i64 ti) := by rw [← hw2]; simp [go_sem]
          clear hw2 q0 q1 q2 q3
          have zl := carry hb2 hzl0
          have hzf2 := (World.frozen?_of_block (w := wq) (hb2.block w.heap.size hwq)).trans hzf
          replace e0 := carry hb2 e0
          replace e1 := carry hb2 e1
          replace e2 := carry hb2 e2
          replace e3 := carry hb2 e3
          replace HEX := Lib.hid (HEX.out.later hb2)
          have k2 := hb.trans (hb2.mono hz)
          have HEQ2 := Lib.hid (And.intro (HEQ.out.1.later hb2) (HEQ.out.2.later hb2))
          replace HFR := Lib.hid (fun (W : World) (hw : Below w2.heap.size w2 W) => HFR.out W (hb2.trans (hw.mono hb2.size)))
          generalize hsb : wq.heap.size = sb at z1 z2 z3 hb2 hwq ⊢
          clear hsb hzl0 hzf HEQ
          have hk0 : (0 : Int) ≤ kk := by omega
          have hk1 : (kk : Int) < n := by omega
          have hkt : ((kk : Int)).toNat = kk := by omega
          refine region_mono_tailj 24 (puSp w.heap.size n nb no nc sb kk pa pl pc now fr ti mx d R) [46, 47, 48, 49, 50, 51, 52, 53, 54, 55, 56, 57, 58, 59, 60, 61, 62, 63, 64, 65, 45, 66, 67, 68] (by kernel_rfl) (by kernel_rfl) (by kernel_rfl) 22 (by kernel_rfl) (by kernel_rfl) (stables_cons (Sp.c_stable _ _) (stables_cons (Sp.c_stable _ _) (stables_cons (Sp.c_stable _ _) (stables_cons (Sp.c_stable _ _) (stables_cons (Sp.c_stable _ _) (stables_cons (Sp.c_stable _ _) (stables_cons (Sp.c_stable _ _) (stables_cons (Sp.c_stable _ _) (stables_cons (Sp.c_stable _ _) (stables_cons (Sp.c_stable _ _) (stables_cons (Sp.c_stable _ _) (stables_cons (Sp.c_stable _ _) (stables_cons (Sp.c_stable _ _) (stables_cons (Sp.c_stable _ _) (stables_cons (Sp.c_stable _ _) (stables_cons (Sp.c_stable _ _) (stables_cons (Sp.c_stable _ _) (stables_cons (Sp.c_stable _ _) (stables_cons (Sp.c_stable _ _) (stables_cons (Sp.m_stable _ _ _ (fun v w w' h hb => by obtain ⟨a, c, e, h⟩ := h; exact ⟨a, c, e, h.later hb⟩)) (stables_cons (Sp.m_stable _ _ _ (fun v w w' h hb => by obtain ⟨a, c, e, h⟩ := h; exact ⟨a, c, e, h.later hb⟩)) (stables_cons (Sp.m_stable _ _ _ (fun v w w' h hb => by obtain ⟨a, c, e, h⟩ := h; exact ⟨a, c, e, h.later hb⟩)) (stables_cons (Sp.c_stable _ _) (stables_cons (Sp.c_stable _ _) (trivial))))))))))))))))))))))))) _ (.int .i64 0) [20] (by decide) rfl rfl (by kernel_rfl) (by kernel_rfl) (fun b w9 h9 => by
            obtain ⟨a9, c9, e9, _⟩ := Sp.of_m (h9 20 _ (by decide) rfl) rfl
            have e8 : b.tmps.getD 45 undef = _ := e9
            refine .inl ⟨wanted_free rfl, fun w => ?_⟩
            go_simp) (fun c a w h => h) ?_ ?_
          · intro am wm L hbm hbase hbase2
            have s0 : am.tmps.getD 0 undef = .slice (some ⟨nb, no, none⟩) n nc := (hbase 0 rfl).trans (by simp only [Array.getD_eq_getD_getElem?, List.getElem?_toArray, List.getElem?_cons_succ, List.getElem?_cons_zero, Option.getD_some])
            have s1 : am.tmps.getD 1 undef = .int .i64 now := (hbase 1 rfl).trans (by simp only [Array.getD_eq_getD_getElem?, List.getElem?_toArray, List.getElem?_cons_succ, List.getElem?_cons_zero, Option.getD_some])
            have s8 : am.tmps.getD 8 undef = .slice (some ⟨w.heap.size, 0, none⟩) n n := (hbase 8 rfl).trans (by simp only [Array.getD_eq_getD_getElem?, List.getElem?_toArray, List.getElem?_cons_succ, List.getElem?_cons_zero, Option.getD_some])
            have s13 : am.tmps.getD 13 undef = .pointer (some ⟨sb, 0, none⟩) := (hbase 13 rfl).trans (by simp only [Array.getD_eq_getD_getElem?, List.getElem?_toArray, List.getElem?_cons_succ, List.getElem?_cons_zero, Option.getD_some])
            clear hbase hbase2
            have q1 := carry hbm z1
            have q2 := carry hbm z2
            have q3 := carry hbm z3
            have p0 := carry hbm zl
            have d0 := carry hbm e0
            have d1 := carry hbm e1
            have d2 := carry hbm e2
            have d3 := carry hbm e3
            refine steps_cons (fun hn hl => ?_) fun H0 => ?_
            · skip
              clear hn hl 
              refine stepC (wanted_free rfl) fun K hK => ?_
              go_simp
              exact hK _ (Below.refl _ _)
            refine steps_cons (fun hn hl => ?_) fun H1 => ?_
            · skip
              clear hn hl H0
              refine stepC (wanted_free rfl) fun K hK => ?_
              go_simp
              exact hK _ (Below.refl _ _)
            refine steps_cons (fun hn hl => ?_) fun H2 => ?_
            · skip
              have h47 := Sp.of_c (H1 (hn 1 (show 1 ∈ [1] from .head _)))
              clear hn hl H0 H1
              refine stepC (wanted_free rfl) fun K hK => ?_
              go_simp
              exact hK _ (Below.refl _ _)
            refine steps_cons (fun hn hl => ?_) fun H3 => ?_
            · skip
              clear hn hl H0 H1 H2
              refine stepC (wanted_free rfl) fun K hK => ?_
              go_simp
              exact hK _ (Below.refl _ _)
            refine steps_cons (fun hn hl => ?_) fun H4 => ?_
            · skip
              clear hn hl H0 H1 H2 H3
              refine stepC (wanted_free rfl) fun K hK => ?_
              go_simp
              exact hK _ (Below.refl _ _)
            refine steps_cons (fun hn hl => ?_) fun H5 => ?_
            · skip
              have h50 := Sp.of_c (H4 (hn 4 (show 4 ∈ [4] from .head _)))
              clear hn hl H0 H1 H2 H3 H4
              refine stepC (wanted_free rfl) fun K hK => ?_
              go_simp
              exact hK _ (Below.refl _ _)
            refine steps_cons (fun hn hl => ?_) fun H6 => ?_
            · skip
              have h49 := Sp.of_c (H3 (hn 3 (show 3 ∈ [3, 5] from .head _)))
              have h51 := Sp.of_c (H5 (hn 5 (show 5 ∈ [3, 5] from .tail _ (.head _))))
              clear hn hl H0 H1 H2 H3 H4 H5
              refine stepC (wanted_free rfl) fun K hK => ?_
              go_simp
              exact hK _ (Below.refl _ _)
            refine steps_cons (fun hn hl => ?_) fun H7 => ?_
            · skip
              have h52 := Sp.of_c (H6 (hn 6 (show 6 ∈ [6] from .head _)))
              clear hn hl H0 H1 H2 H3 H4 H5 H6
              refine stepC (wanted_free rfl) fun K hK => ?_
              go_simp
              exact hK _ (Below.refl _ _)
            refine steps_cons (fun hn hl => ?_) fun H8 => ?_
            · skip
              clear hn hl H0 H1 H2 H3 H4 H5 H6 H7
              refine stepC (wanted_free rfl) fun K hK => ?_
              go_simp
              exact hK _ (Below.refl _ _)
            refine steps_cons (fun hn hl => ?_) fun H9 => ?_
            · skip
              have h54 := Sp.of_c (H8 (hn 8 (show 8 ∈ [8] from .head _)))
              clear hn hl H0 H1 H2 H3 H4 H5 H6 H7 H8
              refine stepC (wanted_free rfl) fun K hK => ?_
              go_simp
              exact hK _ (Below.refl _ _)
            refine steps_cons (fun hn hl => ?_) fun H10 => ?_
            · skip
              clear hn hl H0 H1 H2 H3 H4 H5 H6 H7 H8 H9
              refine stepC (wanted_free rfl) fun K hK => ?_
              go_simp
              exact hK _ (Below.refl _ _)
            refine steps_cons (fun hn hl => ?_) fun H11 => ?_
            · skip
              have h55 := Sp.of_c (H9 (hn 9 (show 9 ∈ [9, 10] from .head _)))
              have h56 := Sp.of_c (H10 (hn 10 (show 10 ∈ [9, 10] from .tail _ (.head _))))
              clear hn hl H0 H1 H2 H3 H4 H5 H6 H7 H8 H9 H10
              refine stepC (wanted_free rfl) fun K hK => ?_
              go_simp
              exact hK _ (Below.refl _ _)
            refine steps_cons (fun hn hl => ?_) fun H12 => ?_
            · skip
              clear hn hl H0 H1 H2 H3 H4 H5 H6 H7 H8 H9 H10 H11
              refine stepC (wanted_free rfl) fun K hK => ?_
              go_simp
              exact hK _ (Below.refl _ _)
            refine steps_cons (fun hn hl => ?_) fun H13 => ?_
            · skip
              have h58 := Sp.of_c (H12 (hn 12 (show 12 ∈ [12] from .head _)))
              clear hn hl H0 H1 H2 H3 H4 H5 H6 H7 H8 H9 H10 H11 H12
              refine stepC (wanted_free rfl) fun K hK => ?_
              go_simp
              exact hK _ (Below.refl _ _)
            refine steps_cons (fun hn hl => ?_) fun H14 => ?_
            · skip
              clear hn hl H0 H1 H2 H3 H4 H5 H6 H7 H8 H9 H10 H11 H12 H13
              refine stepC (wanted_free rfl) fun K hK => ?_
              go_simp
              exact hK _ (Below.refl _ _)
            refine steps_cons (fun hn hl => ?_) fun H15 => ?_
            · skip
              clear hn hl H0 H1 H2 H3 H4 H5 H6 H7 H8 H9 H10 H11 H12 H13 H14
              refine stepC (wanted_free rfl) fun K hK => ?_
              go_simp
              exact hK _ (Below.refl _ _)
            refine steps_cons (fun hn hl => ?_) fun H16 => ?_
            · skip
              have h61 := Sp.of_c (H15 (hn 15 (show 15 ∈ [15] from .head _)))
              clear hn hl H0 H1 H2 H3 H4 H5 H6 H7 H8 H9 H10 H11 H12 H13 H14 H15
              refine stepC (wanted_free rfl) fun K hK => ?_
              go_simp
              exact hK _ (Below.refl _ _)
            refine steps_cons (fun hn hl => ?_) fun H17 => ?_
            · skip
              have h60 := Sp.of_c (H14 (hn 14 (show 14 ∈ [14, 16] from .head _)))
              have h62 := Sp.of_c (H16 (hn 16 (show 16 ∈ [14, 16] from .tail _ (.head _))))
              clear hn hl H0 H1 H2 H3 H4 H5 H6 H7 H8 H9 H10 H11 H12 H13 H14 H15 H16
              refine stepC (wanted_free rfl) fun K hK => ?_
              go_simp
              exact hK _ (Below.refl _ _)
            refine steps_cons (fun hn hl => ?_) fun H18 => ?_
            · skip
              have h63 := Sp.of_c (H17 (hn 17 (show 17 ∈ [17] from .head _)))
              clear hn hl H0 H1 H2 H3 H4 H5 H6 H7 H8 H9 H10 H11 H12 H13 H14 H15 H16 H17
              refine stepC (wanted_free rfl) fun K hK => ?_
              go_simp
              exact hK _ (Below.refl _ _)
            refine steps_cons (fun hn hl => ?_) fun H19 => ?_
            · skip
              have h53 := Sp.of_c (H7 (hn 7 (show 7 ∈ [7, 11, 13, 18] from .head _)))
              have h57 := Sp.of_c (H11 (hn 11 (show 11 ∈ [7, 11, 13, 18] from .tail _ (.head _))))
              have h59 := Sp.of_c (H13 (hn 13 (show 13 ∈ [7, 11, 13, 18] from .tail _ (.tail _ (.head _)))))
              have h64 := Sp.of_c (H18 (hn 18 (show 18 ∈ [7, 11, 13, 18] from .tail _ (.tail _ (.tail _ (.head _))))))
              clear hn hl H0 H1 H2 H3 H4 H5 H6 H7 H8 H9 H10 H11 H12 H13 H14 H15 H16 H17 H18
              refine stepR (wanted_free rfl) fun K hK => ?_
              go_simp
              (with_reducible refine (HTK.out _ (HEX.out.later hbm).1).mono ?_); rintro e w6 ⟨a6, c6, rfl, ho6, hb6⟩; exact hK _ _ hb6 ⟨_, _, rfl, ho6⟩
            refine steps_cons (fun hn hl => ?_) fun H20 => ?_
            · skip
              obtain ⟨b, y0, h65, y1⟩ := Sp.of_m (H19 (hn 19 (show 19 ∈ [19] from .head _))) rfl
              clear hn hl H0 H1 H2 H3 H4 H5 H6 H7 H8 H9 H10 H11 H12 H13 H14 H15 H16 H17 H18 H19
              refine stepR (wanted_free rfl) fun K hK => ?_
              go_simp
              exact hK _ _ (Below.refl _ _) ⟨_, _, rfl, y1⟩
            refine steps_cons (fun hn hl => ?_) fun H21 => ?_
            · skip
              obtain ⟨b, y0, h45, y1⟩ := Sp.of_m (H20 (hn 20 (show 20 ∈ [20] from .head _))) rfl
              clear hn hl H0 H1 H2 H3 H4 H5 H6 H7 H8 H9 H10 H11 H12 H13 H14 H15 H16 H17 H18 H19 H20
              refine stepR (wanted_free rfl) fun K hK => ?_
              go_simp
              exact hK _ _ (Below.refl _ _) ⟨_, _, rfl, y1⟩
            refine steps_cons (fun hn hl => ?_) fun H22 => ?_
            · skip
              obtain ⟨b, y0, h45, y1⟩ := Sp.of_m (H20 (hn 20 (show 20 ∈ [20] from .head _))) rfl
              clear hn hl H0 H1 H2 H3 H4 H5 H6 H7 H8 H9 H10 H11 H12 H13 H14 H15 H16 H17 H18 H19 H20 H21
              refine stepC (wanted_free rfl) fun K hK => ?_
              go_simp
              exact hK _ (Below.refl _ _)
            refine steps_cons (fun hn hl => ?_) fun H23 => ?_
            · skip
              have h46 := Sp.of_c (H0 (hn 0 (show 0 ∈ [0, 2] from .head _)))
              have h48 := Sp.of_c (H2 (hn 2 (show 2 ∈ [0, 2] from .tail _ (.head _))))
              clear hn hl H0 H1 H2 H3 H4 H5 H6 H7 H8 H9 H10 H11 H12 H13 H14 H15 H16 H17 H18 H19 H20 H21 H22
              refine stepC (wanted_free rfl) fun K hK => ?_
              go_simp
              exact hK _ (Below.refl _ _)
            exact trivial
          · intro w5 hb5
            have hz5 := hb5.size
            refine end_cons ?_; rintro _ rfl
            refine end_cons ?_; rintro _ rfl
            refine end_cons ?_; rintro _ rfl
            refine end_cons ?_; rintro _ rfl
            refine end_cons ?_; rintro _ rfl
            refine end_cons ?_; rintro _ rfl
            refine end_cons ?_; rintro _ rfl
            refine end_cons ?_; rintro _ rfl
            refine end_cons ?_; rintro _ rfl
            refine end_cons ?_; rintro _ rfl
            refine end_cons ?_; rintro _ rfl
            refine end_cons ?_; rintro _ rfl
            refine end_cons ?_; rintro _ rfl
            refine end_cons ?_; rintro _ rfl
            refine end_cons ?_; rintro _ rfl
            refine end_cons ?_; rintro _ rfl
            refine end_cons ?_; rintro _ rfl
            refine end_cons ?_; rintro _ rfl
            refine end_cons ?_; rintro _ rfl
            refine end_cons ?_; rintro _ ⟨b65, y65_0, rfl, y65_1⟩
            refine end_cons ?_; rintro _ ⟨b45, y45_0, rfl, y45_1⟩
            refine end_cons ?_; rintro _ ⟨b66, y66_0, rfl, y66_1⟩
            refine end_cons ?_; rintro _ rfl
            refine end_cons ?_; rintro _ rfl
            refine end_nil ?_
            simp only [List.setIfInBounds_toArray, List.set_cons_succ, List.set_cons_zero, Bool.not_false, Bool.not_true, Bool.true_or, Bool.or_true, Bool.false_or, Bool.or_false]
            simp only [List.drop_succ_cons, List.drop_zero]
            have hzf5 : w5.frozen? ⟨w.heap.size, kk, none⟩ = false := (World.frozen?_of_block (w := w2) (hb5.block w.heap.size (World.block_lt_of_cell? _ _ zl))).trans hzf2
            have hzo := zl
            replace zl := carry hb5 zl
            have HEQ5 := Lib.hid (And.intro (HEQ2.out.1.later hb5) (HEQ2.out.2.later hb5))
            have hblk5 : ∃ cur, w5.heap[w.heap.size]? = some (.cells cur 79 (0, 0)) := by
              rcases (HFR.out w5 hb5).own.2 with ⟨h1, _⟩ | ⟨g', cap', cur, h1, _, hh, _⟩
              · cases h1
              · injection h1 with h1; injection h1 with h1; injection h1 with h1; subst h1; exact ⟨_, hh⟩
            obtain ⟨cur5, hblk5⟩ := hblk5
            have HEQ6 := Lib.hid (fun (u : Value) => And.intro (BkAt.mk (HEQ5.out.1.row.set HEQ5.out.2 hblk5 (by decide) kk u) HEQ5.out.1.le HEQ5.out.1.nil) (HEQ5.out.2.set ⟨w.heap.size, kk, none⟩ u))
            have hput := HPUT.out w5 ⟨b66, y66_0, R⟩ (HFR.out w5 hb5) y66_1
            have k5 := k2.trans (hb5.mono k2.size)
            clear HEQ2 HPUT HFR
            go_upto_region 14 with fail
            generalize hw6 : World.setCell w5 _ _ = w6
            have k6 : Below w.heap.size w w6 := by rw [← hw6]; exact k5.setCell (p := ⟨w.heap.size, kk, none⟩) (Nat.le_refl _) _
            have HEQ7 : Hid (BkAt w6 (some ⟨b, off, none⟩) ec E ∧ Ty w6 65 (some ⟨b, off, none⟩)) := Lib.hid (by rw [← hw6]; exact HEQ6.out _)
            have HO6 : Hid (FrOwn w6 w.heap.size (.slice (some ⟨w.heap.size, 0, none⟩) n n) (F'.set kk ⟨b66, y66_0, R⟩)) := Lib.hid (by rw [← hw6]; exact hput)
            clear hw6 hput HEQ6 HEQ5 zl hzf5 hblk5
            go_wp2
            go_roundw
            case rel => exact ⟨rfl, k + 1, by omega, by go_num, k6, Below.refl _ _, HEQ7, Lib.hid ⟨_, HO6.out, by rw [List.length_set, HFN.out], by rw [flOf_set]; exact HLL.out, by rw [flOf_set]; exact HT1.out⟩⟩
            case measure => simp [intOf]; omega
        · obtain ⟨F', hO, hFn, hFB, hFe⟩ := HI.out
          have hkl : k = E.length := by omega
          rw [hkl, List.drop_length] at hFe
          have HX : Hid (∃ F', FrOwn wq w.heap.size (.slice (some ⟨w.heap.size, 0, none⟩) n n) F' ∧ flOf F' = F0) := Lib.hid ⟨F', hO, by injection hFe⟩
          clear hO hFn hFB hFe HI
          go_wp2
          go_ret2
          obtain ⟨F', h1, h2⟩ := HX.out
          exact ⟨_, F', rfl, h1, h2, hb⟩
end Go.Proofs.Ytcdajfiohhbdgaa.W
