/-
  What a walk is told of a world (a set-up, now, runs, bookings), of what is wanted.
-/
import Derived.Test.YtcdajfiohhbdgaaFrameSpec
import Derived.Test.YtcdajfiohhbdgaaFramePl
import Derived.Test.YtcdajfiohhbdgaaFrameBk
import Derived.Test.YtcdajfiohhbdgaaJ39
namespace Go.Proofs.Ytcdajfiohhbdgaa.W
set_option maxRecDepth 100000
set_option linter.unusedVariables false
open Go.ChangeShapes Go.WideShapes Go.ChangeAt Go.RowKit

theorem trod_spec {H : Type} {enc : TypeId × Value → H} {w : World} {base : Nat} {spare : Nat → Bool} {held : Bool} {fuel : Nat} {l : List Value} {y : DataW H × List MemPlace} (hsz' : l.length = 18)
    (hf : DataW.trod enc Try.prog w base spare held fuel 28 l = some y) : ∃ s : S, l = [.slice s.na s.nodes.length s.nc, .slice s.pa s.parts.length s.pc, .slice s.qa s.queues.length s.qc, .int .i64 s.users, .int .i64 s.age, .int .i64 s.size, .int .i64 s.qos, .int .i64 s.share, .int .i64 s.decay, .int .i64 s.mode, .int .i64 s.jobs, .int .i64 s.ids, .int .i64 s.versions, .int .i64 s.linger, .int .i64 s.keep, .int .i64 s.inn, .int .i64 s.out, .int .i64 s.cache] ∧ Rows w s := by
  obtain ⟨xs, n, _, _, _, hlen, hg⟩ := DataW.trod_struct Try.underlying28 hf
  have c1 : Try.prog.cellsOf 3 = 1 := by kernel_rfl
  have c2 : Try.prog.cellsOf 22 = 1 := by kernel_rfl
  have c3 : Try.prog.cellsOf 23 = 1 := by kernel_rfl
  have c4 : Try.prog.cellsOf 24 = 1 := by kernel_rfl
  have c5 : Try.prog.cellsOf 26 = 4 := by kernel_rfl
  have c6 : Try.prog.cellsOf 77 = 1 := by kernel_rfl
  match l, hsz', xs, hlen with
  | [v0, v1, v2, v3, v4, v5, v6, v7, v8, v9, v10, v11, v12, v13, v14, v15, v16, v17], _, [y0, y1, y2, y3, y4, y5, y6, y7, y8, y9, y10, y11, y12, y13, y14], _ =>
    have g0 : DataW.trod enc Try.prog w base spare held n 22 [v0] = some y0 := by simpa [Value.cells, c2] using hg 0 _ rfl
    have g1 : DataW.trod enc Try.prog w base spare held n 23 [v1] = some y1 := by simpa [Value.cells, c3] using hg 1 _ rfl
    have g2 : DataW.trod enc Try.prog w base spare held n 24 [v2] = some y2 := by simpa [Value.cells, c4] using hg 2 _ rfl
    have g4 : DataW.trod enc Try.prog w base spare held n 26 [v4, v5, v6, v7] = some y4 := by simpa [Value.cells, c5] using hg 4 _ rfl
    have g3 : DataW.trod enc Try.prog w base spare held n 3 [v3] = some y3 := by simpa [Value.cells, c1] using hg 3 _ rfl
    obtain ⟨x3, e3, _, _⟩ := DataW.trod_int Try.underlying3 g3
    have g5 : DataW.trod enc Try.prog w base spare held n 3 [v8] = some y5 := by simpa [Value.cells, c1] using hg 5 _ rfl
    obtain ⟨x8, e8, _, _⟩ := DataW.trod_int Try.underlying3 g5
    have g6 : DataW.trod enc Try.prog w base spare held n 3 [v9] = some y6 := by simpa [Value.cells, c1] using hg 6 _ rfl
    obtain ⟨x9, e9, _, _⟩ := DataW.trod_int Try.underlying3 g6
    have g7 : DataW.trod enc Try.prog w base spare held n 3 [v10] = some y7 := by simpa [Value.cells, c1] using hg 7 _ rfl
    obtain ⟨x10, e10, _, _⟩ := DataW.trod_int Try.underlying3 g7
    have g8 : DataW.trod enc Try.prog w base spare held n 3 [v11] = some y8 := by simpa [Value.cells, c1] using hg 8 _ rfl
    obtain ⟨x11, e11, _, _⟩ := DataW.trod_int Try.underlying3 g8
    have g9 : DataW.trod enc Try.prog w base spare held n 3 [v12] = some y9 := by simpa [Value.cells, c1] using hg 9 _ rfl
    obtain ⟨x12, e12, _, _⟩ := DataW.trod_int Try.underlying3 g9
    have g10 : DataW.trod enc Try.prog w base spare held n 3 [v13] = some y10 := by simpa [Value.cells, c1] using hg 10 _ rfl
    obtain ⟨x13, e13, _, _⟩ := DataW.trod_int Try.underlying3 g10
    have g11 : DataW.trod enc Try.prog w base spare held n 3 [v14] = some y11 := by simpa [Value.cells, c1] using hg 11 _ rfl
    obtain ⟨x14, e14, _, _⟩ := DataW.trod_int Try.underlying3 g11
    have g12 : DataW.trod enc Try.prog w base spare held n 3 [v15] = some y12 := by simpa [Value.cells, c1] using hg 12 _ rfl
    obtain ⟨x15, e15, _, _⟩ := DataW.trod_int Try.underlying3 g12
    have g13 : DataW.trod enc Try.prog w base spare held n 3 [v16] = some y13 := by simpa [Value.cells, c1] using hg 13 _ rfl
    obtain ⟨x16, e16, _, _⟩ := DataW.trod_int Try.underlying3 g13
    have g14 : DataW.trod enc Try.prog w base spare held n 3 [v17] = some y14 := by simpa [Value.cells, c1] using hg 14 _ rfl
    obtain ⟨x17, e17, _, _⟩ := DataW.trod_int Try.underlying3 g14
    obtain ⟨xs4, n4, _, _, _, hlen4, hg4⟩ := DataW.trod_struct Try.underlying26 g4
    match xs4, hlen4 with
    | [z0, z1, z2, z3], _ =>
      have k0 : DataW.trod enc Try.prog w base spare held n4 3 [v4] = some z0 := by simpa [Value.cells, c1] using hg4 0 _ rfl
      obtain ⟨x4, e4, _, _⟩ := DataW.trod_int Try.underlying3 k0
      have k1 : DataW.trod enc Try.prog w base spare held n4 3 [v5] = some z1 := by simpa [Value.cells, c1] using hg4 1 _ rfl
      obtain ⟨x5, e5, _, _⟩ := DataW.trod_int Try.underlying3 k1
      have k2 : DataW.trod enc Try.prog w base spare held n4 3 [v6] = some z2 := by simpa [Value.cells, c1] using hg4 2 _ rfl
      obtain ⟨x6, e6, _, _⟩ := DataW.trod_int Try.underlying3 k2
      have k3 : DataW.trod enc Try.prog w base spare held n4 3 [v7] = some z3 := by simpa [Value.cells, c1] using hg4 3 _ rfl
      obtain ⟨x7, e7, _, _⟩ := DataW.trod_int Try.underlying3 k3
      obtain ⟨na, nc, nodes, e0, _, _, hn, _⟩ := open_rowsSp (α := V) (C := 4) (f := nodeV) (q := fun _ => True) Try.underlying22 (by kernel_rfl) (by decide) (fun _ => rfl) (fun m cs y hl hy => by
        match cs, hl with
        | [a0, a1, a2, a3], _ =>
          obtain ⟨us, m', _, _, _, hul, hu⟩ := DataW.trod_struct Try.underlying34 hy
          match us, hul with
          | [u0, u1, u2, u3], _ =>
            have j0 : DataW.trod enc Try.prog w base spare held m' 3 [a0] = some u0 := by simpa [Value.cells, c1] using hu 0 _ rfl
            have j1 : DataW.trod enc Try.prog w base spare held m' 3 [a1] = some u1 := by simpa [Value.cells, c1] using hu 1 _ rfl
            have j2 : DataW.trod enc Try.prog w base spare held m' 3 [a2] = some u2 := by simpa [Value.cells, c1] using hu 2 _ rfl
            have j3 : DataW.trod enc Try.prog w base spare held m' 3 [a3] = some u3 := by simpa [Value.cells, c1] using hu 3 _ rfl
            obtain ⟨b0, f0, _, _⟩ := DataW.trod_int Try.underlying3 j0
            obtain ⟨b1, f1, _, _⟩ := DataW.trod_int Try.underlying3 j1
            obtain ⟨b2, f2, _, _⟩ := DataW.trod_int Try.underlying3 j2
            obtain ⟨b3, f3, _, _⟩ := DataW.trod_int Try.underlying3 j3
            simp at f0 f1 f2 f3
            exact ⟨⟨b0, b1, b2, b3⟩, by rw [f0, f1, f2, f3]; rfl, trivial⟩) g0
      obtain ⟨pa, pc, parts, e1, _, _, hp, hp'⟩ := open_rowsSp (α := Sl) (C := 1) (f := fun p => [partV p]) (q := SlAt w) Try.underlying23 (by kernel_rfl) (by decide) (fun _ => rfl) (fun m cs y hl hy => by
        match cs, hl with
        | [a0], _ =>
          obtain ⟨p, rfl, hp⟩ := open_sl hy
          exact ⟨p, rfl, hp⟩) g1
      obtain ⟨qa, qc, queues, e2, _, _, hq, hq'⟩ := open_rowsSp (α := QR) (C := 6) (f := queueV) (q := fun q => SlAt w q.users) Try.underlying24 (by kernel_rfl) (by decide) (fun _ => rfl) (fun m cs y hl hy => by
        match cs, hl with
        | [a0, a1, a2, a3, a4, a5], _ =>
          obtain ⟨us, m', _, _, _, hul, hu⟩ := DataW.trod_struct Try.underlying89 hy
          match us, hul with
          | [u0, u1, u2, u3, u4, u5], _ =>
            have j0 : DataW.trod enc Try.prog w base spare held m' 3 [a0] = some u0 := by simpa [Value.cells, c1] using hu 0 _ rfl
            have j1 : DataW.trod enc Try.prog w base spare held m' 77 [a1] = some u1 := by simpa [Value.cells, c6] using hu 1 _ rfl
            have j2 : DataW.trod enc Try.prog w base spare held m' 3 [a2] = some u2 := by simpa [Value.cells, c1] using hu 2 _ rfl
            have j3 : DataW.trod enc Try.prog w base spare held m' 3 [a3] = some u3 := by simpa [Value.cells, c1] using hu 3 _ rfl
            have j4 : DataW.trod enc Try.prog w base spare held m' 3 [a4] = some u4 := by simpa [Value.cells, c1] using hu 4 _ rfl
            have j5 : DataW.trod enc Try.prog w base spare held m' 3 [a5] = some u5 := by simpa [Value.cells, c1] using hu 5 _ rfl
            obtain ⟨b0, f0, _, _⟩ := DataW.trod_int Try.underlying3 j0
            obtain ⟨p, f1, hp1⟩ := open_sl j1
            obtain ⟨b2, f2, _, _⟩ := DataW.trod_int Try.underlying3 j2
            obtain ⟨b3, f3, _, _⟩ := DataW.trod_int Try.underlying3 j3
            obtain ⟨b4, f4, _, _⟩ := DataW.trod_int Try.underlying3 j4
            obtain ⟨b5, f5, _, _⟩ := DataW.trod_int Try.underlying3 j5
            simp at f0 f2 f3 f4 f5
            exact ⟨⟨b0, p, b2, b3, b4, b5⟩, by rw [f0, f1, f2, f3, f4, f5]; rfl, hp1⟩) g2
      rw [flat_oneSp] at hp
      simp at e3 e4 e5 e6 e7 e8 e9 e10 e11 e12 e13 e14 e15 e16 e17
      refine ⟨⟨na, nc, nodes, pa, pc, parts, qa, qc, queues, x3, x4, x5, x6, x7, x8, x9, x10, x11, x12, x13, x14, x15, x16, x17⟩, ?_, ⟨hn, hp, hp', hq, hq'⟩⟩
      rw [e0, e1, e2, e3, e4, e5, e6, e7, e8, e9, e10, e11, e12, e13, e14, e15, e16, e17]

/-- what is wanted -/
structure Wn where
  part : Int
  many : Int
  need : V
  wall : Int
instance : Inhabited Wn := ⟨⟨0, 0, V.zero, 0⟩⟩
def wnV (x : Wn) : List Value := [.int .i64 x.part, .int .i64 x.many, .int .i64 x.need.cpu, .int .i64 x.need.mem, .int .i64 x.need.gpu, .int .i64 x.need.lic, .int .i64 x.wall]
def Wn.in64 (x : Wn) : Prop := x.many ≤ 9223372036854775807 ∧ (-9223372036854775808 ≤ x.wall ∧ x.wall ≤ 9223372036854775807)
def wnsV (l : List Wn) : List Value := l.flatMap wnV
theorem wnsV_len (l : List Wn) : (wnsV l).length = l.length * 7 := flat_len (n := 7) (fun _ => rfl) l
def FWn (v : Value) : Prop := ∃ x : Wn, v = .agg #[.int .i64 x.part, .int .i64 x.many, .int .i64 x.need.cpu, .int .i64 x.need.mem, .int .i64 x.need.gpu, .int .i64 x.need.lic, .int .i64 x.wall] ∧ x.in64
def FWns (w : World) (v : Value) : Prop := ∃ a cap l, v = .slice a l.length cap ∧ RowAt w a (wnsV l) ∧ ∀ x ∈ l, x.in64
def FWorld (w : World) (v : Value) : Prop := ∃ (s : S) (now : Int) (ra : Option Addr) (rc : Nat) (R : List RnM) (ba : Option Addr) (bc : Nat) (B : List Bk), v = .agg #[.slice s.na s.nodes.length s.nc, .slice s.pa s.parts.length s.pc, .slice s.qa s.queues.length s.qc, .int .i64 s.users, .int .i64 s.age, .int .i64 s.size, .int .i64 s.qos, .int .i64 s.share, .int .i64 s.decay, .int .i64 s.mode, .int .i64 s.jobs, .int .i64 s.ids, .int .i64 s.versions, .int .i64 s.linger, .int .i64 s.keep, .int .i64 s.inn, .int .i64 s.out, .int .i64 s.cache, .int .i64 now, .slice ra R.length rc, .slice ba B.length bc] ∧ Rows w s ∧ RnAt w ra R ∧ BkAt w ba bc B
section
variable {H : Type} {enc : TypeId × Value → H} {w : World} {base : Nat} {spare : Nat → Bool} {held : Bool}
theorem trod_res {m : Nat} {cs : List Value} {y : DataW H × List MemPlace} (hl : cs.length = 4) (hy : DataW.trod enc Try.prog w base spare held m 34 cs = some y) : ∃ v : V, cs = vcV v := by
  have c1 : Try.prog.cellsOf 3 = 1 := by kernel_rfl
  match cs, hl with
  | [a0, a1, a2, a3], _ =>
    obtain ⟨us, m', _, _, _, hul, hu⟩ := DataW.trod_struct Try.underlying34 hy
    match us, hul with
    | [u0, u1, u2, u3], _ =>
      have j0 : DataW.trod enc Try.prog w base spare held m' 3 [a0] = some u0 := by simpa [Value.cells, c1] using hu 0 _ rfl
      have j1 : DataW.trod enc Try.prog w base spare held m' 3 [a1] = some u1 := by simpa [Value.cells, c1] using hu 1 _ rfl
      have j2 : DataW.trod enc Try.prog w base spare held m' 3 [a2] = some u2 := by simpa [Value.cells, c1] using hu 2 _ rfl
      have j3 : DataW.trod enc Try.prog w base spare held m' 3 [a3] = some u3 := by simpa [Value.cells, c1] using hu 3 _ rfl
      obtain ⟨b0, f0, _, _⟩ := DataW.trod_int Try.underlying3 j0
      obtain ⟨b1, f1, _, _⟩ := DataW.trod_int Try.underlying3 j1
      obtain ⟨b2, f2, _, _⟩ := DataW.trod_int Try.underlying3 j2
      obtain ⟨b3, f3, _, _⟩ := DataW.trod_int Try.underlying3 j3
      simp at f0 f1 f2 f3
      exact ⟨⟨b0, b1, b2, b3⟩, by rw [f0, f1, f2, f3]; rfl⟩
theorem trod_wn {m : Nat} {cs : List Value} {y : DataW H × List MemPlace} (hl : cs.length = 7) (hy : DataW.trod enc Try.prog w base spare held m 36 cs = some y) : ∃ x : Wn, cs = wnV x ∧ x.in64 := by
  have c1 : Try.prog.cellsOf 3 = 1 := by kernel_rfl
  have c2 : Try.prog.cellsOf 34 = 4 := by kernel_rfl
  match cs, hl with
  | [a0, a1, a2, a3, a4, a5, a6], _ =>
    obtain ⟨us, m', _, _, _, hul, hu⟩ := DataW.trod_struct Try.underlying36 hy
    match us, hul with
    | [u0, u1, u2, u3], _ =>
      have j0 : DataW.trod enc Try.prog w base spare held m' 3 [a0] = some u0 := by simpa [Value.cells, c1] using hu 0 _ rfl
      have j1 : DataW.trod enc Try.prog w base spare held m' 3 [a1] = some u1 := by simpa [Value.cells, c1] using hu 1 _ rfl
      have j2 : DataW.trod enc Try.prog w base spare held m' 34 [a2, a3, a4, a5] = some u2 := by simpa [Value.cells, c2] using hu 2 _ rfl
      have j3 : DataW.trod enc Try.prog w base spare held m' 3 [a6] = some u3 := by simpa [Value.cells, c1] using hu 3 _ rfl
      obtain ⟨b0, f0, _, _⟩ := DataW.trod_int Try.underlying3 j0
      obtain ⟨b1, f1, _, w1⟩ := DataW.trod_int Try.underlying3 j1
      obtain ⟨v, f2⟩ := trod_res rfl j2
      obtain ⟨b3, f3, _, w3⟩ := DataW.trod_int Try.underlying3 j3
      simp [vcV] at f0 f1 f2 f3
      obtain ⟨g0, g1, g2, g3⟩ := f2
      exact ⟨⟨b0, b1, v, b3⟩, by rw [f0, f1, g0, g1, g2, g3, f3]; rfl, (in64_of_wf w1).2, in64_of_wf w3⟩
theorem open_FWn {r : Reach} {b0 : Nat} {v : Value} {d : DataW H} {p : List MemPlace} (hv : Value.okWide Try.prog w r b0 36 v) (h : DataW.Trod enc Try.prog w base spare held 36 v d p) : FWn v := by
  obtain ⟨⟨l⟩, rfl, hsz⟩ := okWide_struct Try.underlying36 hv
  have hsz' : l.length = 7 := hsz.trans (by kernel_rfl)
  obtain ⟨fuel, hf⟩ := h
  obtain ⟨x, hx, h64⟩ := trod_wn (cs := l) hsz' hf
  exact ⟨x, by rw [hx]; rfl, h64⟩
theorem open_FWns {r : Reach} {b0 : Nat} {v : Value} {d : DataW H} {p : List MemPlace} (hv : Value.okWide Try.prog w r b0 57 v) (h : DataW.Trod enc Try.prog w base spare held 57 v d p) : FWns w v := by
  obtain ⟨a1, len, cap1, rfl⟩ := okWide_slice Try.underlying57 hv
  obtain ⟨fuel, hf⟩ := h
  obtain ⟨a, cap, l, e, h1, h2, h3, h4⟩ := open_rows (α := Wn) (C := 7) (f := wnV) (q := Wn.in64) Try.underlying57 (by kernel_rfl) (by decide) (fun _ => rfl) (fun m cs y hl hy => trod_wn hl hy) hf
  exact ⟨a, cap, l, e, h3, h4⟩
theorem trod_run {m : Nat} {cs : List Value} {y : DataW H × List MemPlace} (hl : cs.length = 6) (hy : DataW.trod enc Try.prog w base spare held m 63 cs = some y) : ∃ x : RnM, cs = rnV x ∧ RowAt w x.sa (shsV x.r.sh) := by
  have c1 : Try.prog.cellsOf 3 = 1 := by kernel_rfl
  have c2 : Try.prog.cellsOf 34 = 4 := by kernel_rfl
  have c3 : Try.prog.cellsOf 43 = 1 := by kernel_rfl
  match cs, hl with
  | [a0, a1, a2, a3, a4, a5], _ =>
    obtain ⟨us, m', _, _, _, hul, hu⟩ := DataW.trod_struct Try.underlying63 hy
    match us, hul with
    | [u0, u1, u2], _ =>
      have j0 : DataW.trod enc Try.prog w base spare held m' 34 [a0, a1, a2, a3] = some u0 := by simpa [Value.cells, c2] using hu 0 _ rfl
      have j1 : DataW.trod enc Try.prog w base spare held m' 43 [a4] = some u1 := by simpa [Value.cells, c3] using hu 1 _ rfl
      have j2 : DataW.trod enc Try.prog w base spare held m' 3 [a5] = some u2 := by simpa [Value.cells, c1] using hu 2 _ rfl
      obtain ⟨v, f0⟩ := trod_res rfl j0
      obtain ⟨a, cap, l, e, h1, h2, h3, _⟩ := open_rows (α := Sh) (C := 2) (f := shV) (q := fun _ => True) Try.underlying43 (by kernel_rfl) (by decide) (fun _ => rfl) (fun m cs y hl hy => by
        obtain ⟨s, hs⟩ := trod_sh hl hy
        exact ⟨s, hs, trivial⟩) j1
      obtain ⟨b2, f2, _, _⟩ := DataW.trod_int Try.underlying3 j2
      simp [vcV] at f0 f2
      obtain ⟨g0, g1, g2, g3⟩ := f0
      exact ⟨⟨a, cap, ⟨b2, v, l⟩⟩, by rw [g0, g1, g2, g3, e, f2]; rfl, (by first | exact h3 | exact h1)⟩
theorem open_FWorld {r : Reach} {b0 : Nat} {v : Value} {d : DataW H} {p : List MemPlace} (hv : Value.okWide Try.prog w r b0 32 v) (h : DataW.Trod enc Try.prog w base spare held 32 v d p) : FWorld w v := by
  obtain ⟨⟨l⟩, rfl, hsz⟩ := okWide_struct Try.underlying32 hv
  have hsz' : l.length = 21 := hsz.trans (by kernel_rfl)
  obtain ⟨fuel, hf⟩ := h
  obtain ⟨xs, n, _, _, _, hlen, hg⟩ := DataW.trod_struct Try.underlying32 hf
  have c1 : Try.prog.cellsOf 3 = 1 := by kernel_rfl
  have c2 : Try.prog.cellsOf 28 = 18 := by kernel_rfl
  have c3 : Try.prog.cellsOf 29 = 1 := by kernel_rfl
  have c4 : Try.prog.cellsOf 30 = 1 := by kernel_rfl
  match l, hsz', xs, hlen with
  | [v0, v1, v2, v3, v4, v5, v6, v7, v8, v9, v10, v11, v12, v13, v14, v15, v16, v17, v18, v19, v20], _, [y0, y1, y2, y3], _ =>
    have g0 : DataW.trod enc Try.prog w base spare held n 28 [v0, v1, v2, v3, v4, v5, v6, v7, v8, v9, v10, v11, v12, v13, v14, v15, v16, v17] = some y0 := by simpa [Value.cells, c2] using hg 0 _ rfl
    have g1 : DataW.trod enc Try.prog w base spare held n 3 [v18] = some y1 := by simpa [Value.cells, c1] using hg 1 _ rfl
    have g2 : DataW.trod enc Try.prog w base spare held n 29 [v19] = some y2 := by simpa [Value.cells, c3] using hg 2 _ rfl
    have g3 : DataW.trod enc Try.prog w base spare held n 30 [v20] = some y3 := by simpa [Value.cells, c4] using hg 3 _ rfl
    obtain ⟨s, es, hs⟩ := trod_spec rfl g0
    obtain ⟨now, en, _, _⟩ := DataW.trod_int Try.underlying3 g1
    obtain ⟨ra, rc, R, er, i1, i2, i3, i4⟩ := open_rows (α := RnM) (C := 6) (f := rnV) (q := fun x => RowAt w x.sa (shsV x.r.sh)) Try.underlying29 (by kernel_rfl) (by decide) (fun _ => rfl) (fun m cs y hl hy => trod_run hl hy) g2
    obtain ⟨ba, bc, B, eb, k1, k2, k3, _⟩ := open_rows (α := Bk) (C := 4) (f := bkV) (q := fun _ => True) Try.underlying30 (by kernel_rfl) (by decide) (fun _ => rfl) (fun m cs y hl hy => by
      obtain ⟨x, hx⟩ := trod_bk hl hy
      exact ⟨x, hx, trivial⟩) g3
    simp at en es
    obtain ⟨e0, e1, e2, e3, e4, e5, e6, e7, e8, e9, e10, e11, e12, e13, e14, e15, e16, e17⟩ := es
    refine ⟨s, now, ra, rc, R, ba, bc, B, ?_, hs, ⟨i3, i4⟩, ⟨k3, k2, k1⟩⟩
    rw [e0, e1, e2, e3, e4, e5, e6, e7, e8, e9, e10, e11, e12, e13, e14, e15, e16, e17, en, er, eb]
end
end Go.Proofs.Ytcdajfiohhbdgaa.W
