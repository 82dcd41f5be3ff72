/-
  What a walk is told of an argument that is a set-up.
-/
import Derived.Test.YtcdajfiohhbdgaaFrameV
import Derived.Test.YtcdajfiohhbdgaaSpecMem
import Derived.Deep.Slices
namespace Go.Proofs.Ytcdajfiohhbdgaa.W
set_option maxRecDepth 100000
set_option linter.unusedVariables false
open Go.ChangeShapes Go.WideShapes Go.ChangeAt Go.RowKit

theorem list_ofSp {α : Type} {p : Nat → α → Prop} : ∀ (n : Nat), (∀ i, i < n → ∃ x, p i x) → ∃ l : List α, l.length = n ∧ ∀ i (hi : i < l.length), p i l[i]
  | 0, _ => ⟨[], rfl, fun i hi => by simp at hi⟩
  | n + 1, h => by
    obtain ⟨l, hl, hp⟩ := list_ofSp n fun i hi => h i (by omega)
    obtain ⟨x, hx⟩ := h n (by omega)
    refine ⟨l ++ [x], by simp [hl], fun i hi => ?_⟩
    rcases Nat.lt_or_ge i l.length with h' | h'
    · rw [List.getElem_append_left h']; exact hp i h'
    · have : i = n := by simp at hi; omega
      subst this
      rw [List.getElem_append_right (by omega)]
      simpa [hl] using hx
theorem rowAt_flatSp {α : Type} {f : α → List Value} {n : Nat} (hn : 0 < n) (hf : ∀ x, (f x).length = n) {w : World} {b off : Nat} (l : List α) (hb : l ≠ [] → b < w.heap.size)
    (h : ∀ k (hk : k < l.length) j, j < n → w.cell? ⟨b, off + (k * n + j), none⟩ = (f l[k])[j]?) : RowAt w (some ⟨b, off, none⟩) (l.flatMap f) := by
  by_cases h0 : l = []
  · subst h0; exact .inl rfl
  · refine .inr ⟨b, off, rfl, hb h0, fun i u hu => ?_⟩
    have hi : i < l.length * n := by
      rcases Nat.lt_or_ge i (l.length * n) with h' | h'
      · exact h'
      · rw [List.getElem?_eq_none (by rw [flat_lenSp hf]; exact h')] at hu; cases hu
    have hk : i / n < l.length := Nat.div_lt_of_lt_mul (by rw [Nat.mul_comm]; exact hi)
    have hj : i % n < n := Nat.mod_lt _ hn
    have e : i / n * n + i % n = i := by rw [Nat.mul_comm]; exact Nat.div_add_mod i n
    have h1 := h (i / n) hk (i % n) hj
    have h2 := flat_atSp hf l (i / n) (i % n) hk hj
    rw [e] at h1 h2
    rw [h1, ← h2, hu]

theorem flat_oneSp {α : Type} (g : α → Value) : ∀ (l : List α), l.flatMap (fun x => [g x]) = l.map g
  | [] => rfl
  | x :: l => by rw [List.flatMap_cons, flat_oneSp g l]; rfl
section
variable {H : Type} {enc : TypeId × Value → H} {P : Program} {w : World} {base : Nat} {spare : Nat → Bool} {held : Bool}
/-- a slice whose elements are so many cells each -/
theorem open_rowsSp {α : Type} {f : α → List Value} {C : Nat} {q : α → Prop} {t e : TypeId} {fuel : Nat} {v : Value} {x : DataW H × List MemPlace} (ht : P.underlying t = some (.slice e)) (hC : P.cellsOf e = C) (h0 : 0 < C) (hf : ∀ x, (f x).length = C)
    (helem : ∀ (n : Nat) (cs : List Value) (y : DataW H × List MemPlace), cs.length = C → DataW.trod enc P w base spare held n e cs = some y → ∃ x : α, cs = f x ∧ q x)
    (h : DataW.trod enc P w base spare held fuel t [v] = some x) : ∃ (a : Option Addr) (cap : Nat) (l : List α), v = .slice a l.length cap ∧ (a = none → cap = 0) ∧ l.length ≤ cap ∧ RowAt w a (l.flatMap f) ∧ ∀ x ∈ l, q x := by
  rcases Go.Deep.open_slice ht h with ⟨hv, _⟩ | ⟨a, len, cap, m, n, D, Pl, hv, _, hl, _, hm, _, hx⟩
  · simp at hv
    exact ⟨none, 0, [], hv, fun _ => rfl, Nat.le_refl _, .inl rfl, fun x hx => (by cases hx)⟩
  · simp at hv
    have hle : len ≤ m := by rw [hm]; split <;> omega
    obtain ⟨l, hll, hp⟩ := list_ofSp (p := fun i (y : α) => w.cells? base (a.add (i * C)) C = some (f y) ∧ q y) len fun i hi => by
      obtain ⟨cs, h1, h2⟩ := hx i (by omega)
      rw [hC] at h1
      obtain ⟨_, hlen, _⟩ := World.cells?_some h1
      obtain ⟨y, rfl, hy⟩ := helem n cs _ hlen h2
      exact ⟨y, h1, hy⟩
    subst hll
    refine ⟨some a, cap, l, hv, fun h => (by cases h), hl, ?_, fun y hy => ?_⟩
    · by_cases hne : l = []
      · subst hne; exact .inl rfl
      · have hpos : 0 < l.length := List.length_pos_iff.2 hne
        obtain ⟨b, off, spot⟩ := a
        have hat : ∀ i (hi : i < l.length) j, j < C → w.cell? (((⟨b, off, spot⟩ : Addr).add (i * C)).add j) = (f l[i])[j]? := fun i hi j hj => (World.cells?_some (hp i hi).1).2.2 j hj
        have h00 := hat 0 hpos 0 h0
        have hsome : (f l[0])[0]? = some ((f l[0])[0]'(by rw [hf]; exact h0)) := List.getElem?_eq_getElem _
        rw [hsome] at h00
        have hspot : spot = none := by simpa [Addr.add] using World.cell?_spot h00
        subst hspot
        refine rowAt_flatSp h0 hf l (fun _ => ?_) fun k hk j hj => ?_
        · have := World.block_lt_of_cell? _ _ h00
          simpa [Addr.add] using this
        · have h1 := hat k hk j hj
          rw [add_plain, add_plain] at h1
          rw [← h1, Nat.add_assoc]
    · obtain ⟨i, hi, rfl⟩ := List.getElem_of_mem hy
      exact (hp i hi).2
end

/-- a slice of integers -/
theorem open_sl {H : Type} {enc : TypeId × Value → H} {w : World} {base : Nat} {spare : Nat → Bool} {held : Bool} {fuel : Nat} {v : Value} {x : DataW H × List MemPlace}
    (h : DataW.trod enc Try.prog w base spare held fuel 77 [v] = some x) : ∃ p : Sl, v = partV p ∧ SlAt w p := by
  obtain ⟨a, cap, l, rfl, _, _, hr, _⟩ := open_rowsSp (α := Int) (C := 1) (f := fun x => [.int .i64 x]) (q := fun _ => True) Try.underlying77 (by kernel_rfl) (by decide) (fun _ => rfl) (fun n cs y hl hy => by
    match cs, hl with
    | [c], _ =>
      obtain ⟨x, e, _, _⟩ := DataW.trod_int Try.underlying3 hy
      exact ⟨x, e, trivial⟩) h
  refine ⟨⟨a, cap, l⟩, rfl, ?_⟩
  rw [flat_oneSp] at hr
  exact hr

def FSpec (w : World) (v : Value) : Prop := ∃ s : S, v = .agg #[.slice s.na s.nodes.length s.nc, .slice s.pa s.parts.length s.pc, .slice s.qa s.queues.length s.qc, .int .i64 s.users, .int .i64 s.age, .int .i64 s.size, .int .i64 s.qos, .int .i64 s.share, .int .i64 s.decay, .int .i64 s.mode, .int .i64 s.jobs, .int .i64 s.ids, .int .i64 s.versions, .int .i64 s.linger, .int .i64 s.keep, .int .i64 s.inn, .int .i64 s.out, .int .i64 s.cache] ∧ Rows w s
theorem open_FSpec {H : Type} {enc : TypeId × Value → H} {w : World} {base : Nat} {spare : Nat → Bool} {held : Bool} {r : Reach} {b0 : Nat} {v : Value} {d : DataW H} {p : List MemPlace}
    (hv : Value.okWide Try.prog w r b0 28 v) (h : DataW.Trod enc Try.prog w base spare held 28 v d p) : FSpec w v := by
  obtain ⟨⟨l⟩, rfl, hsz⟩ := okWide_struct Try.underlying28 hv
  have hsz' : l.length = 18 := hsz.trans (by kernel_rfl)
  obtain ⟨fuel, hf⟩ := h
  obtain ⟨xs, n, _, _, _, hlen, hg⟩ := DataW.trod_struct Try.underlying28 hf
  have c1 : Try.prog.cellsOf 3 = 1 := by kernel_rfl
  have c2 : Try.prog.cellsOf 22 = 1 := by kernel_rfl
  have c3 : Try.prog.cellsOf 23 = 1 := by kernel_rfl
  have c4 : Try.prog.cellsOf 24 = 1 := by kernel_rfl
  have c5 : Try.prog.cellsOf 26 = 4 := by kernel_rfl
  have c6 : Try.prog.cellsOf 77 = 1 := by kernel_rfl
  match l, hsz', xs, hlen with
  | [v0, v1, v2, v3, v4, v5, v6, v7, v8, v9, v10, v11, v12, v13, v14, v15, v16, v17], _, [y0, y1, y2, y3, y4, y5, y6, y7, y8, y9, y10, y11, y12, y13, y14], _ =>
    have g0 : DataW.trod enc Try.prog w base spare held n 22 [v0] = some y0 := by simpa [Value.cells, c2] using hg 0 _ rfl
    have g1 : DataW.trod enc Try.prog w base spare held n 23 [v1] = some y1 := by simpa [Value.cells, c3] using hg 1 _ rfl
    have g2 : DataW.trod enc Try.prog w base spare held n 24 [v2] = some y2 := by simpa [Value.cells, c4] using hg 2 _ rfl
    have g4 : DataW.trod enc Try.prog w base spare held n 26 [v4, v5, v6, v7] = some y4 := by simpa [Value.cells, c5] using hg 4 _ rfl
    have g3 : DataW.trod enc Try.prog w base spare held n 3 [v3] = some y3 := by simpa [Value.cells, c1] using hg 3 _ rfl
    obtain ⟨x3, e3, _, _⟩ := DataW.trod_int Try.underlying3 g3
    have g5 : DataW.trod enc Try.prog w base spare held n 3 [v8] = some y5 := by simpa [Value.cells, c1] using hg 5 _ rfl
    obtain ⟨x8, e8, _, _⟩ := DataW.trod_int Try.underlying3 g5
    have g6 : DataW.trod enc Try.prog w base spare held n 3 [v9] = some y6 := by simpa [Value.cells, c1] using hg 6 _ rfl
    obtain ⟨x9, e9, _, _⟩ := DataW.trod_int Try.underlying3 g6
    have g7 : DataW.trod enc Try.prog w base spare held n 3 [v10] = some y7 := by simpa [Value.cells, c1] using hg 7 _ rfl
    obtain ⟨x10, e10, _, _⟩ := DataW.trod_int Try.underlying3 g7
    have g8 : DataW.trod enc Try.prog w base spare held n 3 [v11] = some y8 := by simpa [Value.cells, c1] using hg 8 _ rfl
    obtain ⟨x11, e11, _, _⟩ := DataW.trod_int Try.underlying3 g8
    have g9 : DataW.trod enc Try.prog w base spare held n 3 [v12] = some y9 := by simpa [Value.cells, c1] using hg 9 _ rfl
    obtain ⟨x12, e12, _, _⟩ := DataW.trod_int Try.underlying3 g9
    have g10 : DataW.trod enc Try.prog w base spare held n 3 [v13] = some y10 := by simpa [Value.cells, c1] using hg 10 _ rfl
    obtain ⟨x13, e13, _, _⟩ := DataW.trod_int Try.underlying3 g10
    have g11 : DataW.trod enc Try.prog w base spare held n 3 [v14] = some y11 := by simpa [Value.cells, c1] using hg 11 _ rfl
    obtain ⟨x14, e14, _, _⟩ := DataW.trod_int Try.underlying3 g11
    have g12 : DataW.trod enc Try.prog w base spare held n 3 [v15] = some y12 := by simpa [Value.cells, c1] using hg 12 _ rfl
    obtain ⟨x15, e15, _, _⟩ := DataW.trod_int Try.underlying3 g12
    have g13 : DataW.trod enc Try.prog w base spare held n 3 [v16] = some y13 := by simpa [Value.cells, c1] using hg 13 _ rfl
    obtain ⟨x16, e16, _, _⟩ := DataW.trod_int Try.underlying3 g13
    have g14 : DataW.trod enc Try.prog w base spare held n 3 [v17] = some y14 := by simpa [Value.cells, c1] using hg 14 _ rfl
    obtain ⟨x17, e17, _, _⟩ := DataW.trod_int Try.underlying3 g14
    obtain ⟨xs4, n4, _, _, _, hlen4, hg4⟩ := DataW.trod_struct Try.underlying26 g4
    match xs4, hlen4 with
    | [z0, z1, z2, z3], _ =>
      have k0 : DataW.trod enc Try.prog w base spare held n4 3 [v4] = some z0 := by simpa [Value.cells, c1] using hg4 0 _ rfl
      obtain ⟨x4, e4, _, _⟩ := DataW.trod_int Try.underlying3 k0
      have k1 : DataW.trod enc Try.prog w base spare held n4 3 [v5] = some z1 := by simpa [Value.cells, c1] using hg4 1 _ rfl
      obtain ⟨x5, e5, _, _⟩ := DataW.trod_int Try.underlying3 k1
      have k2 : DataW.trod enc Try.prog w base spare held n4 3 [v6] = some z2 := by simpa [Value.cells, c1] using hg4 2 _ rfl
      obtain ⟨x6, e6, _, _⟩ := DataW.trod_int Try.underlying3 k2
      have k3 : DataW.trod enc Try.prog w base spare held n4 3 [v7] = some z3 := by simpa [Value.cells, c1] using hg4 3 _ rfl
      obtain ⟨x7, e7, _, _⟩ := DataW.trod_int Try.underlying3 k3
      obtain ⟨na, nc, nodes, e0, _, _, hn, _⟩ := open_rowsSp (α := V) (C := 4) (f := nodeV) (q := fun _ => True) Try.underlying22 (by kernel_rfl) (by decide) (fun _ => rfl) (fun m cs y hl hy => by
        match cs, hl with
        | [a0, a1, a2, a3], _ =>
          obtain ⟨us, m', _, _, _, hul, hu⟩ := DataW.trod_struct Try.underlying34 hy
          match us, hul with
          | [u0, u1, u2, u3], _ =>
            have j0 : DataW.trod enc Try.prog w base spare held m' 3 [a0] = some u0 := by simpa [Value.cells, c1] using hu 0 _ rfl
            have j1 : DataW.trod enc Try.prog w base spare held m' 3 [a1] = some u1 := by simpa [Value.cells, c1] using hu 1 _ rfl
            have j2 : DataW.trod enc Try.prog w base spare held m' 3 [a2] = some u2 := by simpa [Value.cells, c1] using hu 2 _ rfl
            have j3 : DataW.trod enc Try.prog w base spare held m' 3 [a3] = some u3 := by simpa [Value.cells, c1] using hu 3 _ rfl
            obtain ⟨b0, f0, _, _⟩ := DataW.trod_int Try.underlying3 j0
            obtain ⟨b1, f1, _, _⟩ := DataW.trod_int Try.underlying3 j1
            obtain ⟨b2, f2, _, _⟩ := DataW.trod_int Try.underlying3 j2
            obtain ⟨b3, f3, _, _⟩ := DataW.trod_int Try.underlying3 j3
            simp at f0 f1 f2 f3
            exact ⟨⟨b0, b1, b2, b3⟩, by rw [f0, f1, f2, f3]; rfl, trivial⟩) g0
      obtain ⟨pa, pc, parts, e1, _, _, hp, hp'⟩ := open_rowsSp (α := Sl) (C := 1) (f := fun p => [partV p]) (q := SlAt w) Try.underlying23 (by kernel_rfl) (by decide) (fun _ => rfl) (fun m cs y hl hy => by
        match cs, hl with
        | [a0], _ =>
          obtain ⟨p, rfl, hp⟩ := open_sl hy
          exact ⟨p, rfl, hp⟩) g1
      obtain ⟨qa, qc, queues, e2, _, _, hq, hq'⟩ := open_rowsSp (α := QR) (C := 6) (f := queueV) (q := fun q => SlAt w q.users) Try.underlying24 (by kernel_rfl) (by decide) (fun _ => rfl) (fun m cs y hl hy => by
        match cs, hl with
        | [a0, a1, a2, a3, a4, a5], _ =>
          obtain ⟨us, m', _, _, _, hul, hu⟩ := DataW.trod_struct Try.underlying89 hy
          match us, hul with
          | [u0, u1, u2, u3, u4, u5], _ =>
            have j0 : DataW.trod enc Try.prog w base spare held m' 3 [a0] = some u0 := by simpa [Value.cells, c1] using hu 0 _ rfl
            have j1 : DataW.trod enc Try.prog w base spare held m' 77 [a1] = some u1 := by simpa [Value.cells, c6] using hu 1 _ rfl
            have j2 : DataW.trod enc Try.prog w base spare held m' 3 [a2] = some u2 := by simpa [Value.cells, c1] using hu 2 _ rfl
            have j3 : DataW.trod enc Try.prog w base spare held m' 3 [a3] = some u3 := by simpa [Value.cells, c1] using hu 3 _ rfl
            have j4 : DataW.trod enc Try.prog w base spare held m' 3 [a4] = some u4 := by simpa [Value.cells, c1] using hu 4 _ rfl
            have j5 : DataW.trod enc Try.prog w base spare held m' 3 [a5] = some u5 := by simpa [Value.cells, c1] using hu 5 _ rfl
            obtain ⟨b0, f0, _, _⟩ := DataW.trod_int Try.underlying3 j0
            obtain ⟨p, f1, hp1⟩ := open_sl j1
            obtain ⟨b2, f2, _, _⟩ := DataW.trod_int Try.underlying3 j2
            obtain ⟨b3, f3, _, _⟩ := DataW.trod_int Try.underlying3 j3
            obtain ⟨b4, f4, _, _⟩ := DataW.trod_int Try.underlying3 j4
            obtain ⟨b5, f5, _, _⟩ := DataW.trod_int Try.underlying3 j5
            simp at f0 f2 f3 f4 f5
            exact ⟨⟨b0, p, b2, b3, b4, b5⟩, by rw [f0, f1, f2, f3, f4, f5]; rfl, hp1⟩) g2
      rw [flat_oneSp] at hp
      simp at e3 e4 e5 e6 e7 e8 e9 e10 e11 e12 e13 e14 e15 e16 e17
      refine ⟨⟨na, nc, nodes, pa, pc, parts, qa, qc, queues, x3, x4, x5, x6, x7, x8, x9, x10, x11, x12, x13, x14, x15, x16, x17⟩, ?_, ⟨hn, hp, hp', hq, hq'⟩⟩
      rw [e0, e1, e2, e3, e4, e5, e6, e7, e8, e9, e10, e11, e12, e13, e14, e15, e16, e17]

end Go.Proofs.Ytcdajfiohhbdgaa.W
