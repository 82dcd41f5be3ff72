/-
  Contract of vec.Sub: two numbers at once as one complex number.
-/
import Derived.Test.YtcnpppkndcgmpaaVecAdd
namespace Go.Proofs.Ytcnpppkndcgmpaa.W
set_option linter.unusedVariables false
set_option linter.unusedSimpArgs false
open Go.ChangeShapes Go.WideShapes Go.ChangeAt Go.RowKit
attribute [local go_sem] run_store_complex

set_option maxHeartbeats 8000000 in
theorem sub (a b : V) (w : World) :
    Calls Try.prog 32 #[(.agg #[.int .i64 a.cpu, .int .i64 a.mem, .int .i64 a.gpu, .int .i64 a.lic]), (.agg #[.int .i64 b.cpu, .int .i64 b.mem, .int .i64 b.gpu, .int .i64 b.lic])] w
      fun e w' => e = .returned (.tuple #[(.agg #[.int .i64 (subR a b).cpu, .int .i64 (subR a b).mem, .int .i64 (subR a b).gpu, .int .i64 (subR a b).lic]), .int .i64 (subE a b)]) ∧ Below w.heap.size w w' := by
  by_cases h0 : a.Ok
  · by_cases h1 : b.Ok
    · rw [(sub_in ⟨h0, h1⟩).1, (sub_in ⟨h0, h1⟩).2]
      have HA := Lib.hid (fun w => right a w)
      have HB := Lib.hid (fun w => right b w)
      rw [right_yes h0] at HA
      rw [right_yes h1] at HB
      have s := small_less h0 h1
      have U := Lib.hid (fun w => unpair (a.less b) w s)
      have e0 := fun t w => run_complex_sum (P := Try.prog) w .sub (Or.inr rfl) t .f64 _ _ _ _ _ _ (cdiff_less0 h0 h1)
      have e1 := fun t w => run_complex_sum (P := Try.prog) w .sub (Or.inr rfl) t .f64 _ _ _ _ _ _ (cdiff_less1 h0 h1)
      clear h0 h1 s
      go_enter Try.func32, Try.ntmps32
      go_wp2_with fail
      refine (HA.out _).mono ?_; rintro e w1 ⟨rfl, hb1⟩; obtain ⟨hc1, hf1⟩ := bcell hb1; have hz1 := hb1.size; (try simp at hz1); have lt_w1_0 : w.heap.size < w1.heap.size := (by omega); have lt_w1_1 : w.heap.size + 1 < w1.heap.size := (by omega); have lt_w1_2 : w.heap.size + 1 + 1 < w1.heap.size := (by omega)
      go_wp2_with fail
      refine (HB.out _).mono ?_; rintro e w2 ⟨rfl, hb2⟩; obtain ⟨hc2, hf2⟩ := bcell hb2; have hz2 := hb2.size; (try simp at hz2); have lt_w2_0 : w.heap.size < w2.heap.size := (by omega); have lt_w2_1 : w.heap.size + 1 < w2.heap.size := (by omega); have lt_w2_2 : w.heap.size + 1 + 1 < w2.heap.size := (by omega)
      go_upto_region 3 with fail
      go_cut [6, 7] (fun s6 s7 wx => ∃ g h : Nat, s6 = .pointer (some ⟨g, 0, none⟩) ∧ s7 = .pointer (some ⟨h, 0, none⟩) ∧ Below w2.heap.size w2 wx ∧
        (wx.cell? ⟨g, 0, none⟩ = some (.complex .f64 (fl a.cpu) (fl a.mem)) ∧ wx.cell? ⟨g, 1, none⟩ = some (.complex .f64 (fl a.gpu) (fl a.lic))) ∧
        (wx.cell? ⟨h, 0, none⟩ = some (.complex .f64 (fl b.cpu) (fl b.mem)) ∧ wx.cell? ⟨h, 1, none⟩ = some (.complex .f64 (fl b.gpu) (fl b.lic))))
      case first =>
        have p2 : ∀ w', Below w2.heap.size w2 w' → (w'.cell? ⟨w.heap.size, 0, none⟩ = some (.int .i64 a.cpu) ∧ w'.cell? ⟨w.heap.size, 1, none⟩ = some (.int .i64 a.mem) ∧ w'.cell? ⟨w.heap.size, 2, none⟩ = some (.int .i64 a.gpu) ∧ w'.cell? ⟨w.heap.size, 3, none⟩ = some (.int .i64 a.lic)) := fun w' hb => ⟨(by repeat' (first | assumption | (simp [go_sem]; done) | refine carry (by assumption) ?_ | refine carry_alloc ?_ _)), (by repeat' (first | assumption | (simp [go_sem]; done) | refine carry (by assumption) ?_ | refine carry_alloc ?_ _)), (by repeat' (first | assumption | (simp [go_sem]; done) | refine carry (by assumption) ?_ | refine carry_alloc ?_ _)), (by repeat' (first | assumption | (simp [go_sem]; done) | refine carry (by assumption) ?_ | refine carry_alloc ?_ _))⟩
        have p3 : ∀ w', Below w2.heap.size w2 w' → (w'.cell? ⟨w.heap.size + 1, 0, none⟩ = some (.int .i64 b.cpu) ∧ w'.cell? ⟨w.heap.size + 1, 1, none⟩ = some (.int .i64 b.mem) ∧ w'.cell? ⟨w.heap.size + 1, 2, none⟩ = some (.int .i64 b.gpu) ∧ w'.cell? ⟨w.heap.size + 1, 3, none⟩ = some (.int .i64 b.lic)) := fun w' hb => ⟨(by repeat' (first | assumption | (simp [go_sem]; done) | refine carry (by assumption) ?_ | refine carry_alloc ?_ _)), (by repeat' (first | assumption | (simp [go_sem]; done) | refine carry (by assumption) ?_ | refine carry_alloc ?_ _)), (by repeat' (first | assumption | (simp [go_sem]; done) | refine carry (by assumption) ?_ | refine carry_alloc ?_ _)), (by repeat' (first | assumption | (simp [go_sem]; done) | refine carry (by assumption) ?_ | refine carry_alloc ?_ _))⟩
        have P2 := Lib.hid p2
        have P3 := Lib.hid p3
        clear p2 p3 hc1 hc2 hf1 hf2
        refine region_inv (by kernel_rfl) (TwoPairs w2 (.agg #[.int .i64 a.cpu, .int .i64 a.mem, .int .i64 a.gpu, .int .i64 a.lic]) (.agg #[.complex .f64 (fl a.cpu) (fl a.mem), .complex .f64 (fl a.gpu) (fl a.lic)]) (.agg #[.int .i64 b.cpu, .int .i64 b.mem, .int .i64 b.gpu, .int .i64 b.lic]) (.agg #[.complex .f64 (fl b.cpu) (fl b.mem), .complex .f64 (fl b.gpu) (fl b.lic)])
          (.complex .f64 (fl a.cpu) (fl a.mem)) (.complex .f64 (fl a.gpu) (fl a.lic)) (.complex .f64 (fl b.cpu) (fl b.mem)) (.complex .f64 (fl b.gpu) (fl b.lic))
          (fun s6 s7 s17 s18 s19 s20 => #[(.agg #[.int .i64 a.cpu, .int .i64 a.mem, .int .i64 a.gpu, .int .i64 a.lic]), (.agg #[.int .i64 b.cpu, .int .i64 b.mem, .int .i64 b.gpu, .int .i64 b.lic]), .pointer (some ⟨w.heap.size, 0, none⟩), .pointer (some ⟨w.heap.size + 1, 0, none⟩), .pointer (some ⟨w.heap.size + 1 + 1, 0, none⟩), .int .i64 0, s6, s7,
            (.agg #[.int .i64 a.cpu, .int .i64 a.mem, .int .i64 a.gpu, .int .i64 a.lic]), .bool true, .bool false, .bool false, (.agg #[.int .i64 b.cpu, .int .i64 b.mem, .int .i64 b.gpu, .int .i64 b.lic]), .bool true, .bool false, .bool false, undef, s17, s18, s19, s20, undef, undef, undef, undef, undef, undef, undef, undef, undef, undef, undef, undef, undef, undef])) ?_ ?_ ?_
        · exact ⟨false, false, false, false, false, false, false, false, undef, undef, undef, undef, undef, undef, 0, 0, undef, undef, undef, undef, rfl, rfl, Below.drew (Below.refl _ _), by simp, by simp, by simp, by simp, by simp, by simp, by simp, by simp, by simp⟩
        · rintro listed ac wl ⟨b0, b1, b2, b3, b4, b5, b6, b7, s6, s7, s17, s18, s19, s20, g, h, u0, u1, v0, v1, rfl, rfl, hb, k0, k1, k2, k3, k4, k5, k6, k7, k8⟩ hr
          have key : b6 = true ∧ b7 = true := by
            clear k0 k1 k2 k3 k4 k5 k6 k7 k8
            revert hr
            revert b0 b1 b2 b3 b4 b5 b6 b7
            decide +kernel
          obtain ⟨t4, rfl, rfl⟩ := k7 key.1
          obtain ⟨t5, rfl, rfl⟩ := k8 key.2
          have m := k4 t4
          have n := k5 t5
          clear hr
          dsimp only
          go_wp2_with fail
          go_meet
          exact ⟨g, h, m.eq, n.eq, hb, ⟨m.c0, m.c1⟩, n.c0, n.c1⟩
        · rintro i listed ac wl ⟨b0, b1, b2, b3, b4, b5, b6, b7, s6, s7, s17, s18, s19, s20, g, h, u0, u1, v0, v1, rfl, rfl, hb, k0, k1, k2, k3, k4, k5, k6, k7, k8⟩ hi hd
          match i, hi, hd with
          | 0, hi, hd =>
            obtain ⟨q0, q1, q2, q3⟩ := P2.out wl hb
            refine wpOp_one rfl rfl (fun K hK => ?_)
            go_simp
            exact hK _ _ ⟨true, b1, b2, b3, b4, b5, b6, b7, s6, s7, _, s18, s19, s20, g, h, u0, u1, v0, v1, rfl, rfl, hb, fun _ => rfl, k1, k2, k3, k4, k5, k6, k7, k8⟩
          | 1, hi, hd =>
            obtain ⟨o, ho, hd⟩ := hd
            obtain rfl := Option.some.inj ho
            have d0 : b0 = true := hd { on := 0, ground := .data } (by simp) rfl
            obtain rfl := k0 d0
            refine wpOp_one rfl rfl (fun K hK => ?_)
            go_simp
            refine (pair a _).mono ?_; rintro e w3 ⟨rfl, rfl⟩
            have hb3 : Below wl.heap.size wl ((wl.alloc (.cells #[.int .i64 a.cpu, .int .i64 a.mem, .int .i64 a.gpu, .int .i64 a.lic] 25)).alloc (.cells #[.complex .f64 (fl a.cpu) (fl a.mem), .complex .f64 (fl a.gpu) (fl a.lic)] 62)) := (by repeat' (first | exact Below.refl _ _ | assumption | exact And.left (by assumption) | refine Below.drew ?_ | refine below_drewN ?_ _ | refine Below.setCell ?_ (by first | (simp; done) | (simp; omega) | omega) _ | refine Below.alloc ?_ (by first | (simp; done) | (simp; omega) | omega) _ | refine after (by assumption) (by first | (simp; done) | (simp; omega) | omega) ?_))
            exact hK _ _ ⟨b0, true, b2, b3, b4, b5, b6, b7, s6, s7, _, _, s19, s20, g, h, u0, u1, v0, v1, rfl, rfl, hb.trans (hb3.mono hb.size), k0, fun _ => rfl, k2, k3, fun x => (k4 x).later hb3, fun x => (k5 x).later hb3, k6, k7, k8⟩
          | 2, hi, hd =>
            obtain ⟨q0, q1, q2, q3⟩ := P3.out wl hb
            refine wpOp_one rfl rfl (fun K hK => ?_)
            go_simp
            exact hK _ _ ⟨b0, b1, true, b3, b4, b5, b6, b7, s6, s7, s17, s18, _, s20, g, h, u0, u1, v0, v1, rfl, rfl, hb, k0, k1, fun _ => rfl, k3, k4, k5, k6, k7, k8⟩
          | 3, hi, hd =>
            obtain ⟨o, ho, hd⟩ := hd
            obtain rfl := Option.some.inj ho
            have d0 : b2 = true := hd { on := 2, ground := .data } (by simp) rfl
            obtain rfl := k2 d0
            refine wpOp_one rfl rfl (fun K hK => ?_)
            go_simp
            refine (pair b _).mono ?_; rintro e w3 ⟨rfl, rfl⟩
            have hb3 : Below wl.heap.size wl ((wl.alloc (.cells #[.int .i64 b.cpu, .int .i64 b.mem, .int .i64 b.gpu, .int .i64 b.lic] 25)).alloc (.cells #[.complex .f64 (fl b.cpu) (fl b.mem), .complex .f64 (fl b.gpu) (fl b.lic)] 62)) := (by repeat' (first | exact Below.refl _ _ | assumption | exact And.left (by assumption) | refine Below.drew ?_ | refine below_drewN ?_ _ | refine Below.setCell ?_ (by first | (simp; done) | (simp; omega) | omega) _ | refine Below.alloc ?_ (by first | (simp; done) | (simp; omega) | omega) _ | refine after (by assumption) (by first | (simp; done) | (simp; omega) | omega) ?_))
            exact hK _ _ ⟨b0, b1, b2, true, b4, b5, b6, b7, s6, s7, s17, s18, _, _, g, h, u0, u1, v0, v1, rfl, rfl, hb.trans (hb3.mono hb.size), k0, k1, k2, fun _ => rfl, fun x => (k4 x).later hb3, fun x => (k5 x).later hb3, k6, k7, k8⟩
          | 4, hi, hd =>
            refine wpOp_one rfl rfl (fun K hK => ?_)
            go_simp
            exact hK _ _ ⟨b0, b1, b2, b3, true, b5, b6, b7, _, s7, s17, s18, s19, s20, wl.heap.size, h, .complex .f64 0 0, .complex .f64 0 0, v0, v1, rfl, rfl, hb.alloc hb.size _, k0, k1, k2, k3, fun _ => ⟨rfl, hb.size, by simp [go_sem], by simp [go_sem], by simp [go_sem], by simp [go_sem]⟩,
              fun x => (k5 x).later ((Below.refl _ _).alloc (Nat.le_refl _) _), fun _ x => by have := World.block_lt_of_cell? _ _ (k5 x).c0; simp at this; omega, fun x => absurd (k7 x).1 (by simpa using hi), k8⟩
          | 5, hi, hd =>
            refine wpOp_one rfl rfl (fun K hK => ?_)
            go_simp
            exact hK _ _ ⟨b0, b1, b2, b3, b4, true, b6, b7, s6, _, s17, s18, s19, s20, g, wl.heap.size, u0, u1, .complex .f64 0 0, .complex .f64 0 0, rfl, rfl, hb.alloc hb.size _, k0, k1, k2, k3, fun x => (k4 x).later ((Below.refl _ _).alloc (Nat.le_refl _) _),
              fun _ => ⟨rfl, hb.size, by simp [go_sem], by simp [go_sem], by simp [go_sem], by simp [go_sem]⟩, fun x _ => by have := World.block_lt_of_cell? _ _ (k4 x).c0; simp at this; omega, k7, fun x => absurd (k8 x).1 (by simpa using hi)⟩
          | 6, hi, hd =>
            obtain ⟨o, ho, hd⟩ := hd
            obtain rfl := Option.some.inj ho
            have d1 : b1 = true := hd { on := 1, ground := .data } (by simp) rfl
            have d4 : b4 = true := hd { on := 4, ground := .data } (by simp) rfl
            have d5 : b5 = true := hd { on := 5, ground := .phase } (by simp) rfl
            obtain rfl := k1 d1
            have m := k4 d4
            have e := m.eq
            have c0 := m.c0
            have c1 := m.c1
            have f0 := m.f0
            have f1 := m.f1
            subst e
            refine wpOp_one rfl rfl (fun K hK => ?_)
            have HM := Lib.hid m
            clear m
            go_simp
            exact hK _ _ ⟨b0, b1, b2, b3, b4, b5, true, b7, _, s7, s17, _, s19, s20, g, h, _, _, v0, v1, rfl, rfl, (hb.setCell HM.out.new _).setCell HM.out.new _, k0, fun _ => rfl, k2, k3, fun _ => HM.out.stored _ _,
              fun x => (k5 x).apart (k6 d4 x) _ _, k6, fun _ => ⟨d4, rfl, rfl⟩, k8⟩
          | 7, hi, hd =>
            obtain ⟨o, ho, hd⟩ := hd
            obtain rfl := Option.some.inj ho
            have d3 : b3 = true := hd { on := 3, ground := .data } (by simp) rfl
            have d5 : b5 = true := hd { on := 5, ground := .data } (by simp) rfl
            obtain rfl := k3 d3
            have m := k5 d5
            have e := m.eq
            have c0 := m.c0
            have c1 := m.c1
            have f0 := m.f0
            have f1 := m.f1
            subst e
            refine wpOp_one rfl rfl (fun K hK => ?_)
            have HM := Lib.hid m
            clear m
            go_simp
            exact hK _ _ ⟨b0, b1, b2, b3, b4, b5, b6, true, s6, _, s17, s18, s19, _, g, h, u0, u1, _, _, rfl, rfl, (hb.setCell HM.out.new _).setCell HM.out.new _, k0, k1, k2, fun _ => rfl,
              fun x => (k4 x).apart (Ne.symm (k6 x d5)) _ _, fun _ => HM.out.stored _ _, k6, k7, fun _ => ⟨d5, rfl, rfl⟩⟩
          | n + 8, hi, hd => simp at hi
      case rest =>
        obtain ⟨g, h, rfl, rfl, hb3, ⟨hg0, hg1⟩, hh0, hh1⟩ := hcut
        obtain ⟨hc3, hf3⟩ := bcell hb3
        have hz3 := hb3.size
        have lt_wc_0 : w.heap.size < wc.heap.size := (by omega); have lt_wc_1 : w.heap.size + 1 < wc.heap.size := (by omega); have lt_wc_2 : w.heap.size + 1 + 1 < wc.heap.size := (by omega)
        go_wp2_with (simp only [e0, e1])
        refine (U.out _).mono ?_; rintro e w4 ⟨rfl, hb4⟩; obtain ⟨hc4, hf4⟩ := bcell hb4; have hz4 := hb4.size; (try simp at hz4); have lt_w4_0 : w.heap.size < w4.heap.size := (by omega); have lt_w4_1 : w.heap.size + 1 < w4.heap.size := (by omega); have lt_w4_2 : w.heap.size + 1 + 1 < w4.heap.size := (by omega)
        have q_w4_0 : w4.cell? ⟨w.heap.size + 1 + 1, 0, none⟩ = some (.int .i64 0) := (by repeat' (first | assumption | (simp [go_sem]; done) | refine carry (by assumption) ?_ | refine carry_alloc ?_ _)); have q_w4_1 : w4.cell? ⟨w.heap.size + 1 + 1, 1, none⟩ = some (.int .i64 0) := (by repeat' (first | assumption | (simp [go_sem]; done) | refine carry (by assumption) ?_ | refine carry_alloc ?_ _)); have q_w4_2 : w4.cell? ⟨w.heap.size + 1 + 1, 2, none⟩ = some (.int .i64 0) := (by repeat' (first | assumption | (simp [go_sem]; done) | refine carry (by assumption) ?_ | refine carry_alloc ?_ _)); have q_w4_3 : w4.cell? ⟨w.heap.size + 1 + 1, 3, none⟩ = some (.int .i64 0) := (by repeat' (first | assumption | (simp [go_sem]; done) | refine carry (by assumption) ?_ | refine carry_alloc ?_ _))
        go_wp2
        exact bodyPost_ret (v := .tuple #[(.agg #[.int .i64 (outR (a.less b)).cpu, .int .i64 (outR (a.less b)).mem, .int .i64 (outR (a.less b)).gpu, .int .i64 (outR (a.less b)).lic]), .int .i64 (outE (a.less b))]) (by simp [results, Try.results32, go_sem, *]) rfl ⟨rfl, (by repeat' (first | exact Below.refl _ _ | assumption | exact And.left (by assumption) | refine Below.drew ?_ | refine below_drewN ?_ _ | refine Below.setCell ?_ (by first | (simp; done) | (simp; omega) | omega) _ | refine Below.alloc ?_ (by first | (simp; done) | (simp; omega) | omega) _ | refine after (by assumption) (by first | (simp; done) | (simp; omega) | omega) ?_))⟩
    · rw [(sub_arg (fun x => h1 x.2)).1, (sub_arg (fun x => h1 x.2)).2]
      have HA := Lib.hid (fun w => right a w)
      have HB := Lib.hid (fun w => right b w)
      rw [right_yes h0] at HA
      rw [right_no h1] at HB
      clear h0 h1
      go_enter Try.func32, Try.ntmps32
      go_wp2_with fail
      refine (HA.out _).mono ?_; rintro e w1 ⟨rfl, hb1⟩; obtain ⟨hc1, hf1⟩ := bcell hb1; have hz1 := hb1.size; (try simp at hz1); have lt_w1_0 : w.heap.size < w1.heap.size := (by omega); have lt_w1_1 : w.heap.size + 1 < w1.heap.size := (by omega); have lt_w1_2 : w.heap.size + 1 + 1 < w1.heap.size := (by omega)
      go_wp2_with fail
      refine (HB.out _).mono ?_; rintro e w2 ⟨rfl, hb2⟩; obtain ⟨hc2, hf2⟩ := bcell hb2; have hz2 := hb2.size; (try simp at hz2); have lt_w2_0 : w.heap.size < w2.heap.size := (by omega); have lt_w2_1 : w.heap.size + 1 < w2.heap.size := (by omega); have lt_w2_2 : w.heap.size + 1 + 1 < w2.heap.size := (by omega)
      have q_w2_0 : w2.cell? ⟨w.heap.size + 1 + 1, 0, none⟩ = some (.int .i64 0) := (by repeat' (first | assumption | (simp [go_sem]; done) | refine carry (by assumption) ?_ | refine carry_alloc ?_ _)); have q_w2_1 : w2.cell? ⟨w.heap.size + 1 + 1, 1, none⟩ = some (.int .i64 0) := (by repeat' (first | assumption | (simp [go_sem]; done) | refine carry (by assumption) ?_ | refine carry_alloc ?_ _)); have q_w2_2 : w2.cell? ⟨w.heap.size + 1 + 1, 2, none⟩ = some (.int .i64 0) := (by repeat' (first | assumption | (simp [go_sem]; done) | refine carry (by assumption) ?_ | refine carry_alloc ?_ _)); have q_w2_3 : w2.cell? ⟨w.heap.size + 1 + 1, 3, none⟩ = some (.int .i64 0) := (by repeat' (first | assumption | (simp [go_sem]; done) | refine carry (by assumption) ?_ | refine carry_alloc ?_ _))
      go_wp2
      exact bodyPost_ret (v := .tuple #[(.agg #[.int .i64 V.zero.cpu, .int .i64 V.zero.mem, .int .i64 V.zero.gpu, .int .i64 V.zero.lic]), .int .i64 2]) (by simp [results, Try.results32, go_sem, V.zero, *]) rfl ⟨rfl, (by repeat' (first | exact Below.refl _ _ | assumption | exact And.left (by assumption) | refine Below.drew ?_ | refine below_drewN ?_ _ | refine Below.setCell ?_ (by first | (simp; done) | (simp; omega) | omega) _ | refine Below.alloc ?_ (by first | (simp; done) | (simp; omega) | omega) _ | refine after (by assumption) (by first | (simp; done) | (simp; omega) | omega) ?_))⟩
  · rw [(sub_arg (fun x => h0 x.1)).1, (sub_arg (fun x => h0 x.1)).2]
    have HA := Lib.hid (fun w => right a w)
    rw [right_no h0] at HA
    clear h0
    go_enter Try.func32, Try.ntmps32
    go_wp2_with fail
    refine (HA.out _).mono ?_; rintro e w1 ⟨rfl, hb1⟩; obtain ⟨hc1, hf1⟩ := bcell hb1; have hz1 := hb1.size; (try simp at hz1); have lt_w1_0 : w.heap.size < w1.heap.size := (by omega); have lt_w1_1 : w.heap.size + 1 < w1.heap.size := (by omega); have lt_w1_2 : w.heap.size + 1 + 1 < w1.heap.size := (by omega)
    have q_w1_0 : w1.cell? ⟨w.heap.size + 1 + 1, 0, none⟩ = some (.int .i64 0) := (by repeat' (first | assumption | (simp [go_sem]; done) | refine carry (by assumption) ?_ | refine carry_alloc ?_ _)); have q_w1_1 : w1.cell? ⟨w.heap.size + 1 + 1, 1, none⟩ = some (.int .i64 0) := (by repeat' (first | assumption | (simp [go_sem]; done) | refine carry (by assumption) ?_ | refine carry_alloc ?_ _)); have q_w1_2 : w1.cell? ⟨w.heap.size + 1 + 1, 2, none⟩ = some (.int .i64 0) := (by repeat' (first | assumption | (simp [go_sem]; done) | refine carry (by assumption) ?_ | refine carry_alloc ?_ _)); have q_w1_3 : w1.cell? ⟨w.heap.size + 1 + 1, 3, none⟩ = some (.int .i64 0) := (by repeat' (first | assumption | (simp [go_sem]; done) | refine carry (by assumption) ?_ | refine carry_alloc ?_ _))
    go_wp2
    exact bodyPost_ret (v := .tuple #[(.agg #[.int .i64 V.zero.cpu, .int .i64 V.zero.mem, .int .i64 V.zero.gpu, .int .i64 V.zero.lic]), .int .i64 2]) (by simp [results, Try.results32, go_sem, V.zero, *]) rfl ⟨rfl, (by repeat' (first | exact Below.refl _ _ | assumption | exact And.left (by assumption) | refine Below.drew ?_ | refine below_drewN ?_ _ | refine Below.setCell ?_ (by first | (simp; done) | (simp; omega) | omega) _ | refine Below.alloc ?_ (by first | (simp; done) | (simp; omega) | omega) _ | refine after (by assumption) (by first | (simp; done) | (simp; omega) | omega) ?_))⟩

end Go.Proofs.Ytcnpppkndcgmpaa.W
