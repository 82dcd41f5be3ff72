/-
  The walk of SpecTexts.
-/
import Derived.Test.YtgopjpnlpcmldaaGreatDoorSpecAwake
import Derived.Test.YtgopjpnlpcmldaaGreatDoorJ42
import Derived.Test.YtgopjpnlpcmldaaGreatDoorTextRText
import Derived.Test.YtgopjpnlpcmldaaGreatDoorFrameTexts
namespace Go.Proofs.YtgopjpnlpcmldaaGreatDoor.W
set_option linter.unusedVariables false
set_option linter.unusedSimpArgs false
open Go.ChangeShapes Go.WideShapes Go.ChangeAt Go.RowKit

theorem few_small {s : S} (h : Few s) : SmallS s := ⟨fun p hp => by have := h.2.2.2.1 p hp; omega, fun q hq => by have := h.2.2.2.2 q hq; omega⟩
theorem few_right {s : S} (h : RightIs s) : Few s :=
  ⟨by have := h.nodes.1; omega, by have := h.parts.1; omega, by have := h.queues.1; omega, fun p hp => by have := rise_len (h.parts.2 p hp).2; have := h.nodes.1.2; omega, fun q hq => by have := rise_len (h.queues.2 q hq).2.1; have := h.users; omega⟩
theorem zero_rows7 (w : World) : Rows w sZero := ⟨.inl rfl, .inl rfl, fun p hp => (by cases hp), .inl rfl, fun p hp => (by cases hp)⟩
theorem read_any (l : List UInt8) (hl : l.length ≤ 4000) (w : World) (hS : Std w) (hE : StdE w) :
    Calls Tryz.prog 8 #[.string (bs l)] w fun e w' => ((∃ s, TOk (tOf s) ∧ textT (tOf s) = l ∧ e = .returned (.tuple #[.agg #[.slice s.na s.nodes.length s.nc, .slice s.pa s.parts.length s.pc, .slice s.qa s.queues.length s.qc, .int .i64 s.users, .int .i64 s.age, .int .i64 s.size, .int .i64 s.qos, .int .i64 s.share, .int .i64 s.decay, .int .i64 s.mode, .int .i64 s.jobs, .int .i64 s.ids, .int .i64 s.versions, .int .i64 s.linger, .int .i64 s.keep, .int .i64 s.inn, .int .i64 s.out, .int .i64 s.cache], .int .i64 0]) ∧ Rows w' s) ∨
      ((∀ t, TOk t → textT t ≠ l) ∧ e = .returned (.tuple #[.agg #[.slice none 0 0, .slice none 0 0, .slice none 0 0, .int .i64 0, .int .i64 0, .int .i64 0, .int .i64 0, .int .i64 0, .int .i64 0, .int .i64 0, .int .i64 0, .int .i64 0, .int .i64 0, .int .i64 0, .int .i64 0, .int .i64 0, .int .i64 0, .int .i64 0], .int .i64 11]))) ∧ Below w.heap.size w w' := by
  by_cases h : l.length ≤ 2048
  · refine (read_short l h w hS hE).mono ?_
    rintro e w2 ⟨⟨s, h1, h2, h3, h4⟩ | ⟨h1, h2⟩, hb⟩
    · exact ⟨.inl ⟨s, h1, h2, h3, h4.rows⟩, hb⟩
    · exact ⟨.inr ⟨h1, h2⟩, hb⟩
  · refine (read_long l (by omega) (by omega) w).mono ?_
    rintro e w2 ⟨h2, hb⟩
    refine ⟨.inr ⟨fun t ht e => ?_, h2⟩, hb⟩
    have := text_len ht
    rw [e] at this
    omega
theorem rSameZ (w : World) : Calls Tryz.prog 10 #[.agg #[.slice none 0 0, .slice none 0 0, .slice none 0 0, .int .i64 0, .int .i64 0, .int .i64 0, .int .i64 0, .int .i64 0, .int .i64 0, .int .i64 0, .int .i64 0, .int .i64 0, .int .i64 0, .int .i64 0, .int .i64 0, .int .i64 0, .int .i64 0, .int .i64 0], .agg #[.slice none 0 0, .slice none 0 0, .slice none 0 0, .int .i64 0, .int .i64 0, .int .i64 0, .int .i64 0, .int .i64 0, .int .i64 0, .int .i64 0, .int .i64 0, .int .i64 0, .int .i64 0, .int .i64 0, .int .i64 0, .int .i64 0, .int .i64 0, .int .i64 0]] w fun e w' => e = .returned (.bool true) ∧ Below w.heap.size w w' :=
  rSame7 sZero sZero rfl _ _ _ _ _ _ rfl rfl rfl rfl rfl rfl (by simp [sZero]) (by simp [sZero]) (by simp [sZero]) (fun p hp => (by cases hp)) (fun p hp => (by cases hp)) w (zero_rows7 w) (zero_rows7 w)
theorem right_of_tok {s : S} (h : TOk (tOf s)) : RightIs s := tok_right h
set_option maxRecDepth 100000 in
set_option maxHeartbeats 4000000 in
theorem texts_no (s : S) (hf : Few s) (hr : rightS s = false) (hcap : ∀ q ∈ s.queues, q.users.a = none → q.users.cap = 0) (l : List UInt8) (hl : l.length ≤ 4000) (w : World) (hS : Std w) (hE : StdE w) (HR : Rows w s) :
    Calls Tryz.prog 3 #[.agg #[.slice s.na s.nodes.length s.nc, .slice s.pa s.parts.length s.pc, .slice s.qa s.queues.length s.qc, .int .i64 s.users, .int .i64 s.age, .int .i64 s.size, .int .i64 s.qos, .int .i64 s.share, .int .i64 s.decay, .int .i64 s.mode, .int .i64 s.jobs, .int .i64 s.ids, .int .i64 s.versions, .int .i64 s.linger, .int .i64 s.keep, .int .i64 s.inn, .int .i64 s.out, .int .i64 s.cache], .string (bs l)] w fun e w' => e = .returned (.bool true) ∧ Below w.heap.size w w' := by
  have H0 := Lib.hid (fun w' h => few s w' h)
  rw [show fewB s = true from decide_eq_true hf] at H0
  have H1 := Lib.hid (fun w' h => rright7 s hf w' h)
  rw [hr] at H1
  have H2 := Lib.hid (fun w' (hS : Std w') h => textS_no s (few_small hf) w' h hr)
  have HRD := Lib.hid (fun w' hS hE => read_any l hl w' hS hE)
  have HR := Lib.hid HR
  have hz := bs_size l
  have h4 : ¬ ((4000 : Int) < ((bs l).size : Int)) := by omega
  have HS := Lib.hid hS
  have HE := Lib.hid hE
  clear hf hr hcap hl hS hE hz
  go_enter Tryz.func3, Tryz.ntmps3
  go_wp2_with fail
  have HX := Lib.hid (Box.new w s 28)
  generalize hw0 : World.alloc w _ = w0 at HX ⊢
  have hb0 : Below w.heap.size w w0 := by rw [← hw0]; exact (by repeat' (first | exact Below.refl _ _ | assumption | exact And.left (by assumption) | refine Below.drew ?_ | refine below_drewN ?_ _ | refine Below.setCell ?_ (by first | (simp; done) | (simp; omega) | omega) _ | refine Below.alloc ?_ (by first | (simp; done) | (simp; omega) | omega) _ | refine after (by assumption) (by first | (simp; done) | (simp; omega) | omega) ?_))
  have HR0 := Lib.hid (HR.out.later hb0)
  clear hw0 HR
  refine (awake7 _).mono ?_; rintro e w1 ⟨rfl, hb1⟩
  have HX1 := Lib.hid (HX.out.later hb1)
  have HR1 := Lib.hid (HR0.out.later hb1)
  have hW1 := hb0.trans (hb1.mono hb0.size)
  go_wp2_with (refine wpList_load_box (s := s) rfl (.tmp 2) rfl rfl HX1.out ?_)
  refine (H0.out _ HR1.out).mono ?_; rintro e w2 ⟨rfl, hb2⟩
  have HX2 := Lib.hid (HX1.out.later hb2)
  have HR2 := Lib.hid (HR1.out.later hb2)
  have hW2 := hW1.trans (hb2.mono hW1.size)
  have HS2 := Lib.hid (HS.out.on hW2)
  clear HX HX1 HR0 HR1 H0
  go_wp2_with (refine wpList_load_box (s := s) rfl (.tmp 2) rfl rfl HX2.out ?_)
  refine (H2.out _ HS2.out HR2.out).mono ?_; rintro e w3 ⟨rfl, hb3⟩
  have HX3 := Lib.hid (HX2.out.later hb3)
  have HR3 := Lib.hid (HR2.out.later hb3)
  have hW3 := hW2.trans (hb3.mono hW2.size)
  clear HX2 HR2 HS2 H2
  go_wp2_with (refine wpList_load_box (s := s) rfl (.tmp 2) rfl rfl HX3.out ?_)
  refine (H1.out _ HR3.out).mono ?_; rintro e w4 ⟨rfl, hb4⟩
  have HX4 := Lib.hid (HX3.out.later hb4)
  have HR4 := Lib.hid (HR3.out.later hb4)
  have hW4 := hW3.trans (hb4.mono hW3.size)
  have HS4 := Lib.hid (HS.out.on hW4)
  have HE4 := Lib.hid (HE.out.below hW4 HS.out.size)
  clear HX3 HR3 H1
  go_wp2_with fail
  refine (HRD.out _ HS4.out HE4.out).mono ?_
  rintro e x1 ⟨⟨b, hok, htx, rfl, hrows⟩ | ⟨_, rfl⟩, hc1⟩
  · have hV1 := hW4.trans (hc1.mono hW4.size)
    have hrb := right_of_tok hok
    have HRB := Lib.hid hrows
    have K1 := Lib.hid (fun w' h => rright7 b (few_right hrb) w' h)
    rw [show rightS b = true from decide_eq_true (is_right hrb)] at K1
    have K2 := Lib.hid (fun w' h => rText7 b _ _ _ rfl rfl rfl hrb w' h)
    rw [htx] at K2
    clear hok htx hrows hrb
    go_wp2_with (first
      | (refine wpList_store_row rfl 28 (.tmp 9) (.tmp 61) rfl x1.heap.size _ rfl rfl 28 #[.slice none 0 0, .slice none 0 0, .slice none 0 0, .int .i64 0, .int .i64 0, .int .i64 0, .int .i64 0, .int .i64 0, .int .i64 0, .int .i64 0, .int .i64 0, .int .i64 0, .int .i64 0, .int .i64 0, .int .i64 0, .int .i64 0, .int .i64 0, .int .i64 0] (by repeat (first | (refine heap_top (by first | omega | (simp only [World.size_alloc]; done) | (simp only [World.size_alloc]; omega))) | refine heap_up ?_)) (by kernel_rfl) (by simp) (by simp [Value.oneCell']) ?_
         generalize hw90 : World.setRow _ _ _ = w90
         have hb90 : Below x1.heap.size x1 w90 := by rw [← hw90]; exact below_setRow ((by repeat' (first | exact Below.refl _ _ | assumption | exact And.left (by assumption) | refine Below.drew ?_ | refine below_drewN ?_ _ | refine Below.setCell ?_ (by first | (simp; done) | (simp; omega) | omega) _ | refine Below.alloc ?_ (by first | (simp; done) | (simp; omega) | omega) _ | refine after (by assumption) (by first | (simp; done) | (simp; omega) | omega) ?_))) (Nat.le_refl _) _
         have hg90 : w90.heap[x1.heap.size]? = some (.cells #[.slice b.na b.nodes.length b.nc, .slice b.pa b.parts.length b.pc, .slice b.qa b.queues.length b.qc, .int .i64 b.users, .int .i64 b.age, .int .i64 b.size, .int .i64 b.qos, .int .i64 b.share, .int .i64 b.decay, .int .i64 b.mode, .int .i64 b.jobs, .int .i64 b.ids, .int .i64 b.versions, .int .i64 b.linger, .int .i64 b.keep, .int .i64 b.inn, .int .i64 b.out, .int .i64 b.cache] 28 (0, 0)) := by rw [← hw90]; exact setRow_heap _ _ _ _ _ _ (by repeat (first | (refine heap_top (by first | omega | (simp only [World.size_alloc]; done) | (simp only [World.size_alloc]; omega))) | refine heap_up ?_))
         have HX90 := Lib.hid (box_row hg90)
         clear hw90 hg90)
      | refine wpList_load_box (s := b) rfl (.tmp 9) rfl rfl HX90.out ?_)
    have HRB1 := Lib.hid (HRB.out.later hb90)
    have hV2 := hV1.trans (hb90.mono hV1.size)
    refine (K1.out _ HRB1.out).mono ?_; rintro e x2 ⟨rfl, hc2⟩
    have HX91 := Lib.hid (HX90.out.later hc2)
    have HRB2 := Lib.hid (HRB1.out.later hc2)
    have hV3 := hV2.trans (hc2.mono hV2.size)
    clear HX90 HRB HRB1 K1
    go_wp2_with (refine wpList_load_box_g (s := b) (.tmp 9) rfl rfl HX91.out rfl ?_)
    refine (K2.out _ HRB2.out).mono ?_; rintro e x3 ⟨rfl, hc3⟩
    go_wp2
    go_ret
    exact ⟨rfl, hV3.trans (hc3.mono hV3.size)⟩
  · have hV1 := hW4.trans (hc1.mono hW4.size)
    go_wp2_with (first
      | (refine wpList_store_row rfl 28 (.tmp 9) (.tmp 61) rfl x1.heap.size _ rfl rfl 28 #[.slice none 0 0, .slice none 0 0, .slice none 0 0, .int .i64 0, .int .i64 0, .int .i64 0, .int .i64 0, .int .i64 0, .int .i64 0, .int .i64 0, .int .i64 0, .int .i64 0, .int .i64 0, .int .i64 0, .int .i64 0, .int .i64 0, .int .i64 0, .int .i64 0] (by repeat (first | (refine heap_top (by first | omega | (simp only [World.size_alloc]; done) | (simp only [World.size_alloc]; omega))) | refine heap_up ?_)) (by kernel_rfl) (by simp) (by simp [Value.oneCell']) ?_
         generalize hw90 : World.setRow _ _ _ = w90
         have hb90 : Below x1.heap.size x1 w90 := by rw [← hw90]; exact below_setRow ((by repeat' (first | exact Below.refl _ _ | assumption | exact And.left (by assumption) | refine Below.drew ?_ | refine below_drewN ?_ _ | refine Below.setCell ?_ (by first | (simp; done) | (simp; omega) | omega) _ | refine Below.alloc ?_ (by first | (simp; done) | (simp; omega) | omega) _ | refine after (by assumption) (by first | (simp; done) | (simp; omega) | omega) ?_))) (Nat.le_refl _) _
         have hg90 : w90.heap[x1.heap.size]? = some (.cells #[.slice none 0 0, .slice none 0 0, .slice none 0 0, .int .i64 0, .int .i64 0, .int .i64 0, .int .i64 0, .int .i64 0, .int .i64 0, .int .i64 0, .int .i64 0, .int .i64 0, .int .i64 0, .int .i64 0, .int .i64 0, .int .i64 0, .int .i64 0, .int .i64 0] 28 (0, 0)) := by rw [← hw90]; exact setRow_heap _ _ _ _ _ _ (by repeat (first | (refine heap_top (by first | omega | (simp only [World.size_alloc]; done) | (simp only [World.size_alloc]; omega))) | refine heap_up ?_))
         have HX90 := Lib.hid (box_row (s := sZero) hg90)
         clear hw90 hg90)
      | refine wpList_load_box_g (s := sZero) (.tmp 9) rfl rfl HX90.out rfl ?_)
    have hV2 := hV1.trans (hb90.mono hV1.size)
    refine (rSameZ _).mono ?_; rintro e x2 ⟨rfl, hc2⟩
    go_wp2
    go_ret
    exact ⟨rfl, hV2.trans (hc2.mono hV2.size)⟩
set_option maxRecDepth 100000 in
set_option maxHeartbeats 4000000 in
theorem texts_yes (s : S) (hf : Few s) (hr : rightS s = true) (hcap : ∀ q ∈ s.queues, q.users.a = none → q.users.cap = 0) (l : List UInt8) (hl : l.length ≤ 4000) (w : World) (hS : Std w) (hE : StdE w) (HR : Rows w s) :
    Calls Tryz.prog 3 #[.agg #[.slice s.na s.nodes.length s.nc, .slice s.pa s.parts.length s.pc, .slice s.qa s.queues.length s.qc, .int .i64 s.users, .int .i64 s.age, .int .i64 s.size, .int .i64 s.qos, .int .i64 s.share, .int .i64 s.decay, .int .i64 s.mode, .int .i64 s.jobs, .int .i64 s.ids, .int .i64 s.versions, .int .i64 s.linger, .int .i64 s.keep, .int .i64 s.inn, .int .i64 s.out, .int .i64 s.cache], .string (bs l)] w fun e w' => e = .returned (.bool true) ∧ Below w.heap.size w w' := by
  have H0 := Lib.hid (fun w' h => few s w' h)
  rw [show fewB s = true from decide_eq_true hf] at H0
  have H1 := Lib.hid (fun w' h => rright7 s hf w' h)
  rw [hr] at H1
  have hri := right_is (of_decide_eq_true hr)
  have hsm := few_small hf
  have htk := right_tok hri
  have htl := text_len htk
  have HFW := Lib.hid hf
  have HTK := Lib.hid htk
  have H2 := Lib.hid (fun w' hS h => textS_yes s hsm w' hS h hcap hr)
  have H3 := Lib.hid (fun w' h => rText7 s _ _ _ rfl rfl rfl hri w' h)
  obtain ⟨T, hT⟩ : ∃ T, T = textT (tOf s) := ⟨_, rfl⟩
  have HT := Lib.hid hT
  rw [← hT] at H2 H3 htl
  have H4 := Lib.hid (fun w' hS hE => read_any T (by omega) w' hS hE)
  have H5 : Hid (∀ b : S, TOk (tOf b) → textT (tOf b) = T → ∀ w', Rows w' b → Rows w' s → Calls Tryz.prog 10 #[.agg #[.slice b.na b.nodes.length b.nc, .slice b.pa b.parts.length b.pc, .slice b.qa b.queues.length b.qc, .int .i64 b.users, .int .i64 b.age, .int .i64 b.size, .int .i64 b.qos, .int .i64 b.share, .int .i64 b.decay, .int .i64 b.mode, .int .i64 b.jobs, .int .i64 b.ids, .int .i64 b.versions, .int .i64 b.linger, .int .i64 b.keep, .int .i64 b.inn, .int .i64 b.out, .int .i64 b.cache], .agg #[.slice s.na s.nodes.length s.nc, .slice s.pa s.parts.length s.pc, .slice s.qa s.queues.length s.qc, .int .i64 s.users, .int .i64 s.age, .int .i64 s.size, .int .i64 s.qos, .int .i64 s.share, .int .i64 s.decay, .int .i64 s.mode, .int .i64 s.jobs, .int .i64 s.ids, .int .i64 s.versions, .int .i64 s.linger, .int .i64 s.keep, .int .i64 s.inn, .int .i64 s.out, .int .i64 s.cache]] w' fun e w2 => e = .returned (.bool true) ∧ Below w'.heap.size w' w2) := Lib.hid (fun b hb1 hb2 w' x y => by
    have e := text_inj hb1 htk (hb2.trans hT)
    have hb3 := few_right (tok_right hb1)
    exact rSame7 b s e _ _ _ _ _ _ rfl rfl rfl rfl rfl rfl (by have := hb3.1; omega) (by have := hb3.2.1; omega) (by have := hb3.2.2.1; omega) (fun p hp => by have := hb3.2.2.2.1 p hp; omega) (fun p hp => by have := hb3.2.2.2.2 p hp; omega) w' x y)
  clear hT hri hsm htk htl
  have HRD := Lib.hid (fun w' hS hE => read_any l hl w' hS hE)
  have HR := Lib.hid HR
  have hz := bs_size l
  have h4 : ¬ ((4000 : Int) < ((bs l).size : Int)) := by omega
  have HS := Lib.hid hS
  have HE := Lib.hid hE
  clear hf hr hcap hl hS hE hz
  go_enter Tryz.func3, Tryz.ntmps3
  go_wp2_with fail
  have HX := Lib.hid (Box.new w s 28)
  generalize hw0 : World.alloc w _ = w0 at HX ⊢
  have hb0 : Below w.heap.size w w0 := by rw [← hw0]; exact (by repeat' (first | exact Below.refl _ _ | assumption | exact And.left (by assumption) | refine Below.drew ?_ | refine below_drewN ?_ _ | refine Below.setCell ?_ (by first | (simp; done) | (simp; omega) | omega) _ | refine Below.alloc ?_ (by first | (simp; done) | (simp; omega) | omega) _ | refine after (by assumption) (by first | (simp; done) | (simp; omega) | omega) ?_))
  have HR0 := Lib.hid (HR.out.later hb0)
  clear hw0 HR
  refine (awake7 _).mono ?_; rintro e w1 ⟨rfl, hb1⟩
  have HX1 := Lib.hid (HX.out.later hb1)
  have HR1 := Lib.hid (HR0.out.later hb1)
  have hW1 := hb0.trans (hb1.mono hb0.size)
  go_wp2_with (refine wpList_load_box (s := s) rfl (.tmp 2) rfl rfl HX1.out ?_)
  refine (H0.out _ HR1.out).mono ?_; rintro e w2 ⟨rfl, hb2⟩
  have HX2 := Lib.hid (HX1.out.later hb2)
  have HR2 := Lib.hid (HR1.out.later hb2)
  have hW2 := hW1.trans (hb2.mono hW1.size)
  have HS2 := Lib.hid (HS.out.on hW2)
  clear HX HX1 HR0 HR1 H0
  go_wp2_with (refine wpList_load_box (s := s) rfl (.tmp 2) rfl rfl HX2.out ?_)
  refine (H2.out _ HS2.out HR2.out).mono ?_; rintro e w3 ⟨rfl, hb3⟩
  have HX3 := Lib.hid (HX2.out.later hb3)
  have HR3 := Lib.hid (HR2.out.later hb3)
  have hW3 := hW2.trans (hb3.mono hW2.size)
  clear HX2 HR2 HS2 H2
  go_wp2_with (refine wpList_load_box (s := s) rfl (.tmp 2) rfl rfl HX3.out ?_)
  refine (H1.out _ HR3.out).mono ?_; rintro e w4 ⟨rfl, hb4⟩
  have HX4 := Lib.hid (HX3.out.later hb4)
  have HR4 := Lib.hid (HR3.out.later hb4)
  have hW4 := hW3.trans (hb4.mono hW3.size)
  have HS4 := Lib.hid (HS.out.on hW4)
  have HE4 := Lib.hid (HE.out.below hW4 HS.out.size)
  clear HX3 HR3 H1
  go_wp2_with fail
  refine (H4.out _ HS4.out HE4.out).mono ?_
  rintro e w5 ⟨⟨c, hok5, htx5, rfl, hrows5⟩ | ⟨hno, rfl⟩, hb5⟩
  rotate_left
  · exact absurd HT.out.symm (hno _ HTK.out)
  have H6 := Lib.hid (H5.out c hok5 htx5)
  clear hok5 htx5 H4 H5
  have hW5 := hW4.trans (hb5.mono hW4.size)
  have HX5 := Lib.hid (HX4.out.later hb5)
  have HR5 := Lib.hid (HR4.out.later hb5)
  have HC5 := Lib.hid hrows5
  clear HX4 HR4 hrows5 HS4 HE4
  go_wp2_with (first
    | (refine wpList_store_row rfl 28 (.tmp 7) (.tmp 38) rfl w5.heap.size _ rfl rfl 28 #[.slice none 0 0, .slice none 0 0, .slice none 0 0, .int .i64 0, .int .i64 0, .int .i64 0, .int .i64 0, .int .i64 0, .int .i64 0, .int .i64 0, .int .i64 0, .int .i64 0, .int .i64 0, .int .i64 0, .int .i64 0, .int .i64 0, .int .i64 0, .int .i64 0] (by repeat (first | (refine heap_top (by first | omega | (simp only [World.size_alloc]; done) | (simp only [World.size_alloc]; omega))) | refine heap_up ?_)) (by kernel_rfl) (by simp) (by simp [Value.oneCell']) ?_
       generalize hw70 : World.setRow _ _ _ = w70
       have hb70 : Below w5.heap.size w5 w70 := by rw [← hw70]; exact below_setRow ((by repeat' (first | exact Below.refl _ _ | assumption | exact And.left (by assumption) | refine Below.drew ?_ | refine below_drewN ?_ _ | refine Below.setCell ?_ (by first | (simp; done) | (simp; omega) | omega) _ | refine Below.alloc ?_ (by first | (simp; done) | (simp; omega) | omega) _ | refine after (by assumption) (by first | (simp; done) | (simp; omega) | omega) ?_))) (Nat.le_refl _) _
       have hg70 : w70.heap[w5.heap.size]? = some (.cells #[.slice c.na c.nodes.length c.nc, .slice c.pa c.parts.length c.pc, .slice c.qa c.queues.length c.qc, .int .i64 c.users, .int .i64 c.age, .int .i64 c.size, .int .i64 c.qos, .int .i64 c.share, .int .i64 c.decay, .int .i64 c.mode, .int .i64 c.jobs, .int .i64 c.ids, .int .i64 c.versions, .int .i64 c.linger, .int .i64 c.keep, .int .i64 c.inn, .int .i64 c.out, .int .i64 c.cache] 28 (0, 0)) := by rw [← hw70]; exact setRow_heap _ _ _ _ _ _ (by repeat (first | (refine heap_top (by first | omega | (simp only [World.size_alloc]; done) | (simp only [World.size_alloc]; omega))) | refine heap_up ?_))
       have HX70 := Lib.hid (box_row hg70)
       clear hw70 hg70)
    | refine wpList_load_box_g (s := s) (.tmp 2) rfl rfl (HX5.out.later hb70) rfl ?_)
  have hW7 := hW5.trans (hb70.mono hW5.size)
  have HX7 := Lib.hid (HX5.out.later hb70)
  have HR7 := Lib.hid (HR5.out.later hb70)
  have HC7 := Lib.hid (HC5.out.later hb70)
  clear HX5 HR5 HC5
  refine (H3.out _ HR7.out).mono ?_; rintro e w8 ⟨rfl, hb8⟩
  have HX8 := Lib.hid (HX7.out.later hb8)
  have HR8 := Lib.hid (HR7.out.later hb8)
  have HC8 := Lib.hid (HC7.out.later hb8)
  have HX78 := Lib.hid (HX70.out.later hb8)
  have hW8 := hW7.trans (hb8.mono hW7.size)
  clear HX7 HR7 HC7 HX70
  go_wp2_with (first
    | refine wpList_load_box_g (s := c) (.tmp 7) rfl rfl HX78.out rfl ?_
    | refine wpList_load_box_g (s := s) (.tmp 2) rfl rfl HX8.out rfl ?_)
  refine (H6.out _ HC8.out HR8.out).mono ?_; rintro e w9 ⟨rfl, hb9⟩
  have hW9 := hW8.trans (hb9.mono hW8.size)
  have HS9 := Lib.hid (HS.out.on hW9)
  have HE9 := Lib.hid (HE.out.below hW9 HS.out.size)
  clear HX8 HR8 HC8 HX78 H6 H3
  go_wp2_with fail
  refine (HRD.out _ HS9.out HE9.out).mono ?_
  rintro e x1 ⟨⟨b, hok, htx, rfl, hrows⟩ | ⟨_, rfl⟩, hc1⟩
  · have hV1 := hW9.trans (hc1.mono hW9.size)
    have hrb := right_of_tok hok
    have HRB := Lib.hid hrows
    have K1 := Lib.hid (fun w' h => rright7 b (few_right hrb) w' h)
    rw [show rightS b = true from decide_eq_true (is_right hrb)] at K1
    have K2 := Lib.hid (fun w' h => rText7 b _ _ _ rfl rfl rfl hrb w' h)
    rw [htx] at K2
    clear hok htx hrows hrb
    go_wp2_with (first
      | (refine wpList_store_row rfl 28 (.tmp 9) (.tmp 61) rfl x1.heap.size _ rfl rfl 28 #[.slice none 0 0, .slice none 0 0, .slice none 0 0, .int .i64 0, .int .i64 0, .int .i64 0, .int .i64 0, .int .i64 0, .int .i64 0, .int .i64 0, .int .i64 0, .int .i64 0, .int .i64 0, .int .i64 0, .int .i64 0, .int .i64 0, .int .i64 0, .int .i64 0] (by repeat (first | (refine heap_top (by first | omega | (simp only [World.size_alloc]; done) | (simp only [World.size_alloc]; omega))) | refine heap_up ?_)) (by kernel_rfl) (by simp) (by simp [Value.oneCell']) ?_
         generalize hw90 : World.setRow _ _ _ = w90
         have hb90 : Below x1.heap.size x1 w90 := by rw [← hw90]; exact below_setRow ((by repeat' (first | exact Below.refl _ _ | assumption | exact And.left (by assumption) | refine Below.drew ?_ | refine below_drewN ?_ _ | refine Below.setCell ?_ (by first | (simp; done) | (simp; omega) | omega) _ | refine Below.alloc ?_ (by first | (simp; done) | (simp; omega) | omega) _ | refine after (by assumption) (by first | (simp; done) | (simp; omega) | omega) ?_))) (Nat.le_refl _) _
         have hg90 : w90.heap[x1.heap.size]? = some (.cells #[.slice b.na b.nodes.length b.nc, .slice b.pa b.parts.length b.pc, .slice b.qa b.queues.length b.qc, .int .i64 b.users, .int .i64 b.age, .int .i64 b.size, .int .i64 b.qos, .int .i64 b.share, .int .i64 b.decay, .int .i64 b.mode, .int .i64 b.jobs, .int .i64 b.ids, .int .i64 b.versions, .int .i64 b.linger, .int .i64 b.keep, .int .i64 b.inn, .int .i64 b.out, .int .i64 b.cache] 28 (0, 0)) := by rw [← hw90]; exact setRow_heap _ _ _ _ _ _ (by repeat (first | (refine heap_top (by first | omega | (simp only [World.size_alloc]; done) | (simp only [World.size_alloc]; omega))) | refine heap_up ?_))
         have HX90 := Lib.hid (box_row hg90)
         clear hw90 hg90)
      | refine wpList_load_box (s := b) rfl (.tmp 9) rfl rfl HX90.out ?_)
    have HRB1 := Lib.hid (HRB.out.later hb90)
    have hV2 := hV1.trans (hb90.mono hV1.size)
    refine (K1.out _ HRB1.out).mono ?_; rintro e x2 ⟨rfl, hc2⟩
    have HX91 := Lib.hid (HX90.out.later hc2)
    have HRB2 := Lib.hid (HRB1.out.later hc2)
    have hV3 := hV2.trans (hc2.mono hV2.size)
    clear HX90 HRB HRB1 K1
    go_wp2_with (refine wpList_load_box_g (s := b) (.tmp 9) rfl rfl HX91.out rfl ?_)
    refine (K2.out _ HRB2.out).mono ?_; rintro e x3 ⟨rfl, hc3⟩
    go_wp2
    go_ret
    exact ⟨rfl, hV3.trans (hc3.mono hV3.size)⟩
  · have hV1 := hW9.trans (hc1.mono hW9.size)
    go_wp2_with (first
      | (refine wpList_store_row rfl 28 (.tmp 9) (.tmp 61) rfl x1.heap.size _ rfl rfl 28 #[.slice none 0 0, .slice none 0 0, .slice none 0 0, .int .i64 0, .int .i64 0, .int .i64 0, .int .i64 0, .int .i64 0, .int .i64 0, .int .i64 0, .int .i64 0, .int .i64 0, .int .i64 0, .int .i64 0, .int .i64 0, .int .i64 0, .int .i64 0, .int .i64 0] (by repeat (first | (refine heap_top (by first | omega | (simp only [World.size_alloc]; done) | (simp only [World.size_alloc]; omega))) | refine heap_up ?_)) (by kernel_rfl) (by simp) (by simp [Value.oneCell']) ?_
         generalize hw90 : World.setRow _ _ _ = w90
         have hb90 : Below x1.heap.size x1 w90 := by rw [← hw90]; exact below_setRow ((by repeat' (first | exact Below.refl _ _ | assumption | exact And.left (by assumption) | refine Below.drew ?_ | refine below_drewN ?_ _ | refine Below.setCell ?_ (by first | (simp; done) | (simp; omega) | omega) _ | refine Below.alloc ?_ (by first | (simp; done) | (simp; omega) | omega) _ | refine after (by assumption) (by first | (simp; done) | (simp; omega) | omega) ?_))) (Nat.le_refl _) _
         have hg90 : w90.heap[x1.heap.size]? = some (.cells #[.slice none 0 0, .slice none 0 0, .slice none 0 0, .int .i64 0, .int .i64 0, .int .i64 0, .int .i64 0, .int .i64 0, .int .i64 0, .int .i64 0, .int .i64 0, .int .i64 0, .int .i64 0, .int .i64 0, .int .i64 0, .int .i64 0, .int .i64 0, .int .i64 0] 28 (0, 0)) := by rw [← hw90]; exact setRow_heap _ _ _ _ _ _ (by repeat (first | (refine heap_top (by first | omega | (simp only [World.size_alloc]; done) | (simp only [World.size_alloc]; omega))) | refine heap_up ?_))
         have HX90 := Lib.hid (box_row (s := sZero) hg90)
         clear hw90 hg90)
      | refine wpList_load_box_g (s := sZero) (.tmp 9) rfl rfl HX90.out rfl ?_)
    have hV2 := hV1.trans (hb90.mono hV1.size)
    refine (rSameZ _).mono ?_; rintro e x2 ⟨rfl, hc2⟩
    go_wp2
    go_ret
    exact ⟨rfl, hV2.trans (hc2.mono hV2.size)⟩
theorem texts_few (s : S) (hf : ¬ Few s) (l : ByteArray) (w : World) (HR : Rows w s) :
    Calls Tryz.prog 3 #[.agg #[.slice s.na s.nodes.length s.nc, .slice s.pa s.parts.length s.pc, .slice s.qa s.queues.length s.qc, .int .i64 s.users, .int .i64 s.age, .int .i64 s.size, .int .i64 s.qos, .int .i64 s.share, .int .i64 s.decay, .int .i64 s.mode, .int .i64 s.jobs, .int .i64 s.ids, .int .i64 s.versions, .int .i64 s.linger, .int .i64 s.keep, .int .i64 s.inn, .int .i64 s.out, .int .i64 s.cache], .string l] w fun e w' => e = .returned (.bool true) ∧ Below w.heap.size w w' := by
  have H0 := Lib.hid (fun w' h => few s w' h)
  rw [show fewB s = false from decide_eq_false hf] at H0
  have HR := Lib.hid HR
  go_enter Tryz.func3, Tryz.ntmps3
  go_wp2_with fail
  have HX := Lib.hid (Box.new w s 28)
  generalize hw0 : World.alloc w _ = w0 at HX ⊢
  have hb0 : Below w.heap.size w w0 := by rw [← hw0]; exact (by repeat' (first | exact Below.refl _ _ | assumption | exact And.left (by assumption) | refine Below.drew ?_ | refine below_drewN ?_ _ | refine Below.setCell ?_ (by first | (simp; done) | (simp; omega) | omega) _ | refine Below.alloc ?_ (by first | (simp; done) | (simp; omega) | omega) _ | refine after (by assumption) (by first | (simp; done) | (simp; omega) | omega) ?_))
  have HR0 := Lib.hid (HR.out.later hb0)
  clear hw0 HR
  refine (awake7 _).mono ?_; rintro e w1 ⟨rfl, hb1⟩
  have HX1 := Lib.hid (HX.out.later hb1)
  have HR1 := Lib.hid (HR0.out.later hb1)
  have hW1 := hb0.trans (hb1.mono hb0.size)
  go_wp2_with (refine wpList_load_box (s := s) rfl (.tmp 2) rfl rfl HX1.out ?_)
  refine (H0.out _ HR1.out).mono ?_; rintro e w2 ⟨rfl, hb2⟩
  have hW2 := hW1.trans (hb2.mono hW1.size)
  go_wp2
  go_ret
  exact ⟨rfl, hW2⟩
theorem texts_long (s : S) (hf : Few s) (l : List UInt8) (hl : 4000 < l.length) (hl2 : l.length ≤ 140737488355328) (w : World) (HR : Rows w s) :
    Calls Tryz.prog 3 #[.agg #[.slice s.na s.nodes.length s.nc, .slice s.pa s.parts.length s.pc, .slice s.qa s.queues.length s.qc, .int .i64 s.users, .int .i64 s.age, .int .i64 s.size, .int .i64 s.qos, .int .i64 s.share, .int .i64 s.decay, .int .i64 s.mode, .int .i64 s.jobs, .int .i64 s.ids, .int .i64 s.versions, .int .i64 s.linger, .int .i64 s.keep, .int .i64 s.inn, .int .i64 s.out, .int .i64 s.cache], .string (bs l)] w fun e w' => e = .returned (.bool true) ∧ Below w.heap.size w w' := by
  have H0 := Lib.hid (fun w' h => few s w' h)
  rw [show fewB s = true from decide_eq_true hf] at H0
  have HR := Lib.hid HR
  have hz := bs_size l
  have h4 : ((4000 : Int) < ((bs l).size : Int)) := by omega
  clear hz hf
  go_enter Tryz.func3, Tryz.ntmps3
  go_wp2_with fail
  have HX := Lib.hid (Box.new w s 28)
  generalize hw0 : World.alloc w _ = w0 at HX ⊢
  have hb0 : Below w.heap.size w w0 := by rw [← hw0]; exact (by repeat' (first | exact Below.refl _ _ | assumption | exact And.left (by assumption) | refine Below.drew ?_ | refine below_drewN ?_ _ | refine Below.setCell ?_ (by first | (simp; done) | (simp; omega) | omega) _ | refine Below.alloc ?_ (by first | (simp; done) | (simp; omega) | omega) _ | refine after (by assumption) (by first | (simp; done) | (simp; omega) | omega) ?_))
  have HR0 := Lib.hid (HR.out.later hb0)
  clear hw0 HR
  refine (awake7 _).mono ?_; rintro e w1 ⟨rfl, hb1⟩
  have HX1 := Lib.hid (HX.out.later hb1)
  have HR1 := Lib.hid (HR0.out.later hb1)
  have hW1 := hb0.trans (hb1.mono hb0.size)
  go_wp2_with (refine wpList_load_box (s := s) rfl (.tmp 2) rfl rfl HX1.out ?_)
  refine (H0.out _ HR1.out).mono ?_; rintro e w2 ⟨rfl, hb2⟩
  have hW2 := hW1.trans (hb2.mono hW1.size)
  go_wp2
  go_ret
  exact ⟨rfl, hW2⟩
theorem specTexts_walk (v0 v1 : Value) (w : World) (F0 : FSpecC w v0) (F1 : FStrR v1) (hS : Std w) (hE : StdE w) :
    Calls Tryz.prog 3 #[v0, v1] w fun e w' => e = .returned (.bool true) ∧ Below w.heap.size w w' := by
  obtain ⟨s, rfl, HR, hcap⟩ := F0
  obtain ⟨x, rfl, hx⟩ := F1
  obtain ⟨l, rfl⟩ : ∃ l, x = bs l := ⟨x.data.toList, (bs_back x).symm⟩
  rw [bs_size] at hx
  by_cases hf : Few s
  · by_cases hl : l.length ≤ 4000
    · cases hr : rightS s with
      | true => exact texts_yes s hf hr hcap l hl w hS hE HR
      | false => exact texts_no s hf hr hcap l hl w hS hE HR
    · exact texts_long s hf l (by omega) hx w HR
  · exact texts_few s hf _ w HR
end Go.Proofs.YtgopjpnlpcmldaaGreatDoor.W
