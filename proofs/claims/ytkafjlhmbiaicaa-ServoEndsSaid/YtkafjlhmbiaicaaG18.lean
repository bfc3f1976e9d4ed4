/- Texts put together: Sk, Sl, Sm. -/
import Derived.Test.YtkafjlhmbiaicaaG17
import Derived.Lib.QuietBelow
/- Stage 2: the law of what the servo and the reference say. -/
set_option linter.unusedSimpArgs false
set_option linter.unusedVariables false
namespace Go.Proofs.Ytkafjlhmbiaicaa
open Go.RowKit Go.Sort Go.BigFrame

set_option maxRecDepth 100000 in
set_option maxHeartbeats 8000000 in
theorem c10_near (s : Sv) (g : Wg) (x : Int) (w : World) (hz : s.In w) (hg : g.In w) (hnr0 : s.ra = none → s.rc = 0) (hnk : g.wa = none → g.wk = 0) (hf0 : ¬ FarP s g) :
    Calls Try.prog 10 #[s.v, g.v, .int .i64 x] w fun e w' => e = .returned (.bool true) ∧ Below w.heap.size w w' := by
  obtain ⟨i0, ie0, ie1, ie2, ie3⟩ := info_parts Try.info46
  have hle := FarP.le hf0
  have hm1 := hle.1; have hm2 := hle.2
  have hf := hid hf0
  have hnr := hid hnr0
  have hnil : Hid (g.wa = none → g.wn = 0 ∧ g.wk = 0) := hid (fun h => ⟨hg.nil_ h, hnk h⟩)
  have hB0 : Below w.heap.size w (w.alloc (.cells #[.int .i64 s.tr, .int .i64 s.st, .int .i64 s.mv, .int .i64 s.no, .int .i64 s.wr, .slice s.ra s.rn s.rc] 30)) := (Below.refl _ _).alloc (Nat.le_refl _) _
  clear hf0 hnr0 hnk hle
  go_enter Try.func10, Try.ntmps10
  go_wp2_with (first | (go_at_call 34; refine (c34n s g _ (hz.below hB0 (Nat.le_refl _)) hf.out).mono ?_; rintro e w1 ⟨rfl, hB1⟩; have hBx : Below w.heap.size w w1 := hB0.trans (hB1.mono (by simp)); have hz1 : w.heap.size + 1 ≤ w1.heap.size := (by have := hB1.size; simp at this; omega); have sv1 := (Svb.new s w).below hB1 (by simp); obtain ⟨k0, k1, k2, k3, k4, k5⟩ := sv1.all) | (go_at_call 35; refine (c35 s _ (hz.below hBx (Nat.le_refl _)) (by omega) hnr.out).mono ?_; rintro e w2 ⟨x2, c2, he, hIn2, hB2⟩; have he' : e = .returned (.agg #[.int .i64 s.tr, .int .i64 s.st, .int .i64 s.mv, .int .i64 s.no, .int .i64 s.wr, .slice (some ⟨x2, 0, none⟩) s.rn c2]) := he; clear he; subst he'; have hIn2h := hid hIn2; clear hIn2; have hBy : Below w.heap.size w w2 := hBx.trans (hB2.mono hBx.size); have hz2 : w.heap.size + 1 ≤ w2.heap.size := Nat.le_trans hz1 hB2.size; have sv2 := sv1.below hB2 (by omega)) | (at_builtin; refine app_src rfl (.tmp 28) (.tmp 29) 31 rfl w2.heap.size 46 i0 (.agg #[.int .i64 0, .int .i64 0]) 2 16 Try.underlying31 ie0 ie1 ie2 ie3 rfl (by decide) _ _ _ rfl (own_made _ 46 2 _ _ rfl (Nat.le_refl _)) g.wa g.wn g.wk (encW g.wn g.wc g.wu) rfl hnil.out (encW_len _ _ _) (Weds.cells (hg.below (hBy.alloc hBy.size _) (Nat.le_refl _))) (encW_one _ _ _) (by unfold maxLen; omega) (by omega) (by simp) ?_; intro v3 w3 hown3 hgr3 hn3; obtain ⟨x3, c3, rfl⟩ := own_shape hown3 (fun h => by have := hn3 h; cases this); rw [Nat.zero_add, List.nil_append] at hown3; have hB3 : Below w2.heap.size w2 w3 := ((Below.refl w2.heap.size w2).alloc (Nat.le_refl _) _).grown hgr3 (by simp) (fun q e => by cases e; simp); have hG3 := hid (ownG_in hown3); clear hown3 hgr3 hn3; have hBw3 : Below w.heap.size w w3 := hBy.trans (hB3.mono hBy.size); have hz3 : w.heap.size + 1 ≤ w3.heap.size := Nat.le_trans hz2 hB3.size; have sv3 := sv2.below hB3 (by omega); obtain ⟨o0, o1, o2, o3, o4, o5⟩ := sv3.all))
  obtain ⟨W4, hW4⟩ : ∃ W4 : World, W4 = w3.alloc (.cells #[.int .i64 s.tr, .int .i64 s.st, .int .i64 s.mv, .int .i64 s.no, .int .i64 s.wr, .slice (some ⟨x2, 0, none⟩) s.rn c2] 30) := ⟨_, rfl⟩
  rw [← hW4]
  have hsx : Svb (cpS s x2 c2) W4 w3.heap.size := by rw [hW4]; exact Svb.new (cpS s x2 c2) w3
  have hB34 : Below w3.heap.size w3 W4 := by rw [hW4]; exact (Below.refl _ _).alloc (Nat.le_refl _) _
  have hs4 : W4.heap.size = w3.heap.size + 1 := by rw [hW4]; simp
  have hB24 : Below w2.heap.size w2 W4 := hB3.trans (hB34.mono hB3.size)
  have hBw4 : Below w.heap.size w W4 := hBy.trans (hB24.mono hBy.size)
  have sv4 : Svb s W4 w.heap.size := sv3.below hB34 (by omega)
  clear hW4 o0 o1 o2 o3 o4 o5 k0 k1 k2 k3 k4 k5 hB1 hB2
  obtain ⟨q0, q1, q2, q3, q4, q5⟩ := sv4.all
  have y0 := cell_regrown q0; have y1 := cell_regrown q1; have y2 := cell_regrown q2; have y3 := cell_regrown q3; have y4 := cell_regrown q4; have y5 := cell_regrown q5
  obtain ⟨r0, r1, r2, r3, r4, r5⟩ := hsx.all
  have t0 := cell_regrown r0; have t1 := cell_regrown r1; have t2 := cell_regrown r2; have t3 := cell_regrown r3; have t4 := cell_regrown r4; have t5 := cell_regrown r5
  clear q0 q1 q2 q3 q4 q5 r0 r1 r2 r3 r4 r5
  obtain ⟨ck, hck0⟩ : ∃ ck, ck = ckE s g := ⟨_, rfl⟩
  have hck := hid hck0.symm
  have hckx := hid ((ckE_own s g x2 c2 x3 c3).trans hck0.symm)
  clear hck0
  refine wp_region_quiet_below (by kernel_rfl) (by kernel_rfl) ?_; (repeat (go_big_quiet_step ((first | (go_at_call 36; exact Calls.regrown_of (hckx.out ▸ c36 (cpS s x2 c2) (ownG x3 g.wn c3 g.wc g.wu) _ (hIn2h.out.below (hB24.trans (Below.mono (below_regrown _ _ _) hB24.size)) (Nat.le_refl _)) (hG3.out.below (hB34.trans (Below.mono (below_regrown _ _ _) hB34.size)) (Nat.le_refl _)) (by show s.rn ≤ 1000000; omega) (by show g.wn ≤ 1000000; omega))) | (go_at_call 37; exact Calls.regrown_of (hck.out ▸ c37 s g _ (hz.below (hBw4.trans (Below.mono (below_regrown _ _ _) hBw4.size)) (Nat.le_refl _)) (hg.below (hBw4.trans (Below.mono (below_regrown _ _ _) hBw4.size)) (Nat.le_refl _)) (by omega) (by omega))))))); refine wpQuiet_nil ?_; intro _ hw; obtain ⟨q, hwq⟩ := hw; subst hwq
  have hBq := below_regrown W4 q.d q.os
  generalize grow (redrawn W4 q.d) q.os = w5 at hBq ⊢
  clear y0 y1 y2 y3 y4 y5 t0 t1 t2 t3 t4 t5
  have H2 : Below w2.heap.size w2 w5 := hB24.trans (hBq.mono hB24.size)
  have H3 : Below w3.heap.size w3 w5 := hB34.trans (hBq.mono hB34.size)
  have HW : Below w.heap.size w w5 := hBw4.trans (hBq.mono hBw4.size)
  have hq5 : W4.heap.size ≤ w5.heap.size := hBq.size
  have hb1 : w.heap.size < w5.heap.size := by omega
  have hb3 : w3.heap.size < w5.heap.size := by omega
  have sv5 : Svb s w5 w.heap.size := sv4.below hBq (by omega)
  have sx5 : Svb (cpS s x2 c2) w5 w3.heap.size := hsx.below hBq (by omega)
  have H5 : Below w5.heap.size w5 w5 := Below.refl _ _
  clear hBq sv4 hsx hBw4 hB24 hB34
  obtain ⟨E0, hE00⟩ : ∃ E, E = ahE s g True := ⟨_, rfl⟩
  obtain ⟨L0, hL00⟩ : ∃ L, L = ahL s g True 0 := ⟨_, rfl⟩
  obtain ⟨E1, hE10⟩ : ∃ E, E = ahE s g (0 ≤ x ∧ x ≤ 24) := ⟨_, rfl⟩
  obtain ⟨L1, hL10⟩ : ∃ L, L = ahL s g (0 ≤ x ∧ x ≤ 24) x.toNat := ⟨_, rfl⟩
  obtain ⟨F, hF0⟩ : ∃ F, F = fwA s g := ⟨_, rfl⟩
  have hE0 := hid hE00.symm
  have hL0 := hid hL00.symm
  have hE1 := hid hE10.symm
  have hL1 := hid hL10.symm
  have hF := hid hF0.symm
  have hl0 : L0.length ≤ 10000 := by rw [hL00]; exact ahL_len _ _ _ _
  have hl1 : L1.length ≤ 10000 := by rw [hL10]; exact ahL_len _ _ _ _
  clear hE00 hL00 hE10 hL10 hF0
  have ixo := hid (@Weds.ixh w3 (some ⟨x3, 0, none⟩) x3 0 g.wn c3 g.wc g.wu hG3.out)
  have ixw := hid (Weds.ixh (c := g.wk) hg)
  have tokA : True := trivial
  have tokB : True := trivial
  obtain ⟨k0, k1, k2, k3, k4, k5⟩ := sv5.all
  obtain ⟨l0, l1, l2, l3, l4, l5⟩ := sx5.all
  go_wp2_with (first | (go_at_call 18; refine (c18 (cpS s x2 c2) (ownG x3 g.wn c3 g.wc g.wu) _ (hIn2h.out.below (H2.trans (H5.mono H2.size)) (Nat.le_refl _)) (hG3.out.below (H3.trans (H5.mono H3.size)) (Nat.le_refl _)) (show s.rn ≤ 1000000 by omega) (show g.wn ≤ 1000000 by omega)).mono ?_; rw [ahL_own, ahE_own, hL0.out, hE0.out]; rintro e w6 ⟨v6, rfl, hown6, hB6⟩; obtain ⟨va6, vg6, vc6, rfl, hsp6⟩ := SpIn.of_owns hown6; clear hown6; have H6 : Below w5.heap.size w5 w6 := H5.trans (hB6.mono H5.size); obtain ⟨k0, k1, k2, k3, k4, k5⟩ := (sv5.below H6 hb1).all; obtain ⟨l0, l1, l2, l3, l4, l5⟩ := (sx5.below H6 hb3).all) | (go_at_call 38; refine (c38 s g _ (hz.below (HW.trans (H6.mono HW.size)) (Nat.le_refl _)) (hg.below (HW.trans (H6.mono HW.size)) (Nat.le_refl _)) (by omega) (by omega)).mono ?_; rw [hL0.out, hE0.out]; rintro e w7 ⟨v7, rfl, hown7, hB7⟩; obtain ⟨va7, vg7, vc7, rfl, hsp7⟩ := SpIn.of_owns hown7; clear hown7; have H7 : Below w5.heap.size w5 w7 := H6.trans (hB7.mono H6.size); obtain ⟨k0, k1, k2, k3, k4, k5⟩ := (sv5.below H7 hb1).all; obtain ⟨l0, l1, l2, l3, l4, l5⟩ := (sx5.below H7 hb3).all) | (go_at_call 24; refine (c24 (cpS s x2 c2) (ownG x3 g.wn c3 g.wc g.wu) x _ (hIn2h.out.below (H2.trans (H7.mono H2.size)) (Nat.le_refl _)) (hG3.out.below (H3.trans (H7.mono H3.size)) (Nat.le_refl _)) (show s.rn ≤ 1000000 by omega) (show g.wn ≤ 1000000 by omega)).mono ?_; rw [ahL_own, ahE_own, hL1.out, hE1.out]; rintro e w8 ⟨v8, rfl, hown8, hB8⟩; obtain ⟨va8, vg8, vc8, rfl, hsp8⟩ := SpIn.of_owns hown8; clear hown8; have H8 : Below w5.heap.size w5 w8 := H7.trans (hB8.mono H7.size); obtain ⟨k0, k1, k2, k3, k4, k5⟩ := (sv5.below H8 hb1).all; obtain ⟨l0, l1, l2, l3, l4, l5⟩ := (sx5.below H8 hb3).all) | (go_at_call 39; refine (c39 s g x _ (hz.below (HW.trans (H8.mono HW.size)) (Nat.le_refl _)) (hg.below (HW.trans (H8.mono HW.size)) (Nat.le_refl _)) (by omega) (by omega)).mono ?_; rw [hL1.out, hE1.out]; rintro e w9 ⟨v9, rfl, hown9, hB9⟩; obtain ⟨va9, vg9, vc9, rfl, hsp9⟩ := SpIn.of_owns hown9; clear hown9; have H9 : Below w5.heap.size w5 w9 := H8.trans (hB9.mono H8.size); obtain ⟨k0, k1, k2, k3, k4, k5⟩ := (sv5.below H9 hb1).all; obtain ⟨l0, l1, l2, l3, l4, l5⟩ := (sx5.below H9 hb3).all) | (go_at_call 30; have _t := tokA; refine (c30y va6 va7 vg6 vg7 vc6 vc7 L0 _ (hsp6.below (hB7.trans ((hB8.trans (hB9.mono hB8.size)).mono hB7.size)) (Nat.le_refl _)) (hsp7.below (hB8.trans (hB9.mono hB8.size)) (Nat.le_refl _)) hl0).mono ?_; clear tokA; rintro e w10 ⟨rfl, hB10⟩; have H10 : Below w5.heap.size w5 w10 := H9.trans (hB10.mono H9.size); obtain ⟨k0, k1, k2, k3, k4, k5⟩ := (sv5.below H10 hb1).all; obtain ⟨l0, l1, l2, l3, l4, l5⟩ := (sx5.below H10 hb3).all) | (go_at_call 30; have _t := tokB; refine (c30y va8 va9 vg8 vg9 vc8 vc9 L1 _ (hsp8.below (hB9.trans (hB10.mono hB9.size)) (Nat.le_refl _)) (hsp9.below hB10 (Nat.le_refl _)) hl1).mono ?_; clear tokB; rintro e w11 ⟨rfl, hB11⟩; have H11 : Below w5.heap.size w5 w11 := H10.trans (hB11.mono H10.size); obtain ⟨k0, k1, k2, k3, k4, k5⟩ := (sv5.below H11 hb1).all; obtain ⟨l0, l1, l2, l3, l4, l5⟩ := (sx5.below H11 hb3).all) | (go_at_call 20; refine (c20 (cpS s x2 c2) (ownG x3 g.wn c3 g.wc g.wu) _ (hIn2h.out.below (H2.trans (H11.mono H2.size)) (Nat.le_refl _)) (hG3.out.below (H3.trans (H11.mono H3.size)) (Nat.le_refl _)) (show s.rn ≤ 1000000 by omega) (show g.wn ≤ 1000000 by omega)).mono ?_; rw [fwA_own, hckx.out, hF.out]; rintro e w12 ⟨rfl, hB12⟩; have H12 : Below w5.heap.size w5 w12 := H11.trans (hB12.mono H11.size); obtain ⟨k0, k1, k2, k3, k4, k5⟩ := (sv5.below H12 hb1).all; obtain ⟨l0, l1, l2, l3, l4, l5⟩ := (sx5.below H12 hb3).all) | (go_at_call 40; refine (c40 s g _ (hz.below (HW.trans (H12.mono HW.size)) (Nat.le_refl _)) (hg.below (HW.trans (H12.mono HW.size)) (Nat.le_refl _)) (by omega) (by omega)).mono ?_; rw [hck.out, hF.out]; rintro e w13 ⟨rfl, hB13⟩; have H13 : Below w5.heap.size w5 w13 := H12.trans (hB13.mono H12.size); obtain ⟨k0, k1, k2, k3, k4, k5⟩ := (sv5.below H13 hb1).all; obtain ⟨l0, l1, l2, l3, l4, l5⟩ := (sx5.below H13 hb3).all))
  have hs13 : w5.heap.size ≤ w13.heap.size := H13.size
  clear k0 k1 k2 k3 k4 k5 l0 l1 l2 l3 l4 l5 hB6 hB7 hB8 hB9 hB10 hB11 hB12 hB13 H6 H7 H8 H9 H10 H11 H12 hsp6 hsp7 hsp8 hsp9
  go_loopw [21] (fun jv wr => ∃ j : Nat, j ≤ g.wn ∧ jv = .int .i64 j ∧ Below w13.heap.size w13 wr) (fun jv _ => g.wn - (intOf jv).toNat)
  case atStart => exact ⟨0, Nat.zero_le _, rfl, Below.refl _ _⟩
  case round =>
    obtain ⟨j, hj, rfl, hBr⟩ := hrel
    have Hr : Below w5.heap.size w5 wr := H13.trans (hBr.mono H13.size)
    by_cases hlt : j < g.wn
    · have hGr : Weds wr (some ⟨x3, 0, none⟩) x3 0 g.wn g.wc g.wu := hG3.out.below (H3.trans (Hr.mono H3.size)) (Nat.le_refl _)
      have hgr := hg.below (HW.trans (Hr.mono HW.size)) (Nat.le_refl _)
      have a1 := cell_regrown (hGr.c1 j hlt)
      have a2 := cell_regrown (hGr.c2 j hlt)
      have b1 := cell_regrown (hgr.c1 j hlt)
      have b2 := cell_regrown (hgr.c2 j hlt)
      have h4 := ixo.out j hlt
      have h5 := ixw.out j hlt
      clear hGr hgr
      simp only [Nat.zero_add] at a1 a2 h4
      go_wp2_with fail
      refine wp_region_quiet_below (by kernel_rfl) (by kernel_rfl) ?_; (repeat (go_big_quiet_step ((first | fail)))); refine wpQuiet_nil ?_; intro _ hw; obtain ⟨q, hwq⟩ := hw; subst hwq
      have hBq := below_regrown wr q.d q.os
      generalize grow (redrawn wr q.d) q.os = w14 at hBq ⊢
      clear a1 a2 b1 b2
      go_wp2
      go_roundw
      case rel => exact ⟨j + 1, by omega, by go_num, hBr.trans (hBq.mono hBr.size)⟩
      case measure => simp [intOf]; omega
    · obtain rfl : j = g.wn := by omega
      obtain ⟨k0, k1, k2, k3, k4, k5⟩ := (sv5.below Hr hb1).all
      obtain ⟨l0, l1, l2, l3, l4, l5⟩ := (sx5.below Hr hb3).all
      go_wp2_with (first | (go_at_call 41; refine (c41y (some ⟨x2, 0, none⟩) s.ra x2 s.rb 0 s.ro s.rn c2 s.rc s.rf _ (show Ints _ (some ⟨x2, 0, none⟩) x2 0 s.rn s.rf from hIn2h.out.below (H2.trans (Hr.mono H2.size)) (Nat.le_refl _)) (hz.below (HW.trans (Hr.mono HW.size)) (Nat.le_refl _)) (by omega)).mono ?_; rintro e w14 ⟨rfl, hB14⟩; have H14 : Below w5.heap.size w5 w14 := Hr.trans (hB14.mono Hr.size)) | (go_at_call 13; refine (c13 _).mono ?_; rintro e w15 ⟨rfl, hB15⟩))
      go_returns
      have Hf := H14.trans (hB15.mono H14.size)
      exact ⟨rfl, HW.trans (Hf.mono HW.size)⟩

set_option maxRecDepth 100000 in
set_option maxHeartbeats 4000000 in
theorem c10_far (s : Sv) (g : Wg) (x : Int) (w : World) (hz : s.In w) (hf0 : FarP s g) :
    Calls Try.prog 10 #[s.v, g.v, .int .i64 x] w fun e w' => e = .returned (.bool true) ∧ Below w.heap.size w w' := by
  have hf := hid hf0
  have hB0 : Below w.heap.size w (w.alloc (.cells #[.int .i64 s.tr, .int .i64 s.st, .int .i64 s.mv, .int .i64 s.no, .int .i64 s.wr, .slice s.ra s.rn s.rc] 30)) := (Below.refl _ _).alloc (Nat.le_refl _) _
  clear hf0
  go_enter Try.func10, Try.ntmps10
  go_wp2_with (first | (go_at_call 34; refine (c34y s g _ (hz.below hB0 (Nat.le_refl _)) hf.out).mono ?_; rintro e w1 ⟨rfl, hB1⟩; have hBx : Below w.heap.size w w1 := hB0.trans (hB1.mono (by simp))) | (go_at_call 13; refine (c13 _).mono ?_; rintro e w9 ⟨rfl, hB9⟩))
  go_returns
  exact ⟨rfl, hBx.trans (hB9.mono hBx.size)⟩
theorem c10 (s : Sv) (g : Wg) (x : Int) (w : World) (hz : s.In w) (hnr : s.ra = none → s.rc = 0) (hg : g.In w) (hnk : g.wa = none → g.wk = 0) :
    Calls Try.prog 10 #[s.v, g.v, .int .i64 x] w fun e w' => e = .returned (.bool true) ∧ Below w.heap.size w w' := by
  by_cases h : FarP s g
  · exact c10_far s g x w hz h
  · exact c10_near s g x w hz hg hnr hnk h
end Go.Proofs.Ytkafjlhmbiaicaa

/- Stage 2: the reference's Gate: its refusals. -/
set_option linter.unusedSimpArgs false
set_option linter.unusedVariables false
namespace Go.Proofs.Ytkafjlhmbiaicaa
open Go.RowKit Go.Sort Go.BigFrame

theorem c61T {n l h : Int} {T : Bool} (w : World) (hT : decide (l ≤ n ∧ n ≤ h) = T) : Calls Try.prog 61 #[.int .i64 n, .int .i64 l, .int .i64 h] w fun e w' => e = .returned (.bool T) ∧ Below w.heap.size w w' :=
  (c61b n l h w).mono fun _ _ ⟨h1, h2⟩ => ⟨by rw [h1, hT], by subst h2; exact Below.refl _ _⟩
theorem c64_er {s : Sv} {g : Wg} {told : Bool} {er : Int} {w : World} (h : ahE s g (told = true) = er) (hne : er ≠ 0) (hz : s.In w) (hg : g.In w) (hm : s.rn ≤ 1000000) (hm2 : g.wn ≤ 1000000) :
    Calls Try.prog 64 #[s.v, g.v, .bool told] w fun e w' => e = .returned (.tuple #[.slice none 0 0, .int .i64 er]) ∧ Below w.heap.size w w' := by
  subst h; exact c64_err s g told w hz hg hm hm2 hne
set_option maxRecDepth 100000 in
set_option maxHeartbeats 4000000 in
theorem c42_err (s : Sv) (g : Wg) (t li er : Int) (T1 T2 : Bool) (w : World) (hz : s.In w) (hg : g.In w) (hm : s.rn ≤ 1000000) (hm2 : g.wn ≤ 1000000)
    (hT1 : decide (0 ≤ t ∧ t ≤ wrap64 (s.tr - 1)) = T1) (hT2 : decide (0 ≤ li ∧ li ≤ 16) = T2) (he : ahE s g ((T1 && T2) = true) = er) (hne0 : er ≠ 0) :
    Calls Try.prog 42 #[s.v, g.v, .int .i64 t, .int .i64 li] w fun e w' => e = .returned (.tuple #[.int .i64 0, .int .i64 er]) ∧ Below w.heap.size w w' := by
  obtain ⟨W0, hW0⟩ : ∃ W0 : World, W0 = w.alloc (.cells #[.int .i64 s.tr, .int .i64 s.st, .int .i64 s.mv, .int .i64 s.no, .int .i64 s.wr, .slice s.ra s.rn s.rc] 30) := ⟨_, rfl⟩
  have hB0 : Below w.heap.size w W0 := by rw [hW0]; exact (Below.refl _ _).alloc (Nat.le_refl _) _
  have hsv : Svb s W0 w.heap.size := by rw [hW0]; exact Svb.new s w
  have hne : (er == 0) = false := by simpa using hne0
  have hT1h := hid hT1
  have hT2h := hid hT2
  have heh := hid he
  have hneh := hid hne0
  obtain ⟨q0, q1, q2, q3, q4, q5⟩ := hsv.all
  have y0 := cell_regrown q0; have y1 := cell_regrown q1; have y2 := cell_regrown q2; have y3 := cell_regrown q3; have y4 := cell_regrown q4; have y5 := cell_regrown q5
  clear q0 q1 q2 q3 q4 q5 hT1 hT2 he hne0
  cases T1 with
  | true =>
    cases T2 with
    | true =>
      have hei : Hid (ahE s g (true = true) = er) := hid heh.out
      go_enter Try.func42, Try.ntmps42
      go_wp2_with fail
      rw [← hW0]
      clear hW0
      refine wp_region_quiet_below (by kernel_rfl) (by kernel_rfl) ?_; (repeat (go_big_quiet_step ((first | (go_at_call 61; first | exact Calls.regrown_of (c61T _ hT1h.out) | exact Calls.regrown_of (c61T _ hT2h.out)) | (go_at_call 64; exact Calls.regrown_of (c64_er (told := true) (by have := hei.out; simpa using this) hneh.out (hz.below (hB0.trans (Below.mono (below_regrown _ _ _) hB0.size)) (Nat.le_refl _)) (hg.below (hB0.trans (Below.mono (below_regrown _ _ _) hB0.size)) (Nat.le_refl _)) hm hm2)))))); refine wpQuiet_nil ?_; intro _ hw; obtain ⟨q, hwq⟩ := hw; subst hwq
      have hBq := below_regrown W0 q.d q.os
      generalize grow (redrawn W0 q.d) q.os = w5 at hBq ⊢
      clear y0 y1 y2 y3 y4 y5
      go_wp2
      go_ret2
      exact ⟨rfl, hB0.trans (hBq.mono hB0.size)⟩
    | false =>
      have hei : Hid (ahE s g (false = true) = er) := hid heh.out
      go_enter Try.func42, Try.ntmps42
      go_wp2_with fail
      rw [← hW0]
      clear hW0
      refine wp_region_quiet_below (by kernel_rfl) (by kernel_rfl) ?_; (repeat (go_big_quiet_step ((first | (go_at_call 61; first | exact Calls.regrown_of (c61T _ hT1h.out) | exact Calls.regrown_of (c61T _ hT2h.out)) | (go_at_call 64; exact Calls.regrown_of (c64_er (told := false) hei.out hneh.out (hz.below (hB0.trans (Below.mono (below_regrown _ _ _) hB0.size)) (Nat.le_refl _)) (hg.below (hB0.trans (Below.mono (below_regrown _ _ _) hB0.size)) (Nat.le_refl _)) hm hm2)))))); refine wpQuiet_nil ?_; intro _ hw; obtain ⟨q, hwq⟩ := hw; subst hwq
      have hBq := below_regrown W0 q.d q.os
      generalize grow (redrawn W0 q.d) q.os = w5 at hBq ⊢
      clear y0 y1 y2 y3 y4 y5
      go_wp2
      go_ret2
      exact ⟨rfl, hB0.trans (hBq.mono hB0.size)⟩
  | false =>
    have hei : Hid (ahE s g (false = true) = er) := hid (by have := heh.out; simpa using this)
    go_enter Try.func42, Try.ntmps42
    go_wp2_with fail
    rw [← hW0]
    clear hW0
    refine wp_region_quiet_below (by kernel_rfl) (by kernel_rfl) ?_; (repeat (go_big_quiet_step ((first | (go_at_call 61; exact Calls.regrown_of (c61T _ hT1h.out)) | (go_at_call 64; exact Calls.regrown_of (c64_er (told := false) hei.out hneh.out (hz.below (hB0.trans (Below.mono (below_regrown _ _ _) hB0.size)) (Nat.le_refl _)) (hg.below (hB0.trans (Below.mono (below_regrown _ _ _) hB0.size)) (Nat.le_refl _)) hm hm2)))))); refine wpQuiet_nil ?_; intro _ hw; obtain ⟨q, hwq⟩ := hw; subst hwq
    have hBq := below_regrown W0 q.d q.os
    generalize grow (redrawn W0 q.d) q.os = w5 at hBq ⊢
    clear y0 y1 y2 y3 y4 y5
    go_wp2
    go_ret2
    exact ⟨rfl, hB0.trans (hBq.mono hB0.size)⟩
end Go.Proofs.Ytkafjlhmbiaicaa

/- Stage 2: the reference's Gate. -/
set_option linter.unusedSimpArgs false
set_option linter.unusedVariables false
namespace Go.Proofs.Ytkafjlhmbiaicaa
open Go.RowKit Go.Sort Go.BigFrame

theorem c61E {n l h : Int} {T : Bool} (w : World) (hT : decide (l ≤ n ∧ n ≤ h) = T) : Calls Try.prog 61 #[.int .i64 n, .int .i64 l, .int .i64 h] w fun e w' => e = .returned (.bool T) ∧ w = w' :=
  (c61b n l h w).mono fun _ _ ⟨h1, h2⟩ => ⟨by rw [h1, hT], h2⟩
theorem ltN_iff {s : Sv} {g : Wg} (okg : g.Ok) (d : Nat) : ∀ p, p < s.N → (ltN s.N s.m (endsB s g) d p = true ↔ mvn s.N s.m (fl s g) d p ≤ s.wr) :=
  fun p hp => ltN_mvn (N := s.N) (m := s.m) (f := fl s g) (c := s.wr) (p := endsB s g) (fun y hy => by unfold endsB; rw [rfq_fl okg hy]; simp) d p hp
set_option maxRecDepth 100000 in
set_option maxHeartbeats 8000000 in
theorem c42_ok (s : Sv) (g : Wg) (t li : Int) (w : World) (hz : s.In w) (hg : g.In w) (hm : s.rn ≤ 1000000) (hm2 : g.wn ≤ 1000000) (ok : s.Ok) (okg : g.Ok) (ht : 0 ≤ t ∧ t ≤ s.tr - 1) (hl : 0 ≤ li ∧ li ≤ 16) (hmn : mn s.N (fl s g) ≤ s.wr) :
    Calls Try.prog 42 #[s.v, g.v, .int .i64 t, .int .i64 li] w fun e w' => e = .returned (.tuple #[.int .i64 (gate s g t li : Nat), .int .i64 0]) ∧ Below w.heap.size w w' := by
  obtain ⟨W0, hW0⟩ : ∃ W0 : World, W0 = w.alloc (.cells #[.int .i64 s.tr, .int .i64 s.st, .int .i64 s.mv, .int .i64 s.no, .int .i64 s.wr, .slice s.ra s.rn s.rc] 30) := ⟨_, rfl⟩
  have hB0 : Below w.heap.size w W0 := by rw [hW0]; exact (Below.refl _ _).alloc (Nat.le_refl _) _
  have hsv : Svb s W0 w.heap.size := by rw [hW0]; exact Svb.new s w
  have hs0 : W0.heap.size = w.heap.size + 1 := by rw [hW0]; simp
  have okh := hid ok
  have okgh := hid okg
  have hmnh := hid hmn
  have hN2 := ok.Nb.2.1
  have hn2 := okg.n2
  have t1 := ok.t1; have t2 := ok.t2
  have e20 : IntKind.i64.wrap (s.tr - 1) = s.tr - 1 := IntWalk.i64_in _ (by omega)
  obtain ⟨gt, hgt⟩ : ∃ gt, gt = gate s g t li := ⟨_, rfl⟩
  rw [← hgt]
  have hgth := hid hgt
  have tok1 : True := trivial
  have tok2 : True := trivial
  clear ok okg hmn hgt
  go_enter Try.func42, Try.ntmps42
  go_wp2_with fail
  rw [← hW0]
  clear hW0
  go_region_held3 (fun w' => w'.cell? ⟨w.heap.size, 0, none⟩ = some (.int .i64 s.tr) ∧ w'.cell? ⟨w.heap.size, 1, none⟩ = some (.int .i64 s.st) ∧ w'.cell? ⟨w.heap.size, 2, none⟩ = some (.int .i64 s.mv) ∧ w'.cell? ⟨w.heap.size, 3, none⟩ = some (.int .i64 s.no) ∧ w'.cell? ⟨w.heap.size, 4, none⟩ = some (.int .i64 s.wr) ∧ w'.cell? ⟨w.heap.size, 5, none⟩ = some (.slice s.ra s.rn s.rc)) (first | exact hsv.all | exact hk4.all) (first | (go_at_call 61; have _t := tok1; refine (c61E (T := true) _ (decide_eq_true (by omega))).mono ?_; clear tok1; rintro e w3 ⟨rfl, rfl⟩) | (go_at_call 61; have _t := tok2; refine (c61E (T := true) _ (decide_eq_true (by omega))).mono ?_; clear tok2; rintro e w3 ⟨rfl, rfl⟩) | (go_at_call 64; refine (c64_ok s g _ (hz.below (by first | exact hB0 | exact hB0.drew | (repeat' (first | (with_reducible exact Below.refl _ _) | (with_reducible assumption) | (with_reducible refine Below.alloc ?_ ?_ _) | (with_reducible refine Below.drew ?_) | (with_reducible refine below_drewN ?_ _) | (with_reducible refine Below.setCell ?_ ?_ _) | (with_reducible refine Below.trans ?_ (Below.mono (by with_reducible assumption) ?_)) | go_size))) (Nat.le_refl _)) (hg.below (by first | exact hB0 | exact hB0.drew | (repeat' (first | (with_reducible exact Below.refl _ _) | (with_reducible assumption) | (with_reducible refine Below.alloc ?_ ?_ _) | (with_reducible refine Below.drew ?_) | (with_reducible refine below_drewN ?_ _) | (with_reducible refine Below.setCell ?_ ?_ _) | (with_reducible refine Below.trans ?_ (Below.mono (by with_reducible assumption) ?_)) | go_size))) (Nat.le_refl _)) hm hm2 okh.out okgh.out hmnh.out).mono ?_; rintro e w4 ⟨b, c, rfl, hb, hBl, hB4⟩; have hBlh := hid hBl; clear hBl; have hk4 : Svb s w4 w.heap.size := Svb.below (w := W0.drew) hsv hB4 (show w.heap.size < W0.heap.size by omega)))
  have hB5 : Below w.heap.size w w4 := hB0.trans (Below.mono (Below.trans (Below.refl W0.heap.size W0).drew hB4) (by omega))
  have hw4 : w.heap.size < w4.heap.size := by have : W0.heap.size ≤ w4.heap.size := hB4.size; omega
  clear hB4 hsv
  go_wp2_with fail
  go_loopw [10, 12, 13] (fun kv iv _ wr => ∃ k : Nat, k ≤ 24 ∧ iv = .int .i64 k ∧ (∃ b c : Nat, kv = .slice (some ⟨b, 0, none⟩) s.N c ∧ Hid (Bls wr b s.N (ltN s.N s.m (endsB s g) k))) ∧ Svb s wr w.heap.size ∧ w.heap.size < wr.heap.size ∧ Below w.heap.size w wr ∧ Hid (gtF s g t li (24 - k) k = gt)) (fun _ iv _ _ => 24 - (intOf iv).toNat)
  case atStart => exact ⟨0, Nat.zero_le _, rfl, ⟨b, c, rfl, hBlh⟩, hk4, hw4, hB5, hid hgth.out.symm⟩
  case round =>
    obtain ⟨k, hk, rfl, ⟨b', c', rfl, hbl⟩, hsw, hwr, hB, hgk⟩ := hrel
    rename World => wo
    by_cases hlt : k < 24
    · have hkd : decide ((k : Int) < 24) = true := by rw [decide_eq_true_eq]; omega
      have hat := okh.out.atb ht.1 (by omega) (g.wn + k - 1)
      obtain ⟨AT, hAT0⟩ : ∃ AT, AT = s.at_ t (g.wn + k - 1) := ⟨_, rfl⟩
      have hAT := hid hAT0.symm
      rw [← hAT0] at hat
      obtain ⟨B, hB'⟩ : ∃ B, B = ltN s.N s.m (endsB s g) k := ⟨_, rfl⟩
      have hBe := hid hB'
      have hBm : Hid (∀ p, p < s.N → (B p = true ↔ mvn s.N s.m (fl s g) k p ≤ s.wr)) := hid (by rw [hB']; exact ltN_iff okgh.out k)
      have hbl' : Hid (Bls wo b' s.N B) := hid (by rw [hB']; exact hbl.out)
      clear hbl hAT0 hB'
      have e55 : IntKind.i64.wrap ((g.wn : Int) - 1) = (g.wn : Int) - 1 := IntWalk.i64_in _ (by omega)
      have e56 : IntKind.i64.wrap ((g.wn : Int) - 1 + (k : Int)) = (g.wn : Int) - 1 + (k : Int) := IntWalk.i64_in _ (by omega)
      go_wp2_with fail
      go_loopw [13] (fun pv wr => ∃ p : Nat, p ≤ s.N ∧ pv = .int .i64 p ∧ Below wo.heap.size wo wr ∧ Hid (∀ q : Nat, q < p → B q = true → absI ((q : Int) - AT) ≤ li)) (fun pv _ => s.N - (intOf pv).toNat)
      case atStart => exact ⟨0, Nat.zero_le _, rfl, Below.refl _ _, hid (fun q hq => absurd hq (Nat.not_lt_zero _))⟩
      case round =>
        obtain ⟨p, hp, rfl, hB2, hall⟩ := hrel
        have hBw2 : Below w.heap.size w wr := hB.trans (hB2.mono hB.size)
        by_cases hpl : p < s.N
        · have hRw := hbl'.out.below hB2 hbl'.out.lt
          have x1 := hRw.ce p hpl
          have x3 := hRw.lt
          have x4 := @ixB b' s.N c' p hpl
          obtain ⟨k0, k1, k2, k3, k4, k5⟩ := (hsw.below hB2 hwr).all
          clear hRw
          have e57 : IntKind.i64.wrap ((p : Int) - AT) = (p : Int) - AT := IntWalk.i64_in _ (by omega)
          cases hBp : B p with
          | true =>
            rw [hBp] at x1
            have hBph := hid hBp
            clear hBp
            by_cases hnear : absI ((p : Int) - AT) ≤ li
            · have hnh := hid hnear
              have hnd : decide (li < absI ((p : Int) - AT)) = false := by simpa using hnear
              clear hnear
              go_wp2_with (first | (go_at_call 26; refine (c26 s t _ (g.wn + k - 1) _ (by omega) (hz.below (hB.trans (hB2.mono hB.size)) (Nat.le_refl _)) okh.out ht.1 (by omega) (by omega)).mono ?_; rw [hAT.out]; rintro e w6 ⟨rfl, hB6⟩) | (go_at_call 55; refine (c55 _ _ (by omega)).mono ?_; rintro e w7 ⟨rfl, rfl⟩))
              go_roundw
              case rel =>
                refine ⟨p + 1, by omega, by go_num, hB2.trans (hB6.mono hB2.size), hid (fun q hq hb => ?_)⟩
                by_cases e : q = p
                · subst e; exact hnh.out
                · exact hall.out q (by omega) hb
              case measure => simp [intOf]; omega
            · have hnh := hid hnear
              have hnd : li < absI ((p : Int) - AT) := by omega
              have hst := hid (gtF_no (t := t) (li := li) hlt (fun h => hnear (absI_le.2 (by have h1 := h p hpl ((hBm.out p hpl).1 hBph.out); rw [hAT.out] at h1; exact h1))))
              clear hnear
              go_wp2_with (first | (go_at_call 26; refine (c26 s t _ (g.wn + k - 1) _ (by omega) (hz.below (hB.trans (hB2.mono hB.size)) (Nat.le_refl _)) okh.out ht.1 (by omega) (by omega)).mono ?_; rw [hAT.out]; rintro e w6 ⟨rfl, hB6⟩) | (go_at_call 55; refine (c55 _ _ (by omega)).mono ?_; rintro e w7 ⟨rfl, rfl⟩))
              go_ret2
              have e := hgk.out
              rw [hst.out] at e
              subst e
              exact ⟨rfl, hBw2.trans (hB6.mono hBw2.size)⟩
          | false =>
            rw [hBp] at x1
            have hBph := hid hBp
            clear hBp
            go_wp2_with fail
            go_roundw
            case rel =>
              refine ⟨p + 1, by omega, by go_num, hB2, hid (fun q hq hb => ?_)⟩
              by_cases e : q = p
              · subst e; rw [hBph.out] at hb; cases hb
              · exact hall.out q (by omega) hb
            case measure => simp [intOf]; omega
        · obtain rfl : p = s.N := by omega
          have hst := hid (gtF_yes (t := t) (li := li) hlt (fun q hq hm' => by have h1 := absI_le.1 (hall.out q hq ((hBm.out q hq).2 hm')); rw [hAT.out]; exact h1))
          have hRw := hid (hbl'.out.below hB2 hbl'.out.lt)
          have hsw2 := hsw.below hB2 hwr
          obtain ⟨k0, k1, k2, k3, k4, k5⟩ := hsw2.all
          have hwr2 : w.heap.size < wr.heap.size := Nat.lt_of_lt_of_le hwr hB2.size
          go_wp2_with (go_at_call 66; refine (c66 s b' c' _ _ okh.out hRw.out).mono ?_; rintro e w6 ⟨b6, c6, rfl, hb6, hBl6, hB6⟩; have hbl6 := hid hBl6; clear hBl6)
          go_roundw
          case rel => exact ⟨k + 1, by omega, by go_num, ⟨b6, c6, rfl, hid (by have h1 := hbl6.out; rw [hBe.out] at h1; exact h1)⟩, hsw2.below hB6 hwr2, Nat.lt_of_lt_of_le hwr2 hB6.size, hBw2.trans (hB6.mono hBw2.size), hid (by rw [← hst.out]; exact hgk.out)⟩
          case measure => simp [intOf]; omega
    · obtain rfl : k = 24 := by omega
      go_wp2_with fail
      go_ret2
      have e := hgk.out
      exact ⟨by rw [← e]; rfl, hB⟩
theorem c42 (s : Sv) (g : Wg) (t li : Int) (w : World) (hz : s.In w) (hg : g.In w) (hm : s.rn ≤ 1000000) (hm2 : g.wn ≤ 1000000) :
    Calls Try.prog 42 #[s.v, g.v, .int .i64 t, .int .i64 li] w fun e w' => e = .returned (.tuple #[.int .i64 (gtA s g t li), .int .i64 (ahE s g ((0 ≤ t ∧ t ≤ s.tr - 1) ∧ (0 ≤ li ∧ li ≤ 16)))]) ∧ Below w.heap.size w w' := by
  unfold gtA
  by_cases h : ahE s g ((0 ≤ t ∧ t ≤ s.tr - 1) ∧ (0 ≤ li ∧ li ≤ 16)) = 0
  · obtain ⟨ok, okg, h2, h3⟩ := ahE_inv h
    rw [if_pos h, h]
    exact c42_ok s g t li w hz hg hm hm2 ok okg h2.1 h2.2 h3
  · rw [if_neg h]
    by_cases hc : ckE s g = 0
    · obtain ⟨ok, _⟩ := ckE_inv hc
      have b1 := ok.t1; have b2 := ok.t2
      have e20 : wrap64 (s.tr - 1) = s.tr - 1 := by unfold wrap64; omega
      refine c42_err s g t li _ _ _ w hz hg hm hm2 rfl rfl ?_ h
      rw [e20]
      simp
    · rw [ahE_ck hc]
      exact c42_err s g t li _ _ _ w hz hg hm hm2 rfl rfl (ahE_ck hc) hc
end Go.Proofs.Ytkafjlhmbiaicaa
