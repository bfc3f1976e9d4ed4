/- Stage 2: the law of what the servo and the reference say. -/
import Derived.Test.YtfpfnjdnfiihhaaSj
import Derived.Lib.QuietBelow
set_option linter.unusedSimpArgs false
set_option linter.unusedVariables false
namespace Go.Proofs.Ytfpfnjdnfiihhaa
open Go.RowKit Go.Sort Go.BigFrame

set_option maxRecDepth 100000 in
set_option maxHeartbeats 8000000 in
theorem c10_near (s : Sv) (g : Wg) (x : Int) (w : World) (hz : s.In w) (hg : g.In w) (hnr0 : s.ra = none → s.rc = 0) (hnk : g.wa = none → g.wk = 0) (hf0 : ¬ FarP s g) :
    Calls Try.prog 10 #[s.v, g.v, .int .i64 x] w fun e w' => e = .returned (.bool true) ∧ Below w.heap.size w w' := by
  obtain ⟨i0, ie0, ie1, ie2, ie3⟩ := info_parts Try.info46
  have hle := FarP.le hf0
  have hm1 := hle.1; have hm2 := hle.2
  have hf := hid hf0
  have hnr := hid hnr0
  have hnil : Hid (g.wa = none → g.wn = 0 ∧ g.wk = 0) := hid (fun h => ⟨hg.nil_ h, hnk h⟩)
  have hB0 : Below w.heap.size w (w.alloc (.cells #[.int .i64 s.tr, .int .i64 s.st, .int .i64 s.mv, .int .i64 s.no, .int .i64 s.wr, .slice s.ra s.rn s.rc] 30)) := (Below.refl _ _).alloc (Nat.le_refl _) _
  clear hf0 hnr0 hnk hle
  go_enter Try.func10, Try.ntmps10
  go_wp2_with (first | (go_at_call 34; refine (c34n s g _ (hz.below hB0 (Nat.le_refl _)) hf.out).mono ?_; rintro e w1 ⟨rfl, hB1⟩; have hBx : Below w.heap.size w w1 := hB0.trans (hB1.mono (by simp)); have hz1 : w.heap.size + 1 ≤ w1.heap.size := (by have := hB1.size; simp at this; omega); have sv1 := (Svb.new s w).below hB1 (by simp); obtain ⟨k0, k1, k2, k3, k4, k5⟩ := sv1.all) | (go_at_call 35; refine (c35 s _ (hz.below hBx (Nat.le_refl _)) (by omega) hnr.out).mono ?_; rintro e w2 ⟨x2, c2, he, hIn2, hB2⟩; have he' : e = .returned (.agg #[.int .i64 s.tr, .int .i64 s.st, .int .i64 s.mv, .int .i64 s.no, .int .i64 s.wr, .slice (some ⟨x2, 0, none⟩) s.rn c2]) := he; clear he; subst he'; have hIn2h := hid hIn2; clear hIn2; have hBy : Below w.heap.size w w2 := hBx.trans (hB2.mono hBx.size); have hz2 : w.heap.size + 1 ≤ w2.heap.size := Nat.le_trans hz1 hB2.size; have sv2 := sv1.below hB2 (by omega)) | (at_builtin; refine app_src rfl (.tmp 28) (.tmp 29) 31 rfl w2.heap.size 46 i0 (.agg #[.int .i64 0, .int .i64 0]) 2 16 Try.underlying31 ie0 ie1 ie2 ie3 rfl (by decide) _ _ _ rfl (own_made _ 46 2 _ _ rfl (Nat.le_refl _)) g.wa g.wn g.wk (encW g.wn g.wc g.wu) rfl hnil.out (encW_len _ _ _) (Weds.cells (hg.below (hBy.alloc hBy.size _) (Nat.le_refl _))) (encW_one _ _ _) (by unfold maxLen; omega) (by omega) (by simp) ?_; intro v3 w3 hown3 hgr3 hn3; obtain ⟨x3, c3, rfl⟩ := own_shape hown3 (fun h => by have := hn3 h; cases this); rw [Nat.zero_add, List.nil_append] at hown3; have hB3 : Below w2.heap.size w2 w3 := ((Below.refl w2.heap.size w2).alloc (Nat.le_refl _) _).grown hgr3 (by simp) (fun q e => by cases e; simp); have hG3 := hid (ownG_in hown3); clear hown3 hgr3 hn3; have hBw3 : Below w.heap.size w w3 := hBy.trans (hB3.mono hBy.size); have hz3 : w.heap.size + 1 ≤ w3.heap.size := Nat.le_trans hz2 hB3.size; have sv3 := sv2.below hB3 (by omega); obtain ⟨o0, o1, o2, o3, o4, o5⟩ := sv3.all))
  obtain ⟨W4, hW4⟩ : ∃ W4 : World, W4 = w3.alloc (.cells #[.int .i64 s.tr, .int .i64 s.st, .int .i64 s.mv, .int .i64 s.no, .int .i64 s.wr, .slice (some ⟨x2, 0, none⟩) s.rn c2] 30) := ⟨_, rfl⟩
  rw [← hW4]
  have hsx : Svb (cpS s x2 c2) W4 w3.heap.size := by rw [hW4]; exact Svb.new (cpS s x2 c2) w3
  have hB34 : Below w3.heap.size w3 W4 := by rw [hW4]; exact (Below.refl _ _).alloc (Nat.le_refl _) _
  have hs4 : W4.heap.size = w3.heap.size + 1 := by rw [hW4]; simp
  have hB24 : Below w2.heap.size w2 W4 := hB3.trans (hB34.mono hB3.size)
  have hBw4 : Below w.heap.size w W4 := hBy.trans (hB24.mono hBy.size)
  have sv4 : Svb s W4 w.heap.size := sv3.below hB34 (by omega)
  clear hW4 o0 o1 o2 o3 o4 o5 k0 k1 k2 k3 k4 k5 hB1 hB2
  obtain ⟨q0, q1, q2, q3, q4, q5⟩ := sv4.all
  have y0 := cell_regrown q0; have y1 := cell_regrown q1; have y2 := cell_regrown q2; have y3 := cell_regrown q3; have y4 := cell_regrown q4; have y5 := cell_regrown q5
  obtain ⟨r0, r1, r2, r3, r4, r5⟩ := hsx.all
  have t0 := cell_regrown r0; have t1 := cell_regrown r1; have t2 := cell_regrown r2; have t3 := cell_regrown r3; have t4 := cell_regrown r4; have t5 := cell_regrown r5
  clear q0 q1 q2 q3 q4 q5 r0 r1 r2 r3 r4 r5
  obtain ⟨ck, hck0⟩ : ∃ ck, ck = ckE s g := ⟨_, rfl⟩
  have hck := hid hck0.symm
  have hckx := hid ((ckE_own s g x2 c2 x3 c3).trans hck0.symm)
  clear hck0
  refine wp_region_quiet_below (by kernel_rfl) (by kernel_rfl) ?_; (repeat (go_big_quiet_step ((first | (go_at_call 36; exact Calls.regrown_of (hckx.out ▸ c36 (cpS s x2 c2) (ownG x3 g.wn c3 g.wc g.wu) _ (hIn2h.out.below (hB24.trans (Below.mono (below_regrown _ _ _) hB24.size)) (Nat.le_refl _)) (hG3.out.below (hB34.trans (Below.mono (below_regrown _ _ _) hB34.size)) (Nat.le_refl _)) (by show s.rn ≤ 1000000; omega) (by show g.wn ≤ 1000000; omega))) | (go_at_call 37; exact Calls.regrown_of (hck.out ▸ c37 s g _ (hz.below (hBw4.trans (Below.mono (below_regrown _ _ _) hBw4.size)) (Nat.le_refl _)) (hg.below (hBw4.trans (Below.mono (below_regrown _ _ _) hBw4.size)) (Nat.le_refl _)) (by omega) (by omega))))))); refine wpQuiet_nil ?_; intro _ hw; obtain ⟨q, hwq⟩ := hw; subst hwq
  have hBq := below_regrown W4 q.d q.os
  generalize grow (redrawn W4 q.d) q.os = w5 at hBq ⊢
  clear y0 y1 y2 y3 y4 y5 t0 t1 t2 t3 t4 t5
  have H2 : Below w2.heap.size w2 w5 := hB24.trans (hBq.mono hB24.size)
  have H3 : Below w3.heap.size w3 w5 := hB34.trans (hBq.mono hB34.size)
  have HW : Below w.heap.size w w5 := hBw4.trans (hBq.mono hBw4.size)
  have hq5 : W4.heap.size ≤ w5.heap.size := hBq.size
  have hb1 : w.heap.size < w5.heap.size := by omega
  have hb3 : w3.heap.size < w5.heap.size := by omega
  have sv5 : Svb s w5 w.heap.size := sv4.below hBq (by omega)
  have sx5 : Svb (cpS s x2 c2) w5 w3.heap.size := hsx.below hBq (by omega)
  have H5 : Below w5.heap.size w5 w5 := Below.refl _ _
  clear hBq sv4 hsx hBw4 hB24 hB34
  obtain ⟨E0, hE00⟩ : ∃ E, E = ahE s g True := ⟨_, rfl⟩
  obtain ⟨L0, hL00⟩ : ∃ L, L = ahL s g True 0 := ⟨_, rfl⟩
  obtain ⟨E1, hE10⟩ : ∃ E, E = ahE s g (0 ≤ x ∧ x ≤ 24) := ⟨_, rfl⟩
  obtain ⟨L1, hL10⟩ : ∃ L, L = ahL s g (0 ≤ x ∧ x ≤ 24) x.toNat := ⟨_, rfl⟩
  obtain ⟨F, hF0⟩ : ∃ F, F = fwA s g := ⟨_, rfl⟩
  have hE0 := hid hE00.symm
  have hL0 := hid hL00.symm
  have hE1 := hid hE10.symm
  have hL1 := hid hL10.symm
  have hF := hid hF0.symm
  have hl0 : L0.length ≤ 10000 := by rw [hL00]; exact ahL_len _ _ _ _
  have hl1 : L1.length ≤ 10000 := by rw [hL10]; exact ahL_len _ _ _ _
  clear hE00 hL00 hE10 hL10 hF0
  have ixo := hid (@Weds.ixh w3 (some ⟨x3, 0, none⟩) x3 0 g.wn c3 g.wc g.wu hG3.out)
  have ixw := hid (Weds.ixh (c := g.wk) hg)
  have tokA : True := trivial
  have tokB : True := trivial
  obtain ⟨k0, k1, k2, k3, k4, k5⟩ := sv5.all
  obtain ⟨l0, l1, l2, l3, l4, l5⟩ := sx5.all
  go_wp2_with (first | (go_at_call 18; refine (c18 (cpS s x2 c2) (ownG x3 g.wn c3 g.wc g.wu) _ (hIn2h.out.below (H2.trans (H5.mono H2.size)) (Nat.le_refl _)) (hG3.out.below (H3.trans (H5.mono H3.size)) (Nat.le_refl _)) (show s.rn ≤ 1000000 by omega) (show g.wn ≤ 1000000 by omega)).mono ?_; rw [ahL_own, ahE_own, hL0.out, hE0.out]; rintro e w6 ⟨v6, rfl, hown6, hB6⟩; obtain ⟨va6, vg6, vc6, rfl, hsp6⟩ := SpIn.of_owns hown6; clear hown6; have H6 : Below w5.heap.size w5 w6 := H5.trans (hB6.mono H5.size); obtain ⟨k0, k1, k2, k3, k4, k5⟩ := (sv5.below H6 hb1).all; obtain ⟨l0, l1, l2, l3, l4, l5⟩ := (sx5.below H6 hb3).all) | (go_at_call 38; refine (c38 s g _ (hz.below (HW.trans (H6.mono HW.size)) (Nat.le_refl _)) (hg.below (HW.trans (H6.mono HW.size)) (Nat.le_refl _)) (by omega) (by omega)).mono ?_; rw [hL0.out, hE0.out]; rintro e w7 ⟨v7, rfl, hown7, hB7⟩; obtain ⟨va7, vg7, vc7, rfl, hsp7⟩ := SpIn.of_owns hown7; clear hown7; have H7 : Below w5.heap.size w5 w7 := H6.trans (hB7.mono H6.size); obtain ⟨k0, k1, k2, k3, k4, k5⟩ := (sv5.below H7 hb1).all; obtain ⟨l0, l1, l2, l3, l4, l5⟩ := (sx5.below H7 hb3).all) | (go_at_call 24; refine (c24 (cpS s x2 c2) (ownG x3 g.wn c3 g.wc g.wu) x _ (hIn2h.out.below (H2.trans (H7.mono H2.size)) (Nat.le_refl _)) (hG3.out.below (H3.trans (H7.mono H3.size)) (Nat.le_refl _)) (show s.rn ≤ 1000000 by omega) (show g.wn ≤ 1000000 by omega)).mono ?_; rw [ahL_own, ahE_own, hL1.out, hE1.out]; rintro e w8 ⟨v8, rfl, hown8, hB8⟩; obtain ⟨va8, vg8, vc8, rfl, hsp8⟩ := SpIn.of_owns hown8; clear hown8; have H8 : Below w5.heap.size w5 w8 := H7.trans (hB8.mono H7.size); obtain ⟨k0, k1, k2, k3, k4, k5⟩ := (sv5.below H8 hb1).all; obtain ⟨l0, l1, l2, l3, l4, l5⟩ := (sx5.below H8 hb3).all) | (go_at_call 39; refine (c39 s g x _ (hz.below (HW.trans (H8.mono HW.size)) (Nat.le_refl _)) (hg.below (HW.trans (H8.mono HW.size)) (Nat.le_refl _)) (by omega) (by omega)).mono ?_; rw [hL1.out, hE1.out]; rintro e w9 ⟨v9, rfl, hown9, hB9⟩; obtain ⟨va9, vg9, vc9, rfl, hsp9⟩ := SpIn.of_owns hown9; clear hown9; have H9 : Below w5.heap.size w5 w9 := H8.trans (hB9.mono H8.size); obtain ⟨k0, k1, k2, k3, k4, k5⟩ := (sv5.below H9 hb1).all; obtain ⟨l0, l1, l2, l3, l4, l5⟩ := (sx5.below H9 hb3).all) | (go_at_call 30; have _t := tokA; refine (c30y va6 va7 vg6 vg7 vc6 vc7 L0 _ (hsp6.below (hB7.trans ((hB8.trans (hB9.mono hB8.size)).mono hB7.size)) (Nat.le_refl _)) (hsp7.below (hB8.trans (hB9.mono hB8.size)) (Nat.le_refl _)) hl0).mono ?_; clear tokA; rintro e w10 ⟨rfl, hB10⟩; have H10 : Below w5.heap.size w5 w10 := H9.trans (hB10.mono H9.size); obtain ⟨k0, k1, k2, k3, k4, k5⟩ := (sv5.below H10 hb1).all; obtain ⟨l0, l1, l2, l3, l4, l5⟩ := (sx5.below H10 hb3).all) | (go_at_call 30; have _t := tokB; refine (c30y va8 va9 vg8 vg9 vc8 vc9 L1 _ (hsp8.below (hB9.trans (hB10.mono hB9.size)) (Nat.le_refl _)) (hsp9.below hB10 (Nat.le_refl _)) hl1).mono ?_; clear tokB; rintro e w11 ⟨rfl, hB11⟩; have H11 : Below w5.heap.size w5 w11 := H10.trans (hB11.mono H10.size); obtain ⟨k0, k1, k2, k3, k4, k5⟩ := (sv5.below H11 hb1).all; obtain ⟨l0, l1, l2, l3, l4, l5⟩ := (sx5.below H11 hb3).all) | (go_at_call 20; refine (c20 (cpS s x2 c2) (ownG x3 g.wn c3 g.wc g.wu) _ (hIn2h.out.below (H2.trans (H11.mono H2.size)) (Nat.le_refl _)) (hG3.out.below (H3.trans (H11.mono H3.size)) (Nat.le_refl _)) (show s.rn ≤ 1000000 by omega) (show g.wn ≤ 1000000 by omega)).mono ?_; rw [fwA_own, hckx.out, hF.out]; rintro e w12 ⟨rfl, hB12⟩; have H12 : Below w5.heap.size w5 w12 := H11.trans (hB12.mono H11.size); obtain ⟨k0, k1, k2, k3, k4, k5⟩ := (sv5.below H12 hb1).all; obtain ⟨l0, l1, l2, l3, l4, l5⟩ := (sx5.below H12 hb3).all) | (go_at_call 40; refine (c40 s g _ (hz.below (HW.trans (H12.mono HW.size)) (Nat.le_refl _)) (hg.below (HW.trans (H12.mono HW.size)) (Nat.le_refl _)) (by omega) (by omega)).mono ?_; rw [hck.out, hF.out]; rintro e w13 ⟨rfl, hB13⟩; have H13 : Below w5.heap.size w5 w13 := H12.trans (hB13.mono H12.size); obtain ⟨k0, k1, k2, k3, k4, k5⟩ := (sv5.below H13 hb1).all; obtain ⟨l0, l1, l2, l3, l4, l5⟩ := (sx5.below H13 hb3).all))
  have hs13 : w5.heap.size ≤ w13.heap.size := H13.size
  clear k0 k1 k2 k3 k4 k5 l0 l1 l2 l3 l4 l5 hB6 hB7 hB8 hB9 hB10 hB11 hB12 hB13 H6 H7 H8 H9 H10 H11 H12 hsp6 hsp7 hsp8 hsp9
  go_loopw [21] (fun jv wr => ∃ j : Nat, j ≤ g.wn ∧ jv = .int .i64 j ∧ Below w13.heap.size w13 wr) (fun jv _ => g.wn - (intOf jv).toNat)
  case atStart => exact ⟨0, Nat.zero_le _, rfl, Below.refl _ _⟩
  case round =>
    obtain ⟨j, hj, rfl, hBr⟩ := hrel
    have Hr : Below w5.heap.size w5 wr := H13.trans (hBr.mono H13.size)
    by_cases hlt : j < g.wn
    · have hGr : Weds wr (some ⟨x3, 0, none⟩) x3 0 g.wn g.wc g.wu := hG3.out.below (H3.trans (Hr.mono H3.size)) (Nat.le_refl _)
      have hgr := hg.below (HW.trans (Hr.mono HW.size)) (Nat.le_refl _)
      have a1 := cell_regrown (hGr.c1 j hlt)
      have a2 := cell_regrown (hGr.c2 j hlt)
      have b1 := cell_regrown (hgr.c1 j hlt)
      have b2 := cell_regrown (hgr.c2 j hlt)
      have h4 := ixo.out j hlt
      have h5 := ixw.out j hlt
      clear hGr hgr
      simp only [Nat.zero_add] at a1 a2 h4
      go_wp2_with fail
      refine wp_region_quiet_below (by kernel_rfl) (by kernel_rfl) ?_; (repeat (go_big_quiet_step ((first | fail)))); refine wpQuiet_nil ?_; intro _ hw; obtain ⟨q, hwq⟩ := hw; subst hwq
      have hBq := below_regrown wr q.d q.os
      generalize grow (redrawn wr q.d) q.os = w14 at hBq ⊢
      clear a1 a2 b1 b2
      go_wp2
      go_roundw
      case rel => exact ⟨j + 1, by omega, by go_num, hBr.trans (hBq.mono hBr.size)⟩
      case measure => simp [intOf]; omega
    · obtain rfl : j = g.wn := by omega
      obtain ⟨k0, k1, k2, k3, k4, k5⟩ := (sv5.below Hr hb1).all
      obtain ⟨l0, l1, l2, l3, l4, l5⟩ := (sx5.below Hr hb3).all
      go_wp2_with (first | (go_at_call 41; refine (c41y (some ⟨x2, 0, none⟩) s.ra x2 s.rb 0 s.ro s.rn c2 s.rc s.rf _ (show Ints _ (some ⟨x2, 0, none⟩) x2 0 s.rn s.rf from hIn2h.out.below (H2.trans (Hr.mono H2.size)) (Nat.le_refl _)) (hz.below (HW.trans (Hr.mono HW.size)) (Nat.le_refl _)) (by omega)).mono ?_; rintro e w14 ⟨rfl, hB14⟩; have H14 : Below w5.heap.size w5 w14 := Hr.trans (hB14.mono Hr.size)) | (go_at_call 13; refine (c13 _).mono ?_; rintro e w15 ⟨rfl, hB15⟩))
      go_returns
      have Hf := H14.trans (hB15.mono H14.size)
      exact ⟨rfl, HW.trans (Hf.mono HW.size)⟩

set_option maxRecDepth 100000 in
set_option maxHeartbeats 4000000 in
theorem c10_far (s : Sv) (g : Wg) (x : Int) (w : World) (hz : s.In w) (hf0 : FarP s g) :
    Calls Try.prog 10 #[s.v, g.v, .int .i64 x] w fun e w' => e = .returned (.bool true) ∧ Below w.heap.size w w' := by
  have hf := hid hf0
  have hB0 : Below w.heap.size w (w.alloc (.cells #[.int .i64 s.tr, .int .i64 s.st, .int .i64 s.mv, .int .i64 s.no, .int .i64 s.wr, .slice s.ra s.rn s.rc] 30)) := (Below.refl _ _).alloc (Nat.le_refl _) _
  clear hf0
  go_enter Try.func10, Try.ntmps10
  go_wp2_with (first | (go_at_call 34; refine (c34y s g _ (hz.below hB0 (Nat.le_refl _)) hf.out).mono ?_; rintro e w1 ⟨rfl, hB1⟩; have hBx : Below w.heap.size w w1 := hB0.trans (hB1.mono (by simp))) | (go_at_call 13; refine (c13 _).mono ?_; rintro e w9 ⟨rfl, hB9⟩))
  go_returns
  exact ⟨rfl, hBx.trans (hB9.mono hBx.size)⟩
theorem c10 (s : Sv) (g : Wg) (x : Int) (w : World) (hz : s.In w) (hnr : s.ra = none → s.rc = 0) (hg : g.In w) (hnk : g.wa = none → g.wk = 0) :
    Calls Try.prog 10 #[s.v, g.v, .int .i64 x] w fun e w' => e = .returned (.bool true) ∧ Below w.heap.size w w' := by
  by_cases h : FarP s g
  · exact c10_far s g x w hz h
  · exact c10_near s g x w hz hg hnr hnk h
end Go.Proofs.Ytfpfnjdnfiihhaa
