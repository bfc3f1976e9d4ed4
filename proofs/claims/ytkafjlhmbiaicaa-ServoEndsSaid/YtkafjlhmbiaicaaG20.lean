/- Texts put together: Rh, Te. -/
import Derived.Test.YtkafjlhmbiaicaaG13
import Derived.Test.YtkafjlhmbiaicaaG19
import Derived.Test.YtkafjlhmbiaicaaG18
/- Stage 2: walks, possible paths that go on. -/
set_option linter.unusedSimpArgs false
set_option linter.unusedVariables false
namespace Go.Proofs.Ytkafjlhmbiaicaa
open Go.RowKit Go.Sort Go.BigFrame

/-- Where a walk stands before its i-th further step. -/
def wk (f : Nat → Int) (n : Nat) (h : Nat → Int) (i : Nat) : Int := if i = 0 then f (n - 1) else h (i - 1)
def stP (s : Sv) (f : Nat → Int) (n : Nat) (h : Nat → Int) (i : Nat) : Prop := (0 ≤ h i ∧ h i ≤ (s.N : Int) - 1) ∧ h i - wk f n h i ≤ s.mv ∧ wk f n h i - h i ≤ s.mv
structure PosP (s : Sv) (g : Wg) (f : Nat → Int) (n : Nat) (h : Nat → Int) (m : Nat) : Prop where
  n40 : n ≤ 40
  m12 : m ≤ 12
  pth : PathP s f n ∧ n = g.wn
  mis : cst (agr s g) (pos f) n ≤ s.wr
  n0 : 0 < n
  on : ∀ i, i < m → stP s f n h i
/-- The walk's box. -/
def Wkb (w : World) (b : Nat) (v1 v2 : Value) : Prop := w.cell? ⟨b, 0, none⟩ = some v1 ∧ w.cell? ⟨b, 1, none⟩ = some v2
theorem Wkb.below {w w' : World} {b B : Nat} {v1 v2 : Value} (h : Wkb w b v1 v2) (hb : Below B w w') (hB : b < B) : Wkb w' b v1 v2 :=
  ⟨(hb.cell (p := ⟨b, 0, none⟩) hB).trans h.1, (hb.cell (p := ⟨b, 1, none⟩) hB).trans h.2⟩

set_option maxRecDepth 100000 in
set_option maxHeartbeats 8000000 in
theorem c17 (s : Sv) (g : Wg) (A : Option Addr) (b o n c : Nat) (f : Nat → Int) (A' : Option Addr) (b' o' m c' : Nat) (h : Nat → Int) (w : World) (hz : s.In w) (hg : g.In w) (hv : ValP s g) (hp : Ints w A b o n f) (hq : Ints w A' b' o' m h) :
    Calls Try.prog 17 #[s.v, g.v, .agg #[.slice A n c, .slice A' m c']] w (RetBB (PosP s g f n h m) w) := by
  obtain ⟨ok, okg, hn8, hr40⟩ := hv.ok
  have hN := ok.Nb
  have hN1 := hN.1; have hN2 := hN.2.1
  have m0 := ok.m0; have m1 := ok.m1; have w0 := ok.w0; have w1' := ok.w1
  have okh := hid ok
  have okgh := hid okg
  have ixp := hid (Ints.ixh (c := c) hp)
  have ixq := hid (Ints.ixh (c := c') hq)
  obtain ⟨W0, hW0⟩ : ∃ W0 : World, W0 = (w.alloc (.cells #[.int .i64 s.tr, .int .i64 s.st, .int .i64 s.mv, .int .i64 s.no, .int .i64 s.wr, .slice s.ra s.rn s.rc] 30)).alloc (.cells #[.slice A n c, .slice A' m c'] 33) := ⟨_, rfl⟩
  have hB0 : Below w.heap.size w W0 := by rw [hW0]; (repeat' (first | (with_reducible exact Below.refl _ _) | (with_reducible assumption) | (with_reducible refine Below.alloc ?_ ?_ _) | (with_reducible refine Below.drew ?_) | (with_reducible refine below_drewN ?_ _) | (with_reducible refine Below.setCell ?_ ?_ _) | (with_reducible refine Below.trans ?_ (Below.mono (by with_reducible assumption) ?_)) | go_size))
  have hs0 : W0.heap.size = w.heap.size + 2 := by rw [hW0]; simp
  have hsv : Svb s W0 w.heap.size := by rw [hW0]; exact (Svb.new s w).below (B := w.heap.size + 1) (by (repeat' (first | (with_reducible exact Below.refl _ _) | (with_reducible assumption) | (with_reducible refine Below.alloc ?_ ?_ _) | (with_reducible refine Below.drew ?_) | (with_reducible refine below_drewN ?_ _) | (with_reducible refine Below.setCell ?_ ?_ _) | (with_reducible refine Below.trans ?_ (Below.mono (by with_reducible assumption) ?_)) | go_size))) (by omega)
  have hwk : Wkb W0 (w.heap.size + 1) (.slice A n c) (.slice A' m c') := by rw [hW0]; constructor <;> simp
  obtain ⟨q0, q1, q2, q3, q4, q5⟩ := hsv.all
  have y0 := cell_regrown q0; have y1 := cell_regrown q1; have y2 := cell_regrown q2; have y3 := cell_regrown q3; have y4 := cell_regrown q4; have y5 := cell_regrown q5
  have u0 : ∀ dd os, (grow (redrawn W0 dd) os).cell? ⟨w.heap.size + 1, 0, none⟩ = some (.slice A n c) := fun dd os => cell_regrown hwk.1 dd os
  have u1 : ∀ dd os, (grow (redrawn W0 dd) os).cell? ⟨w.heap.size + 1, 1, none⟩ = some (.slice A' m c') := fun dd os => cell_regrown hwk.2 dd os
  clear hv ok okg hN q0 q1 q2 q3 q4 q5
  by_cases hn40 : n ≤ 40
  · have d1 : decide ((40 : Int) < (n : Int)) = false := by simp; omega
    by_cases hm12 : m ≤ 12
    · have d2 : decide ((12 : Int) < (m : Int)) = false := by simp; omega
      by_cases hpt : PathP s f n ∧ n = g.wn
      · have hpth := hid hpt
        have hcn := cst_nn (ag := agr s g) (p := pos f) n
        obtain ⟨C, hC⟩ : ∃ C, C = cst (agr s g) (pos f) n := ⟨_, rfl⟩
        have hCh := hid hC
        rw [← hC] at hcn
        have hnw := hpt.2
        have hnw' : n ≤ g.wn := by omega
        clear hC hpt hnw
        by_cases hmis : C ≤ s.wr
        · have d3 : decide (s.wr < C) = false := by simpa using hmis
          by_cases hn0 : n = 0
          · have hbad : Hid (¬ PosP s g f n h m) := fun hh => by have := hh.n0; omega
            have d4 : ((n : Int) == 0) = true := by rw [hn0]; rfl
            clear hn0
            go_enter Try.func17, Try.ntmps17
            go_wp2_with fail
            rw [← hW0]
            clear hW0
            refine wp_region_quiet_below (by kernel_rfl) (by kernel_rfl) ?_; (repeat (go_big_quiet_step ((first | (go_at_call 29; exact Calls.regrown_of (c29y okh.out ((hp.below hB0 (Nat.le_refl _)).below (below_regrown _ _ _) (Nat.le_refl _)) (by omega) hpth.out)) | (go_at_call 22; refine Calls.regrown_of (v := .int .i64 C) ?_; rw [hCh.out]; exact c22 s g A b o n c f _ ((hz.below hB0 (Nat.le_refl _)).below (below_regrown _ _ _) (Nat.le_refl _)) ((hg.below hB0 (Nat.le_refl _)).below (below_regrown _ _ _) (Nat.le_refl _)) okh.out okgh.out ((hp.below hB0 (Nat.le_refl _)).below (below_regrown _ _ _) (Nat.le_refl _)) hnw' (fun k hk => (hpth.out.1 k hk).1)))))); refine wpQuiet_nil ?_; intro _ hw; obtain ⟨q, hwq⟩ := hw; subst hwq
            have hBq := below_regrown W0 q.d q.os
            generalize grow (redrawn W0 q.d) q.os = w5 at hBq ⊢
            go_wp2
            go_returns
            exact RetBB.no hbad.out (hB0.trans (hBq.mono (by omega)))
          · have hn1 : 0 < n := by omega
            have d4 : ((n : Int) == 0) = false := by simp; omega
            have hf1 := (hpth.out.1 (n - 1) (by omega)).1
            have hf2 := hf1.1
            have hf3 := hf1.2
            clear hn0 hf1
            go_enter Try.func17, Try.ntmps17
            go_wp2_with fail
            rw [← hW0]
            clear hW0
            refine wp_region_quiet_below (by kernel_rfl) (by kernel_rfl) ?_; (repeat (go_big_quiet_step ((first | (go_at_call 29; exact Calls.regrown_of (c29y okh.out ((hp.below hB0 (Nat.le_refl _)).below (below_regrown _ _ _) (Nat.le_refl _)) (by omega) hpth.out)) | (go_at_call 22; refine Calls.regrown_of (v := .int .i64 C) ?_; rw [hCh.out]; exact c22 s g A b o n c f _ ((hz.below hB0 (Nat.le_refl _)).below (below_regrown _ _ _) (Nat.le_refl _)) ((hg.below hB0 (Nat.le_refl _)).below (below_regrown _ _ _) (Nat.le_refl _)) okh.out okgh.out ((hp.below hB0 (Nat.le_refl _)).below (below_regrown _ _ _) (Nat.le_refl _)) hnw' (fun k hk => (hpth.out.1 k hk).1)))))); refine wpQuiet_nil ?_; intro _ hw; obtain ⟨q, hwq⟩ := hw; subst hwq
            have hBq := below_regrown W0 q.d q.os
            generalize grow (redrawn W0 q.d) q.os = w5 at hBq ⊢
            obtain ⟨_, z1, z2, _, _, _⟩ := (hsv.below hBq (by omega)).all
            have hwk5 := hwk.below hBq (by omega)
            have hwa := hwk5.1
            have hwb := hwk5.2
            have hB5 : Below w.heap.size w w5 := hB0.trans (hBq.mono (by omega))
            have hs5 : w.heap.size + 2 ≤ w5.heap.size := by have := hBq.size; omega
            have hx1 := (hp.below hB5 (Nat.le_refl _)).ce (n - 1) (by omega)
            have hx2 := ixp.out (n - 1) (by omega)
            rw [show ((n - 1 : Nat) : Int) = (n : Int) - 1 by omega] at hx2
            go_wp2_with fail
            clear hx1 hx2 u0 u1 y0 y1 y2 y3 y4 y5 z1 z2
            have hwe : Hid (wk f n h 0 = f (n - 1)) := hid (if_pos rfl)
            go_loopw [7, 8] (fun av iv wr => ∃ k : Nat, k ≤ m ∧ iv = .int .i64 k ∧ av = .int .i64 (wk f n h k) ∧ (0 ≤ wk f n h k ∧ wk f n h k ≤ (s.N : Int) - 1) ∧ Hid (∀ j, j < k → stP s f n h j) ∧ Below w5.heap.size w5 wr) (fun _ iv _ => m - (intOf iv).toNat)
            case atStart => exact ⟨0, Nat.zero_le _, rfl, by rw [hwe.out], by rw [hwe.out]; exact ⟨hf2, hf3⟩, fun j hj => absurd hj (Nat.not_lt_zero _), Below.refl _ _⟩
            case round =>
              obtain ⟨k, hk, rfl, rfl, ⟨ha1, ha2⟩, hall, hB⟩ := hrel
              have hBw : Below w.heap.size w wr := hB5.trans (hB.mono (by omega))
              have hwr := hwk5.below hB (by omega)
              have hwra := hwr.1
              have hwrb := hwr.2
              by_cases hkm : k < m
              · have x1 := (hq.below hBw (Nat.le_refl _)).ce k hkm
                have x1r := cell_regrown x1
                have x3 := ixq.out k hkm
                have v0 : ∀ dd os, (grow (redrawn wr dd) os).cell? ⟨w.heap.size + 1, 1, none⟩ = some (.slice A' m c') := fun dd os => cell_regrown hwrb dd os
                obtain ⟨q0, q1, q2, q3, q4, q5⟩ := ((hsv.below hBq (by omega)).below hB (by omega)).all
                have y0 := cell_regrown q0; have y1 := cell_regrown q1; have y2 := cell_regrown q2; have y3 := cell_regrown q3; have y4 := cell_regrown q4; have y5 := cell_regrown q5
                obtain ⟨a, hae⟩ : ∃ a, a = wk f n h k := ⟨_, rfl⟩
                have haeh := hid hae
                have hst : Hid (wk f n h (k + 1) = h k) := hid (by unfold wk; rw [if_neg (by omega)]; rfl)
                rw [← hae] at ha1 ha2 ⊢
                clear hae q0 q1 q2 q3 q4 q5 hwra x1
                by_cases s1 : h k < 0
                · have d5 : decide (h k < 0) = true := by simpa using s1
                  have hbad : Hid (¬ PosP s g f n h m) := fun hh => by have := (hh.on k hkm).1.1; omega
                  go_wp2_with fail
                  refine wp_region_quiet_below (by kernel_rfl) (by kernel_rfl) ?_; (repeat (go_big_quiet_step ((first | fail)))); refine wpQuiet_nil ?_; intro _ hw; obtain ⟨q, hwq⟩ := hw; subst hwq
                  have hBr := below_regrown wr q.d q.os
                  generalize grow (redrawn wr q.d) q.os = w6 at hBr ⊢
                  go_wp2
                  go_returns
                  exact RetBB.no hbad.out (hBw.trans (hBr.mono hBw.size))
                · have d5 : decide (h k < 0) = false := by simpa using s1
                  have s1' : 0 ≤ h k := by omega
                  clear s1
                  by_cases s2 : (s.N : Int) - 1 < h k
                  · have d6 : decide ((s.N : Int) - 1 < h k) = true := by simpa using s2
                    have hbad : Hid (¬ PosP s g f n h m) := fun hh => by have := (hh.on k hkm).1.2; omega
                    go_wp2_with fail
                    refine wp_region_quiet_below (by kernel_rfl) (by kernel_rfl) ?_; (repeat (go_big_quiet_step ((first | (go_at_call 27; exact Calls.regrown_of (c27 s _ okh.out)))))); refine wpQuiet_nil ?_; intro _ hw; obtain ⟨q, hwq⟩ := hw; subst hwq
                    have hBr := below_regrown wr q.d q.os
                    generalize grow (redrawn wr q.d) q.os = w6 at hBr ⊢
                    go_wp2
                    go_returns
                    exact RetBB.no hbad.out (hBw.trans (hBr.mono hBw.size))
                  · have d6 : decide ((s.N : Int) - 1 < h k) = false := by simpa using s2
                    have s2' : h k ≤ (s.N : Int) - 1 := by omega
                    clear s2
                    have e1 : IntKind.i64.wrap (h k - a) = h k - a := IntWalk.i64_in _ (by omega)
                    have e2 : IntKind.i64.wrap (a - h k) = a - h k := IntWalk.i64_in _ (by omega)
                    by_cases s3 : s.mv < h k - a
                    · have d7 : decide (s.mv < h k - a) = true := by simpa using s3
                      have hbad : Hid (¬ PosP s g f n h m) := fun hh => by have h9 := (hh.on k hkm).2.1; rw [← haeh.out] at h9; omega
                      go_wp2_with fail
                      refine wp_region_quiet_below (by kernel_rfl) (by kernel_rfl) ?_; (repeat (go_big_quiet_step ((first | (go_at_call 27; exact Calls.regrown_of (c27 s _ okh.out)))))); refine wpQuiet_nil ?_; intro _ hw; obtain ⟨q, hwq⟩ := hw; subst hwq
                      have hBr := below_regrown wr q.d q.os
                      generalize grow (redrawn wr q.d) q.os = w6 at hBr ⊢
                      go_wp2
                      go_returns
                      exact RetBB.no hbad.out (hBw.trans (hBr.mono hBw.size))
                    · have d7 : decide (s.mv < h k - a) = false := by simpa using s3
                      have s3' : h k - a ≤ s.mv := by omega
                      clear s3
                      by_cases s4 : s.mv < a - h k
                      · have d8 : decide (s.mv < a - h k) = true := by simpa using s4
                        have hbad : Hid (¬ PosP s g f n h m) := fun hh => by have h9 := (hh.on k hkm).2.2; rw [← haeh.out] at h9; omega
                        go_wp2_with fail
                        refine wp_region_quiet_below (by kernel_rfl) (by kernel_rfl) ?_; (repeat (go_big_quiet_step ((first | (go_at_call 27; exact Calls.regrown_of (c27 s _ okh.out)))))); refine wpQuiet_nil ?_; intro _ hw; obtain ⟨q, hwq⟩ := hw; subst hwq
                        have hBr := below_regrown wr q.d q.os
                        generalize grow (redrawn wr q.d) q.os = w6 at hBr ⊢
                        go_wp2
                        go_returns
                        exact RetBB.no hbad.out (hBw.trans (hBr.mono hBw.size))
                      · have d8 : decide (s.mv < a - h k) = false := by simpa using s4
                        have s4' : a - h k ≤ s.mv := by omega
                        clear s4
                        go_wp2_with fail
                        refine wp_region_quiet_below (by kernel_rfl) (by kernel_rfl) ?_; (repeat (go_big_quiet_step ((first | (go_at_call 27; exact Calls.regrown_of (c27 s _ okh.out)))))); refine wpQuiet_nil ?_; intro _ hw; obtain ⟨q, hwq⟩ := hw; subst hwq
                        have hBr := below_regrown wr q.d q.os
                        have v1 := v0 q.d q.os
                        have x2 := x1r q.d q.os
                        generalize grow (redrawn wr q.d) q.os = w6 at hBr v1 x2 ⊢
                        clear y0 y1 y2 y3 y4 y5 v0 x1r e1 e2 d5 d6 d7 d8
                        go_wp2
                        go_roundw
                        case rel =>
                          refine ⟨k + 1, by omega, by go_num, by rw [hst.out], by rw [hst.out]; exact ⟨s1', s2'⟩, fun j hj => ?_, hB.trans (hBr.mono hB.size)⟩
                          by_cases e : j = k
                          · subst e; exact ⟨⟨s1', s2'⟩, by rw [← haeh.out]; exact s3', by rw [← haeh.out]; exact s4'⟩
                          · exact hall.out j (by omega)
                        case measure => simp [intOf]; omega
              · obtain rfl : k = m := by omega
                go_wp2_with fail
                go_returns
                exact RetBB.yes (p := PosP s g f n h k) ⟨hn40, hm12, hpth.out, by rw [← hCh.out]; exact hmis, hn1, fun j hj => hall.out j hj⟩ hBw
        · have hmis' : s.wr < C := by omega
          have hbad : Hid (¬ PosP s g f n h m) := fun hh => by have h1 := hh.mis; rw [← hCh.out] at h1; omega
          clear hmis
          go_enter Try.func17, Try.ntmps17
          go_wp2_with fail
          rw [← hW0]
          clear hW0
          refine wp_region_quiet_below (by kernel_rfl) (by kernel_rfl) ?_; (repeat (go_big_quiet_step ((first | (go_at_call 29; exact Calls.regrown_of (c29y okh.out ((hp.below hB0 (Nat.le_refl _)).below (below_regrown _ _ _) (Nat.le_refl _)) (by omega) hpth.out)) | (go_at_call 22; refine Calls.regrown_of (v := .int .i64 C) ?_; rw [hCh.out]; exact c22 s g A b o n c f _ ((hz.below hB0 (Nat.le_refl _)).below (below_regrown _ _ _) (Nat.le_refl _)) ((hg.below hB0 (Nat.le_refl _)).below (below_regrown _ _ _) (Nat.le_refl _)) okh.out okgh.out ((hp.below hB0 (Nat.le_refl _)).below (below_regrown _ _ _) (Nat.le_refl _)) hnw' (fun k hk => (hpth.out.1 k hk).1)))))); refine wpQuiet_nil ?_; intro _ hw; obtain ⟨q, hwq⟩ := hw; subst hwq
          have hBq := below_regrown W0 q.d q.os
          generalize grow (redrawn W0 q.d) q.os = w5 at hBq ⊢
          go_wp2
          go_returns
          exact RetBB.no hbad.out (hB0.trans (hBq.mono (by omega)))
      · have hpth := hid hpt
        have hbad : Hid (¬ PosP s g f n h m) := fun hh => hpth.out hh.pth
        clear hpt
        go_enter Try.func17, Try.ntmps17
        go_wp2_with fail
        rw [← hW0]
        clear hW0
        refine wp_region_quiet_below (by kernel_rfl) (by kernel_rfl) ?_; (repeat (go_big_quiet_step ((first | (go_at_call 29; exact Calls.regrown_of (c29n okh.out ((hp.below hB0 (Nat.le_refl _)).below (below_regrown _ _ _) (Nat.le_refl _)) (by omega) hpth.out)))))); refine wpQuiet_nil ?_; intro _ hw; obtain ⟨q, hwq⟩ := hw; subst hwq
        have hBq := below_regrown W0 q.d q.os
        generalize grow (redrawn W0 q.d) q.os = w5 at hBq ⊢
        go_wp2
        go_returns
        exact RetBB.no hbad.out (hB0.trans (hBq.mono (by omega)))
    · have hm12' : 12 < m := by omega
      have d2 : decide ((12 : Int) < (m : Int)) = true := by simp; omega
      have hbad : Hid (¬ PosP s g f n h m) := fun hh => hm12 hh.m12
      clear hm12
      go_enter Try.func17, Try.ntmps17
      go_wp2_with fail
      rw [← hW0]
      clear hW0
      refine wp_region_quiet_below (by kernel_rfl) (by kernel_rfl) ?_; (repeat (go_big_quiet_step ((first | fail)))); refine wpQuiet_nil ?_; intro _ hw; obtain ⟨q, hwq⟩ := hw; subst hwq
      have hBq := below_regrown W0 q.d q.os
      generalize grow (redrawn W0 q.d) q.os = w5 at hBq ⊢
      go_wp2
      go_returns
      exact RetBB.no hbad.out (hB0.trans (hBq.mono (by omega)))
  · have hn40' : 40 < n := by omega
    have d1 : decide ((40 : Int) < (n : Int)) = true := by simp; omega
    have hbad : Hid (¬ PosP s g f n h m) := fun hh => hn40 hh.n40
    clear hn40
    go_enter Try.func17, Try.ntmps17
    go_wp2_with fail
    rw [← hW0]
    clear hW0
    refine wp_region_quiet_below (by kernel_rfl) (by kernel_rfl) ?_; (repeat (go_big_quiet_step ((first | fail)))); refine wpQuiet_nil ?_; intro _ hw; obtain ⟨q, hwq⟩ := hw; subst hwq
    have hBq := below_regrown W0 q.d q.os
    generalize grow (redrawn W0 q.d) q.os = w5 at hBq ⊢
    go_wp2
    go_returns
    exact RetBB.no hbad.out (hB0.trans (hBq.mono (by omega)))
end Go.Proofs.Ytkafjlhmbiaicaa

/- Stage 2: the wedges to blame, whatever comes in; lists of numbers in memory. -/
set_option linter.unusedSimpArgs false
set_option linter.unusedVariables false
namespace Go.Proofs.Ytkafjlhmbiaicaa
open Go.RowKit Go.Sort Go.BigFrame

set_option maxRecDepth 100000 in
set_option maxHeartbeats 2000000 in
theorem c19_ck (s : Sv) (g : Wg) (w : World) (hz : s.In w) (hg : g.In w) (hm : s.rn ≤ 1000000) (hm2 : g.wn ≤ 1000000) (h : ckE s g ≠ 0) :
    Calls Try.prog 19 #[s.v, g.v] w (NRet2 [] (ckE s g) w) := by
  have hh := hid h
  have hne : ((ckE s g) == 0) = false := by simpa using h
  obtain ⟨er, her⟩ : ∃ er, er = ckE s g := ⟨_, rfl⟩
  have herh := hid her
  rw [← her] at hne ⊢
  clear h her
  go_enter Try.func19, Try.ntmps19
  go_wp2
  go_step3
  go_wp2_with (go_at_call 47; refine (c47_err s g _ (hz.below (by (repeat' (first | (with_reducible exact Below.refl _ _) | (with_reducible assumption) | (with_reducible refine Below.alloc ?_ ?_ _) | (with_reducible refine Below.drew ?_) | (with_reducible refine below_drewN ?_ _) | (with_reducible refine Below.setCell ?_ ?_ _) | (with_reducible refine Below.trans ?_ (Below.mono (by with_reducible assumption) ?_)) | go_size))) (Nat.le_refl _)) (hg.below (by (repeat' (first | (with_reducible exact Below.refl _ _) | (with_reducible assumption) | (with_reducible refine Below.alloc ?_ ?_ _) | (with_reducible refine Below.drew ?_) | (with_reducible refine below_drewN ?_ _) | (with_reducible refine Below.setCell ?_ ?_ _) | (with_reducible refine Below.trans ?_ (Below.mono (by with_reducible assumption) ?_)) | go_size))) (Nat.le_refl _)) hm hm2 hh.out).mono ?_; rw [← herh.out]; rintro e w1 ⟨rfl, hB1⟩; have hz1 : w.heap.size + 1 ≤ w1.heap.size := (by have := hB1.size; simp at this; omega); have hBx : Below w.heap.size w w1 := Below.trans (by (repeat' (first | (with_reducible exact Below.refl _ _) | (with_reducible assumption) | (with_reducible refine Below.alloc ?_ ?_ _) | (with_reducible refine Below.drew ?_) | (with_reducible refine below_drewN ?_ _) | (with_reducible refine Below.setCell ?_ ?_ _) | (with_reducible refine Below.trans ?_ (Below.mono (by with_reducible assumption) ?_)) | go_size))) (hB1.mono (by simp)))
  try rw [Exit.noGoto_ret]
  go_ret2
  exact NRet2.err (by (repeat' (first | (with_reducible exact Below.refl _ _) | (with_reducible assumption) | (with_reducible refine Below.alloc ?_ ?_ _) | (with_reducible refine Below.drew ?_) | (with_reducible refine below_drewN ?_ _) | (with_reducible refine Below.setCell ?_ ?_ _) | (with_reducible refine Below.trans ?_ (Below.mono (by with_reducible assumption) ?_)) | go_size)))
set_option maxRecDepth 100000 in
set_option maxHeartbeats 2000000 in
theorem c19_none (s : Sv) (g : Wg) (w : World) (hz : s.In w) (hg : g.In w) (hm : s.rn ≤ 1000000) (hm2 : g.wn ≤ 1000000) (ok : s.Ok) (okg : g.Ok) (hp : ¬ mn s.N (fl s g) ≤ s.wr) :
    Calls Try.prog 19 #[s.v, g.v] w (NRet2 [] 3 w) := by
  have okh := hid ok
  have okgh := hid okg
  have hph := hid hp
  clear ok okg hp
  go_enter Try.func19, Try.ntmps19
  go_wp2
  go_step3
  go_wp2_with (first | (go_at_call 47; refine (c47 s g _ (hz.below (by (repeat' (first | (with_reducible exact Below.refl _ _) | (with_reducible assumption) | (with_reducible refine Below.alloc ?_ ?_ _) | (with_reducible refine Below.drew ?_) | (with_reducible refine below_drewN ?_ _) | (with_reducible refine Below.setCell ?_ ?_ _) | (with_reducible refine Below.trans ?_ (Below.mono (by with_reducible assumption) ?_)) | go_size))) (Nat.le_refl _)) (hg.below (by (repeat' (first | (with_reducible exact Below.refl _ _) | (with_reducible assumption) | (with_reducible refine Below.alloc ?_ ?_ _) | (with_reducible refine Below.drew ?_) | (with_reducible refine below_drewN ?_ _) | (with_reducible refine Below.setCell ?_ ?_ _) | (with_reducible refine Below.trans ?_ (Below.mono (by with_reducible assumption) ?_)) | go_size))) (Nat.le_refl _)) hm hm2 okh.out okgh.out).mono ?_; rintro e w1 ⟨rfl, hB1⟩; have hz1 : w.heap.size + 1 ≤ w1.heap.size := (by have := hB1.size; simp at this; omega); have hBx : Below w.heap.size w w1 := Below.trans (by (repeat' (first | (with_reducible exact Below.refl _ _) | (with_reducible assumption) | (with_reducible refine Below.alloc ?_ ?_ _) | (with_reducible refine Below.drew ?_) | (with_reducible refine below_drewN ?_ _) | (with_reducible refine Below.setCell ?_ ?_ _) | (with_reducible refine Below.trans ?_ (Below.mono (by with_reducible assumption) ?_)) | go_size))) (hB1.mono (by simp))) | (go_at_call 48; refine (c48n s g _ (hz.below (by (repeat' (first | (with_reducible exact Below.refl _ _) | (with_reducible assumption) | (with_reducible refine Below.alloc ?_ ?_ _) | (with_reducible refine Below.drew ?_) | (with_reducible refine below_drewN ?_ _) | (with_reducible refine Below.setCell ?_ ?_ _) | (with_reducible refine Below.trans ?_ (Below.mono (by with_reducible assumption) ?_)) | go_size))) (Nat.le_refl _)) (hg.below (by (repeat' (first | (with_reducible exact Below.refl _ _) | (with_reducible assumption) | (with_reducible refine Below.alloc ?_ ?_ _) | (with_reducible refine Below.drew ?_) | (with_reducible refine below_drewN ?_ _) | (with_reducible refine Below.setCell ?_ ?_ _) | (with_reducible refine Below.trans ?_ (Below.mono (by with_reducible assumption) ?_)) | go_size))) (Nat.le_refl _)) okh.out okgh.out (by have := hph.out; omega)).mono ?_; rintro e w2 ⟨rfl, hB2⟩; have hBy : Below w.heap.size w w2 := Below.trans (show Below w.heap.size w _ by (repeat' (first | (with_reducible exact Below.refl _ _) | (with_reducible assumption) | (with_reducible refine Below.alloc ?_ ?_ _) | (with_reducible refine Below.drew ?_) | (with_reducible refine below_drewN ?_ _) | (with_reducible refine Below.setCell ?_ ?_ _) | (with_reducible refine Below.trans ?_ (Below.mono (by with_reducible assumption) ?_)) | go_size))) (hB2.mono (by simp; omega))))
  try rw [Exit.noGoto_ret]
  go_ret2
  exact NRet2.err hBy
theorem c19 (s : Sv) (g : Wg) (w : World) (hz : s.In w) (hg : g.In w) (hm : s.rn ≤ 1000000) (hm2 : g.wn ≤ 1000000) :
    Calls Try.prog 19 #[s.v, g.v] w (NRet2 (blA s g) (ahE s g True) w) := by
  unfold blA
  by_cases h1 : ckE s g = 0
  · obtain ⟨ok, okg⟩ := ckE_inv h1
    by_cases h3 : mn s.N (fl s g) ≤ s.wr
    · rw [ahE_ok h1 trivial h3, if_pos rfl]; exact c19_ok s g w hz hg hm hm2 ok okg h3
    · rw [ahE_none h1 trivial h3, if_neg (by omega)]; exact c19_none s g w hz hg hm hm2 ok okg h3
  · rw [ahE_ck h1, if_neg h1]; exact c19_ck s g w hz hg hm hm2 h1
theorem blA_len (s : Sv) (g : Wg) : (blA s g).length ≤ g.wn := by
  unfold blA
  split
  · exact blL_len
  · simp
theorem gate_own (s : Sv) (g : Wg) (x c y d : Nat) (t li : Int) : gate (cpS s x c) (ownG y g.wn d g.wc g.wu) t li = gate s g t li := rfl
theorem gtA_own (s : Sv) (g : Wg) (x c y d : Nat) (t li : Int) : gtA (cpS s x c) (ownG y g.wn d g.wc g.wu) t li = gtA s g t li := by
  unfold gtA
  rw [ahE_own, gate_own]
theorem blA_own (s : Sv) (g : Wg) (x c y d : Nat) : blA (cpS s x c) (ownG y g.wn d g.wc g.wu) = blA s g := by
  unfold blA
  rw [ahE_own]
  rfl
/-- A list of numbers in memory. -/
theorem nat_ints {w : World} {b : Nat} {v : Value} {l : List Nat} (h : w.ownsRow b 3 1 v l.length (natV l)) : ∃ A g c, v = .slice A l.length c ∧ Ints w A g 0 l.length (fun k => ((l.getD k 0 : Nat) : Int)) := by
  have h0 := h
  obtain ⟨_, ⟨h1, h2⟩ | ⟨g, cap, cur, h1, h2, h3, h4, _⟩⟩ := h
  · refine ⟨none, 0, 0, by rw [h1, h2], fun k hk => ?_, fun k hk => ?_, fun k hk => ?_⟩ <;> omega
  · subst h1
    refine ⟨_, g, cap, rfl, fun k hk => rfl, fun k hk => (Array.getElem?_eq_some_iff.1 h3).1, fun k hk => ?_⟩
    rw [Nat.zero_add, h0.cellAt _ (by omega)]
    simp [natV, hk]
end Go.Proofs.Ytkafjlhmbiaicaa
