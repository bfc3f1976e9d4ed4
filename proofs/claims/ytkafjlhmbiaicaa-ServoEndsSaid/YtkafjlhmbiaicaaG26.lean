/- Texts put together: Tm, Tn. -/
import Derived.Test.YtkafjlhmbiaicaaG25
import Derived.Lib.QuietBelow
/- Stage 2: the law of the head. -/
set_option linter.unusedSimpArgs false
set_option linter.unusedVariables false
namespace Go.Proofs.Ytkafjlhmbiaicaa
open Go.RowKit Go.Sort Go.BigFrame

set_option maxRecDepth 100000 in
set_option maxHeartbeats 8000000 in
theorem c4_go (s : Sv) (g : Wg) (A : Option Addr) (b o n c : Nat) (f : Nat → Int) (A' : Option Addr) (b' o' m c' : Nat) (h : Nat → Int) (w : World) (hz : s.In w) (hg : g.In w) (hp : Ints w A b o n f) (hq : Ints w A' b' o' m h)
    (hv0 : ValP s g) (hpo0 : PosP s g f n h m) :
    Calls Try.prog 4 #[s.v, g.v, .agg #[.slice A n c, .slice A' m c']] w fun e w' => e = .returned (.bool true) ∧ Below w.heap.size w w' := by
  obtain ⟨ok, okg, hn8, hr40⟩ := hv0.ok
  have hB0 : Below w.heap.size w ((w.alloc (.cells #[.int .i64 s.tr, .int .i64 s.st, .int .i64 s.mv, .int .i64 s.no, .int .i64 s.wr, .slice s.ra s.rn s.rc] 30)).alloc (.cells #[.slice A n c, .slice A' m c'] 33)) := by (repeat' (first | (with_reducible exact Below.refl _ _) | (with_reducible assumption) | (with_reducible refine Below.alloc ?_ ?_ _) | (with_reducible refine Below.drew ?_) | (with_reducible refine below_drewN ?_ _) | (with_reducible refine Below.setCell ?_ ?_ _) | (with_reducible refine Below.trans ?_ (Below.mono (by with_reducible assumption) ?_)) | go_size))
  have sv0 : Svb s ((w.alloc (.cells #[.int .i64 s.tr, .int .i64 s.st, .int .i64 s.mv, .int .i64 s.no, .int .i64 s.wr, .slice s.ra s.rn s.rc] 30)).alloc (.cells #[.slice A n c, .slice A' m c'] 33)) w.heap.size := (Svb.new s w).below ((Below.refl _ _).alloc (Nat.le_refl _) _) (by simp)
  have gb0 : Wkb ((w.alloc (.cells #[.int .i64 s.tr, .int .i64 s.st, .int .i64 s.mv, .int .i64 s.no, .int .i64 s.wr, .slice s.ra s.rn s.rc] 30)).alloc (.cells #[.slice A n c, .slice A' m c'] 33)) (w.heap.size + 1) (.slice A n c) (.slice A' m c') := by
    constructor <;> simp
  have hv := hid hv0
  have hpo := hid hpo0
  have okh := hid ok
  have okgh := hid okg
  have hN := ok.Nb
  have hN1 := hN.1; have hN2 := hN.2.1
  have hck0 := ckE_ok ok okg
  have hck := hid hck0
  have hmn := hpo0.mnL ok
  have hmnh := hid hmn
  have hE0 := hid (ahE_ok (told := True) hck0 trivial hmn)
  obtain ⟨L0, hL00⟩ : ∃ L, L = aheadL s g 0 := ⟨_, rfl⟩
  have hL0 : Hid (ahL s g True 0 = L0) := hid (by rw [ahL_ok hE0.out, hL00])
  have hl0 : L0.length ≤ 10000 := by rw [hL00]; have := ahead_len s g 0; omega
  have hn0 := hpo0.n0
  have hn40 := hpo0.n40
  have hm12 := hpo0.m12
  have hnw := hid hpo0.pth.2
  have hin0 : Hid (inSp L0 (f (n - 1))) := hid (by rw [hL00]; have := hpo0.inL ok (Nat.zero_le m); rwa [show wk f n h 0 = f (n - 1) from if_pos rfl] at this)
  obtain ⟨L, hL1⟩ : ∃ L, L = blA s g := ⟨_, rfl⟩
  have hL := hid hL1.symm
  have hLw : L.length ≤ g.wn := by rw [hL1]; exact blA_len s g
  have hLb : L = blL (frB s g) g.wn := by rw [hL1]; unfold blA; rw [if_pos hE0.out]
  have hLg : Hid (∀ i, i < L.length → L.getD i 0 < g.wn ∧ agr s g (L.getD i 0) (pos f (L.getD i 0)) = false ∧ (0 < i → L.getD (i - 1) 0 < L.getD i 0)) := hid (fun i hi => by
    rw [hLb] at hi ⊢
    have h1 := blL_get g.wn i hi
    exact ⟨h1.1, hpo0.blame ok okg h1.1 h1.2.1, h1.2.2⟩)
  obtain ⟨F, hF0⟩ : ∃ F, F = mn s.N (fl s g) := ⟨_, rfl⟩
  have hF : Hid (fwA s g = F) := hid (by rw [hF0]; exact if_pos hck0)
  obtain ⟨cv, hcv0⟩ : ∃ cv, cv = cst (agr s g) (pos f) n := ⟨_, rfl⟩
  have hcv := hid hcv0.symm
  have hFc : F ≤ cv := by rw [hF0, hcv0]; exact hpo0.fwL ok
  have d1 : decide (cv < F) = false := by simp; omega
  have d2 : decide ((g.wn : Int) < (L.length : Int)) = false := by simp; omega
  have d3 : decide (g.wn < L.length) = false := by simp; omega
  have hn1l : n - 1 < n := by omega
  have ixp := hid (Ints.ixh (c := c) hp)
  have ixq := hid (Ints.ixh (c := c') hq)
  have ixw := hid (Weds.ixh (c := g.wk) hg)
  have hlx := ixp.out (n - 1) (by omega)
  rw [show ((n - 1 : Nat) : Int) = (n : Int) - 1 by omega] at hlx
  clear hv0 hpo0 ok okg hN hck0 hmn hL00 hL1 hLb hF0 hcv0
  go_enter Try.func4, Try.ntmps4
  go_wp2_with (first | (go_at_call 16; refine (c16y s g _ (hz.below hB0 (Nat.le_refl _)) (hg.below hB0 (Nat.le_refl _)) hv.out).mono ?_; rintro e w1 ⟨rfl, hB1⟩; have hz1 : w.heap.size + 2 ≤ w1.heap.size := (by have := hB1.size; simp at this; omega); have hBx : Below w.heap.size w w1 := hB0.trans (hB1.mono (by simp; omega)); have sv1 := sv0.below hB1 (by simp; omega); have gb1 := gb0.below hB1 (by simp); obtain ⟨k0, k1, k2, k3, k4, k5⟩ := sv1.all; obtain ⟨x0, x1⟩ := gb1) | (go_at_call 17; refine (c17y (hz.below hBx (Nat.le_refl _)) (hg.below hBx (Nat.le_refl _)) hv.out (hp.below hBx (Nat.le_refl _)) (hq.below hBx (Nat.le_refl _)) hpo.out).mono ?_; rintro e w2 ⟨rfl, hB2⟩; have hBy : Below w.heap.size w w2 := hBx.trans (hB2.mono hBx.size); have hz2 : w.heap.size + 2 ≤ w2.heap.size := Nat.le_trans hz1 hB2.size; have sv2 := sv1.below hB2 (by omega); have gb2 := Wkb.below (v1 := .slice A n c) (v2 := .slice A' m c') ⟨x0, x1⟩ hB2 (by omega); obtain ⟨k0, k1, k2, k3, k4, k5⟩ := sv2.all) | (go_at_call 18; refine (c18 s g _ (hz.below hBy (Nat.le_refl _)) (hg.below hBy (Nat.le_refl _)) (by omega) (by omega)).mono ?_; rw [hL0.out, hE0.out]; rintro e w3 ⟨v3, rfl, hown3, hB3⟩; obtain ⟨va3, vg3, vc3, rfl, hsp3⟩ := SpIn.of_owns hown3; clear hown3; have H3 : Below w2.heap.size w2 w3 := hB3; obtain ⟨k0, k1, k2, k3, k4, k5⟩ := (sv2.below H3 (by omega)).all) | (go_at_call 19; refine (c19 s g _ (hz.below (hBy.trans (H3.mono hBy.size)) (Nat.le_refl _)) (hg.below (hBy.trans (H3.mono hBy.size)) (Nat.le_refl _)) (by omega) (by omega)).mono ?_; rw [hL.out, hE0.out]; rintro e w4 ⟨v4, rfl, hown4, hB4⟩; obtain ⟨va4, vg4, vc4, rfl, hin4⟩ := nat_ints hown4; clear hown4; have H4 : Below w2.heap.size w2 w4 := H3.trans (hB4.mono H3.size); obtain ⟨k0, k1, k2, k3, k4, k5⟩ := (sv2.below H4 (by omega)).all) | (go_at_call 20; refine (c20 s g _ (hz.below (hBy.trans (H4.mono hBy.size)) (Nat.le_refl _)) (hg.below (hBy.trans (H4.mono hBy.size)) (Nat.le_refl _)) (by omega) (by omega)).mono ?_; rw [hF.out, hck.out]; rintro e w5 ⟨rfl, hB5⟩; have H5 : Below w2.heap.size w2 w5 := H4.trans (hB5.mono H4.size); obtain ⟨k0, k1, k2, k3, k4, k5⟩ := (sv2.below H5 (by omega)).all; obtain ⟨x0, x1⟩ := gb2.below H5 (by omega); have px := (hp.below (hBy.trans (H5.mono hBy.size)) (Nat.le_refl _)).ce (n - 1) hn1l) | (go_at_call 21; refine (c21y (hsp3.below (hB4.trans (hB5.mono hB4.size)) (Nat.le_refl _)) hl0 hin0.out).mono ?_; rintro e w6 ⟨rfl, hB6⟩; have H6 : Below w2.heap.size w2 w6 := H5.trans (hB6.mono H5.size); obtain ⟨k0, k1, k2, k3, k4, k5⟩ := (sv2.below H6 (by omega)).all; obtain ⟨x0, x1⟩ := gb2.below H6 (by omega)) | (go_at_call 22; refine (c22 s g A b o n c f _ (hz.below (hBy.trans (H6.mono hBy.size)) (Nat.le_refl _)) (hg.below (hBy.trans (H6.mono hBy.size)) (Nat.le_refl _)) okh.out okgh.out (hp.below (hBy.trans (H6.mono hBy.size)) (Nat.le_refl _)) (by have := hnw.out; omega) (fun k hk => (hpo.out.pth.1 k hk).1)).mono ?_; rw [hcv.out]; rintro e w7 ⟨rfl, hB7⟩; have H7 : Below w2.heap.size w2 w7 := H6.trans (hB7.mono H6.size); obtain ⟨k0, k1, k2, k3, k4, k5⟩ := (sv2.below H7 (by omega)).all; obtain ⟨x0, x1⟩ := gb2.below H7 (by omega)))
  have hs7 := H7.size
  have HW7 : Below w.heap.size w w7 := hBy.trans (H7.mono hBy.size)
  have hin7 := hid (hin4.below (hB5.trans ((hB6.trans (hB7.mono hB6.size)).mono hB5.size)) (Nat.le_refl _))
  have ixl := hid (Ints.ixh (c := vc4) hin4)
  have sv7 := sv2.below H7 (by omega)
  have gb7 := gb2.below H7 (by omega)
  clear px hlx hin4 hsp3 hB3 hB4 hB5 hB6 hB7 H3 H4 H5 H6 k0 k1 k2 k3 k4 k5 x0 x1 d1 d2 d3
  go_loopw [13] (fun iv wr => ∃ k : Nat, k ≤ L.length ∧ iv = .int .i64 k ∧ Below w7.heap.size w7 wr) (fun iv _ => L.length - (intOf iv).toNat)
  case atStart => exact ⟨0, Nat.zero_le _, rfl, Below.refl _ _⟩
  case round =>
    obtain ⟨k, hk, rfl, hB⟩ := hrel
    rename World => wo
    have hsr := hB.size
    have HWr : Below w.heap.size w wo := HW7.trans (hB.mono (by omega))
    by_cases hlt : k < L.length
    · obtain ⟨g1, g2, g3⟩ := hLg.out k hlt
      have hInr := hin7.out.below hB (Nat.le_refl _)
      have a1 := hInr.ce k hlt
      have hgr := hg.below HWr (Nat.le_refl _)
      have hpr := hp.below HWr (Nat.le_refl _)
      obtain ⟨B, hBd⟩ : ∃ B, B = L.getD k 0 := ⟨_, rfl⟩
      rw [← hBd] at g1 g2 g3 a1
      have hBn : B < n := by have := hnw.out; omega
      have hfp := (hpo.out.pth.1 B hBn).1.pos
      have b1 := hpr.ce B hBn
      rw [hfp.1] at b1
      obtain ⟨q, hqd⟩ : ∃ q, q = pos f B := ⟨_, rfl⟩
      rw [← hqd] at b1 g2 hfp
      have hq9 : q ≤ 1009 := by omega
      have hg2 := hid g2
      have y1 := cell_regrown a1
      have y2 := cell_regrown b1
      have y3 := cell_regrown (hgr.c1 B g1)
      have y4 := cell_regrown (hgr.c2 B g1)
      have i1 := ixl.out k hlt
      simp only [Nat.zero_add] at y1 i1
      have i2 := ixw.out B g1
      have i3 := ixp.out B hBn
      obtain ⟨q0, q1, q2, q3, q4, q5⟩ := (sv7.below hB (by omega)).all
      obtain ⟨r0, r1⟩ := gb7.below hB (by omega)
      have t0 := cell_regrown q0; have t1 := cell_regrown q1; have t2 := cell_regrown q2; have t3 := cell_regrown q3; have t4 := cell_regrown q4; have t5 := cell_regrown q5
      have t6 := cell_regrown r0; have t7 := cell_regrown r1
      have d0 : decide ((B : Int) < 0) = false := decide_eq_false (by omega)
      have d1 : decide ((g.wn : Int) ≤ (B : Int)) = false := by simp; omega
      have d2 : decide (g.wn ≤ B) = false := by simp; omega
      clear a1 b1 hInr hgr hpr q0 q1 q2 q3 q4 q5 r0 r1 hBd hqd hfp g2
      by_cases hk1 : 0 < k
      · have a2 := (hin7.out.below hB (Nat.le_refl _)).ce (k - 1) (by omega)
        have g3' := g3 hk1
        obtain ⟨C, hCd⟩ : ∃ C, C = L.getD (k - 1) 0 := ⟨_, rfl⟩
        rw [← hCd] at g3' a2
        have y5 := cell_regrown a2
        have i4 := ixl.out (k - 1) (by omega)
        rw [show ((k - 1 : Nat) : Int) = (k : Int) - 1 by omega] at i4
        simp only [Nat.zero_add] at y5 i4
        have d3 : decide ((B : Int) ≤ (C : Int)) = false := by simp; omega
        have d4 : decide (B ≤ C) = false := by simp; omega
        clear a2 hCd g3 g3'
        go_wp2_with fail
        refine wp_region_quiet_below (by kernel_rfl) (by kernel_rfl) ?_; (repeat (go_big_quiet_step ((first | (go_at_call 23; exact Calls.regrown_of (c23n s g B q _ (hz.below (HWr.trans (Below.mono (below_regrown _ _ _) HWr.size)) (Nat.le_refl _)) okh.out okgh.out g1 hq9 hg2.out)))))); refine wpQuiet_nil ?_; intro _ hw; obtain ⟨q, hwq⟩ := hw; subst hwq
        have hBq := below_regrown wo q.d q.os
        generalize grow (redrawn wo q.d) q.os = w14 at hBq ⊢
        clear y1 y2 y3 y4 y5 t0 t1 t2 t3 t4 t5 t6 t7
        go_wp2
        go_roundw
        case rel => exact ⟨k + 1, by omega, by go_num, hB.trans (hBq.mono hB.size)⟩
        case measure => simp [intOf]; omega
      · have hkd : decide (0 < k) = false := by simpa using hk1
        have hkd2 : decide ((0 : Int) < (k : Int)) = false := by simpa using hk1
        clear hk1 g3
        go_wp2_with fail
        refine wp_region_quiet_below (by kernel_rfl) (by kernel_rfl) ?_; (repeat (go_big_quiet_step ((first | (go_at_call 23; exact Calls.regrown_of (c23n s g B q _ (hz.below (HWr.trans (Below.mono (below_regrown _ _ _) HWr.size)) (Nat.le_refl _)) okh.out okgh.out g1 hq9 hg2.out)))))); refine wpQuiet_nil ?_; intro _ hw; obtain ⟨q, hwq⟩ := hw; subst hwq
        have hBq := below_regrown wo q.d q.os
        generalize grow (redrawn wo q.d) q.os = w14 at hBq ⊢
        clear y1 y2 y3 y4 t0 t1 t2 t3 t4 t5 t6 t7
        go_wp2
        go_roundw
        case rel => exact ⟨k + 1, by omega, by go_num, hB.trans (hBq.mono hB.size)⟩
        case measure => simp [intOf]; omega
    · obtain rfl : k = L.length := by omega
      have hwr2 : w.heap.size + 1 < wo.heap.size := by omega
      have svr := sv7.below hB (by omega)
      have gbr := gb7.below hB (by omega)
      clear hk hlt
      go_wp2_with fail
      go_loopw [14, 15, 16] (fun iv _ _ wr => ∃ k : Nat, k ≤ m ∧ iv = .int .i64 k ∧ Below wo.heap.size wo wr) (fun iv _ _ _ => m - (intOf iv).toNat)
      case atStart => exact ⟨0, Nat.zero_le _, rfl, Below.refl _ _⟩
      case round =>
        obtain ⟨k, hk, rfl, hB2⟩ := hrel
        have hs2 := hB2.size
        have HW2 : Below w.heap.size w wr := HWr.trans (hB2.mono (by omega))
        have svk := svr.below hB2 (by omega)
        have gbk := gbr.below hB2 (by omega)
        obtain ⟨k0, k1, k2, k3, k4, k5⟩ := svk.all
        obtain ⟨x0, x1⟩ := gbk
        by_cases hlt : k < m
        · have hinK := hid (hpo.out.inL okh.out (show k + 1 ≤ m by omega))
          have hwk : Hid (wk f n h (k + 1) = h k) := hid (by unfold wk; rw [if_neg (by omega)]; rfl)
          have hlk : (aheadL s g (k + 1)).length ≤ 10000 := by have := ahead_len s g (k + 1); omega
          obtain ⟨Lk, hLk0⟩ : ∃ l, l = aheadL s g (k + 1) := ⟨_, rfl⟩
          have hLk := hid hLk0.symm
          rw [← hLk0] at hlk
          have iq := ixq.out k hlt
          have hk12 : k < 12 := by omega
          clear hLk0
          go_wp2_with (first | (go_at_call 24; refine (c24k (hz.below HW2 (Nat.le_refl _)) (hg.below HW2 (Nat.le_refl _)) (by omega) (by omega) okh.out okgh.out (by omega) hmnh.out).mono ?_; rw [hLk.out]; rintro e w10 ⟨v10, rfl, hown10, hB10⟩; obtain ⟨va, vg, vc, rfl, hsp10⟩ := SpIn.of_owns hown10; clear hown10; have hs10 : w.heap.size + 1 < w10.heap.size := Nat.lt_of_lt_of_le (show w.heap.size + 1 < wr.heap.size by omega) hB10.size; obtain ⟨x0, x1⟩ := Wkb.below (v1 := .slice A n c) (v2 := .slice A' m c') ⟨x0, x1⟩ hB10 (by omega); have qx := (hq.below (HW2.trans (hB10.mono HW2.size)) (Nat.le_refl _)).ce k hlt) | (go_at_call 21; refine (c21y hsp10 hlk (by rw [← hLk.out, ← hwk.out]; exact hinK.out)).mono ?_; rintro e w11 ⟨rfl, hB11⟩))
          go_roundw
          case rel => exact ⟨k + 1, by omega, by go_num, hB2.trans ((hB10.trans (hB11.mono hB10.size)).mono hB2.size)⟩
          case measure => simp [intOf]; omega
        · go_wp2_with (go_at_call 13; refine (c13 _).mono ?_; rintro e w9 ⟨rfl, hB9⟩)
          go_returns
          exact ⟨rfl, HW2.trans (hB9.mono HW2.size)⟩
theorem c4 (s : Sv) (g : Wg) (A : Option Addr) (b o n c : Nat) (f : Nat → Int) (A' : Option Addr) (b' o' m c' : Nat) (h : Nat → Int) (w : World) (hz : s.In w) (hg : g.In w) (hp : Ints w A b o n f) (hq : Ints w A' b' o' m h) :
    Calls Try.prog 4 #[s.v, g.v, .agg #[.slice A n c, .slice A' m c']] w fun e w' => e = .returned (.bool true) ∧ Below w.heap.size w w' := by
  by_cases hh : ValP s g ∧ PosP s g f n h m
  · exact c4_go s g A b o n c f A' b' o' m c' h w hz hg hp hq hh.1 hh.2
  · exact c4_skip s g A b o n c f A' b' o' m c' h w hz hg hp hq hh
end Go.Proofs.Ytkafjlhmbiaicaa

/- Stage 2: the law of the ends: plain facts, and the short ways. -/
set_option linter.unusedSimpArgs false
set_option linter.unusedVariables false
namespace Go.Proofs.Ytkafjlhmbiaicaa
open Go.RowKit Go.Sort Go.BigFrame

set_option maxRecDepth 100000 in
set_option maxHeartbeats 4000000 in
theorem c6_skip (s : Sv) (g : Wg) (x : Int) (w : World) (hz : s.In w) (hg : g.In w) (hno : ¬ (ValP s g ∧ 0 < g.wn)) :
    Calls Try.prog 6 #[s.v, g.v, .int .i64 x] w fun e w' => e = .returned (.bool true) ∧ Below w.heap.size w w' := by
  have hB0 : Below w.heap.size w (w.alloc (.cells #[.int .i64 s.tr, .int .i64 s.st, .int .i64 s.mv, .int .i64 s.no, .int .i64 s.wr, .slice s.ra s.rn s.rc] 30)) := (Below.refl _ _).alloc (Nat.le_refl _) _
  have sv0 := Svb.new s w
  by_cases hv0 : ValP s g
  · have hv := hid hv0
    have hn0 : ((g.wn : Int) == 0) = true := by have : ¬ 0 < g.wn := fun h => hno ⟨hv0, h⟩; simp; omega
    clear hno hv0
    go_enter Try.func6, Try.ntmps6
    go_wp2_with (first | (go_at_call 16; refine (c16y s g _ (hz.below hB0 (Nat.le_refl _)) (hg.below hB0 (Nat.le_refl _)) hv.out).mono ?_; rintro e w1 ⟨rfl, hB1⟩; have hz1 : w.heap.size + 1 ≤ w1.heap.size := (by have := hB1.size; simp at this; omega); have hBx : Below w.heap.size w w1 := hB0.trans (hB1.mono (by simp)); have sv1 := sv0.below hB1 (by simp); obtain ⟨k0, k1, k2, k3, k4, k5⟩ := sv1.all) | (go_at_call 13; refine (c13 _).mono ?_; rintro e w9 ⟨rfl, hB9⟩))
    go_returns
    exact ⟨rfl, hBx.trans (hB9.mono hBx.size)⟩
  · have hv := hid hv0
    clear hno hv0
    go_enter Try.func6, Try.ntmps6
    go_wp2_with (first | (go_at_call 16; refine (c16n s g _ (hz.below hB0 (Nat.le_refl _)) (hg.below hB0 (Nat.le_refl _)) hv.out).mono ?_; rintro e w1 ⟨rfl, hB1⟩; have hBx : Below w.heap.size w w1 := hB0.trans (hB1.mono (by simp))) | (go_at_call 13; refine (c13 _).mono ?_; rintro e w9 ⟨rfl, hB9⟩))
    go_returns
    exact ⟨rfl, hBx.trans (hB9.mono hBx.size)⟩
set_option maxRecDepth 100000 in
set_option maxHeartbeats 4000000 in
theorem c6_none (s : Sv) (g : Wg) (x : Int) (w : World) (hz : s.In w) (hg : g.In w) (hv0 : ValP s g) (hn : 0 < g.wn) (hmn : ¬ mn s.N (fl s g) ≤ s.wr) :
    Calls Try.prog 6 #[s.v, g.v, .int .i64 x] w fun e w' => e = .returned (.bool true) ∧ Below w.heap.size w w' := by
  obtain ⟨ok, okg, hn8, hr40⟩ := hv0.ok
  have hB0 : Below w.heap.size w (w.alloc (.cells #[.int .i64 s.tr, .int .i64 s.st, .int .i64 s.mv, .int .i64 s.no, .int .i64 s.wr, .slice s.ra s.rn s.rc] 30)) := (Below.refl _ _).alloc (Nat.le_refl _) _
  have sv0 := Svb.new s w
  have hv := hid hv0
  have hn0 : ((g.wn : Int) == 0) = false := by simp; omega
  have hE0 := hid (ahE_none (s := s) (g := g) (told := True) (ckE_ok ok okg) trivial hmn)
  have hL0 := hid (ahL_no (s := s) (g := g) (told := True) (d := 0) (by rw [hE0.out]; omega))
  clear hv0 ok okg hmn
  go_enter Try.func6, Try.ntmps6
  go_wp2_with (first | (go_at_call 16; refine (c16y s g _ (hz.below hB0 (Nat.le_refl _)) (hg.below hB0 (Nat.le_refl _)) hv.out).mono ?_; rintro e w1 ⟨rfl, hB1⟩; have hz1 : w.heap.size + 1 ≤ w1.heap.size := (by have := hB1.size; simp at this; omega); have hBx : Below w.heap.size w w1 := hB0.trans (hB1.mono (by simp)); have sv1 := sv0.below hB1 (by simp); obtain ⟨k0, k1, k2, k3, k4, k5⟩ := sv1.all) | (go_at_call 18; refine (c18 s g _ (hz.below hBx (Nat.le_refl _)) (hg.below hBx (Nat.le_refl _)) (by omega) (by omega)).mono ?_; rw [hL0.out, hE0.out]; rintro e w3 ⟨v3, rfl, hown3, hB3⟩; have hBy : Below w.heap.size w w3 := hBx.trans (hB3.mono hBx.size)) | (go_at_call 13; refine (c13 _).mono ?_; rintro e w9 ⟨rfl, hB9⟩))
  go_returns
  exact ⟨rfl, hBy.trans (hB9.mono hBy.size)⟩
/-- A new block of one number, as a row of one's own. -/
theorem own_one (W : World) (x : Int) (b : Nat) (h : b ≤ W.heap.size) : (W.alloc (.cells #[.int .i64 x] 3)).ownsRow b 3 1 (.slice (some ⟨W.heap.size, 0, none⟩) 1 1) 1 (vals 1 (fun _ => x)) :=
  ⟨by simp [vals], .inr ⟨W.heap.size, 1, #[.int .i64 x], rfl, h, heap_new W _, Nat.le_refl _, by unfold maxLen; omega, by simp, by simp [vals]⟩⟩
/-- Two numbers more. -/
def two (f : Nat → Int) (n : Nat) (a b : Int) : Nat → Int := fun k => if k = n then a else if k = n + 1 then b else f k
theorem vals_two (n : Nat) (f : Nat → Int) (a b : Int) : vals (n + 2) (two f n a b) = vals n f ++ [.int .i64 a, .int .i64 b] := by
  have e1 : vals n (two f n a b) = vals n f := by
    simp only [vals]
    apply List.map_congr_left
    intro k hk
    have := List.mem_range.1 hk
    unfold two
    rw [if_neg (by omega), if_neg (by omega)]
  rw [show n + 2 = n + 1 + 1 by omega, vals_succ, vals_succ, e1]
  simp [two]
/-- The spans are in order and apart. -/
theorem ahead_apart {s : Sv} {g : Wg} {d k : Nat} (hk : k + 1 < (aheadL s g d).length) : hi (aheadL s g d) k + 1 < lo (aheadL s g d) (k + 1) := by
  have h := (spn_ok (fun p => decide (mvn s.N s.m (fl s g) d p ≤ s.wr)) s.N).ap k _ _ (List.getElem?_eq_getElem (show k < (aheadL s g d).length by omega)) (List.getElem?_eq_getElem hk)
  simp only [lo, hi, List.getD_eq_getElem?_getD, List.getElem?_eq_getElem (show k < (aheadL s g d).length by omega), List.getElem?_eq_getElem hk, Option.getD_some]
  exact h
theorem ahead_lohi {s : Sv} {g : Wg} {d k : Nat} (hk : k < (aheadL s g d).length) : lo (aheadL s g d) k ≤ hi (aheadL s g d) k := (hi_in hk).1
/-- Where Trace finds a path. -/
theorem in_fl {s : Sv} {g : Wg} {k : Nat} (hk : k < s.N) : inSp (aheadL s g 0) k ↔ fl s g k ≤ s.wr := by
  have h1 : inSp (aheadL s g 0) k ↔ decide (mvn s.N s.m (fl s g) 0 k ≤ s.wr) = true := inSp_iff hk
  rw [h1, decide_eq_true_eq]
  exact Iff.rfl
theorem trE_in {s : Sv} {g : Wg} (ok : s.Ok) (okg : g.Ok) (hn : 0 < g.wn) {x : Int} (hx : 0 ≤ x ∧ x ≤ (s.N : Int) - 1) (hi : inSp (aheadL s g 0) x) : trE s g x = 0 := by
  obtain ⟨k, rfl⟩ : ∃ k : Nat, x = k := ⟨x.toNat, by omega⟩
  have hk : k < s.N := by have := ok.Nb; omega
  have ek : ((k : Int)).toNat = k := by omega
  exact trE_ok (ckE_ok ok okg) ⟨hx, hn⟩ (by rw [ek]; exact (in_fl hk).1 hi)
theorem trE_off {s : Sv} {g : Wg} (ok : s.Ok) (okg : g.Ok) (hn : 0 < g.wn) {x : Int} (hx : 0 ≤ x ∧ x ≤ (s.N : Int) - 1) (hi : ¬ inSp (aheadL s g 0) x) : trE s g x = 3 := by
  obtain ⟨k, rfl⟩ : ∃ k : Nat, x = k := ⟨x.toNat, by omega⟩
  have hk : k < s.N := by have := ok.Nb; omega
  have ek : ((k : Int)).toNat = k := by omega
  exact trE_none (ckE_ok ok okg) ⟨hx, hn⟩ (by rw [ek]; exact fun h => hi ((in_fl hk).2 h))
theorem trE_out {s : Sv} {g : Wg} (ok : s.Ok) (okg : g.Ok) {x : Int} (hx : ¬ (0 ≤ x ∧ x ≤ (s.N : Int) - 1)) : trE s g x = 1 := trE_arg (ckE_ok ok okg) (fun h => hx h.1)
theorem c28_v {s : Sv} {g : Wg} {x E : Int} {w : World} (h : trE s g x = E) (hne : E ≠ 0) (hz : s.In w) (hg : g.In w) (hm : s.rn ≤ 1000000) (hm2 : g.wn ≤ 1000000) :
    Calls Try.prog 28 #[s.v, g.v, .int .i64 x] w fun e w' => e = .returned (.tuple #[.slice none 0 0, .int .i64 E]) ∧ Below w.heap.size w w' := by
  subst h; exact c28_e hne hz hg hm hm2
end Go.Proofs.Ytkafjlhmbiaicaa
