/- Stage 1: the law ZonesParts, walked on. -/
import Derived.Test.YthkbiplmfbcabaaJ3
set_option linter.unusedSimpArgs false
set_option linter.unusedVariables false
namespace Go.Proofs.Ythkbiplmfbcabaa
open Go.RowKit Go.Sort

set_option maxRecDepth 100000 in
set_option maxHeartbeats 8000000 in
theorem c9_k0 (d : Dk) (f m r n t : Nat) (xl xh : Int) (w : World) (hz : Zs w d) (hf : ¬ d.far) (ok : d.Ok) (hn : n = m + (r + 1) + 1) (ht : t = m + 1) (hfn : f + n ≤ (places d).length) (l0 : 0 ≤ xl) (l1 : xl ≤ 2000) (h0 : 0 ≤ xh) (h1 : xh ≤ 2000) (hk : kindAt d (f + m) = 0) :
    Calls Try.prog 9 #[d.v, .agg #[.int .i64 f, .int .i64 n, .int .i64 t, .int .i64 xl, .int .i64 xh]] w fun e w' => e = .returned (.bool true) ∧ Below w.heap.size w w' := by
  have hh := hid hf
  have okh := hid ok
  have hm := hid (far_len hf)
  have hL := ok.lenPl
  have hB := ok.cntB
  unfold lenPlaces at hL
  have hn1 : 1 ≤ n := by omega
  have hr := hid (show 0 ≤ (f : Int) ∧ (f : Int) < d.count ∧ 1 ≤ (n : Int) ∧ (n : Int) ≤ d.count - f by omega)
  obtain ⟨fa, hfa⟩ : ∃ k : Nat, k = f + (m + 1) := ⟨_, rfl⟩
  obtain ⟨ra, hra⟩ : ∃ k : Nat, k = r + 1 := ⟨_, rfl⟩
  obtain ⟨nq, hnq⟩ : ∃ k : Nat, k = n - 1 := ⟨_, rfl⟩
  have hw1 : IntKind.i64.wrap ((f : Int) + (t : Int)) = (fa : Int) := by rw [i64w _ (by omega) (by omega)]; omega
  have hw2 : IntKind.i64.wrap ((n : Int) - (t : Int)) = (ra : Int) := by rw [i64w _ (by omega) (by omega)]; omega
  have hw3 : IntKind.i64.wrap ((t : Int) - 1) = (m : Int) := by rw [i64w _ (by omega) (by omega)]; omega
  have hmq : m < nq := by omega
  have tn1 : (1 : Int) ≤ t := by omega
  have tn2 : (t : Int) < n := by omega
  have okA := ok.hl0; have okB := ok.hl1; have okC := ok.hh2; have okD := ok.cl0; have okE := ok.cl1; have okF := ok.ch2
  obtain ⟨nhl, e1⟩ : ∃ x, x = min d.hh (d.hl + xl) := ⟨_, rfl⟩
  obtain ⟨nhh, e2⟩ : ∃ x, x = max (min d.hh (d.hl + xl)) (d.hh - xh) := ⟨_, rfl⟩
  obtain ⟨ncl, e3⟩ : ∃ x, x = min d.ch (d.cl + xl) := ⟨_, rfl⟩
  obtain ⟨nch, e4⟩ : ∃ x, x = max (min d.ch (d.cl + xl)) (d.ch - xh) := ⟨_, rfl⟩
  have x41a : Hid (∀ W, Calls Try.prog 41 #[.agg #[.int .i64 d.hl, .int .i64 d.hh], .int .i64 xl, .int .i64 xh] W fun e w' => e = .returned (.agg #[.int .i64 nhl, .int .i64 nhh]) ∧ Below W.heap.size W w') := hid (fun W => by rw [e1, e2]; exact c41 d.hl d.hh xl xh W (by omega) (by omega) (by omega) (by omega) (by omega) (by omega) (by omega) (by omega))
  have x41b : Hid (∀ W, Calls Try.prog 41 #[.agg #[.int .i64 d.cl, .int .i64 d.ch], .int .i64 xl, .int .i64 xh] W fun e w' => e = .returned (.agg #[.int .i64 ncl, .int .i64 nch]) ∧ Below W.heap.size W w') := hid (fun W => by rw [e3, e4]; exact c41 d.cl d.ch xl xh W (by omega) (by omega) (by omega) (by omega) (by omega) (by omega) (by omega) (by omega))
  have ok3 : ∀ za zb zo zc, (d.nw za zb zo zc nhl nhh ncl nch).Ok := fun _ _ _ _ => Dk.nw_ok ok (by omega) (by omega) (by omega) (by omega) (by omega) (by omega)
  have hP := parts_of ok (f := f) (m := m) (r := r) (by omega) (ok3 none 0 0 0) (by omega) (by omega) (by omega) (by omega)
  rw [hk, ← hn, ← hfa, ← ht, ← hra] at hP
  obtain ⟨aL, v1⟩ : ∃ x, x = (d.run f t).1 := ⟨_, rfl⟩
  obtain ⟨aH, v2⟩ : ∃ x, x = (d.run f t).2 := ⟨_, rfl⟩
  obtain ⟨bL, v3⟩ : ∃ x, x = (d.run fa ra).1 := ⟨_, rfl⟩
  obtain ⟨bH, v4⟩ : ∃ x, x = (d.run fa ra).2 := ⟨_, rfl⟩
  obtain ⟨sL, v5⟩ : ∃ x, x = (d.run f n).1 := ⟨_, rfl⟩
  obtain ⟨sH, v6⟩ : ∃ x, x = (d.run f n).2 := ⟨_, rfl⟩
  obtain ⟨tL, v7⟩ : ∃ x, x = ((d.nw none 0 0 0 nhl nhh ncl nch).run f n).1 := ⟨_, rfl⟩
  obtain ⟨tH, v8⟩ : ∃ x, x = ((d.nw none 0 0 0 nhl nhh ncl nch).run f n).2 := ⟨_, rfl⟩
  have x28a : Hid (∀ W, Zs W d → Calls Try.prog 28 #[d.v, .int .i64 f, .int .i64 t] W fun e w' => e = .returned (.tuple #[.agg #[.int .i64 aL, .int .i64 aH], .int .i64 0]) ∧ Below W.heap.size W w') := hid (fun W hzW => by rw [v1, v2]; exact c28_ok d f t W hzW ok ⟨by omega, by omega, by omega, by omega⟩)
  have x28b : Hid (∀ W, Zs W d → Calls Try.prog 28 #[d.v, .int .i64 fa, .int .i64 ra] W fun e w' => e = .returned (.tuple #[.agg #[.int .i64 bL, .int .i64 bH], .int .i64 0]) ∧ Below W.heap.size W w') := hid (fun W hzW => by rw [v3, v4]; exact c28_ok d fa ra W hzW ok ⟨by omega, by omega, by omega, by omega⟩)
  have x28s : Hid (∀ W, Zs W d → Calls Try.prog 28 #[d.v, .int .i64 f, .int .i64 n] W fun e w' => e = .returned (.tuple #[.agg #[.int .i64 sL, .int .i64 sH], .int .i64 0]) ∧ Below W.heap.size W w') := hid (fun W hzW => by rw [v5, v6]; exact c28_ok d f n W hzW ok ⟨by omega, by omega, by omega, by omega⟩)
  have x28t : Hid (∀ za zb zo zc W, Zs W (d.re za zb zo zc) → Calls Try.prog 28 #[(d.nw za zb zo zc nhl nhh ncl nch).v, .int .i64 f, .int .i64 n] W fun e w' => e = .returned (.tuple #[.agg #[.int .i64 tL, .int .i64 tH], .int .i64 0]) ∧ Below W.heap.size W w') := hid (fun za zb zo zc W hzW => by rw [v7, v8]; exact c28_ok (d.nw za zb zo zc nhl nhh ncl nch) f n W (hzW.nw _ _ _ _) (ok3 za zb zo zc) ⟨by omega, by show (f : Int) < d.count; omega, by omega, by show (n : Int) ≤ d.count - f; omega⟩)
  rw [← v1, ← v2, ← v3, ← v4, ← v5, ← v6, ← v7, ← v8] at hP
  obtain ⟨pl, ph, pla, phb, ptl, pth, ⟨c1, c2⟩, ⟨c3, c4⟩, ⟨c5, c6⟩, ⟨c7, c8⟩, ⟨c9, c10⟩, ⟨c11, c12⟩⟩ := hP
  have pl' : sL = aL + bL + 0 := pl
  have ph' : sH = aH + bH + 0 := ph
  have q1 : (sL != aL + bL) = false := by simp; omega
  have q2 : (sH != aH + bH) = false := by simp; omega
  have q3 : ¬ sL ≤ aL := by omega
  have q4 : ¬ sH ≤ bH := by omega
  have hkk := hid hk
  have hqh := hid hnq
  have tokS : True := trivial
  clear pl ph pl' ph' v1 v2 v3 v4 v5 v6 v7 v8 e1 e2 e3 e4 ok3 hk hnq hfa hra hn ht hf ok hL hB
  go_enter Try.func9, Try.ntmps9
  go_wp2_with (first | (go_at_call 34; refine (c34y d _ (by exact hz.below (by (repeat' (first | (with_reducible exact Below.refl _ _) | (with_reducible assumption) | (with_reducible refine Below.alloc ?_ ?_ _) | (with_reducible refine Below.drew ?_) | (with_reducible refine below_drewN ?_ _) | (with_reducible refine Below.setCell ?_ ?_ _) | (with_reducible refine Below.trans ?_ (Below.mono (by with_reducible assumption) ?_)) | go_size))) (Nat.le_refl _)) hh.out okh.out).mono ?_; rintro e w1 ⟨rfl, hB1⟩; obtain ⟨hc1, hf1⟩ := bcell (hB1.mono (show w.heap.size + 2 ≤ _ by first | omega | ((try simp only [World.size_alloc, World.size_drew, World.size_setCell]); omega))); have hz1 : w.heap.size + 2 ≤ w1.heap.size := (by have := hB1.size; (try simp only [World.size_alloc, World.size_drew, World.size_setCell] at this); omega); have hy1 : w.heap.size < w1.heap.size := (by omega); have hx1 : w.heap.size + 1 < w1.heap.size := (by omega)) | (go_at_call 36; refine (c36y d _ _ _ (by exact hz.below (by (repeat' (first | (with_reducible exact Below.refl _ _) | (with_reducible assumption) | (with_reducible refine Below.alloc ?_ ?_ _) | (with_reducible refine Below.drew ?_) | (with_reducible refine below_drewN ?_ _) | (with_reducible refine Below.setCell ?_ ?_ _) | (with_reducible refine Below.trans ?_ (Below.mono (by with_reducible assumption) ?_)) | go_size))) (Nat.le_refl _)) okh.out hr.out).mono ?_; rintro e w2 ⟨rfl, hB2⟩; obtain ⟨hc2, hf2⟩ := bcell (hB2.mono (show w.heap.size + 2 ≤ _ by first | omega | ((try simp only [World.size_alloc, World.size_drew, World.size_setCell]); omega))); have hz2 : w.heap.size + 2 ≤ w2.heap.size := (by have := hB2.size; (try simp only [World.size_alloc, World.size_drew, World.size_setCell] at this); omega); have hy2 : w.heap.size < w2.heap.size := (by omega); have hx2 : w.heap.size + 1 < w2.heap.size := (by omega)) | (go_at_call_of 28 t; refine (x28a.out _ (by exact hz.below (by (repeat' (first | (with_reducible exact Below.refl _ _) | (with_reducible assumption) | (with_reducible refine Below.alloc ?_ ?_ _) | (with_reducible refine Below.drew ?_) | (with_reducible refine below_drewN ?_ _) | (with_reducible refine Below.setCell ?_ ?_ _) | (with_reducible refine Below.trans ?_ (Below.mono (by with_reducible assumption) ?_)) | go_size))) (Nat.le_refl _))).mono ?_; rintro e w3 ⟨rfl, hB3⟩; obtain ⟨hc3, hf3⟩ := bcell (hB3.mono (show w.heap.size + 2 ≤ _ by first | omega | ((try simp only [World.size_alloc, World.size_drew, World.size_setCell]); omega))); have hz3 : w.heap.size + 2 ≤ w3.heap.size := (by have := hB3.size; (try simp only [World.size_alloc, World.size_drew, World.size_setCell] at this); omega); have hy3 : w.heap.size < w3.heap.size := (by omega); have hx3 : w.heap.size + 1 < w3.heap.size := (by omega)) | (go_at_call_of 28 fa; refine (x28b.out _ (by exact hz.below (by (repeat' (first | (with_reducible exact Below.refl _ _) | (with_reducible assumption) | (with_reducible refine Below.alloc ?_ ?_ _) | (with_reducible refine Below.drew ?_) | (with_reducible refine below_drewN ?_ _) | (with_reducible refine Below.setCell ?_ ?_ _) | (with_reducible refine Below.trans ?_ (Below.mono (by with_reducible assumption) ?_)) | go_size))) (Nat.le_refl _))).mono ?_; rintro e w4 ⟨rfl, hB4⟩; obtain ⟨hc4, hf4⟩ := bcell (hB4.mono (show w3.heap.size + 1 ≤ _ by first | omega | ((try simp only [World.size_alloc, World.size_drew, World.size_setCell]); omega))); have hz4 : w3.heap.size + 1 ≤ w4.heap.size := (by have := hB4.size; (try simp only [World.size_alloc, World.size_drew, World.size_setCell] at this); omega); have hy4 : w.heap.size < w4.heap.size := (by omega); have hx4 : w.heap.size + 1 < w4.heap.size := (by omega); have hv4' : w3.heap.size < w4.heap.size := (by omega)) | (go_at_call_of 28 n; refine (x28s.out _ (by exact hz.below (by (repeat' (first | (with_reducible exact Below.refl _ _) | (with_reducible assumption) | (with_reducible refine Below.alloc ?_ ?_ _) | (with_reducible refine Below.drew ?_) | (with_reducible refine below_drewN ?_ _) | (with_reducible refine Below.setCell ?_ ?_ _) | (with_reducible refine Below.trans ?_ (Below.mono (by with_reducible assumption) ?_)) | go_size))) (Nat.le_refl _))).mono ?_; rintro e w5 ⟨rfl, hB5⟩; obtain ⟨hc5, hf5⟩ := bcell (hB5.mono (show w4.heap.size + 1 ≤ _ by first | omega | ((try simp only [World.size_alloc, World.size_drew, World.size_setCell]); omega))); have hz5 : w4.heap.size + 1 ≤ w5.heap.size := (by have := hB5.size; (try simp only [World.size_alloc, World.size_drew, World.size_setCell] at this); omega); have hy5 : w.heap.size < w5.heap.size := (by omega); have hx5 : w.heap.size + 1 < w5.heap.size := (by omega)))
  have hv2 : (w5.alloc (.cells #[.int .i64 sL, .int .i64 sH] 24)).heap[w.heap.size]? = some (.cells #[.int .i64 d.hd, .int .i64 d.tu, .slice d.za d.zs.length d.zc, .int .i64 d.hs, .int .i64 d.cs, .int .i64 d.hl, .int .i64 d.hh, .int .i64 d.cl, .int .i64 d.ch] 26 (0, 0)) := by
    rw [Below.heap_alloc _ _ _ hy5, hB5.block _ (by simp only [World.size_alloc]; omega), Below.heap_alloc _ _ _ hy4, hB4.block _ (by simp only [World.size_alloc]; omega), Below.heap_alloc _ _ _ hy3, hB3.block _ hy2, hB2.block _ hy1, hB1.block _ (by simp only [World.size_alloc]; omega), Below.heap_alloc _ _ _ (by simp)]; exact heap_new w _
  have hv3 : (w5.alloc (.cells #[.int .i64 sL, .int .i64 sH] 24)).heap[w.heap.size + 1]? = some (.cells #[.int .i64 f, .int .i64 n, .int .i64 t, .int .i64 xl, .int .i64 xh] 58 (0, 0)) := by
    rw [Below.heap_alloc _ _ _ hx5, hB5.block _ (by simp only [World.size_alloc]; omega), Below.heap_alloc _ _ _ hx4, hB4.block _ (by simp only [World.size_alloc]; omega), Below.heap_alloc _ _ _ hx3, hB3.block _ hx2, hB2.block _ hx1, hB1.block _ (by simp only [World.size_alloc]; omega)]; have := heap_new (w.alloc (.cells #[.int .i64 d.hd, .int .i64 d.tu, .slice d.za d.zs.length d.zc, .int .i64 d.hs, .int .i64 d.cs, .int .i64 d.hl, .int .i64 d.hh, .int .i64 d.cl, .int .i64 d.ch] 26)) (.cells #[.int .i64 f, .int .i64 n, .int .i64 t, .int .i64 xl, .int .i64 xh] 58); rwa [World.size_alloc] at this
  have hv5 : (w5.alloc (.cells #[.int .i64 sL, .int .i64 sH] 24)).heap[w3.heap.size]? = some (.cells #[.int .i64 aL, .int .i64 aH] 24 (0, 0)) := by
    rw [Below.heap_alloc _ _ _ (by omega), hB5.block _ (by simp only [World.size_alloc]; omega), Below.heap_alloc _ _ _ hv4', hB4.block _ (by simp)]; exact heap_new w3 _
  have hv7 : (w5.alloc (.cells #[.int .i64 sL, .int .i64 sH] 24)).heap[w4.heap.size]? = some (.cells #[.int .i64 bL, .int .i64 bH] 24 (0, 0)) := by
    rw [Below.heap_alloc _ _ _ (by omega), hB5.block _ (by simp)]; exact heap_new w4 _
  have hv9 := heap_new w5 (.cells #[.int .i64 sL, .int .i64 sH] 24)
  have hb5 : Below w.heap.size w (w5.alloc (.cells #[.int .i64 sL, .int .i64 sH] 24)) := by (repeat' (first | (with_reducible exact Below.refl _ _) | (with_reducible assumption) | (with_reducible refine Below.alloc ?_ ?_ _) | (with_reducible refine Below.drew ?_) | (with_reducible refine below_drewN ?_ _) | (with_reducible refine Below.setCell ?_ ?_ _) | (with_reducible refine Below.trans ?_ (Below.mono (by with_reducible assumption) ?_)) | go_size))
  have hsz : w5.heap.size < (w5.alloc (.cells #[.int .i64 sL, .int .i64 sH] 24)).heap.size := by simp
  have hs4 : w4.heap.size < w5.heap.size := by omega
  generalize w5.alloc (.cells #[.int .i64 sL, .int .i64 sH] 24) = wz at hv2 hv3 hv5 hv7 hv9 hb5 hsz ⊢
  have hz5' : Zs wz d := hz.below hb5 (Nat.le_refl _)
  clear hc1 hf1 hc2 hf2 hc3 hf3 hc4 hf4 hc5 hf5 hz5 hB1 hB2 hB3 hB4 hB5 hz1 hz2 hz3 hz4
  have hz5 := hz5'
  clear hz5'
  refine wpIn_wide.1 (wild_region (F := Fence.wide) (n := 0) (C := fun w' => Below wz.heap.size wz w') (R := fun A B => Below A.heap.size A B) (G := fun i us w' => match i with
    | 0 => us 0 = d.v
    | 1 => us 1 = .pointer (some ⟨w.heap.size + 1, 0, none⟩)
    | 2 => us 2 = .int .i64 f
    | 3 => us 3 = .pointer (some ⟨w.heap.size + 1, 1, none⟩)
    | 4 => us 4 = .int .i64 n
    | 5 => ∃ ka kb kc, us 5 = .slice ka nq kc ∧ Ints w' ka kb 0 (kinds d f nq)
    | 6 => us 6 = .pointer (some ⟨w.heap.size + 1, 2, none⟩)
    | 7 => us 7 = .int .i64 t
    | 8 => us 8 = .int .i64 m
    | 9 => ∃ kb : Nat, us 9 = .pointer (some ⟨kb, m, none⟩) ∧ kb < w'.heap.size ∧ w'.cell? ⟨kb, m, none⟩ = some (.int .i64 0)
    | 10 => us 10 = .int .i64 0
    | 11 => us 11 = .int .i64 0
    | _ => True) (by kernel_rfl) (by kernel_rfl) (by kernel_rfl) ?loc1 (Below.refl _ _).drew ?stab1 ?steps1 ?fin1)
  case loc1 =>
    intro j us i v w' hij hdp hG
    rcases j with _ | _ | _ | _ | _ | _ | _ | _ | _ | _ | _ | _ | j
    all_goals first | trivial | ((try dsimp only at hG ⊢); rw [upd_ne _ _ (Ne.symm hij)]; exact hG) | skip
  case stab1 =>
    intro i us A B hAB hG
    rcases i with _ | _ | _ | _ | _ | _ | _ | _ | _ | _ | _ | _ | i <;> try exact hG
    · obtain ⟨ka, kb, kc, h1, h2⟩ := hG
      exact ⟨ka, kb, kc, h1, h2.below hAB (Nat.le_refl _)⟩
    · obtain ⟨kb, h1, h2, h3⟩ := hG
      exact ⟨kb, h1, Nat.lt_of_lt_of_le h2 hAB.size, (hAB.cell (p := ⟨kb, m, none⟩) h2).trans h3⟩
  case steps1 =>
    dsimp only [StepsW, StepW]
    refine ⟨?_, ?_, ?_, ?_, ?_, ?_, ?_, ?_, ?_, ?_, ?_, ?_, trivial⟩
    all_goals (intro A us W hA hC hG K hK; have hcw0 := fun j => cell_at (j := j) ((hC.block _ (by omega)).trans hv2); have hcw1 := fun j => cell_at (j := j) ((hC.block _ (by omega)).trans hv3); have hzw0 := hz5.below hC (Nat.le_refl _); have hCs := hC.size; simp only [AfterW, Region.binds, true_implies, and_true, forall_const] at hG)
    · have h2 : A.tmps[2]?.getD undef = .pointer (some ⟨w.heap.size, 0, none⟩) := slot_none hA rfl rfl
      clear hA
      go_simp
      exact hK _ W hC (Below.refl _ _) (upd_same _ _ _)
    · have h3 : A.tmps[3]?.getD undef = .pointer (some ⟨w.heap.size + 1, 0, none⟩) := slot_none hA rfl rfl
      clear hA
      go_simp
      exact hK _ W hC (Below.refl _ _) (upd_same _ _ _)
    · have h108 := slot_some (t := 108) (v := .pointer (some ⟨w.heap.size + 1, 0, none⟩)) hA (by kernel_rfl) rfl (by simp) (by first | exact hG | exact hG.1 | exact hG.2 | exact hG.2.1 | exact hG.2.2 | exact hG.2.2.1 | exact hG.2.2.2 | exact hG.2.2.2.1 | exact hG.2.2.2.2 | exact hG.2.2.2.2.1 | exact hG.2.2.2.2.2 | exact hG.2.2.2.2.2.1 | exact hG.2.2.2.2.2.2.1)
      clear hA
      go_simp
      exact hK _ W hC (Below.refl _ _) (upd_same _ _ _)
    · have h3 : A.tmps[3]?.getD undef = .pointer (some ⟨w.heap.size + 1, 0, none⟩) := slot_none hA rfl rfl
      clear hA
      go_simp
      exact hK _ W hC (Below.refl _ _) (upd_same _ _ _)
    · have h110 := slot_some (t := 110) (v := .pointer (some ⟨w.heap.size + 1, 1, none⟩)) hA (by kernel_rfl) rfl (by simp) (by first | exact hG | exact hG.1 | exact hG.2 | exact hG.2.1 | exact hG.2.2 | exact hG.2.2.1 | exact hG.2.2.2 | exact hG.2.2.2.1 | exact hG.2.2.2.2 | exact hG.2.2.2.2.1 | exact hG.2.2.2.2.2 | exact hG.2.2.2.2.2.1 | exact hG.2.2.2.2.2.2.1)
      clear hA
      go_simp
      exact hK _ W hC (Below.refl _ _) (upd_same _ _ _)
    · have h107 := slot_some (t := 107) (v := d.v) hA (by kernel_rfl) rfl (by simp) (by first | exact hG | exact hG.1 | exact hG.2 | exact hG.2.1 | exact hG.2.2 | exact hG.2.2.1 | exact hG.2.2.2 | exact hG.2.2.2.1 | exact hG.2.2.2.2 | exact hG.2.2.2.2.1 | exact hG.2.2.2.2.2 | exact hG.2.2.2.2.2.1 | exact hG.2.2.2.2.2.2.1)
      have h109 := slot_some (t := 109) (v := .int .i64 f) hA (by kernel_rfl) rfl (by simp) (by first | exact hG | exact hG.1 | exact hG.2 | exact hG.2.1 | exact hG.2.2 | exact hG.2.2.1 | exact hG.2.2.2 | exact hG.2.2.2.1 | exact hG.2.2.2.2 | exact hG.2.2.2.2.1 | exact hG.2.2.2.2.2 | exact hG.2.2.2.2.2.1 | exact hG.2.2.2.2.2.2.1)
      have h111 := slot_some (t := 111) (v := .int .i64 n) hA (by kernel_rfl) rfl (by simp) (by first | exact hG | exact hG.1 | exact hG.2 | exact hG.2.1 | exact hG.2.2 | exact hG.2.2.1 | exact hG.2.2.2 | exact hG.2.2.2.1 | exact hG.2.2.2.2 | exact hG.2.2.2.2.1 | exact hG.2.2.2.2.2 | exact hG.2.2.2.2.2.1 | exact hG.2.2.2.2.2.2.1)
      clear hA
      gi_wp2_with (refine ⟨trivial, rfl, ?_⟩; gi_at_call 37; refine (callsIn_wide.2 (c37 d f n _ hzw0 okh.out hn1 hfn)).mono ?_; intro e w9 hr; rw [← hqh.out] at hr; obtain ⟨ka, kb, kc, rfl, hki, hB9⟩ := hr.ints)
      exact hK _ w9 (hC.trans (hB9.mono hC.size)) hB9 ⟨ka, kb, kc, upd_same _ _ _, hki⟩
    · have h3 : A.tmps[3]?.getD undef = .pointer (some ⟨w.heap.size + 1, 0, none⟩) := slot_none hA rfl rfl
      clear hA
      go_simp
      exact hK _ W hC (Below.refl _ _) (upd_same _ _ _)
    · have h113 := slot_some (t := 113) (v := .pointer (some ⟨w.heap.size + 1, 2, none⟩)) hA (by kernel_rfl) rfl (by simp) (by first | exact hG | exact hG.1 | exact hG.2 | exact hG.2.1 | exact hG.2.2 | exact hG.2.2.1 | exact hG.2.2.2 | exact hG.2.2.2.1 | exact hG.2.2.2.2 | exact hG.2.2.2.2.1 | exact hG.2.2.2.2.2 | exact hG.2.2.2.2.2.1 | exact hG.2.2.2.2.2.2.1)
      clear hA
      go_simp
      exact hK _ W hC (Below.refl _ _) (upd_same _ _ _)
    · have h114 := slot_some (t := 114) (v := .int .i64 t) hA (by kernel_rfl) rfl (by simp) (by first | exact hG | exact hG.1 | exact hG.2 | exact hG.2.1 | exact hG.2.2 | exact hG.2.2.1 | exact hG.2.2.2 | exact hG.2.2.2.1 | exact hG.2.2.2.2 | exact hG.2.2.2.2.1 | exact hG.2.2.2.2.2 | exact hG.2.2.2.2.2.1 | exact hG.2.2.2.2.2.2.1)
      clear hA
      go_simp
      exact hK _ W hC (Below.refl _ _) (upd_same _ _ _)
    · have h115 := slot_some (t := 115) (v := .int .i64 m) hA (by kernel_rfl) rfl (by simp) (by first | exact hG | exact hG.1 | exact hG.2 | exact hG.2.1 | exact hG.2.2 | exact hG.2.2.1 | exact hG.2.2.2 | exact hG.2.2.2.1 | exact hG.2.2.2.2 | exact hG.2.2.2.2.1 | exact hG.2.2.2.2.2 | exact hG.2.2.2.2.2.1 | exact hG.2.2.2.2.2.2.1)
      obtain ⟨ka, kb, kc, h1, h2⟩ : ∃ ka kb kc, us 5 = .slice ka nq kc ∧ Ints W ka kb 0 (kinds d f nq) := (by first | exact hG | exact hG.1 | exact hG.2 | exact hG.2.1 | exact hG.2.2 | exact hG.2.2.1 | exact hG.2.2.2 | exact hG.2.2.2.1 | exact hG.2.2.2.2 | exact hG.2.2.2.2.1 | exact hG.2.2.2.2.2 | exact hG.2.2.2.2.2.1 | exact hG.2.2.2.2.2.2.1)
      have h112 := slot_some (t := 112) hA (by kernel_rfl) rfl (by simp) h1
      have hmk : m < (kinds d f nq).length := by rw [kinds_len]; exact hmq
      have i0 := h2.ix (cap := kc) (len := nq) hmk (kinds_len d f nq).symm
      have p0 := h2.c m hmk
      have b1 := h2.lt m hmk
      rw [show (kinds d f nq)[m] = 0 by have := hkk.out; simp [kinds, this], Nat.zero_add] at p0
      rw [Nat.zero_add] at i0
      clear hA h2 hmk
      go_simp
      exact hK _ W hC (Below.refl _ _) ⟨kb, upd_same _ _ _, b1, p0⟩
    · obtain ⟨kb, h1, h2, h3⟩ : ∃ kb : Nat, us 9 = .pointer (some ⟨kb, m, none⟩) ∧ kb < W.heap.size ∧ W.cell? ⟨kb, m, none⟩ = some (.int .i64 0) := (by first | exact hG | exact hG.1 | exact hG.2 | exact hG.2.1 | exact hG.2.2 | exact hG.2.2.1 | exact hG.2.2.2 | exact hG.2.2.2.1 | exact hG.2.2.2.2 | exact hG.2.2.2.2.1 | exact hG.2.2.2.2.2 | exact hG.2.2.2.2.2.1 | exact hG.2.2.2.2.2.2.1)
      have h116 := slot_some (t := 116) hA (by kernel_rfl) rfl (by simp) h1
      clear hA
      go_simp
      exact hK _ W hC (Below.refl _ _) (upd_same _ _ _)
    · have h117 := slot_some (t := 117) (v := .int .i64 0) hA (by kernel_rfl) rfl (by simp) (by first | exact hG | exact hG.1 | exact hG.2 | exact hG.2.1 | exact hG.2.2 | exact hG.2.2.1 | exact hG.2.2.2 | exact hG.2.2.2.1 | exact hG.2.2.2.2 | exact hG.2.2.2.2.1 | exact hG.2.2.2.2.2 | exact hG.2.2.2.2.2.1 | exact hG.2.2.2.2.2.2.1)
      clear hA
      go_simp
      exact hK _ W hC (Below.refl _ _) (upd_same _ _ _)
  case fin1 =>
    intro us W hC hG
    have hCs := hC.size
    have g11 : us 11 = .int .i64 0 := hG 11 (by decide)
    simp only [frW, Nat.reduceAdd, Nat.zero_add, g11, Act.put, List.setIfInBounds_toArray, List.set_cons_succ, List.set_cons_zero]
    clear hG g11
    have hW2 := (hC.block _ (by omega)).trans hv2
    have hW3 := (hC.block _ (by omega)).trans hv3
    have hW5 := (hC.block _ (by omega)).trans hv5
    have hW7 := (hC.block _ (by omega)).trans hv7
    have hW9 := (hC.block _ (by omega)).trans hv9
    have hbW : Below w.heap.size w W := hb5.trans (hC.mono (by omega))
    have hzW : Zs W d := hz5.below hC (Nat.le_refl _)
    clear hv2 hv3 hv5 hv7 hv9 hz5 hb5 hC
    have hV2 := hW2
    have hV3 := hW3
    have hV5 := hW5
    have hV7 := hW7
    have hV9 := hW9
    have hzV := hzW
    have hbV := hbW
    clear hW2 hW3 hW5 hW7 hW9 hzW hbW
    have o2 := (Array.getElem?_eq_some_iff.1 hV2).1
    have o3 := (Array.getElem?_eq_some_iff.1 hV3).1
    have o5 := (Array.getElem?_eq_some_iff.1 hV5).1
    have o7 := (Array.getElem?_eq_some_iff.1 hV7).1
    have o9 := (Array.getElem?_eq_some_iff.1 hV9).1
    have hc2 := fun j => cell_at (j := j) hV2
    have hc3 := fun j => cell_at (j := j) hV3
    have hc5 := fun j => cell_at (j := j) hV5
    have hc7 := fun j => cell_at (j := j) hV7
    have hc9 := fun j => cell_at (j := j) hV9
    clear hV2 hV3 hV5 hV7 hV9
    go_wp2_with (first | (go_at_call 15; refine (c15 d _ (by exact hzV.below (by (repeat' (first | (with_reducible exact Below.refl _ _) | (with_reducible assumption) | (with_reducible refine Below.alloc ?_ ?_ _) | (with_reducible refine Below.drew ?_) | (with_reducible refine below_drewN ?_ _) | (with_reducible refine Below.setCell ?_ ?_ _) | (with_reducible refine Below.trans ?_ (Below.mono (by with_reducible assumption) ?_)) | go_size))) (Nat.le_refl _)) hm.out).mono ?_; rintro e w10 ⟨za, zb, zo, zc, rfl, hz10, hB10⟩; obtain ⟨hc10, hf10⟩ := bcell (hB10.mono (show W.heap.size ≤ _ by omega)); have hy10 : W.heap.size ≤ w10.heap.size := (by have := hB10.size; omega); have p2 : w.heap.size < w10.heap.size := (by omega); have p3 : w.heap.size + 1 < w10.heap.size := (by omega); have p9 : w5.heap.size < w10.heap.size := (by omega); have p5 : w3.heap.size < w10.heap.size := (by omega); have p7 : w4.heap.size < w10.heap.size := (by omega)) | (go_at_call_of 41 d.hl; refine (x41a.out _).mono ?_; rintro e w11 ⟨rfl, hB11⟩; obtain ⟨hc11, hf11⟩ := bcell (hB11.mono (show w10.heap.size + 1 ≤ _ by first | omega | ((try simp only [World.size_alloc, World.size_setCell]); omega))); have hy11 : w10.heap.size < w11.heap.size := (by have := hB11.size; (try simp only [World.size_alloc, World.size_setCell] at this); omega); have p2 : w.heap.size < w11.heap.size := (by omega); have p3 : w.heap.size + 1 < w11.heap.size := (by omega)) | (go_at_call_of 41 d.cl; refine (x41b.out _).mono ?_; rintro e w12 ⟨rfl, hB12⟩; obtain ⟨hc12, hf12⟩ := bcell (hB12.mono (show w10.heap.size + 1 ≤ _ by first | omega | ((try simp only [World.size_alloc, World.size_setCell]); omega))); have hy12 : w10.heap.size < w12.heap.size := (by have := hB12.size; (try simp only [World.size_alloc, World.size_setCell] at this); omega); have q2 : w.heap.size < w12.heap.size := (by omega); have q3' : w.heap.size + 1 < w12.heap.size := (by omega)) | (go_at_call_of 28 nhl; refine (x28t.out za zb zo zc _ (by exact hz10.below (by (repeat' (first | (with_reducible exact Below.refl _ _) | (with_reducible assumption) | (with_reducible refine Below.alloc ?_ ?_ _) | (with_reducible refine Below.drew ?_) | (with_reducible refine below_drewN ?_ _) | (with_reducible refine Below.setCell ?_ ?_ _) | (with_reducible refine Below.trans ?_ (Below.mono (by with_reducible assumption) ?_)) | go_size))) (Nat.le_refl _))).mono ?_; rintro e w13 ⟨rfl, hB13⟩; obtain ⟨hc13, hf13⟩ := bcell (hB13.mono (show w10.heap.size + 1 ≤ _ by first | omega | ((try simp only [World.size_alloc, World.size_setCell]); omega))); have hy13 : w10.heap.size < w13.heap.size := (by have := hB13.size; (try simp only [World.size_alloc, World.size_setCell] at this); omega); have r9 : w5.heap.size < w13.heap.size := (by omega)) | (go_at_call 14; refine (c14 _).mono ?_; rintro e w14 ⟨rfl, hB14⟩))
    go_returns
    exact ⟨rfl, by (repeat' (first | (with_reducible exact Below.refl _ _) | (with_reducible assumption) | (with_reducible refine Below.alloc ?_ ?_ _) | (with_reducible refine Below.drew ?_) | (with_reducible refine below_drewN ?_ _) | (with_reducible refine Below.setCell ?_ ?_ _) | (with_reducible refine Below.trans ?_ (Below.mono (by with_reducible assumption) ?_)) | go_size))⟩
end Go.Proofs.Ythkbiplmfbcabaa
