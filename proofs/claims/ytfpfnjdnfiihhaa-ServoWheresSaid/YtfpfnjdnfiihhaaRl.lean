/- Stage 2: the law of one wedge more. -/
import Derived.Test.YtfpfnjdnfiihhaaM5
set_option linter.unusedSimpArgs false
set_option linter.unusedVariables false
namespace Go.Proofs.Ytfpfnjdnfiihhaa
open Go.RowKit Go.Sort Go.BigFrame

set_option maxRecDepth 100000 in
set_option maxHeartbeats 4000000 in
theorem c7_skip (s : Sv) (g : Wg) (xm xn xw xi : Int) (w : World) (hz : s.In w) (hg : g.In w) (hno : ¬ (ValP s g ∧ g.wn ≤ 7 ∧ (0 ≤ xm ∧ xm ≤ 64) ∧ (0 ≤ xn ∧ xn ≤ 16) ∧ (0 ≤ xw ∧ xw ≤ 3))) :
    Calls Try.prog 7 #[s.v, g.v, .agg #[.int .i64 xm, .int .i64 xn, .int .i64 xw, .int .i64 xi]] w fun e w' => e = .returned (.bool true) ∧ Below w.heap.size w w' := by
  by_cases hv0 : ValP s g
  · have hv := hid hv0
    have hno' : ¬ (g.wn ≤ 7 ∧ (0 ≤ xm ∧ xm ≤ 64) ∧ (0 ≤ xn ∧ xn ≤ 16) ∧ (0 ≤ xw ∧ xw ≤ 3)) := fun hh => hno ⟨hv0, hh⟩
    clear hno hv0
    have hcs : (7 < g.wn) ∨ (g.wn ≤ 7 ∧ xm < 0) ∨ (g.wn ≤ 7 ∧ 0 ≤ xm ∧ 64 < xm) ∨ (g.wn ≤ 7 ∧ (0 ≤ xm ∧ xm ≤ 64) ∧ xn < 0) ∨ (g.wn ≤ 7 ∧ (0 ≤ xm ∧ xm ≤ 64) ∧ 0 ≤ xn ∧ 16 < xn) ∨ (g.wn ≤ 7 ∧ (0 ≤ xm ∧ xm ≤ 64) ∧ (0 ≤ xn ∧ xn ≤ 16) ∧ xw < 0) ∨ (g.wn ≤ 7 ∧ (0 ≤ xm ∧ xm ≤ 64) ∧ (0 ≤ xn ∧ xn ≤ 16) ∧ 0 ≤ xw ∧ 3 < xw) := by omega
    clear hno'
    rcases hcs with h | ⟨h1, h⟩ | ⟨h1, h2, h⟩ | ⟨h1, ⟨h2, h3⟩, h⟩ | ⟨h1, ⟨h2, h3⟩, h4, h⟩ | ⟨h1, ⟨h2, h3⟩, ⟨h4, h5⟩, h⟩ | ⟨h1, ⟨h2, h3⟩, ⟨h4, h5⟩, h6, h⟩
    all_goals
      go_enter Try.func7, Try.ntmps7
      go_wp2_with (first | (go_at_call 16; refine (c16y s g _ (hz.below (by (repeat' (first | (with_reducible exact Below.refl _ _) | (with_reducible assumption) | (with_reducible refine Below.alloc ?_ ?_ _) | (with_reducible refine Below.drew ?_) | (with_reducible refine below_drewN ?_ _) | (with_reducible refine Below.setCell ?_ ?_ _) | (with_reducible refine Below.trans ?_ (Below.mono (by with_reducible assumption) ?_)) | go_size))) (Nat.le_refl _)) (hg.below (by (repeat' (first | (with_reducible exact Below.refl _ _) | (with_reducible assumption) | (with_reducible refine Below.alloc ?_ ?_ _) | (with_reducible refine Below.drew ?_) | (with_reducible refine below_drewN ?_ _) | (with_reducible refine Below.setCell ?_ ?_ _) | (with_reducible refine Below.trans ?_ (Below.mono (by with_reducible assumption) ?_)) | go_size))) (Nat.le_refl _)) hv.out).mono ?_; rintro e w1 ⟨rfl, hB1⟩; have hz1 : w.heap.size + 2 ≤ w1.heap.size := (by have := hB1.size; simp at this; omega); have hBx : Below w.heap.size w w1 := Below.trans (by (repeat' (first | (with_reducible exact Below.refl _ _) | (with_reducible assumption) | (with_reducible refine Below.alloc ?_ ?_ _) | (with_reducible refine Below.drew ?_) | (with_reducible refine below_drewN ?_ _) | (with_reducible refine Below.setCell ?_ ?_ _) | (with_reducible refine Below.trans ?_ (Below.mono (by with_reducible assumption) ?_)) | go_size))) (hB1.mono (by simp; omega)); have sv1 := Svb.below ((Svb.new s w).below (B := w.heap.size + 1) (by (repeat' (first | (with_reducible exact Below.refl _ _) | (with_reducible assumption) | (with_reducible refine Below.alloc ?_ ?_ _) | (with_reducible refine Below.drew ?_) | (with_reducible refine below_drewN ?_ _) | (with_reducible refine Below.setCell ?_ ?_ _) | (with_reducible refine Below.trans ?_ (Below.mono (by with_reducible assumption) ?_)) | go_size))) (by omega)) hB1 (by simp; omega); obtain ⟨k0, k1, k2, k3, k4, k5⟩ := sv1.all; obtain ⟨hc1, _⟩ := bcell (hB1.mono (show w.heap.size + 2 ≤ _ by simp)); have x0 : w1.cell? ⟨w.heap.size + 1, 0, none⟩ = some (.int .i64 xm) := (by rw [hc1 _ _ (by omega)]; simp); have x1 : w1.cell? ⟨w.heap.size + 1, 1, none⟩ = some (.int .i64 xn) := (by rw [hc1 _ _ (by omega)]; simp); have x2 : w1.cell? ⟨w.heap.size + 1, 2, none⟩ = some (.int .i64 xw) := (by rw [hc1 _ _ (by omega)]; simp); have x3 : w1.cell? ⟨w.heap.size + 1, 3, none⟩ = some (.int .i64 xi) := (by rw [hc1 _ _ (by omega)]; simp); clear hc1) | (go_at_call 13; refine (c13 _).mono ?_; rintro e w9 ⟨rfl, hB9⟩))
      go_returns
      exact ⟨rfl, hBx.trans (hB9.mono hBx.size)⟩
  · have hv := hid hv0
    clear hno hv0
    go_enter Try.func7, Try.ntmps7
    go_wp2_with (first | (go_at_call 16; refine (c16n s g _ (hz.below (by (repeat' (first | (with_reducible exact Below.refl _ _) | (with_reducible assumption) | (with_reducible refine Below.alloc ?_ ?_ _) | (with_reducible refine Below.drew ?_) | (with_reducible refine below_drewN ?_ _) | (with_reducible refine Below.setCell ?_ ?_ _) | (with_reducible refine Below.trans ?_ (Below.mono (by with_reducible assumption) ?_)) | go_size))) (Nat.le_refl _)) (hg.below (by (repeat' (first | (with_reducible exact Below.refl _ _) | (with_reducible assumption) | (with_reducible refine Below.alloc ?_ ?_ _) | (with_reducible refine Below.drew ?_) | (with_reducible refine below_drewN ?_ _) | (with_reducible refine Below.setCell ?_ ?_ _) | (with_reducible refine Below.trans ?_ (Below.mono (by with_reducible assumption) ?_)) | go_size))) (Nat.le_refl _)) hv.out).mono ?_; rintro e w1 ⟨rfl, hB1⟩; have hBx : Below w.heap.size w w1 := Below.trans (by (repeat' (first | (with_reducible exact Below.refl _ _) | (with_reducible assumption) | (with_reducible refine Below.alloc ?_ ?_ _) | (with_reducible refine Below.drew ?_) | (with_reducible refine below_drewN ?_ _) | (with_reducible refine Below.setCell ?_ ?_ _) | (with_reducible refine Below.trans ?_ (Below.mono (by with_reducible assumption) ?_)) | go_size))) (hB1.mono (by simp; omega))) | (go_at_call 13; refine (c13 _).mono ?_; rintro e w9 ⟨rfl, hB9⟩))
    go_returns
    exact ⟨rfl, hBx.trans (hB9.mono hBx.size)⟩
end Go.Proofs.Ytfpfnjdnfiihhaa
