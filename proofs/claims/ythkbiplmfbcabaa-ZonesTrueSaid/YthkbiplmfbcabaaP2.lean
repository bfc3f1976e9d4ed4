/- Stage 1: the examples that every law looks at. -/
import Derived.Test.YthkbiplmfbcabaaO2
import Derived.Test.YthkbiplmfbcabaaK2
import Derived.Test.YthkbiplmfbcabaaC2
set_option linter.unusedSimpArgs false
set_option linter.unusedVariables false
namespace Go.Proofs.Ythkbiplmfbcabaa
open Go.RowKit Go.Sort

theorem ex_num (b : Nat) : numOf (exD b) (1, 1, 4) = 22 ∧ numErr (exD b) (1, 1, 4) = 0 := ⟨by kernel_rfl, by kernel_rfl⟩
theorem ex_run (b : Nat) : (exD b).run 4 4 = (50, 110) := by kernel_rfl
theorem ex_b0 (b : Nat) : (exD b).b0 10 = 20 := by kernel_rfl
theorem ex_b1 (b : Nat) : (exD b).b1 10 = 30 := by kernel_rfl
theorem ex_sk (b : Nat) : ((exD b).skR 10).2 = 480 := by kernel_rfl
theorem ex_isRun (b : Nat) : (exD b).isRun 4 4 := by
  have h : (exD b).count = 34 := by kernel_rfl
  unfold Dk.isRun
  omega

theorem ex20 (b : Nat) (w : World) (hz : Zs w (exD b)) : Calls Try.prog 20 #[(exD b).v, .agg #[.int .i64 1, .int .i64 1, .int .i64 4]] w fun e w' => e = .returned (.tuple #[.int .i64 22, .int .i64 0]) ∧ Below w.heap.size w w' := by
  have h := c20_ok (exD b) (exD_ok b) 1 1 4 w hz
  rwa [(ex_num b).1, (ex_num b).2] at h
theorem ex28 (b : Nat) (w : World) (hz : Zs w (exD b)) : Calls Try.prog 28 #[(exD b).v, .int .i64 4, .int .i64 4] w fun e w' => e = .returned (.tuple #[.agg #[.int .i64 50, .int .i64 110], .int .i64 0]) ∧ Below w.heap.size w w' := by
  have h := c28_ok (exD b) 4 4 w hz (exD_ok b) (ex_isRun b)
  rwa [ex_run b] at h
theorem ex32 (b : Nat) (w : World) (hz : Zs w (exD b)) : Calls Try.prog 32 #[(exD b).v, .int .i64 10] w fun e w' => e = .returned (.tuple #[.int .i64 20, .int .i64 30, .int .i64 480, .int .i64 0]) ∧ Below w.heap.size w w' := by
  have h := c32_ok (exD b) 10 w hz (exD_ok b) (by omega) (by show (10 : Int) ≤ 60; omega)
  rwa [ex_b0 b, ex_b1 b, ex_sk b] at h

set_option maxRecDepth 100000 in
set_option maxHeartbeats 1000000 in
theorem c14 (w : World) : Calls Try.prog 14 #[] w fun e w' => e = .returned (.bool true) ∧ Below w.heap.size w w' := by
  go_enter Try.func14, Try.ntmps14
  go_wp2_with (first | (go_at_call 44; refine (c44 _).mono ?_; rintro e w1 ⟨rfl, hz0, hB1⟩; have hy1 : w.heap.size < w1.heap.size := (by have := hz0.lt 0 (by show 0 < 2; omega); have h2 : w.heap.size + 1 < w1.heap.size := this; omega)) | (go_at_call 20; refine (ex20 _ _ (by exact hz0.below (by (repeat' (first | (with_reducible exact Below.refl _ _) | (with_reducible assumption) | (with_reducible refine Below.alloc ?_ ?_ _) | (with_reducible refine Below.drew ?_) | (with_reducible refine below_drewN ?_ _) | (with_reducible refine Below.setCell ?_ ?_ _) | (with_reducible refine Below.trans ?_ (Below.mono (by with_reducible assumption) ?_)) | go_size))) (Nat.le_refl _))).mono ?_; rintro e w2 ⟨rfl, hB2⟩; obtain ⟨hc2, hf2⟩ := bcell (hB2.mono (show w1.heap.size + 1 ≤ _ by first | omega | ((try simp only [World.size_alloc, World.size_drew, World.size_setCell]); omega))); have hz2 : w1.heap.size + 1 ≤ w2.heap.size := (by have := hB2.size; (try simp only [World.size_alloc, World.size_drew, World.size_setCell] at this); omega); have hy2 : w1.heap.size < w2.heap.size := (by omega)) | (go_at_call 28; refine (ex28 _ _ (by exact hz0.below (by (repeat' (first | (with_reducible exact Below.refl _ _) | (with_reducible assumption) | (with_reducible refine Below.alloc ?_ ?_ _) | (with_reducible refine Below.drew ?_) | (with_reducible refine below_drewN ?_ _) | (with_reducible refine Below.setCell ?_ ?_ _) | (with_reducible refine Below.trans ?_ (Below.mono (by with_reducible assumption) ?_)) | go_size))) (Nat.le_refl _))).mono ?_; rintro e w3 ⟨rfl, hB3⟩; obtain ⟨hc3, hf3⟩ := bcell (hB3.mono (show w1.heap.size + 1 ≤ _ by first | omega | ((try simp only [World.size_alloc, World.size_drew, World.size_setCell]); omega))); have hz3 : w1.heap.size + 1 ≤ w3.heap.size := (by have := hB3.size; (try simp only [World.size_alloc, World.size_drew, World.size_setCell] at this); omega); have hy3 : w1.heap.size < w3.heap.size := (by omega)) | (go_at_call 32; refine (ex32 _ _ (by exact hz0.below (by (repeat' (first | (with_reducible exact Below.refl _ _) | (with_reducible assumption) | (with_reducible refine Below.alloc ?_ ?_ _) | (with_reducible refine Below.drew ?_) | (with_reducible refine below_drewN ?_ _) | (with_reducible refine Below.setCell ?_ ?_ _) | (with_reducible refine Below.trans ?_ (Below.mono (by with_reducible assumption) ?_)) | go_size))) (Nat.le_refl _))).mono ?_; rintro e w4 ⟨rfl, hB4⟩; obtain ⟨hc4, hf4⟩ := bcell (hB4.mono (show w3.heap.size + 1 ≤ _ by first | omega | ((try simp only [World.size_alloc, World.size_drew, World.size_setCell]); omega))); have hz4 : w3.heap.size + 1 ≤ w4.heap.size := (by have := hB4.size; (try simp only [World.size_alloc, World.size_drew, World.size_setCell] at this); omega); have hy4 : w3.heap.size < w4.heap.size := (by omega); have hx4 : w1.heap.size < w4.heap.size := (by omega)))
  have hk4 : w4.heap[w3.heap.size]? = some (.cells #[.int .i64 50, .int .i64 110] 24 (0, 0)) := (hB4.block _ (by simp)).trans (heap_new w3 _)
  have k1 := cells_regrown hk4
  clear hc2 hf2 hc3 hf3 hc4 hf4
  refine wp_region_quiet_below (by kernel_rfl) (by kernel_rfl) ?_; (repeat (refine wpQuiet_step (fun K hK => ?_); go_simp; first | (refine hK _ ?_; clear hK K) | (apply Exists.intro; refine ⟨fun _ => ?_, hK _ ?_⟩; (first | exact Calls.regrown_of (c45 50 110 _)); clear hK K))); refine wpQuiet_nil ?_; intro _ hw; obtain ⟨q, hwq⟩ := hw; subst hwq
  have hB5 := below_regrown w4 q.d q.os
  generalize grow (redrawn w4 q.d) q.os = w5 at hB5 ⊢
  go_wp2
  go_returns
  exact ⟨rfl, by (repeat' (first | (with_reducible exact Below.refl _ _) | (with_reducible assumption) | (with_reducible refine Below.alloc ?_ ?_ _) | (with_reducible refine Below.drew ?_) | (with_reducible refine below_drewN ?_ _) | (with_reducible refine Below.setCell ?_ ?_ _) | (with_reducible refine Below.trans ?_ (Below.mono (by with_reducible assumption) ?_)) | go_size))⟩
end Go.Proofs.Ythkbiplmfbcabaa
