/- Stage 5: how long bursts may be. -/
import Derived.Test.YtnndhibhnakdoaaDoorU
set_option linter.unusedSimpArgs false
set_option linter.unusedVariables false
namespace Go.Proofs.YtnndhibhnakdoaaDoor
open Go.RowKit Go.BigFrame Go.Sort
open Gf (S)

set_option maxHeartbeats 4000000 in
set_option maxRecDepth 100000 in
theorem c27y (n r D : Nat) (w : World) (h : vld (n : Nat) (r : Nat)) (hd : 1 ≤ D ∧ D ≤ 8) : Calls Tryd.prog 27 #[wv n r (D : Nat)] w fun e w' => e = .returned (.tuple #[.int .i64 ((D * (r / 2) : Nat) : Nat), .int .i64 ((D * r : Nat) : Nat), .int .i64 0]) ∧ Below w.heap.size w w' := by
  have hh := hid h
  have hn := vld_nat h
  have hdh : Hid (1 ≤ ((D : Nat) : Int) ∧ ((D : Nat) : Int) ≤ 8) := hid (by omega)
  obtain ⟨t, ht⟩ : ∃ t, t = r / 2 := ⟨_, rfl⟩
  have ht4 : t ≤ 4 := by omega
  have ct := fun W => c67 n r 0 W (Nat.zero_le _) (by omega)
  rw [Nat.sub_zero, ← ht] at ct
  obtain ⟨x, hx⟩ : ∃ x, x = D * t := ⟨_, rfl⟩
  obtain ⟨y, hy⟩ : ∃ y, y = D * r := ⟨_, rfl⟩
  rw [← ht, ← hx, ← hy]
  have bx : x ≤ 100 := by rw [hx]; calc D * t ≤ 8 * 4 := Nat.mul_le_mul hd.2 ht4
    _ ≤ 100 := by decide
  have byy : y ≤ 100 := by rw [hy]; calc D * r ≤ 8 * 8 := Nat.mul_le_mul hd.2 (by omega)
    _ ≤ 100 := by decide
  have ex : (D : Int) * (t : Int) = (x : Int) := by rw [hx]; push_cast; rfl
  have ey : (D : Int) * (r : Int) = (y : Int) := by rw [hy]; push_cast; rfl
  have wx : IntKind.i64.wrap ((D : Int) * (t : Int)) = (x : Int) := by rw [ex]; exact IntWalk.i64_in _ (by omega)
  have wy : IntKind.i64.wrap ((D : Int) * (r : Int)) = (y : Int) := by rw [ey]; exact IntWalk.i64_in _ (by omega)
  have wx' : IntKind.i64.wrap (x : Int) = (x : Int) := IntWalk.i64_in _ (by omega)
  have wy' : IntKind.i64.wrap (y : Int) = (y : Int) := IntWalk.i64_in _ (by omega)
  have cth := hid ct
  have hB0 : Hid (Below w.heap.size w (w.alloc (.cells #[.int .i64 (n : Nat), .int .i64 (r : Nat), .int .i64 (D : Nat)] 37))) := hid (by (repeat' (first | (with_reducible exact Below.refl _ _) | (with_reducible assumption) | (with_reducible refine Below.alloc ?_ ?_ _) | (with_reducible refine Below.drew ?_) | (with_reducible refine below_drewN ?_ _) | (with_reducible refine Below.setCell ?_ ?_ _) | (with_reducible refine Below.trans ?_ (Below.mono (by with_reducible assumption) ?_)) | go_size)))
  clear h hd ct ht hx hy
  go_enter Tryd.func27, Tryd.ntmps27
  go_wp2_with (go_at_call 57; (with_reducible refine (c57y n r (D : Nat) _ hh.out hdh.out).mono ?_); rintro e w1 ⟨rfl, hB1⟩; have hB1 := hid (hB0.out.trans (hB1.mono (by simp))))
  obtain ⟨W2, hW2⟩ : ∃ W2 : World, W2 = w1.alloc (.cells #[.int .i64 (n : Nat), .int .i64 (r : Nat), .int .i64 (D : Nat)] 86) := ⟨_, rfl⟩
  rw [← hW2]
  have p0 : W2.cell? ⟨w1.heap.size, 0, none⟩ = some (.int .i64 (n : Nat)) := by rw [hW2]; simp
  have p1 : W2.cell? ⟨w1.heap.size, 1, none⟩ = some (.int .i64 (r : Nat)) := by rw [hW2]; simp
  have p2 : W2.cell? ⟨w1.heap.size, 2, none⟩ = some (.int .i64 (D : Nat)) := by rw [hW2]; simp
  have hB2 : Hid (Below w.heap.size w W2) := hid (by rw [hW2]; exact hB1.out.alloc hB1.out.size _)
  have d0 := cell_regrown p0
  have d1 := cell_regrown p1
  have d2 := cell_regrown p2
  clear hW2
  refine wp_region_quiet_below (by kernel_rfl) (by kernel_rfl) ?_; (repeat (go_big_quiet_step ((first | (go_at_call 67; exact Calls.regrown_of (cth.out _)))))); refine wpQuiet_nil ?_; intro _ hw; obtain ⟨q, hwq⟩ := hw; subst hwq
  go_wp2_with fail
  go_returns
  exact ⟨rfl, hB2.out.trans ((below_regrown _ _ _).mono hB2.out.size)⟩
end Go.Proofs.YtnndhibhnakdoaaDoor
