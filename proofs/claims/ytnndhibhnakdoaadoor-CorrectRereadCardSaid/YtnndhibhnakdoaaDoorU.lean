/- Stage 5: Fooled and Burst. -/
import Derived.Test.YtnndhibhnakdoaaDoorT
set_option linter.unusedSimpArgs false
set_option linter.unusedVariables false
namespace Go.Proofs.YtnndhibhnakdoaaDoor
open Go.RowKit Go.BigFrame Go.Sort
open Gf (S)

set_option maxHeartbeats 1000000 in
theorem c29e (L P x : Int) (w : World) (h : ¬ vld L P) : Calls Tryd.prog 29 #[.agg #[.int .i64 L, .int .i64 P], .int .i64 x] w fun e w' => e = .returned (.tuple #[.bool false, .int .i64 50]) ∧ Below w.heap.size w w' := by
  have hh := hid h
  have hB0 : Hid (Below w.heap.size w ((w.alloc (.cells #[.int .i64 L, .int .i64 P] 23)))) := hid (by (repeat' (first | (with_reducible exact Below.refl _ _) | (with_reducible assumption) | (with_reducible refine Below.alloc ?_ ?_ _) | (with_reducible refine Below.drew ?_) | (with_reducible refine below_drewN ?_ _) | (with_reducible refine Below.setCell ?_ ?_ _) | (with_reducible refine Below.trans ?_ (Below.mono (by with_reducible assumption) ?_)) | go_size)))
  clear h
  go_enter Tryd.func29, Tryd.ntmps29
  go_wp2_with (go_at_call 44; refine (c44n L P _ hh.out).mono ?_; rintro e w1 ⟨rfl, hB1⟩; have hB1 := hid (hB0.out.trans (hB1.mono (by simp))))
  go_returns
  exact ⟨rfl, by have := hB1.out; have := hB1.out.size; (repeat' (first | (with_reducible exact Below.refl _ _) | (with_reducible assumption) | (with_reducible refine Below.alloc ?_ ?_ _) | (with_reducible refine Below.drew ?_) | (with_reducible refine below_drewN ?_ _) | (with_reducible refine Below.setCell ?_ ?_ _) | (with_reducible refine Below.trans ?_ (Below.mono (by with_reducible assumption) ?_)) | go_size))⟩
set_option maxHeartbeats 1000000 in
theorem c29a (n r : Nat) (x : Int) (w : World) (h : vld (n : Nat) (r : Nat)) (hx : ¬ (0 ≤ x ∧ x ≤ (n : Nat))) : Calls Tryd.prog 29 #[cv n r, .int .i64 x] w fun e w' => e = .returned (.tuple #[.bool false, .int .i64 1]) ∧ Below w.heap.size w w' := by
  have hh := hid h
  have hxh := hid hx
  have hB0 : Hid (Below w.heap.size w ((w.alloc (.cells #[.int .i64 (n : Nat), .int .i64 (r : Nat)] 23)))) := hid (by (repeat' (first | (with_reducible exact Below.refl _ _) | (with_reducible assumption) | (with_reducible refine Below.alloc ?_ ?_ _) | (with_reducible refine Below.drew ?_) | (with_reducible refine below_drewN ?_ _) | (with_reducible refine Below.setCell ?_ ?_ _) | (with_reducible refine Below.trans ?_ (Below.mono (by with_reducible assumption) ?_)) | go_size)))
  clear h hx
  go_enter Tryd.func29, Tryd.ntmps29
  go_wp2_with (first | (go_at_call 44; refine (c44y (n : Nat) (r : Nat) _ hh.out).mono ?_; rintro e w1 ⟨rfl, hB1⟩; have hB1 := hid (hB0.out.trans (hB1.mono (by simp))); have hB2 : Hid (Below w.heap.size w (w1.alloc (.cells #[.int .i64 (n : Nat), .int .i64 (r : Nat)] 66))) := hid (hB1.out.alloc hB1.out.size _)) | (go_at_call 68; refine (c68n _ hxh.out).mono ?_; rintro e w' ⟨rfl, rfl⟩))
  go_returns
  exact ⟨rfl, hB2.out⟩
/-- So many errors can mislead. -/
def foo (r : Nat) (x : Int) : Prop := ((r + 1 - r / 2 : Nat) : Int) ≤ x
set_option maxHeartbeats 1000000 in
theorem c29y (n r : Nat) (x : Int) (w : World) (h : vld (n : Nat) (r : Nat)) (hx : 0 ≤ x ∧ x ≤ (n : Nat)) (hf : foo r x) : Calls Tryd.prog 29 #[cv n r, .int .i64 x] w fun e w' => e = .returned (.tuple #[.bool true, .int .i64 0]) ∧ Below w.heap.size w w' := by
  have hh := hid h
  have hn := vld_nat h
  have hxh := hid hx
  obtain ⟨k, hk⟩ : ∃ k, k = r + 1 - r / 2 := ⟨_, rfl⟩
  have ck := fun W => c69 n r W (by omega)
  unfold foo at hf
  rw [← hk] at ck hf
  have ckh := hid ck
  have hB0 : Hid (Below w.heap.size w ((w.alloc (.cells #[.int .i64 (n : Nat), .int .i64 (r : Nat)] 23)))) := hid (by (repeat' (first | (with_reducible exact Below.refl _ _) | (with_reducible assumption) | (with_reducible refine Below.alloc ?_ ?_ _) | (with_reducible refine Below.drew ?_) | (with_reducible refine below_drewN ?_ _) | (with_reducible refine Below.setCell ?_ ?_ _) | (with_reducible refine Below.trans ?_ (Below.mono (by with_reducible assumption) ?_)) | go_size)))
  clear h hx ck hk
  go_enter Tryd.func29, Tryd.ntmps29
  go_wp2_with (first | (go_at_call 44; refine (c44y (n : Nat) (r : Nat) _ hh.out).mono ?_; rintro e w1 ⟨rfl, hB1⟩; have hB1 := hid (hB0.out.trans (hB1.mono (by simp))); have hB2 : Hid (Below w.heap.size w (w1.alloc (.cells #[.int .i64 (n : Nat), .int .i64 (r : Nat)] 66))) := hid (hB1.out.alloc hB1.out.size _)) | (go_at_call 68; refine (c68y _ hxh.out).mono ?_; rintro e w' ⟨rfl, rfl⟩) | (go_at_call 69; refine (ckh.out _).mono ?_; rintro e w3 ⟨rfl, hB3⟩; have hB3 := hid (hB2.out.trans (hB3.mono hB2.out.size))))
  go_returns
  exact ⟨rfl, hB3.out⟩
set_option maxHeartbeats 1000000 in
theorem c29n (n r : Nat) (x : Int) (w : World) (h : vld (n : Nat) (r : Nat)) (hx : 0 ≤ x ∧ x ≤ (n : Nat)) (hf : ¬ foo r x) : Calls Tryd.prog 29 #[cv n r, .int .i64 x] w fun e w' => e = .returned (.tuple #[.bool false, .int .i64 0]) ∧ Below w.heap.size w w' := by
  have hh := hid h
  have hn := vld_nat h
  have hxh := hid hx
  obtain ⟨k, hk⟩ : ∃ k, k = r + 1 - r / 2 := ⟨_, rfl⟩
  have ck := fun W => c69 n r W (by omega)
  unfold foo at hf
  rw [← hk] at ck hf
  have ckh := hid ck
  have df : decide ((k : Int) ≤ x) = false := decide_eq_false hf
  have hB0 : Hid (Below w.heap.size w ((w.alloc (.cells #[.int .i64 (n : Nat), .int .i64 (r : Nat)] 23)))) := hid (by (repeat' (first | (with_reducible exact Below.refl _ _) | (with_reducible assumption) | (with_reducible refine Below.alloc ?_ ?_ _) | (with_reducible refine Below.drew ?_) | (with_reducible refine below_drewN ?_ _) | (with_reducible refine Below.setCell ?_ ?_ _) | (with_reducible refine Below.trans ?_ (Below.mono (by with_reducible assumption) ?_)) | go_size)))
  clear h hx ck hk
  go_enter Tryd.func29, Tryd.ntmps29
  go_wp2_with (first | (go_at_call 44; refine (c44y (n : Nat) (r : Nat) _ hh.out).mono ?_; rintro e w1 ⟨rfl, hB1⟩; have hB1 := hid (hB0.out.trans (hB1.mono (by simp))); have hB2 : Hid (Below w.heap.size w (w1.alloc (.cells #[.int .i64 (n : Nat), .int .i64 (r : Nat)] 66))) := hid (hB1.out.alloc hB1.out.size _)) | (go_at_call 68; refine (c68y _ hxh.out).mono ?_; rintro e w' ⟨rfl, rfl⟩) | (go_at_call 69; refine (ckh.out _).mono ?_; rintro e w3 ⟨rfl, hB3⟩; have hB3 := hid (hB2.out.trans (hB3.mono hB2.out.size))))
  go_returns
  exact ⟨rfl, hB3.out⟩
/-- The value of a weave. -/
@[reducible] def wv (n r : Nat) (d : Int) : Value := .agg #[.int .i64 (n : Nat), .int .i64 (r : Nat), .int .i64 d]
set_option maxHeartbeats 2000000 in
set_option maxRecDepth 100000 in
theorem c57y (n r : Nat) (d : Int) (w : World) (h : vld (n : Nat) (r : Nat)) (hd : 1 ≤ d ∧ d ≤ 8) : Calls Tryd.prog 57 #[wv n r d] w fun e w' => e = .returned (.tuple #[wv n r d, .int .i64 0]) ∧ Below w.heap.size w w' := by
  have hh := hid h
  have hdh := hid hd
  obtain ⟨W0, hW0⟩ : ∃ W0 : World, W0 = (w.alloc (.cells #[.int .i64 (n : Nat), .int .i64 (r : Nat), .int .i64 d] 37)).alloc (.cells #[.int .i64 0, .int .i64 0, .int .i64 0] 86) := ⟨_, rfl⟩
  have hB0 : Hid (Below w.heap.size w W0) := hid (by rw [hW0]; (repeat' (first | (with_reducible exact Below.refl _ _) | (with_reducible assumption) | (with_reducible refine Below.alloc ?_ ?_ _) | (with_reducible refine Below.drew ?_) | (with_reducible refine below_drewN ?_ _) | (with_reducible refine Below.setCell ?_ ?_ _) | (with_reducible refine Below.trans ?_ (Below.mono (by with_reducible assumption) ?_)) | go_size)))
  have hs0 : Hid (W0.heap.size = w.heap.size + 2) := hid (by rw [hW0, World.size_alloc, World.size_alloc])
  have hW0h := hid hW0
  clear h hd
  go_enter Tryd.func57, Tryd.ntmps57
  go_wp2_with (first | (go_at_call 44; refine (c44y (n : Nat) (r : Nat) _ hh.out).mono ?_; rintro e w1 ⟨rfl, hB1⟩; rw [← hW0h.out] at hB1; obtain ⟨hc1, hf1⟩ := bcell (hB1.mono (show w.heap.size + 2 ≤ _ by rw [hs0.out]; omega)); have hz1 : w.heap.size + 2 ≤ w1.heap.size := (by have := hB1.size; rw [hs0.out] at this; exact this); have hB1 := hid (hB0.out.trans (hB1.mono (by rw [hs0.out]; omega))); have hz0 : w.heap.size < w1.heap.size := (by omega); have hz00 : w.heap.size + 1 < w1.heap.size := (by omega); have u2 : w1.cell? ⟨w.heap.size, 2, none⟩ = some (.int .i64 d) := (hc1 _ _ (by omega)).trans (by rw [hW0h.out]; simp); have v0 : w1.cell? ⟨w.heap.size + 1, 0, none⟩ = some (.int .i64 0) := (hc1 _ _ (by omega)).trans (by rw [hW0h.out]; simp); have f0 : w1.frozen? ⟨w.heap.size + 1, 0, none⟩ = false := (hf1 _ _ (by omega)).trans (by rw [hW0h.out]; simp); have v1 : w1.cell? ⟨w.heap.size + 1, 1, none⟩ = some (.int .i64 0) := (hc1 _ _ (by omega)).trans (by rw [hW0h.out]; simp); have f1 : w1.frozen? ⟨w.heap.size + 1, 1, none⟩ = false := (hf1 _ _ (by omega)).trans (by rw [hW0h.out]; simp); have v2 : w1.cell? ⟨w.heap.size + 1, 2, none⟩ = some (.int .i64 0) := (hc1 _ _ (by omega)).trans (by rw [hW0h.out]; simp); have f2 : w1.frozen? ⟨w.heap.size + 1, 2, none⟩ = false := (hf1 _ _ (by omega)).trans (by rw [hW0h.out]; simp); clear hc1 hf1) | (go_at_call 68; refine (c68y _ hdh.out).mono ?_; rintro e w' ⟨rfl, rfl⟩))
  refine bodyPost_ret (v := .tuple #[wv n r d, .int .i64 0]) (by simp [results, Tryd.results57, go_sem, hz0, hz00, v0, v1, v2, f0, f1, f2]) rfl ⟨rfl, ?_⟩
  have hBx := hB1.out
  have hBs := hB1.out.size
  (repeat' (first | (with_reducible exact Below.refl _ _) | (with_reducible assumption) | (with_reducible refine Below.alloc ?_ ?_ _) | (with_reducible refine Below.drew ?_) | (with_reducible refine below_drewN ?_ _) | (with_reducible refine Below.setCell ?_ ?_ _) | (with_reducible refine Below.trans ?_ (Below.mono (by with_reducible assumption) ?_)) | go_size))
end Go.Proofs.YtnndhibhnakdoaaDoor
