/- Stage 5: Check and Encode. -/
import Derived.Test.YtnndhibhnakdoaaDoorM
set_option linter.unusedSimpArgs false
set_option linter.unusedVariables false
namespace Go.Proofs.YtnndhibhnakdoaaDoor
open Go.RowKit Go.BigFrame Go.Sort
open Gf (S)

set_option maxRecDepth 100000 in
set_option maxHeartbeats 2000000 in
theorem c16y (L P : Int) (w : World) (h : vld L P) : Calls Tryd.prog 16 #[.agg #[.int .i64 L, .int .i64 P]] w fun e w' => e = .returned (.int .i64 0) ∧ Below w.heap.size w w' := by
  have hh := hid h
  have hB0 : Hid (Below w.heap.size w ((w.alloc (.cells #[.int .i64 L, .int .i64 P] 23)))) := hid (by (repeat' (first | (with_reducible exact Below.refl _ _) | (with_reducible assumption) | (with_reducible refine Below.alloc ?_ ?_ _) | (with_reducible refine Below.drew ?_) | (with_reducible refine below_drewN ?_ _) | (with_reducible refine Below.setCell ?_ ?_ _) | (with_reducible refine Below.trans ?_ (Below.mono (by with_reducible assumption) ?_)) | go_size)))
  clear h
  go_enter Tryd.func16, Tryd.ntmps16
  go_wp2_with (go_at_call 44; refine (c44y L P _ hh.out).mono ?_; rintro e w1 ⟨rfl, hB1⟩; have hB1 := hid (hB0.out.trans (hB1.mono (by simp))))
  go_returns
  exact ⟨rfl, by have := hB1.out; have := hB1.out.size; (repeat' (first | (with_reducible exact Below.refl _ _) | (with_reducible assumption) | (with_reducible refine Below.alloc ?_ ?_ _) | (with_reducible refine Below.drew ?_) | (with_reducible refine below_drewN ?_ _) | (with_reducible refine Below.setCell ?_ ?_ _) | (with_reducible refine Below.trans ?_ (Below.mono (by with_reducible assumption) ?_)) | go_size))⟩
set_option maxRecDepth 100000 in
set_option maxHeartbeats 2000000 in
theorem c16n (L P : Int) (w : World) (h : ¬ vld L P) : Calls Tryd.prog 16 #[.agg #[.int .i64 L, .int .i64 P]] w fun e w' => e = .returned (.int .i64 50) ∧ Below w.heap.size w w' := by
  have hh := hid h
  have hB0 : Hid (Below w.heap.size w ((w.alloc (.cells #[.int .i64 L, .int .i64 P] 23)))) := hid (by (repeat' (first | (with_reducible exact Below.refl _ _) | (with_reducible assumption) | (with_reducible refine Below.alloc ?_ ?_ _) | (with_reducible refine Below.drew ?_) | (with_reducible refine below_drewN ?_ _) | (with_reducible refine Below.setCell ?_ ?_ _) | (with_reducible refine Below.trans ?_ (Below.mono (by with_reducible assumption) ?_)) | go_size)))
  clear h
  go_enter Tryd.func16, Tryd.ntmps16
  go_wp2_with (go_at_call 44; refine (c44n L P _ hh.out).mono ?_; rintro e w1 ⟨rfl, hB1⟩; have hB1 := hid (hB0.out.trans (hB1.mono (by simp))))
  go_returns
  exact ⟨rfl, by have := hB1.out; have := hB1.out.size; (repeat' (first | (with_reducible exact Below.refl _ _) | (with_reducible assumption) | (with_reducible refine Below.alloc ?_ ?_ _) | (with_reducible refine Below.drew ?_) | (with_reducible refine below_drewN ?_ _) | (with_reducible refine Below.setCell ?_ ?_ _) | (with_reducible refine Below.trans ?_ (Below.mono (by with_reducible assumption) ?_)) | go_size))⟩
set_option maxRecDepth 100000 in
set_option maxHeartbeats 2000000 in
theorem c18e (L P : Int) (A : Option Addr) (l c : Nat) (w : World) (h : ¬ vld L P) : Calls Tryd.prog 18 #[.agg #[.int .i64 L, .int .i64 P], .slice A l c] w fun e w' => e = .returned (.tuple #[.slice none 0 0, .int .i64 50]) ∧ Below w.heap.size w w' := by
  have hh := hid h
  have hB0 : Hid (Below w.heap.size w ((w.alloc (.cells #[.int .i64 L, .int .i64 P] 23)))) := hid (by (repeat' (first | (with_reducible exact Below.refl _ _) | (with_reducible assumption) | (with_reducible refine Below.alloc ?_ ?_ _) | (with_reducible refine Below.drew ?_) | (with_reducible refine below_drewN ?_ _) | (with_reducible refine Below.setCell ?_ ?_ _) | (with_reducible refine Below.trans ?_ (Below.mono (by with_reducible assumption) ?_)) | go_size)))
  clear h
  go_enter Tryd.func18, Tryd.ntmps18
  go_wp2_with (go_at_call 44; refine (c44n L P _ hh.out).mono ?_; rintro e w1 ⟨rfl, hB1⟩; have hB1 := hid (hB0.out.trans (hB1.mono (by simp))))
  go_returns
  exact ⟨rfl, by have := hB1.out; have := hB1.out.size; (repeat' (first | (with_reducible exact Below.refl _ _) | (with_reducible assumption) | (with_reducible refine Below.alloc ?_ ?_ _) | (with_reducible refine Below.drew ?_) | (with_reducible refine below_drewN ?_ _) | (with_reducible refine Below.setCell ?_ ?_ _) | (with_reducible refine Below.trans ?_ (Below.mono (by with_reducible assumption) ?_)) | go_size))⟩
theorem vld_nat {n r : Nat} (h : vld (n : Nat) (r : Nat)) : 2 ≤ n ∧ n ≤ 15 ∧ 1 ≤ r ∧ r ≤ 8 ∧ r < n := by unfold vld at h; omega
set_option maxRecDepth 100000 in
set_option maxHeartbeats 4000000 in
theorem c18w (n r : Nat) (A : Option Addr) (b o l c : Nat) (f : Nat → Int) (w : World) (h : vld (n : Nat) (r : Nat)) (hz : Ints w A b o l f) (hl : l ≤ 1000) (hf : ¬ (l = n - r ∧ allS l f)) : Calls Tryd.prog 18 #[cv n r, .slice A l c] w fun e w' => e = .returned (.tuple #[.slice none 0 0, .int .i64 51]) ∧ Below w.heap.size w w' := by
  have hh := hid h
  have hn := vld_nat h
  have hzh := hid hz
  have hfh := hid hf
  have hB0 : Hid (Below w.heap.size w (w.alloc (.cells #[.int .i64 (n : Nat), .int .i64 (r : Nat)] 23))) := hid (by (repeat' (first | (with_reducible exact Below.refl _ _) | (with_reducible assumption) | (with_reducible refine Below.alloc ?_ ?_ _) | (with_reducible refine Below.drew ?_) | (with_reducible refine below_drewN ?_ _) | (with_reducible refine Below.setCell ?_ ?_ _) | (with_reducible refine Below.trans ?_ (Below.mono (by with_reducible assumption) ?_)) | go_size)))
  clear h hz hf
  go_enter Tryd.func18, Tryd.ntmps18
  go_wp2_with (first | (go_at_call 44; refine (c44y (n : Nat) (r : Nat) _ hh.out).mono ?_; rintro e w1 ⟨rfl, hB1⟩; have hB1 := hid (hB0.out.trans (hB1.mono (by simp))); have hB2 : Hid (Below w.heap.size w (w1.alloc (.cells #[.int .i64 (n : Nat), .int .i64 (r : Nat)] 66))) := hid (hB1.out.alloc hB1.out.size _)) | (go_at_call 46; refine (c46_47n n r A b o l c f _ (by omega) (by omega) (hzh.out.below hB2.out (Nat.le_refl _)) hl hfh.out).mono ?_; rintro e w3 ⟨rfl, hB3⟩; have hB3 := hid (hB2.out.trans (hB3.mono hB2.out.size))))
  go_returns
  exact ⟨rfl, hB3.out⟩
set_option maxRecDepth 100000 in
set_option maxHeartbeats 4000000 in
theorem c18y (n r : Nat) (A : Option Addr) (b o c : Nat) (f : Nat → Int) (w : World) (hT : Tab w) (h : vld (n : Nat) (r : Nat)) (hz : Ints w A b o (n - r) f) (hf : allS (n - r) f) :
    Calls Tryd.prog 18 #[cv n r, .slice A (n - r) c] w fun e w' => ∃ g c', e = .returned (.tuple #[.slice (some ⟨g, 0, none⟩) n c', .int .i64 0]) ∧ w.heap.size ≤ g ∧ RowF w' g n (nf (Gf.enc n r (sy f))) ∧ Below w.heap.size w w' := by
  have hh := hid h
  have hn := vld_nat h
  have hzh := hid hz
  have hfh := hid hf
  have hTh := hid hT
  have hB0 : Hid (Below w.heap.size w (w.alloc (.cells #[.int .i64 (n : Nat), .int .i64 (r : Nat)] 23))) := hid (by (repeat' (first | (with_reducible exact Below.refl _ _) | (with_reducible assumption) | (with_reducible refine Below.alloc ?_ ?_ _) | (with_reducible refine Below.drew ?_) | (with_reducible refine below_drewN ?_ _) | (with_reducible refine Below.setCell ?_ ?_ _) | (with_reducible refine Below.trans ?_ (Below.mono (by with_reducible assumption) ?_)) | go_size)))
  clear h hz hf hT
  go_enter Tryd.func18, Tryd.ntmps18
  go_wp2_with (first | (go_at_call 44; refine (c44y (n : Nat) (r : Nat) _ hh.out).mono ?_; rintro e w1 ⟨rfl, hB1⟩; have hB1 := hid (hB0.out.trans (hB1.mono (by simp))); have hB2 : Hid (Below w.heap.size w (w1.alloc (.cells #[.int .i64 (n : Nat), .int .i64 (r : Nat)] 66))) := hid (hB1.out.alloc hB1.out.size _); have hX2 := hid (Bx.new n r w1 66)) | (go_at_call 46; refine (c46_47y n r A b o c f _ (by omega) (by omega) (hzh.out.below hB2.out (Nat.le_refl _)) hfh.out).mono ?_; rintro e w3 ⟨g3, c3, rfl, hg3, hR3, hB3⟩; have hR3 := hid hR3; have hX3 := hX2.out.below hB3 (by simp); obtain ⟨p1, p2⟩ := hX3; have hB3 := hid (hB2.out.trans (hB3.mono hB2.out.size))) | (go_at_call 49; refine (c49 n r (some ⟨g3, 0, none⟩) g3 0 c3 (sy f) _ (hTh.out.below hB3.out (Nat.le_refl _)) hR3.out.syms (by omega) (by omega) (by omega)).mono ?_; rintro e w4 ⟨g4, c4, rfl, hg4, hc4, hR4, hB4⟩; have hR4 := hid hR4; have hB4 := hid (hB3.out.trans (hB4.mono hB3.out.size))) | (go_at_call 48; refine (c48 (some ⟨g4, 0, none⟩) g4 0 n c4 (Gf.enc n r (sy f)) _ hR4.out.syms (by omega)).mono ?_; rintro e w5 ⟨g5, c5, rfl, hg5, hc5, hR5, hB5⟩; have hR5 := hid hR5; have hB5 := hid (hB4.out.trans (hB5.mono hB4.out.size))))
  go_returns
  have := hB4.out.size
  exact ⟨g5, c5, rfl, by omega, hR5.out, hB5.out⟩
end Go.Proofs.YtnndhibhnakdoaaDoor
