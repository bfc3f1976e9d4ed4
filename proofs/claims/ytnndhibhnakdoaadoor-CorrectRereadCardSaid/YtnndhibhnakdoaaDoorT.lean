/- Stage 5: what is valid; how many errors can mislead. -/
import Derived.Test.YtnndhibhnakdoaaDoorS
set_option linter.unusedSimpArgs false
set_option linter.unusedVariables false
namespace Go.Proofs.YtnndhibhnakdoaaDoor
open Go.RowKit Go.BigFrame Go.Sort
open Gf (S)

set_option maxHeartbeats 1000000 in
theorem c17y (L P : Int) (w : World) (h : vld L P) : Calls Tryd.prog 17 #[.agg #[.int .i64 L, .int .i64 P]] w fun e w' => e = .returned (.int .i64 0) ∧ Below w.heap.size w w' := by
  obtain ⟨h1, h2, h3, h4, h5⟩ := h
  have d1 : decide (L ≤ P) = false := decide_eq_false (by omega)
  go_enter Tryd.func17, Tryd.ntmps17
  go_wp2_with (go_at_call 45; refine (c45y _ (by omega)).mono ?_; rintro e w' ⟨rfl, rfl⟩)
  go_returns
  exact ⟨rfl, by (repeat' (first | (with_reducible exact Below.refl _ _) | (with_reducible assumption) | (with_reducible refine Below.alloc ?_ ?_ _) | (with_reducible refine Below.drew ?_) | (with_reducible refine below_drewN ?_ _) | (with_reducible refine Below.setCell ?_ ?_ _) | (with_reducible refine Below.trans ?_ (Below.mono (by with_reducible assumption) ?_)) | go_size))⟩
set_option maxHeartbeats 1000000 in
theorem c17n (L P : Int) (w : World) (h : ¬ vld L P) : Calls Tryd.prog 17 #[.agg #[.int .i64 L, .int .i64 P]] w fun e w' => e = .returned (.int .i64 50) ∧ Below w.heap.size w w' := by
  by_cases h1 : 2 ≤ L ∧ L ≤ 15
  · by_cases h2 : 1 ≤ P ∧ P ≤ 8
    · have d1 : decide (L ≤ P) = true := decide_eq_true (by unfold vld at h; omega)
      have h1h := hid h1; have h2h := hid h2
      have hlp : L ≤ P := by unfold vld at h; omega
      clear h h1 h2
      go_enter Tryd.func17, Tryd.ntmps17
      go_wp2_with (go_at_call 45; refine (c45y _ (by first | exact h1h.out | exact h2h.out)).mono ?_; rintro e w' ⟨rfl, rfl⟩)
      go_returns
      exact ⟨rfl, by (repeat' (first | (with_reducible exact Below.refl _ _) | (with_reducible assumption) | (with_reducible refine Below.alloc ?_ ?_ _) | (with_reducible refine Below.drew ?_) | (with_reducible refine below_drewN ?_ _) | (with_reducible refine Below.setCell ?_ ?_ _) | (with_reducible refine Below.trans ?_ (Below.mono (by with_reducible assumption) ?_)) | go_size))⟩
    · have h1h := hid h1; have h2h := hid h2
      clear h h1 h2
      go_enter Tryd.func17, Tryd.ntmps17
      go_wp2_with (first | (go_at_call 45; (with_reducible refine (c45n (n := P) (l := 1) (h := 8) _ h2h.out).mono ?_); rintro e w' ⟨rfl, rfl⟩) | (go_at_call 45; (with_reducible refine (c45y (n := L) (l := 2) (h := 15) _ h1h.out).mono ?_); rintro e w' ⟨rfl, rfl⟩))
      go_returns
      exact ⟨rfl, by (repeat' (first | (with_reducible exact Below.refl _ _) | (with_reducible assumption) | (with_reducible refine Below.alloc ?_ ?_ _) | (with_reducible refine Below.drew ?_) | (with_reducible refine below_drewN ?_ _) | (with_reducible refine Below.setCell ?_ ?_ _) | (with_reducible refine Below.trans ?_ (Below.mono (by with_reducible assumption) ?_)) | go_size))⟩
  · have h1h := hid h1
    clear h h1
    go_enter Tryd.func17, Tryd.ntmps17
    go_wp2_with (go_at_call 45; (with_reducible refine (c45n (n := L) (l := 2) (h := 15) _ h1h.out).mono ?_); rintro e w' ⟨rfl, rfl⟩)
    go_returns
    exact ⟨rfl, by (repeat' (first | (with_reducible exact Below.refl _ _) | (with_reducible assumption) | (with_reducible refine Below.alloc ?_ ?_ _) | (with_reducible refine Below.drew ?_) | (with_reducible refine below_drewN ?_ _) | (with_reducible refine Below.setCell ?_ ?_ _) | (with_reducible refine Below.trans ?_ (Below.mono (by with_reducible assumption) ?_)) | go_size))⟩
/-- A code that is larger than a statement examines. -/
def farP (L P : Int) : Prop := vld L P ∧ (10 < L ∨ 6 < P)
set_option maxHeartbeats 1000000 in
theorem c14n (L P : Int) (w : World) (h : ¬ farP L P) : Calls Tryd.prog 14 #[.agg #[.int .i64 L, .int .i64 P]] w fun e w' => e = .returned (.bool false) ∧ Below w.heap.size w w' := by
  have hB0 : Hid (Below w.heap.size w ((w.alloc (.cells #[.int .i64 L, .int .i64 P] 23)))) := hid (by (repeat' (first | (with_reducible exact Below.refl _ _) | (with_reducible assumption) | (with_reducible refine Below.alloc ?_ ?_ _) | (with_reducible refine Below.drew ?_) | (with_reducible refine below_drewN ?_ _) | (with_reducible refine Below.setCell ?_ ?_ _) | (with_reducible refine Below.trans ?_ (Below.mono (by with_reducible assumption) ?_)) | go_size)))
  by_cases hv : vld L P
  · have d1 : L ≤ 10 := Classical.byContradiction fun hc => h ⟨hv, .inl (by omega)⟩
    have d2 : P ≤ 6 := Classical.byContradiction fun hc => h ⟨hv, .inr (by omega)⟩
    have e1 : decide (10 < L) = false := decide_eq_false (by omega)
    have e2 : decide (6 < P) = false := decide_eq_false (by omega)
    have hvh := hid hv
    clear h hv
    go_enter Tryd.func14, Tryd.ntmps14
    go_wp2_with (go_at_call 17; refine (c17y L P _ hvh.out).mono ?_; rintro e w1 ⟨rfl, hB1⟩; obtain ⟨hc1, hf1⟩ := bcell (hB1.mono (show w.heap.size + 1 ≤ _ by simp)); have hB1 := hid (hB0.out.trans (hB1.mono (by simp))))
    go_returns
    exact ⟨rfl, hB1.out⟩
  · have hvh := hid hv
    clear h hv
    go_enter Tryd.func14, Tryd.ntmps14
    go_wp2_with (go_at_call 17; refine (c17n L P _ hvh.out).mono ?_; rintro e w1 ⟨rfl, hB1⟩; obtain ⟨hc1, hf1⟩ := bcell (hB1.mono (show w.heap.size + 1 ≤ _ by simp)); have hB1 := hid (hB0.out.trans (hB1.mono (by simp))))
    go_returns
    exact ⟨rfl, hB1.out⟩
set_option maxHeartbeats 1000000 in
theorem c14y (L P : Int) (w : World) (h : farP L P) : Calls Tryd.prog 14 #[.agg #[.int .i64 L, .int .i64 P]] w fun e w' => e = .returned (.bool true) ∧ Below w.heap.size w w' := by
  have hB0 : Hid (Below w.heap.size w ((w.alloc (.cells #[.int .i64 L, .int .i64 P] 23)))) := hid (by (repeat' (first | (with_reducible exact Below.refl _ _) | (with_reducible assumption) | (with_reducible refine Below.alloc ?_ ?_ _) | (with_reducible refine Below.drew ?_) | (with_reducible refine below_drewN ?_ _) | (with_reducible refine Below.setCell ?_ ?_ _) | (with_reducible refine Below.trans ?_ (Below.mono (by with_reducible assumption) ?_)) | go_size)))
  have hvh := hid h.1
  by_cases h1 : 10 < L
  · have e1 : decide (10 < L) = true := decide_eq_true h1
    clear h
    go_enter Tryd.func14, Tryd.ntmps14
    go_wp2_with (go_at_call 17; refine (c17y L P _ hvh.out).mono ?_; rintro e w1 ⟨rfl, hB1⟩; obtain ⟨hc1, hf1⟩ := bcell (hB1.mono (show w.heap.size + 1 ≤ _ by simp)); have hB1 := hid (hB0.out.trans (hB1.mono (by simp))))
    go_returns
    exact ⟨rfl, hB1.out⟩
  · have e1 : decide (10 < L) = false := decide_eq_false h1
    have h2 : 6 < P := by have := h.2; omega
    have e2 : decide (6 < P) = true := decide_eq_true h2
    clear h
    go_enter Tryd.func14, Tryd.ntmps14
    go_wp2_with (go_at_call 17; refine (c17y L P _ hvh.out).mono ?_; rintro e w1 ⟨rfl, hB1⟩; obtain ⟨hc1, hf1⟩ := bcell (hB1.mono (show w.heap.size + 1 ≤ _ by simp)); have hB1 := hid (hB0.out.trans (hB1.mono (by simp))))
    go_returns
    exact ⟨rfl, hB1.out⟩
/-- A code that is valid, and one that a statement examines. -/
def rdy (L P : Int) : Prop := vld L P ∧ ¬ farP L P
set_option maxHeartbeats 1000000 in
theorem c35y (L P : Int) (w : World) (h : rdy L P) : Calls Tryd.prog 35 #[.agg #[.int .i64 L, .int .i64 P]] w fun e w' => e = .returned (.bool true) ∧ Below w.heap.size w w' := by
  have hB0 : Hid (Below w.heap.size w ((w.alloc (.cells #[.int .i64 L, .int .i64 P] 23)))) := hid (by (repeat' (first | (with_reducible exact Below.refl _ _) | (with_reducible assumption) | (with_reducible refine Below.alloc ?_ ?_ _) | (with_reducible refine Below.drew ?_) | (with_reducible refine below_drewN ?_ _) | (with_reducible refine Below.setCell ?_ ?_ _) | (with_reducible refine Below.trans ?_ (Below.mono (by with_reducible assumption) ?_)) | go_size)))
  have hvh := hid h.1
  have hfh := hid h.2
  clear h
  go_enter Tryd.func35, Tryd.ntmps35
  go_wp2_with (first | (go_at_call 14; refine (c14n L P _ hfh.out).mono ?_; rintro e w1 ⟨rfl, hB1⟩; obtain ⟨hc1, hf1⟩ := bcell (hB1.mono (show w.heap.size + 1 ≤ _ by simp)); have hB1 := hid (hB0.out.trans (hB1.mono (by simp)))) | (go_at_call 17; refine (c17y L P _ hvh.out).mono ?_; rintro e w2 ⟨rfl, hB2⟩; have hB2 := hid (hB1.out.trans (hB2.mono hB1.out.size))))
  go_returns
  exact ⟨rfl, hB2.out⟩
set_option maxHeartbeats 1000000 in
theorem c35n (L P : Int) (w : World) (h : ¬ rdy L P) : Calls Tryd.prog 35 #[.agg #[.int .i64 L, .int .i64 P]] w fun e w' => e = .returned (.bool false) ∧ Below w.heap.size w w' := by
  have hB0 : Hid (Below w.heap.size w ((w.alloc (.cells #[.int .i64 L, .int .i64 P] 23)))) := hid (by (repeat' (first | (with_reducible exact Below.refl _ _) | (with_reducible assumption) | (with_reducible refine Below.alloc ?_ ?_ _) | (with_reducible refine Below.drew ?_) | (with_reducible refine below_drewN ?_ _) | (with_reducible refine Below.setCell ?_ ?_ _) | (with_reducible refine Below.trans ?_ (Below.mono (by with_reducible assumption) ?_)) | go_size)))
  by_cases hf : farP L P
  · have hfh := hid hf
    clear h hf
    go_enter Tryd.func35, Tryd.ntmps35
    go_wp2_with (go_at_call 14; refine (c14y L P _ hfh.out).mono ?_; rintro e w1 ⟨rfl, hB1⟩; obtain ⟨hc1, hf1⟩ := bcell (hB1.mono (show w.heap.size + 1 ≤ _ by simp)); have hB1 := hid (hB0.out.trans (hB1.mono (by simp))))
    go_returns
    exact ⟨rfl, hB1.out⟩
  · have hvh : Hid (¬ vld L P) := hid (fun hv => h ⟨hv, hf⟩)
    have hfh := hid hf
    clear h hf
    go_enter Tryd.func35, Tryd.ntmps35
    go_wp2_with (first | (go_at_call 14; refine (c14n L P _ hfh.out).mono ?_; rintro e w1 ⟨rfl, hB1⟩; obtain ⟨hc1, hf1⟩ := bcell (hB1.mono (show w.heap.size + 1 ≤ _ by simp)); have hB1 := hid (hB0.out.trans (hB1.mono (by simp)))) | (go_at_call 17; refine (c17n L P _ hvh.out).mono ?_; rintro e w2 ⟨rfl, hB2⟩; have hB2 := hid (hB1.out.trans (hB2.mono hB1.out.size))))
    go_returns
    exact ⟨rfl, hB2.out⟩
set_option maxHeartbeats 1000000 in
theorem c69 (n r : Nat) (w : World) (hr : r ≤ 8) : Calls Tryd.prog 69 #[cv n r] w fun e w' => e = .returned (.int .i64 ((r + 1 - r / 2 : Nat) : Nat)) ∧ Below w.heap.size w w' := by
  obtain ⟨t, ht⟩ : ∃ t, t = r / 2 := ⟨_, rfl⟩
  have ct := fun W => c67 n r 0 W (Nat.zero_le _) (by omega)
  rw [Nat.sub_zero, ← ht] at ct
  rw [← ht]
  have htr : t ≤ r := by omega
  have ec : ((r + 1 - t : Nat) : Int) = (r : Int) + 1 - (t : Int) := by omega
  rw [ec]
  have cth := hid ct
  have es : IntKind.i64.wrap ((r : Int) + 1) = (r : Int) + 1 := IntWalk.i64_in _ (by omega)
  have es2 : IntKind.i64.wrap ((r : Int) + 1 - (t : Int)) = (r : Int) + 1 - (t : Int) := IntWalk.i64_in _ (by omega)
  clear ht ct ec
  obtain ⟨W0, hW0⟩ : ∃ W0 : World, W0 = w.alloc (.cells #[.int .i64 (n : Nat), .int .i64 (r : Nat)] 66) := ⟨_, rfl⟩
  have hB0 : Hid (Below w.heap.size w W0) := hid (by rw [hW0]; (repeat' (first | (with_reducible exact Below.refl _ _) | (with_reducible assumption) | (with_reducible refine Below.alloc ?_ ?_ _) | (with_reducible refine Below.drew ?_) | (with_reducible refine below_drewN ?_ _) | (with_reducible refine Below.setCell ?_ ?_ _) | (with_reducible refine Below.trans ?_ (Below.mono (by with_reducible assumption) ?_)) | go_size)))
  have hX0 : Bx n r W0 w.heap.size := by rw [hW0]; exact Bx.new n r w 66
  obtain ⟨p1, p2⟩ := hX0
  have d1 := cell_regrown p1
  have d2 := cell_regrown p2
  have hs0 : w.heap.size < W0.heap.size := by rw [hW0]; simp
  go_enter Tryd.func69, Tryd.ntmps69
  go_wp2_with fail
  rw [← hW0]
  clear hW0
  refine wp_region_quiet_below (by kernel_rfl) (by kernel_rfl) ?_; (repeat (go_big_quiet_step ((first | (go_at_call 67; exact Calls.regrown_of (cth.out _)))))); refine wpQuiet_nil ?_; intro _ hw; obtain ⟨q, hwq⟩ := hw; subst hwq
  go_wp2_with fail
  go_returns
  exact ⟨rfl, hB0.out.trans ((below_regrown _ _ _).mono hB0.out.size)⟩
end Go.Proofs.YtnndhibhnakdoaaDoor
