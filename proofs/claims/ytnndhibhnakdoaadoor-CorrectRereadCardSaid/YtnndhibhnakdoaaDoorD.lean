/- Stage 5: the sums of a word that is 1 at one position. -/
import Derived.Test.YtnndhibhnakdoaaDoorC
set_option linter.unusedSimpArgs false
set_option linter.unusedVariables false
namespace Go.Proofs.YtnndhibhnakdoaaDoor
open Go.RowKit Go.BigFrame
open Gf (S)

theorem RowS.drewN {w : World} {g n : Nat} {f : Nat → S} (h : RowS w g n f) (q : Nat) : RowS (w.drewN q) g n f := h.below (below_drewN (Below.refl _ _) q) h.lt
theorem RowF.drewN {w : World} {g n : Nat} {f : Nat → Int} (h : RowF w g n f) (q : Nat) : RowF (w.drewN q) g n f := h.below (below_drewN (Below.refl _ _) q) h.lt
/-- A new slice of n symbols is handed back. -/
def SRet (n : Nat) (s : Nat → S) (w : World) (e : Ending) (w' : World) : Prop :=
  ∃ g c : Nat, e = .returned (.slice (some ⟨g, 0, none⟩) n c) ∧ w.heap.size ≤ g ∧ n ≤ c ∧ RowS w' g n s ∧ Below w.heap.size w w'
set_option maxRecDepth 100000 in
set_option maxHeartbeats 2000000 in
theorem c105 (n r j : Nat) (w : World) (hT : Tab w) (hj : j < n) (hn : n ≤ 15) (hr : r ≤ 8) : Calls Tryd.prog 105 #[cv n r, .int .i64 (j : Nat)] w (SRet r (Gf.un (Gf.ba n j)) w) := by
  have hmk := fun W => run_make_row' (P := Tryd.prog) 70 76 (.int .u8 0) 1 Tryd.underlying70 Tryd.info76 rfl .i64 .i64 r (by omega) (by omega) W
  have hTh := hid hT
  clear hT
  go_enter Tryd.func105, Tryd.ntmps105
  obtain ⟨W0, hW0⟩ : ∃ W0 : World, W0 = w.alloc (.cells #[.int .i64 (n : Nat), .int .i64 (r : Nat)] 66) := ⟨_, rfl⟩
  have hB0 : Hid (Below w.heap.size w W0) := hid (by rw [hW0]; (repeat' (first | (with_reducible exact Below.refl _ _) | (with_reducible assumption) | (with_reducible refine Below.alloc ?_ ?_ _) | (with_reducible refine Below.drew ?_) | (with_reducible refine below_drewN ?_ _) | (with_reducible refine Below.setCell ?_ ?_ _) | (with_reducible refine Below.trans ?_ (Below.mono (by with_reducible assumption) ?_)) | go_size)))
  have hs0 : W0.heap.size = w.heap.size + 1 := by rw [hW0]; simp
  go_wp2_with (go_at_call 115; refine (c115 n r j _ (hTh.out.below (by (repeat' (first | (with_reducible exact Below.refl _ _) | (with_reducible assumption) | (with_reducible refine Below.alloc ?_ ?_ _) | (with_reducible refine Below.drew ?_) | (with_reducible refine below_drewN ?_ _) | (with_reducible refine Below.setCell ?_ ?_ _) | (with_reducible refine Below.trans ?_ (Below.mono (by with_reducible assumption) ?_)) | go_size))) (Nat.le_refl _)) hj hn).mono ?_; rintro e w1 ⟨rfl, hB1⟩)
  have hR0 : RowS ((w.alloc (.cells #[.int .i64 (n : Nat), .int .i64 (r : Nat)] 66)).alloc (.cells (madeCells #[.int .u8 0] r) 76)) (w.heap.size + 1) r (fun _ => 0) := by
    have := RowS.made (w.alloc (.cells #[.int .i64 (n : Nat), .int .i64 (r : Nat)] 66)) r
    simpa using this
  have hR1 := hid (hR0.below hB1 (by simp))
  have hB01 : Hid (Below w.heap.size w w1) := hid (Below.trans (by (repeat' (first | (with_reducible exact Below.refl _ _) | (with_reducible assumption) | (with_reducible refine Below.alloc ?_ ?_ _) | (with_reducible refine Below.drew ?_) | (with_reducible refine below_drewN ?_ _) | (with_reducible refine Below.setCell ?_ ?_ _) | (with_reducible refine Below.trans ?_ (Below.mono (by with_reducible assumption) ?_)) | go_size))) (hB1.mono (by simp; omega)))
  clear hR0 hB1 hmk hB0 hs0 hW0 W0
  obtain ⟨x, hx⟩ : ∃ x, x = Gf.ba n j := ⟨_, rfl⟩
  rw [← hx]
  have hxh := hid hx
  clear hx
  go_loopw [7, 18] (fun lv iv wr => ∃ k : Nat, k ≤ r ∧ iv = .int .i64 k ∧ lv = sv (Gf.un x k) ∧ RowS wr (w.heap.size + 1) r (mix k (Gf.un x) (fun _ => 0)) ∧ Below w.heap.size w wr) (fun _ iv _ => r - (intOf iv).toNat)
  case atStart => exact ⟨0, Nat.zero_le _, rfl, rfl, hR1.out.congr (fun i _ => (mix_zero (Gf.un x) (fun _ => 0) i).symm), hB01.out⟩
  case round =>
    clear hB01 hR1
    obtain ⟨k, hk, rfl, rfl, hR, hB⟩ := hrel
    by_cases hlt : k < r
    · have j1 := hR.cell hlt
      rw [mix_at] at j1
      have j2 := hR.frozen k
      have j4 := @RowS.ix _ _ _ r _ hR _ hlt
      obtain ⟨y, hy⟩ : ∃ y, y = Gf.un x k := ⟨_, rfl⟩
      rw [← hy]
      have hRh := hid hR
      have hyh := hid hy
      have hBh := hid hB
      clear hR hy hB
      go_wp2_with (go_at_call 112; refine (c112 y x _ (hTh.out.below (hBh.out.setCell (show w.heap.size ≤ w.heap.size + 1 by omega) _) (Nat.le_refl _))).mono ?_; rintro e w2 ⟨rfl, q, rfl⟩)
      go_roundw
      case rel =>
        refine ⟨k + 1, by omega, by go_num, by rw [Gf.un, ← hyh.out], ?_, below_drewN (hBh.out.setCell (show w.heap.size ≤ w.heap.size + 1 by omega) _) _⟩
        refine RowS.drewN ?_ _
        rw [hyh.out]
        exact (hRh.out.set k _).congr (fun i _ => mix_step (b := fun _ => 0) i)
      case measure => simp [intOf]; omega
    · go_wp2_with fail
      go_returns
      exact ⟨w.heap.size + 1, r, rfl, by omega, Nat.le_refl _, hR.congr (fun i hi => (mix_all (show i < k by omega)).trans (by rw [hxh.out])), hB⟩
end Go.Proofs.YtnndhibhnakdoaaDoor
