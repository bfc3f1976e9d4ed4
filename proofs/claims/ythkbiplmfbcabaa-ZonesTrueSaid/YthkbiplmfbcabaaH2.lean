/- Stage 1: the best skew, in package zones. -/
import Derived.Test.YthkbiplmfbcabaaG2
set_option linter.unusedSimpArgs false
set_option linter.unusedVariables false
namespace Go.Proofs.Ythkbiplmfbcabaa
open Go.RowKit Go.Sort

def bestSt (tu n h st : Int) : Nat → Int × Int
  | 0 => (0, n * gapV tu 0 h)
  | j + 1 => if n * gapV tu (st * (j + 1)) h < (bestSt tu n h st j).2 then (st * (j + 1), n * gapV tu (st * (j + 1)) h) else bestSt tu n h st j

theorem gapn_bd {tu s h n : Int} (t1 : 1 ≤ tu) (t2 : tu ≤ 1000) (h0 : 0 ≤ h) (h1 : h ≤ 2000) (n0 : 0 ≤ n) (n1 : n ≤ 1000) : 0 ≤ n * gapV tu s h ∧ n * gapV tu s h ≤ 3000000 := by
  have g := gapV_bd (tu := tu) (sk := s) (t := h) t1
  have := Int.mul_nonneg n0 (show 0 ≤ gapV tu s h by omega)
  have := mul_le_mul_of n0 (show 0 ≤ gapV tu s h by omega) n1 (show gapV tu s h ≤ 3000 by omega)
  omega

theorem best_step {tu n h st x y z : Int} {j : Nat} (hh : x = (bestSt tu n h st j).1 ∧ y = (bestSt tu n h st j).2 ∧ z = st * (j + 1) ∧ st * j < tu) (hz : z < tu) :
    (n * gapV tu z h < y → z = (bestSt tu n h st (j + 1)).1 ∧ n * gapV tu z h = (bestSt tu n h st (j + 1)).2 ∧ z + st = st * ((j + 1 : Nat) + 1) ∧ st * (j + 1 : Nat) < tu) ∧
    (y ≤ n * gapV tu z h → x = (bestSt tu n h st (j + 1)).1 ∧ y = (bestSt tu n h st (j + 1)).2 ∧ z + st = st * ((j + 1 : Nat) + 1) ∧ st * (j + 1 : Nat) < tu) := by
  obtain ⟨r1, r2, r3, r4⟩ := hh
  have e1 : z + st = st * ((j + 1 : Nat) + 1) := by rw [Int.mul_add, Int.natCast_add, Int.natCast_one, ← r3, Int.mul_one]
  have e2 : st * (j + 1 : Nat) < tu := by rw [Int.natCast_add, Int.natCast_one, ← r3]; exact hz
  refine ⟨fun hb => ?_, fun hb => ?_⟩
  · rw [show bestSt tu n h st (j + 1) = (z, n * gapV tu z h) by rw [bestSt, ← r3, ← r2, if_pos hb]]
    exact ⟨rfl, rfl, e1, e2⟩
  · rw [show bestSt tu n h st (j + 1) = bestSt tu n h st j by rw [bestSt, ← r3, ← r2, if_neg (by omega)]]
    exact ⟨r1, r2, e1, e2⟩

set_option maxRecDepth 100000 in
set_option maxHeartbeats 1000000 in
theorem c64 (c : Ck) (l h s n st : Int) (w : World) (tu1 : 1 ≤ c.d.tu) (tu2 : c.d.tu ≤ 1000) (h0 : 0 ≤ h) (h1 : h ≤ 2000) (n0 : 0 ≤ n) (n1 : n ≤ 1000) (st0 : 1 ≤ st) (st1 : st ≤ c.d.tu) :
    Calls Try.prog 64 #[c.v, .agg #[.int .i64 l, .int .i64 h, .int .i64 s], .int .i64 n, .int .i64 st] w fun e w' => (∃ j : Nat, st * j < c.d.tu ∧ c.d.tu ≤ st * (j + 1) ∧ e = .returned (.int .i64 (bestSt c.d.tu n h st j).1)) ∧ Below w.heap.size w w' := by
  have g0 := gapn_bd (s := 0) tu1 tu2 h0 h1 n0 n1
  have hwa := i64w (x := n * gapV c.d.tu 0 h) (by omega) (by omega)
  go_enter Try.func64, Try.ntmps64
  go_wp2_with (go_at_call 62; refine (c62 c _ _ _ _ _ tu1 tu2 h0 h1 (by omega) (by omega)).mono ?_; rintro e w1 ⟨rfl, hB1⟩; have hz1 : w.heap.size + 1 < w1.heap.size := (by have := hB1.size; (try simp only [World.size_alloc] at this); omega); have hy1 : w.heap.size < w1.heap.size := (by omega); obtain ⟨hc1, hf1⟩ := bcell (hB1.mono (show w.heap.size + 2 ≤ _ by first | omega | (simp; done))))
  go_loopw [9, 10, 11] (fun b t i wr => ∃ j : Nat, ∃ x y z : Int, b = .int .i64 x ∧ t = .int .i64 y ∧ i = .int .i64 z ∧ Hid (x = (bestSt c.d.tu n h st j).1 ∧ y = (bestSt c.d.tu n h st j).2 ∧ z = st * (j + 1) ∧ st * j < c.d.tu) ∧ 0 ≤ y ∧ y ≤ 3000000 ∧ 1 ≤ z ∧ z ≤ 2000 ∧ Below (w.heap.size + 2) w1 wr) (fun _ _ i _ => (c.d.tu - intOf i).toNat)
  case atStart => exact ⟨0, _, _, _, rfl, rfl, rfl, hid ⟨rfl, rfl, by simp, by simp; omega⟩, g0.1, g0.2, st0, by omega, (Below.refl _ _)⟩
  case round =>
    obtain ⟨j, x, y, z, rfl, rfl, rfl, hh, y0, y1, z0, z1, hB⟩ := hrel
    have hsz : w.heap.size + 1 < wr.heap.size := by have := hB.size; omega
    have hsy : w.heap.size < wr.heap.size := by omega
    obtain ⟨hc, hf⟩ := bcell hB
    by_cases hlt : z < c.d.tu
    · have g1 := gapn_bd (s := z) tu1 tu2 h0 h1 n0 n1
      have hwb := i64w (x := n * gapV c.d.tu z h) (by omega) (by omega)
      have hwc := i64w (x := z + st) (by omega) (by omega)
      by_cases hb : n * gapV c.d.tu z h < y
      · go_wp2_with (go_at_call 62; refine (c62 c _ _ _ _ _ tu1 tu2 h0 h1 (by omega) (by omega)).mono ?_; rintro e w2 ⟨rfl, hB2⟩; have hz2 : w.heap.size + 1 < w2.heap.size := (by have := hB2.size; omega); obtain ⟨hc2, hf2⟩ := bcell (hB2.mono (show w.heap.size + 2 ≤ _ by omega)))
        go_roundw
        case rel => exact ⟨j + 1, _, _, _, rfl, rfl, rfl, hid ((best_step hh.out hlt).1 hb), g1.1, g1.2, by omega, by omega, hB.trans (hB2.mono (by omega))⟩
        case measure => simp [intOf]; omega
      · go_wp2_with (go_at_call 62; refine (c62 c _ _ _ _ _ tu1 tu2 h0 h1 (by omega) (by omega)).mono ?_; rintro e w2 ⟨rfl, hB2⟩; have hz2 : w.heap.size + 1 < w2.heap.size := (by have := hB2.size; omega); obtain ⟨hc2, hf2⟩ := bcell (hB2.mono (show w.heap.size + 2 ≤ _ by omega)))
        go_roundw
        case rel => exact ⟨j + 1, _, _, _, rfl, rfl, rfl, hid ((best_step hh.out hlt).2 (by omega)), y0, y1, by omega, by omega, hB.trans (hB2.mono (by omega))⟩
        case measure => simp [intOf]; omega
    · go_wp2_with fail
      go_returns
      obtain ⟨r1, r2, r3, r4⟩ := hh.out
      exact ⟨⟨j, r4, by rw [← r3]; omega, by rw [r1]; rfl⟩, by (repeat' (first | (with_reducible exact Below.refl _ _) | (with_reducible assumption) | (with_reducible refine Below.alloc ?_ ?_ _) | (with_reducible refine Below.drew ?_) | (with_reducible refine below_drewN ?_ _) | (with_reducible refine Below.setCell ?_ ?_ _) | (with_reducible refine Below.trans ?_ (Below.mono (by with_reducible assumption) ?_)) | go_size))⟩
end Go.Proofs.Ythkbiplmfbcabaa
