/- Stage 2: the codes of numbers. -/
import Derived.Test.YtfpfnjdnfiihhaaA
set_option linter.unusedSimpArgs false
set_option linter.unusedVariables false
namespace Go.Proofs.Ytfpfnjdnfiihhaa
open Go.RowKit

theorem ret2_eq {k k' : IntKind} {a a' b : Int} (h : a = a') : Ending.returned (.tuple #[.int k a, .int k' b]) = Ending.returned (.tuple #[.int k a', .int k' b]) := by rw [h]
theorem ret_eq {k : IntKind} {a a' : Int} (h : a = a') : Ending.returned (.int k a) = Ending.returned (.int k a') := by rw [h]
theorem gray_bits {n : Nat} (hn : n < 128) : bits .xor .i64 (n : Int) ((n : Int) / 2) = (gray n : Nat) := by
  have h := @xor_i64 n (n / 2) (by omega) (by omega)
  rw [show ((n / 2 : Nat) : Int) = (n : Int) / 2 by omega] at h
  exact h

theorem ret2_eq2 {k k' : IntKind} {a a' b b' : Int} (h : a = a') (h2 : b = b') : Ending.returned (.tuple #[.int k a, .int k' b]) = Ending.returned (.tuple #[.int k a', .int k' b']) := by rw [h, h2]
/-- What Gray and Track hand back. -/
def grayA (n : Int) : Int := if 0 ≤ n ∧ n ≤ 127 then (gray n.toNat : Nat) else 0
def trkA (n : Int) : Int := if 0 ≤ n ∧ n ≤ 127 then (trk n.toNat : Nat) else 0
def argE (n : Int) : Int := if 0 ≤ n ∧ n ≤ 127 then 0 else 1

set_option maxHeartbeats 400000 in
theorem c14 (n : Nat) (hn : n < 128) (w : World) : Calls Try.prog 14 #[.int .i64 (n : Int)] w fun e w' => e = .returned (.tuple #[.int .i64 (gray n : Nat), .int .i64 0]) ∧ w = w' := by
  go_enter Try.func14, Try.ntmps14
  go_wp2_with (go_at_call 46; refine (c46y _ ⟨by omega, by omega⟩).mono ?_; rintro e w' ⟨rfl, rfl⟩)
  go_ret2
  exact ⟨ret2_eq (gray_bits hn), rfl⟩
set_option maxHeartbeats 400000 in
theorem c14n (n : Int) (hn : ¬ (0 ≤ n ∧ n ≤ 127)) (w : World) : Calls Try.prog 14 #[.int .i64 n] w fun e w' => e = .returned (.tuple #[.int .i64 0, .int .i64 1]) ∧ w = w' := by
  have hh := hid hn
  clear hn
  go_enter Try.func14, Try.ntmps14
  go_wp2_with (go_at_call 46; refine (c46n _ hh.out).mono ?_; rintro e w' ⟨rfl, rfl⟩)
  go_ret2
  exact ⟨rfl, rfl⟩
theorem c14_any (n : Int) (w : World) : Calls Try.prog 14 #[.int .i64 n] w fun e w' => e = .returned (.tuple #[.int .i64 (grayA n), .int .i64 (argE n)]) ∧ w = w' := by
  unfold grayA argE
  by_cases h : 0 ≤ n ∧ n ≤ 127
  · rw [if_pos h, if_pos h]
    have := c14 n.toNat (by omega) w
    rwa [show ((n.toNat : Nat) : Int) = n by omega] at this
  · rw [if_neg h, if_neg h]; exact c14n n h w

theorem xor_cast {a b : Nat} (ha : a < 128) (hb : b < 128) : bits .xor .i64 (a : Int) (b : Int) = ((a ^^^ b : Nat) : Int) := xor_i64 (by omega) (by omega)
set_option maxHeartbeats 400000 in
theorem c15 (c : Nat) (hc : c < 128) (w : World) : Calls Try.prog 15 #[.int .i64 (c : Int)] w fun e w' => e = .returned (.tuple #[.int .i64 (trk c : Nat), .int .i64 0]) ∧ w = w' := by
  have h0 : trk c = trkGo 8 0 c := rfl
  have hz := hid h0
  clear h0
  go_enter Try.func15, Try.ntmps15
  go_wp2_with (go_at_call 46; refine (c46y _ ⟨by omega, by omega⟩).mono ?_; rintro e w' ⟨rfl, rfl⟩)
  go_loop [0, 4] (fun c' n => ∃ x y k : Nat, x < 128 ∧ y < 128 ∧ y < 2 ^ k ∧ trkGo k x y = trk c ∧ c' = .int .i64 (y : Int) ∧ n = .int .i64 (x : Int)) (fun c' _ => (intOf c').toNat)
  case atStart => exact ⟨0, c, 8, by omega, hc, by omega, hz.out.symm, rfl, rfl⟩
  case round =>
    obtain ⟨x, y, k, h1, h2, h3, h4, rfl, rfl⟩ := hrel
    have h4h := hid h4
    clear h4
    by_cases hy : 0 < y
    · have hxh := hid (xor_cast h1 h2)
      have hlt := xor_lt128 h1 h2
      go_wp2_with fail
      go_round
      case rel =>
        cases k with
        | zero => simp at h3; omega
        | succ k =>
          have h5 := h4h.out
          rw [trkGo_step hy] at h5
          exact ⟨x ^^^ y, y / 2, k, hlt, by omega, by rw [Nat.pow_succ] at h3; omega, h5, by rw [show ((y / 2 : Nat) : Int) = (y : Int) / 2 by omega], by rw [hxh.out]⟩
      case measure => simp [intOf]; omega
    · obtain rfl : y = 0 := by omega
      go_wp2_with fail
      go_ret2
      have h5 := h4h.out
      rw [trkGo_zero] at h5
      exact ⟨ret2_eq (by rw [h5]), rfl⟩
set_option maxHeartbeats 400000 in
theorem c15n (n : Int) (hn : ¬ (0 ≤ n ∧ n ≤ 127)) (w : World) : Calls Try.prog 15 #[.int .i64 n] w fun e w' => e = .returned (.tuple #[.int .i64 0, .int .i64 1]) ∧ w = w' := by
  have hh := hid hn
  clear hn
  go_enter Try.func15, Try.ntmps15
  go_wp2_with (go_at_call 46; refine (c46n _ hh.out).mono ?_; rintro e w' ⟨rfl, rfl⟩)
  go_ret2
  exact ⟨rfl, rfl⟩
theorem c15_any (n : Int) (w : World) : Calls Try.prog 15 #[.int .i64 n] w fun e w' => e = .returned (.tuple #[.int .i64 (trkA n), .int .i64 (argE n)]) ∧ w = w' := by
  unfold trkA argE
  by_cases h : 0 ≤ n ∧ n ≤ 127
  · rw [if_pos h, if_pos h]
    have := c15 n.toNat (by omega) w
    rwa [show ((n.toNat : Nat) : Int) = n by omega] at this
  · rw [if_neg h, if_neg h]; exact c15n n h w

set_option maxHeartbeats 400000 in
theorem c62 (n : Nat) (hn : n < 128) (w : World) : Calls Try.prog 62 #[.int .i64 (n : Int)] w fun e w' => e = .returned (.int .i64 (gray n : Nat)) ∧ w = w' := by
  go_enter Try.func62, Try.ntmps62
  go_wp2_with fail
  go_ret
  exact ⟨ret_eq (gray_bits hn), rfl⟩
set_option maxHeartbeats 400000 in
theorem c32 (n : Int) (w : World) : Calls Try.prog 32 #[.int .i64 n] w fun e w' => e = .returned (.tuple #[.int .i64 (grayA n), .int .i64 (argE n)]) ∧ w = w' := by
  unfold grayA argE
  by_cases h : 0 ≤ n ∧ n ≤ 127
  · rw [if_pos h, if_pos h]
    obtain ⟨k, rfl⟩ : ∃ k : Nat, n = k := ⟨n.toNat, by omega⟩
    have hk : k < 128 := by omega
    rw [show ((k : Int).toNat) = k by omega]
    clear h
    go_enter Try.func32, Try.ntmps32
    go_wp2_with (first | (go_at_call 61; refine (c61y _ ⟨by omega, by omega⟩).mono ?_; rintro e w' ⟨rfl, rfl⟩) | (go_at_call 62; refine (c62 k hk _).mono ?_; rintro e w' ⟨rfl, rfl⟩))
    go_ret2
    exact ⟨rfl, rfl⟩
  · rw [if_neg h, if_neg h]
    have hh := hid h
    clear h
    go_enter Try.func32, Try.ntmps32
    go_wp2_with (go_at_call 61; refine (c61n _ hh.out).mono ?_; rintro e w' ⟨rfl, rfl⟩)
    go_ret2
    exact ⟨rfl, rfl⟩

set_option maxRecDepth 100000 in
set_option maxHeartbeats 400000 in
theorem c33 (c : Int) (w : World) : Calls Try.prog 33 #[.int .i64 c] w fun e w' => e = .returned (.tuple #[.int .i64 (trkA c), .int .i64 (argE c)]) ∧ w = w' := by
  go_enter Try.func33, Try.ntmps33
  go_wp2
  go_loop [4] (fun n => ∃ k : Nat, k ≤ 128 ∧ (∀ j, j < k → (gray j : Int) ≠ c) ∧ n = .int .i64 (k : Int)) (fun n => 128 - (intOf n).toNat)
  case atStart => exact ⟨0, by omega, fun j hj => absurd hj (Nat.not_lt_zero _), rfl⟩
  case round =>
    obtain ⟨k, hk, hno, rfl⟩ := hrel
    have hnoh := hid hno
    clear hno
    by_cases hlt : k < 128
    · have hg := gray_lt hlt
      by_cases hc : (gray k : Int) = c
      · have e1 : trkA c = k := by
          unfold trkA
          rw [if_pos (by omega), ← hc, show ((gray k : Int).toNat) = gray k by omega, trk_gray hlt]
        have e2 : argE c = 0 := by unfold argE; rw [if_pos (by omega)]
        subst hc
        have e1h := hid e1
        have e2h := hid e2
        clear e1 e2
        go_wp2_with (go_at_call 62; refine (c62 k hlt _).mono ?_; rintro e w' ⟨rfl, rfl⟩)
        go_ret2
        exact ⟨ret2_eq2 e1h.out.symm e2h.out.symm, rfl⟩
      · have hcb : ((gray k : Int) == c) = false := by simpa using hc
        have hch := hid hc
        clear hc
        go_wp2_with (go_at_call 62; refine (c62 k hlt _).mono ?_; rintro e w' ⟨rfl, rfl⟩)
        go_round
        case rel =>
          refine ⟨k + 1, by omega, fun j hj => ?_, by go_num⟩
          by_cases e : j = k
          · subst e; exact hch.out
          · exact hnoh.out j (by omega)
        case measure => simp [intOf]; omega
    · obtain rfl : k = 128 := by omega
      have e0 : ¬ (0 ≤ c ∧ c ≤ 127) := by
        rintro ⟨h1, h2⟩
        have h3 := hnoh.out (trk c.toNat) (trk_lt (by omega))
        rw [gray_trk (by omega)] at h3
        omega
      have e1h := hid (show trkA c = 0 from if_neg e0)
      have e2h := hid (show argE c = 1 from if_neg e0)
      clear e0
      go_wp2_with fail
      go_ret2
      exact ⟨ret2_eq2 e1h.out.symm e2h.out.symm, rfl⟩
end Go.Proofs.Ytfpfnjdnfiihhaa
