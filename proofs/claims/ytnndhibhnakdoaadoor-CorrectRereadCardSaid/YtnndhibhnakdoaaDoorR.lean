/- Stage 5: how many words are near. -/
import Derived.Test.YtnndhibhnakdoaaDoorQ3
set_option linter.unusedSimpArgs false
set_option linter.unusedVariables false
namespace Go.Proofs.YtnndhibhnakdoaaDoor
open Go.RowKit Go.BigFrame Go.Sort
open Gf (S)

/-- In how many ways k positions of n can be wrong. -/
def cnt (n : Nat) : Nat → Nat
  | 0 => 1
  | k + 1 => cnt n k * (n - k) * 15 / (k + 1)
/-- .. at most k - 1. -/
def nea (n : Nat) : Nat → Nat
  | 0 => 0
  | k + 1 => nea n k + cnt n k
theorem cnt_all : ∀ n : Fin 16, ∀ k : Fin 6, cnt n.val k.val ≤ 3000000000 ∧ nea n.val k.val ≤ 3000000000 := by decide +kernel
theorem cnt_le {n k : Nat} (hn : n ≤ 15) (hk : k ≤ 5) : cnt n k ≤ 3000000000 ∧ nea n k ≤ 3000000000 := cnt_all ⟨n, by omega⟩ ⟨k, by omega⟩
set_option maxRecDepth 100000 in
set_option maxHeartbeats 2000000 in
theorem c71 (n r : Nat) (w : World) (hn : n ≤ 15) (hr : r < n) (hr8 : r ≤ 8) : Calls Tryd.prog 71 #[cv n r] w fun e w' => e = .returned (.int .i64 (nea n (r / 2 + 1) : Nat)) ∧ Below w.heap.size w w' := by
  have hB0 : Hid (Below w.heap.size w (w.alloc (.cells #[.int .i64 (n : Nat), .int .i64 (r : Nat)] 66))) := hid (by (repeat' (first | (with_reducible exact Below.refl _ _) | (with_reducible assumption) | (with_reducible refine Below.alloc ?_ ?_ _) | (with_reducible refine Below.drew ?_) | (with_reducible refine below_drewN ?_ _) | (with_reducible refine Below.setCell ?_ ?_ _) | (with_reducible refine Below.trans ?_ (Below.mono (by with_reducible assumption) ?_)) | go_size)))
  have hX0 : Hid (Bx n r (w.alloc (.cells #[.int .i64 (n : Nat), .int .i64 (r : Nat)] 66)) w.heap.size) := hid (Bx.new n r w 66)
  obtain ⟨t, ht⟩ : ∃ t, t = r / 2 := ⟨_, rfl⟩
  have ht4 : t ≤ 4 := by omega
  have htn : t < n := by omega
  have ct := fun W => c67 n r 0 W (Nat.zero_le _) (by omega)
  rw [Nat.sub_zero, ← ht] at ct
  rw [← ht]
  have cth := hid ct
  clear ht ct
  go_enter Tryd.func71, Tryd.ntmps71
  go_wp2_with (go_at_call 67; refine (cth.out _).mono ?_; rintro e w1 ⟨rfl, hB1⟩; have hX1 := hid (hX0.out.below hB1 (by simp)); have hB1 := hid (hB0.out.trans (hB1.mono (by simp))))
  go_loopw [3, 4, 9] (fun nv cv iv wr => ∃ k : Nat, k ≤ t + 1 ∧ iv = .int .i64 k ∧ nv = .int .i64 (nea n k : Nat) ∧ cv = .int .i64 (cnt n k : Nat) ∧ wr = w1) (fun _ _ iv _ => t + 1 - (intOf iv).toNat)
  case atStart => exact ⟨0, Nat.zero_le _, rfl, rfl, rfl, rfl⟩
  case round =>
    obtain ⟨k, hk, rfl, rfl, rfl, rfl⟩ := hrel
    obtain ⟨b1, b2⟩ := cnt_le hn (show k ≤ 5 by omega)
    obtain ⟨p1, p2⟩ := hX1.out
    by_cases hlt : k < t + 1
    · obtain ⟨x, hx⟩ : ∃ x, x = cnt n k := ⟨_, rfl⟩
      obtain ⟨y, hy⟩ : ∃ y, y = nea n k := ⟨_, rfl⟩
      obtain ⟨M, hM⟩ : ∃ M : Nat, M = n - k := ⟨_, rfl⟩
      have hM15 : M ≤ 15 := by omega
      have eM : (n : Int) - (k : Int) = (M : Int) := by omega
      obtain ⟨z, hz⟩ : ∃ z : Nat, z = x * M := ⟨_, rfl⟩
      rw [← hx] at b1 ⊢
      rw [← hy] at b2 ⊢
      have hz2 : z ≤ 45000000000 := by rw [hz]; calc x * M ≤ 3000000000 * 15 := Nat.mul_le_mul b1 hM15
        _ = 45000000000 := rfl
      have ez : (x : Int) * (M : Int) = (z : Int) := by rw [hz]; push_cast; rfl
      have hxh := hid hx
      have hyh := hid hy
      have hzh := hid hz
      have hMh := hid hM
      clear hx hy hz hM
      go_wp2_with fail
      go_roundw
      case rel =>
        refine ⟨k + 1, by omega, by go_num, ?_, ?_, trivial⟩
        · rw [nea, ← hxh.out, ← hyh.out]; go_num
        · rw [cnt, ← hxh.out, ← hMh.out, ← hzh.out]
          have : (z : Int) * 15 / ((k : Int) + 1) = ((z * 15 / (k + 1) : Nat) : Int) := by push_cast; rfl
          rw [this]
      case measure => simp [intOf]; omega
    · go_wp2_with fail
      go_returns
      obtain rfl : k = t + 1 := by omega
      exact ⟨rfl, hB1.out⟩
/-- The steps by which the zeros at the end of a number are counted. -/
def ch1 (x : Nat) : Int := IntKind.u64.wrap (-(x : Int))
def ch2 (x : Nat) : Int := bits .and .u64 (x : Int) (ch1 x)
def ch3 (x : Nat) : Int := IntKind.u64.wrap (ch2 x * 285870213051353865)
def ch4 (x : Nat) : Nat := (ch3 x / 288230376151711744).toNat
def tz (x : Nat) : Nat := dbl[ch4 x]!
/-- The count comes out. -/
def tzOk (x : Nat) : Bool := decide (((ch4 x : Nat) : Int) = ch3 x / 288230376151711744) && decide (ch4 x < 64)
theorem dbl_all : ∀ i : Fin 64, dbl[i.val]! < 64 := by decide +kernel
set_option maxRecDepth 100000 in
set_option maxHeartbeats 2000000 in
theorem c98 (x : Nat) (w : World) (hT : Tab w) (h0 : 0 < x) (hx : x ≤ 4000000000) (h1 : tzOk x = true) :
    Calls Tryd.prog 98 #[.int .u64 (x : Nat)] w fun e w' => e = .returned (.int .i64 (tz x : Nat)) ∧ w = w' := by
  have e0 : ((x : Int) == 0) = false := by simp; omega
  simp only [tzOk, Bool.and_eq_true, decide_eq_true_eq] at h1
  obtain ⟨h4, h5⟩ := h1
  obtain ⟨y, hy⟩ : ∃ y, IntKind.u64.wrap (-(x : Int)) = y := ⟨_, rfl⟩
  obtain ⟨b, hb⟩ : ∃ b, bits .and .u64 (x : Int) y = b := ⟨_, rfl⟩
  obtain ⟨m, hm⟩ : ∃ m, IntKind.u64.wrap (b * 285870213051353865) = m := ⟨_, rfl⟩
  obtain ⟨i, hi⟩ : ∃ i, ch4 x = i := ⟨_, rfl⟩
  have e3 : ch3 x = m := by unfold ch3 ch2 ch1; rw [hy, hb, hm]
  rw [hi] at h4 h5
  rw [e3] at h4
  have h6 : m / 288230376151711744 = (i : Int) := h4.symm
  have h7 := hT.db i h5
  have h8 : tz x = dbl[i]! := by unfold tz; rw [hi]
  have h9 : (i : Int) < 64 := by omega
  rw [h8]
  have h10 : dbl[i]! < 64 := dbl_all ⟨i, h5⟩
  obtain ⟨s, hs⟩ : ∃ s, s = dbl[i]! := ⟨_, rfl⟩
  rw [← hs] at h7 h10 ⊢
  clear h4 e3 hT hi h8 hs
  go_enter Tryd.func98, Tryd.ntmps98
  go_wp2_with fail
  go_ret
  exact ⟨rfl, rfl⟩
theorem tz_lt {x : Nat} (h : tzOk x = true) : tz x < 64 := by
  simp only [tzOk, Bool.and_eq_true, decide_eq_true_eq] at h
  exact dbl_all ⟨ch4 x, h.2⟩
set_option maxRecDepth 100000 in
set_option maxHeartbeats 2000000 in
theorem c72 (x : Nat) (w : World) (hT : Tab w) (h0 : 0 < x) (hx : x ≤ 4000000000) (h1 : tzOk x = true) :
    Calls Tryd.prog 72 #[.int .u64 (x : Nat)] w fun e w' => e = .returned (.int .i64 (tz x : Nat)) ∧ w = w' := by
  go_enter Tryd.func72, Tryd.ntmps72
  go_wp2_with (go_at_call 98; refine (c98 x _ hT h0 hx h1).mono ?_; rintro e w' ⟨rfl, rfl⟩)
  go_ret
  exact ⟨rfl, rfl⟩
/-- The words that are near, and what Chance makes of them. -/
def ner (n r : Nat) : Nat := nea n (r / 2 + 1)
def acc (n r : Nat) : Nat := ner n r / 2 ^ tz (ner n r)
def off (n r : Nat) : Nat := 16 ^ r / 2 ^ tz (ner n r)
theorem ner_all : ∀ n : Fin 16, ∀ r : Fin 9, r.val < n.val → tzOk (ner n.val r.val) = true ∧ 0 < ner n.val r.val := by decide +kernel
theorem pow16 {k : Nat} (h : k ≤ 8) : 16 ^ k ≤ 4294967296 := Nat.pow_le_pow_right (n := 16) (by omega) h
set_option maxRecDepth 100000 in
set_option maxHeartbeats 4000000 in
theorem c31x (n r x s : Nat) (w : World) (hT : Tab w) (h : vld (n : Nat) (r : Nat)) (k2 : 0 < x) (k3 : x ≤ 4000000000) (k4 : s < 64)
    (hc71 : ∀ W, Calls Tryd.prog 71 #[cv n r] W fun e w' => e = .returned (.int .i64 (x : Nat)) ∧ Below W.heap.size W w') (hc72 : ∀ W, Tab W → Calls Tryd.prog 72 #[.int .u64 (x : Nat)] W fun e w' => e = .returned (.int .i64 (s : Nat)) ∧ W = w') :
    Calls Tryd.prog 31 #[cv n r] w fun e w' => e = .returned (.tuple #[.int .i64 ((x : Int) / 2 ^ s), .int .i64 (((16 ^ r : Nat) : Int) / 2 ^ s), .int .i64 0]) ∧ Below w.heap.size w w' := by
  have hh := hid h
  have hn := vld_nat h
  have hTh := hid hT
  have hB0 : Hid (Below w.heap.size w (w.alloc (.cells #[.int .i64 (n : Nat), .int .i64 (r : Nat)] 23))) := hid (by (repeat' (first | (with_reducible exact Below.refl _ _) | (with_reducible assumption) | (with_reducible refine Below.alloc ?_ ?_ _) | (with_reducible refine Below.drew ?_) | (with_reducible refine below_drewN ?_ _) | (with_reducible refine Below.setCell ?_ ?_ _) | (with_reducible refine Below.trans ?_ (Below.mono (by with_reducible assumption) ?_)) | go_size)))
  have c71h := hid hc71
  have c72h := hid hc72
  have hr8 : r ≤ 8 := by omega
  clear h hT hc71 hc72
  go_enter Tryd.func31, Tryd.ntmps31
  go_wp2_with (first | (go_at_call 44; refine (c44y (n : Nat) (r : Nat) _ hh.out).mono ?_; rintro e w1 ⟨rfl, hB1⟩; have hB1 := hid (hB0.out.trans (hB1.mono (by simp))); have hB2 : Hid (Below w.heap.size w (w1.alloc (.cells #[.int .i64 (n : Nat), .int .i64 (r : Nat)] 66))) := hid (hB1.out.alloc hB1.out.size _); have hX2 := hid (Bx.new n r w1 66)) | (go_at_call 71; refine (c71h.out _).mono ?_; rintro e w3 ⟨rfl, hB3⟩; have hX3 := hX2.out.below hB3 (by simp); obtain ⟨p1, p2⟩ := hX3; have hB33 := hid (hB2.out.trans (hB3.mono hB2.out.size))))
  go_loop [3, 20] (fun ov iv => ∃ k : Nat, k ≤ r ∧ iv = .int .i64 k ∧ ov = .int .i64 ((16 ^ k : Nat) : Nat)) (fun _ iv => r - (intOf iv).toNat)
  case atStart => exact ⟨0, Nat.zero_le _, rfl, rfl⟩
  case round =>
    obtain ⟨k, hk, rfl, rfl⟩ := hrel
    have hp := pow16 (show k ≤ 8 by omega)
    obtain ⟨y, hy⟩ : ∃ y, y = 16 ^ k := ⟨_, rfl⟩
    rw [← hy] at hp ⊢
    have hyh := hid hy
    clear hy
    by_cases hlt : k < r
    · go_wp2_with fail
      go_round
      case rel => exact ⟨k + 1, by omega, by go_num, by rw [Nat.pow_succ, ← hyh.out]; go_num⟩
      case measure => simp [intOf]; omega
    · go_wp2_with (go_at_call 72; refine (c72h.out _ (hTh.out.below hB33.out (Nat.le_refl _))).mono ?_; rintro e w' ⟨rfl, rfl⟩)
      go_quiet (fail)
      go_wp2_with fail
      go_returns
      obtain rfl : k = r := by omega
      rw [← hyh.out]
      exact ⟨rfl, below_drewN hB33.out _⟩
theorem c31y (n r : Nat) (w : World) (hT : Tab w) (h : vld (n : Nat) (r : Nat)) :
    Calls Tryd.prog 31 #[cv n r] w fun e w' => e = .returned (.tuple #[.int .i64 ((ner n r : Nat) / 2 ^ tz (ner n r) : Int), .int .i64 (((16 ^ r : Nat) : Int) / 2 ^ tz (ner n r)), .int .i64 0]) ∧ Below w.heap.size w w' := by
  have hn := vld_nat h
  obtain ⟨k1, k2⟩ := ner_all ⟨n, by omega⟩ ⟨r, by omega⟩ hn.2.2.2.2
  have k3 : nea n (r / 2 + 1) ≤ 3000000000 := (cnt_le (n := n) (k := r / 2 + 1) (by omega) (by omega)).2
  have k4 := tz_lt k1
  exact c31x n r (ner n r) (tz (ner n r)) w hT h k2 (Nat.le_trans k3 (by omega)) k4 (fun W => c71 n r W (by omega) (by omega) (by omega)) (fun W hW => c72 (ner n r) W hW k2 (Nat.le_trans k3 (by omega)) k1)
set_option maxRecDepth 100000 in
set_option maxHeartbeats 2000000 in
theorem c31n (L P : Int) (w : World) (h : ¬ vld L P) : Calls Tryd.prog 31 #[.agg #[.int .i64 L, .int .i64 P]] w fun e w' => e = .returned (.tuple #[.int .i64 0, .int .i64 0, .int .i64 50]) ∧ Below w.heap.size w w' := by
  have hh := hid h
  have hB0 : Hid (Below w.heap.size w (w.alloc (.cells #[.int .i64 L, .int .i64 P] 23))) := hid (by (repeat' (first | (with_reducible exact Below.refl _ _) | (with_reducible assumption) | (with_reducible refine Below.alloc ?_ ?_ _) | (with_reducible refine Below.drew ?_) | (with_reducible refine below_drewN ?_ _) | (with_reducible refine Below.setCell ?_ ?_ _) | (with_reducible refine Below.trans ?_ (Below.mono (by with_reducible assumption) ?_)) | go_size)))
  clear h
  go_enter Tryd.func31, Tryd.ntmps31
  go_wp2_with (go_at_call 44; refine (c44n L P _ hh.out).mono ?_; rintro e w1 ⟨rfl, hB1⟩; have hB1 := hid (hB0.out.trans (hB1.mono (by simp))))
  go_returns
  exact ⟨rfl, by have := hB1.out; have := hB1.out.size; (repeat' (first | (with_reducible exact Below.refl _ _) | (with_reducible assumption) | (with_reducible refine Below.alloc ?_ ?_ _) | (with_reducible refine Below.drew ?_) | (with_reducible refine below_drewN ?_ _) | (with_reducible refine Below.setCell ?_ ?_ _) | (with_reducible refine Below.trans ?_ (Below.mono (by with_reducible assumption) ?_)) | go_size))⟩
end Go.Proofs.YtnndhibhnakdoaaDoor
