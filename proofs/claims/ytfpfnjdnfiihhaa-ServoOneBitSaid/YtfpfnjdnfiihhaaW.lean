/- Stage 2: the theorem of the one bit. -/
import Derived.Test.YtfpfnjdnfiihhaaY
set_option linter.unusedSimpArgs false
set_option linter.unusedVariables false
namespace Go.Proofs.Ytfpfnjdnfiihhaa
open Go.RowKit

theorem lt_of_wf {n : Int} (h : (Lit.int .i64 n).wf = true) : n < 9223372036854775808 := by
  simp [Lit.wf, IntKind.min, IntKind.max, IntKind.signed, IntKind.bits] at h
  omega
theorem trk_mix {n : Nat} (M : Nat) (h : n < 127) : mixB (gray n) (gray (n + 1)) M < 128 ∧ (trk (mixB (gray n) (gray (n + 1)) M) = n ∨ trk (mixB (gray n) (gray (n + 1)) M) = n + 1) := by
  rcases mix_gray M h with e | e <;> rw [e]
  · exact ⟨gray_lt (by omega), .inl (trk_gray (by omega))⟩
  · exact ⟨gray_lt (by omega), .inr (trk_gray (by omega))⟩
theorem bit_at {a b : Nat} (h : bits .xor .i64 (a : Int) (b : Int) = ((a ^^^ b : Nat) : Int)) (hl : a ^^^ b < 128) (i : Nat) :
    bits BinOp.and IntKind.i64 (bits BinOp.xor IntKind.i64 (a : Int) (b : Int) / 2 ^ i) 1 = (((a ^^^ b) / 2 ^ i % 2 : Nat) : Int) := by
  have e : ((a ^^^ b : Nat) : Int) / 2 ^ i = (((a ^^^ b) / 2 ^ i : Nat) : Int) := by simp
  have hd : (a ^^^ b) / 2 ^ i ≤ a ^^^ b := Nat.div_le_self _ _
  rw [h, e]
  have h1 := and_i64 (a := (a ^^^ b) / 2 ^ i) (b := 1) (by omega) (by omega)
  rw [show ((1 : Nat) : Int) = 1 by rfl] at h1
  rw [h1, Nat.and_one_is_mod]
set_option maxRecDepth 100000 in
set_option maxHeartbeats 2000000 in
theorem c3 (n mix : Int) (w : World) (hmx : mix < 9223372036854775808) : Calls Try.prog 3 #[.int .i64 n, .int .i64 mix] w fun e w' => e = .returned (.bool true) ∧ Below w.heap.size w w' := by
  by_cases h : n < 0 ∨ 127 ≤ n ∨ mix < 0
  · rcases h with h | h | h
    · go_enter Try.func3, Try.ntmps3
      go_wp2_with (go_at_call 13; refine (c13 _).mono ?_; rintro e w1 ⟨rfl, hB1⟩)
      go_ret
      exact ⟨rfl, hB1⟩
    · have h2 : ¬ n < 0 := by omega
      go_enter Try.func3, Try.ntmps3
      go_wp2_with (go_at_call 13; refine (c13 _).mono ?_; rintro e w1 ⟨rfl, hB1⟩)
      go_ret
      exact ⟨rfl, hB1⟩
    · by_cases h2 : n < 0 <;> by_cases h3 : 127 ≤ n
      all_goals
        go_enter Try.func3, Try.ntmps3
        go_wp2_with (go_at_call 13; refine (c13 _).mono ?_; rintro e w1 ⟨rfl, hB1⟩)
        go_ret
        exact ⟨rfl, hB1⟩
  · obtain ⟨k, rfl⟩ : ∃ k : Nat, n = k := ⟨n.toNat, by omega⟩
    obtain ⟨m, rfl⟩ : ∃ m : Nat, mix = m := ⟨mix.toNat, by omega⟩
    have hk : k < 127 := by omega
    clear h
    obtain ⟨a, ha⟩ : ∃ a, a = gray k := ⟨_, rfl⟩
    obtain ⟨b, hb⟩ : ∃ b, b = gray (k + 1) := ⟨_, rfl⟩
    have ha1 : a < 128 := by rw [ha]; exact gray_lt (by omega)
    have hb1 : b < 128 := by rw [hb]; exact gray_lt (by omega)
    have hmix := trk_mix m hk
    have hpc := hid (pc_gray ⟨k, hk⟩)
    have htk := hid (trk_gray (show k < 128 by omega))
    simp only at hpc
    have hah := hid ha
    have hbh := hid hb
    rw [← ha, ← hb] at hmix
    have hK := hid (show bits .or .i64 (bits .and .i64 (a : Int) (m : Int)) (bits .andNot .i64 (b : Int) (m : Int)) = ((mixB a b m : Nat) : Int) by
      rw [and_i64 (by omega) (by omega), andnot_i64 (by omega) (by omega), or_i64 (Nat.and_lt_two_pow (n := 63) _ (by omega)) (Nat.xor_lt_two_pow (n := 63) (by omega) (Nat.and_lt_two_pow _ (by omega)))]; rfl)
    have hxr := hid (xor_cast ha1 hb1)
    have hxl := xor_lt128 ha1 hb1
    clear ha hb hmx
    have g1 : grayA (k : Int) = (a : Int) := by unfold grayA; rw [if_pos (by omega), show ((k : Int).toNat) = k by omega, hah.out]
    have g2 : grayA ((k : Int) + 1) = (b : Int) := by unfold grayA; rw [if_pos (by omega), show ((k : Int) + 1).toNat = k + 1 by omega, hbh.out]
    have g3 : argE (k : Int) = 0 := by unfold argE; rw [if_pos (by omega)]
    have g4 : argE ((k : Int) + 1) = 0 := by unfold argE; rw [if_pos (by omega)]
    go_enter Try.func3, Try.ntmps3
    go_wp2_with ((go_at_call 14; refine (c14_any _ _).mono ?_; rintro e w' ⟨rfl, rfl⟩))
    clear g1 g2 g3 g4
    go_loop [9, 10] (fun d iv => ∃ i : Nat, i ≤ 7 ∧ iv = .int .i64 i ∧ d = .int .i64 (pc (a ^^^ b) i : Nat)) (fun _ iv => 7 - (intOf iv).toNat)
    case atStart => exact ⟨0, by omega, rfl, rfl⟩
    case round =>
      obtain ⟨i, hi, rfl, rfl⟩ := hrel
      have hpl := pc_le (a ^^^ b) i
      by_cases hlt : i < 7
      · have hbt := hid (bit_at hxr.out hxl i)
        have hb01 : 0 ≤ bits BinOp.and IntKind.i64 (bits BinOp.xor IntKind.i64 (a : Int) (b : Int) / 2 ^ i) 1 ∧ bits BinOp.and IntKind.i64 (bits BinOp.xor IntKind.i64 (a : Int) (b : Int) / 2 ^ i) 1 ≤ 1 := by rw [hbt.out]; omega
        go_wp2_with fail
        go_round
        case rel =>
          refine ⟨i + 1, by omega, by go_num, ?_⟩
          rw [hbt.out, ← Int.natCast_add]
          simp only [pc]
        case measure => simp [intOf]; omega
      · obtain rfl : i = 7 := by omega
        have hp1 : pc (a ^^^ b) 7 = 1 := by rw [hah.out, hbh.out]; exact hpc.out
        rw [hp1]
        have hK' := hK.out
        have t1 : argE ((mixB a b m : Nat) : Int) = 0 := by unfold argE; rw [if_pos (by omega)]
        have t2 : argE (a : Int) = 0 := by unfold argE; rw [if_pos (by omega)]
        have t3 : trkA (a : Int) = k := by unfold trkA; rw [if_pos (by omega), show ((a : Int).toNat) = a by omega, hah.out, htk.out]
        rcases hmix with ⟨hm1, hm2 | hm2⟩
        · have t4 : trkA ((mixB a b m : Nat) : Int) = k := by unfold trkA; rw [if_pos (by omega), show (((mixB a b m : Nat) : Int).toNat) = mixB a b m by omega, hm2]
          clear hm1 hm2 hp1 hpl
          go_wp2_with (first | (go_at_call 15; refine (c15_any _ _).mono ?_; rintro e w' ⟨rfl, rfl⟩) | (go_at_call 13; refine (c13 _).mono ?_; rintro e w1 ⟨rfl, hB1⟩))
          go_ret
          exact ⟨rfl, hB1⟩
        · have t4 : trkA ((mixB a b m : Nat) : Int) = (k : Int) + 1 := by unfold trkA; rw [if_pos (by omega), show (((mixB a b m : Nat) : Int).toNat) = mixB a b m by omega, hm2]; omega
          clear hm1 hm2 hp1 hpl
          go_wp2_with (first | (go_at_call 15; refine (c15_any _ _).mono ?_; rintro e w' ⟨rfl, rfl⟩) | (go_at_call 13; refine (c13 _).mono ?_; rintro e w1 ⟨rfl, hB1⟩))
          go_ret
          exact ⟨rfl, hB1⟩
end Go.Proofs.Ytfpfnjdnfiihhaa
