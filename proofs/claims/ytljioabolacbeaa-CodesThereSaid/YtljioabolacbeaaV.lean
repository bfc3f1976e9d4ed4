/- Stage 4: the law of the way back. -/
import Derived.Test.YtljioabolacbeaaU
set_option linter.unusedSimpArgs false
set_option linter.unusedVariables false
namespace Go.Proofs.Ytljioabolacbeaa
open Go.RowKit

set_option maxRecDepth 100000 in
set_option maxHeartbeats 2000000 in
theorem c24z2 (s : Nat) (A : Option Addr) (c : Nat) (w : World) (hs : 1 ≤ s ∧ s ≤ 127) (hnk : A = none → c = 0) :
    Calls Try.prog 24 #[.int .i64 (s : Nat), .slice A 0 c] w fun e w' => ∃ A' c', e = .returned (.tuple #[.slice A' 0 c', .int .i64 0]) ∧ (A' = none → c' = 0) ∧ Below w.heap.size w w' := by
  have hz : Ints w A 0 0 0 (fun _ => 0) := ⟨fun k hk => absurd hk (Nat.not_lt_zero _), fun k hk => absurd hk (Nat.not_lt_zero _), fun k hk => absurd hk (Nat.not_lt_zero _)⟩
  have hnkh := hid hnk
  clear hnk
  go_enter Try.func24, Try.ntmps24
  go_wp2_with (first | (go_at_call 52; refine (c52y _ (by omega)).mono ?_; rintro e w' ⟨rfl, rfl⟩) | (go_at_call 47; refine (c47 A 0 0 0 c (fun _ => 0) 128 2 _ hz (by omega) (by omega)).mono ?_; intro e w1 hr; obtain ⟨rfl, hB1⟩ := hr.un.1 ⟨by omega, fun k hk => absurd hk (Nat.not_lt_zero _)⟩) | (go_at_call 53; refine (c53z A c _ hnkh.out).mono ?_; rintro e w2 ⟨A2, c2, rfl, hk2, hB2⟩; have hB := hB1.trans (hB2.mono hB1.size); have hk2h := hid hk2; clear hk2 hB1 hB2))
  go_loopw [24] (fun iv wr => iv = .int .i64 0 ∧ Below w.heap.size w wr) (fun _ _ => 0)
  case atStart => exact ⟨rfl, hB⟩
  case round =>
    clear hB
    obtain ⟨rfl, hB⟩ := hrel
    go_wp2_with fail
    go_returns
    exact ⟨A2, c2, rfl, hk2h.out, hB⟩
set_option maxRecDepth 100000 in
set_option maxHeartbeats 4000000 in
theorem c6 (s : Int) (A : Option Addr) (b o n c : Nat) (f : Nat → Int) (A2 : Option Addr) (b2 o2 n2 c2 : Nat) (g : Nat → Int) (w : World) (hz : Ints w A b o n f) (hk : A = none → c = 0) (hg : Ints w A2 b2 o2 n2 g) (hk2 : A2 = none → c2 = 0) :
    Calls Try.prog 6 #[.int .i64 s, .slice A n c, .slice A2 n2 c2] w fun e w' => e = .returned (.bool true) ∧ Below w.heap.size w w' := by
  have hwk := hid c14
  have hk := hid hk
  have hk2 := hid hk2
  by_cases h1 : s < 1
  · have d1 : decide (s < 1) = true := decide_eq_true h1
    go_enter Try.func6, Try.ntmps6
    go_wp2_with (first | (go_at_call 14; refine (hwk.out _).mono ?_; rintro e w5 ⟨rfl, hB5⟩))
    go_returns
    exact ⟨rfl, hB5⟩
  by_cases h2 : 127 < s
  · have d1 : decide (s < 1) = false := decide_eq_false h1
    have d2 : decide (127 < s) = true := decide_eq_true h2
    go_enter Try.func6, Try.ntmps6
    go_wp2_with (first | (go_at_call 14; refine (hwk.out _).mono ?_; rintro e w5 ⟨rfl, hB5⟩))
    go_returns
    exact ⟨rfl, hB5⟩
  have d1 : decide (s < 1) = false := decide_eq_false h1
  have d2 : decide (127 < s) = false := decide_eq_false h2
  by_cases h3 : 128 < n
  · have d3 : decide ((128 : Int) < (n : Int)) = true := decide_eq_true (by omega)
    have d4 : decide (128 < n) = true := decide_eq_true h3
    go_enter Try.func6, Try.ntmps6
    go_wp2_with (first | (go_at_call 14; refine (hwk.out _).mono ?_; rintro e w5 ⟨rfl, hB5⟩))
    go_returns
    exact ⟨rfl, hB5⟩
  have d3 : decide ((128 : Int) < (n : Int)) = false := decide_eq_false (by omega)
  have d4 : decide (128 < n) = false := decide_eq_false h3
  by_cases h4 : n2 = n
  · subst h4
    by_cases ha : allB 2 n2 f
    · have hah := hid ha
      clear ha
      by_cases hb : allB 2 n2 g
      · have hbh := hid hb
        clear hb
        obtain ⟨t, rfl⟩ : ∃ t : Nat, s = t := ⟨s.toNat, by omega⟩
        by_cases h0 : 0 < n2
        · have e1 := hz.ad 0 h0
          have e2 := hg.ad 0 h0
          subst e1
          subst e2
          clear d1 d2 d3 d4
          exact c6p t none none b o n2 c b2 o2 c2 f g w hz hg h0 (by omega) (by omega) hah.out hbh.out
        · obtain rfl : n2 = 0 := by omega
          go_enter Try.func6, Try.ntmps6
          go_wp2_with (first | (go_at_call 23; refine (c23 _ _ _ _ _ _ _ (by first | exact hz | exact hg) (by omega)).mono ?_; intro e w1 hr; obtain ⟨rfl, rfl⟩ := hr.un.1 (by first | exact hah.out | exact hbh.out)) | (go_at_call 24; refine (c24z2 t x1 k1 w2 (by omega) n1.out).mono ?_; rintro e w3 ⟨x3, k3, rfl, _, hB3⟩; have hB23 := hid hB3; clear hB3) | (go_at_call 24; refine (c24z2 t A2 c2 w1 (by omega) hk2.out).mono ?_; rintro e w2 ⟨x2, k2, rfl, _, hB2⟩; have hB2 := hid hB2) | (go_at_call 24; refine (c24z2 t A c w (by omega) hk.out).mono ?_; rintro e w1 ⟨x1, k1, rfl, n1, hB1⟩; have hB1 := hid hB1; have n1 := hid n1) | (go_at_call 21; refine (c21y x3 A 0 b 0 o 0 k3 c f w3 ⟨fun k hk => absurd hk (Nat.not_lt_zero _), fun k hk => absurd hk (Nat.not_lt_zero _), fun k hk => absurd hk (Nat.not_lt_zero _)⟩ ⟨fun k hk => absurd hk (Nat.not_lt_zero _), fun k hk => absurd hk (Nat.not_lt_zero _), fun k hk => absurd hk (Nat.not_lt_zero _)⟩ (by omega)).mono ?_; rintro e w4 ⟨rfl, hB4⟩; have hB34 := hid hB4; clear hB4) | (go_at_call 14; refine (hwk.out _).mono ?_; rintro e w5 ⟨rfl, hB5⟩))
          go_loopw [13] (fun iv wr => iv = .int .i64 0 ∧ wr = w4) (fun _ _ => 0)
          case atStart => exact ⟨rfl, rfl⟩
          case round =>
            obtain ⟨rfl, rfl⟩ := hrel
            go_wp2_with (go_at_call 14; refine (hwk.out _).mono ?_; rintro e w5 ⟨rfl, hB5⟩)
            go_returns
            have h1 := hB1.out.trans ((hB2.out.trans ((hB23.out.trans (hB34.out.mono hB23.out.size)).mono hB2.out.size)).mono hB1.out.size)
            exact ⟨rfl, h1.trans (hB5.mono h1.size)⟩
      · have hbh := hid hb
        clear hb
        go_enter Try.func6, Try.ntmps6
        go_wp2_with (first | (go_at_call 14; refine (hwk.out _).mono ?_; rintro e w5 ⟨rfl, hB5⟩) | (go_at_call 23; refine (c23 _ _ _ _ _ _ _ (by first | exact hz | exact hg) (by omega)).mono ?_; rintro e w1 (⟨hp, rfl, rfl⟩ | ⟨hp, rfl, rfl⟩) <;> first | exact absurd hp hbh.out | skip))
        all_goals (go_returns; exact ⟨rfl, hB5⟩)
    · have hah := hid ha
      clear ha
      go_enter Try.func6, Try.ntmps6
      go_wp2_with (first | (go_at_call 14; refine (hwk.out _).mono ?_; rintro e w5 ⟨rfl, hB5⟩) | (go_at_call 23; refine (c23 A b o n2 c f _ hz (by omega)).mono ?_; intro e w1 hr; obtain ⟨rfl, rfl⟩ := hr.un.2 hah.out))
      go_returns
      exact ⟨rfl, hB5⟩
  · have d5 : ((n2 : Int) != (n : Int)) = true := by simp; omega
    have d6 : ((n2 : Int) == (n : Int)) = false := by simp; omega
    go_enter Try.func6, Try.ntmps6
    go_wp2_with (first | (go_at_call 14; refine (hwk.out _).mono ?_; rintro e w5 ⟨rfl, hB5⟩))
    go_returns
    exact ⟨rfl, hB5⟩
end Go.Proofs.Ytljioabolacbeaa
