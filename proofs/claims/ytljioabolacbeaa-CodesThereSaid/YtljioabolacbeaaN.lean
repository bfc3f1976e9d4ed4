/- Stage 4: data that are not changed: refused, or none. -/
import Derived.Test.YtljioabolacbeaaM
set_option linter.unusedSimpArgs false
set_option linter.unusedVariables false
namespace Go.Proofs.Ytljioabolacbeaa
open Go.RowKit

set_option maxRecDepth 100000 in
set_option maxHeartbeats 2000000 in
theorem c24z (s : Nat) (A : Option Addr) (c : Nat) (w : World) (hs : 1 ≤ s ∧ s ≤ 127) (hnk : A = none → c = 0) :
    Calls Try.prog 24 #[.int .i64 (s : Nat), .slice A 0 c] w fun e w' => ∃ A' c', e = .returned (.tuple #[.slice A' 0 c', .int .i64 0]) ∧ Below w.heap.size w w' := by
  have hz : Ints w A 0 0 0 (fun _ => 0) := ⟨fun k hk => absurd hk (Nat.not_lt_zero _), fun k hk => absurd hk (Nat.not_lt_zero _), fun k hk => absurd hk (Nat.not_lt_zero _)⟩
  have hnkh := hid hnk
  clear hnk
  go_enter Try.func24, Try.ntmps24
  go_wp2_with (first | (go_at_call 52; refine (c52y _ (by omega)).mono ?_; rintro e w' ⟨rfl, rfl⟩) | (go_at_call 47; refine (c47 A 0 0 0 c (fun _ => 0) 128 2 _ hz (by omega) (by omega)).mono ?_; intro e w1 hr; obtain ⟨rfl, hB1⟩ := hr.un.1 ⟨by omega, fun k hk => absurd hk (Nat.not_lt_zero _)⟩) | (go_at_call 53; refine (c53z A c _ hnkh.out).mono ?_; rintro e w2 ⟨A2, c2, rfl, hk2, hB2⟩; have hB := hB1.trans (hB2.mono hB1.size); have hk2h := hid hk2; clear hk2 hB1 hB2))
  go_loopw [24] (fun iv wr => iv = .int .i64 0 ∧ Below w.heap.size w wr) (fun _ _ => 0)
  case atStart => exact ⟨rfl, hB⟩
  case round =>
    clear hB
    obtain ⟨rfl, hB⟩ := hrel
    go_wp2_with fail
    go_returns
    exact ⟨A2, c2, rfl, hB⟩
set_option maxRecDepth 100000 in
set_option maxHeartbeats 2000000 in
theorem c24n (s : Int) (A : Option Addr) (b o n c : Nat) (f : Nat → Int) (w : World) (hz : Ints w A b o n f) (hn : n ≤ 1000000) (h : ¬ ((1 ≤ s ∧ s ≤ 127) ∧ (n : Int) ≤ 128 ∧ allB 2 n f)) :
    Calls Try.prog 24 #[.int .i64 s, .slice A n c] w fun e w' => e = .returned (.tuple #[.slice none 0 0, .int .i64 1]) ∧ Below w.heap.size w w' := by
  by_cases h1 : 1 ≤ s ∧ s ≤ 127
  · have hh : Hid (¬ ((n : Int) ≤ 128 ∧ allB 2 n f)) := hid fun h2 => h ⟨h1, h2⟩
    clear h
    go_enter Try.func24, Try.ntmps24
    go_wp2_with (first | (go_at_call 52; refine (c52y _ (by omega)).mono ?_; rintro e w' ⟨rfl, rfl⟩) | (go_at_call 47; refine (c47 A b o n c f 128 2 _ hz (by omega) (by omega)).mono ?_; intro e w1 hr; obtain ⟨rfl, hB1⟩ := hr.un.2 hh.out))
    go_returns
    exact ⟨rfl, hB1⟩
  · have hh := hid h1
    clear h h1
    go_enter Try.func24, Try.ntmps24
    go_wp2_with (go_at_call 52; refine (c52n _ hh.out).mono ?_; rintro e w' ⟨rfl, rfl⟩)
    go_returns
    exact ⟨rfl, Below.refl _ _⟩
set_option maxRecDepth 100000 in
set_option maxHeartbeats 2000000 in
theorem c42n (s : Int) (A : Option Addr) (b o n c : Nat) (f : Nat → Int) (w : World) (hz : Ints w A b o n f) (hn : n ≤ 1000000) (h : ¬ ((1 ≤ s ∧ s ≤ 127) ∧ (n : Int) ≤ 128 ∧ allB 2 n f)) :
    Calls Try.prog 42 #[.int .i64 s, .slice A n c] w fun e w' => e = .returned (.tuple #[.slice none 0 0, .int .i64 1]) ∧ Below w.heap.size w w' := by
  by_cases h1 : 1 ≤ s ∧ s ≤ 127
  · by_cases h2 : (n : Int) ≤ 128
    · have hh : Hid (¬ allB 2 n f) := hid fun h3 => h ⟨h1, h2, h3⟩
      have hd : decide ((128 : Int) < (n : Int)) = false := decide_eq_false (by omega)
      have hd2 : decide (128 < n) = false := decide_eq_false (by omega)
      clear h
      go_enter Try.func42, Try.ntmps42
      go_wp2_with (first | (go_at_call 49; refine (c49y _ (by omega)).mono ?_; rintro e w' ⟨rfl, rfl⟩) | (go_at_call 23; refine (c23 A b o n c f _ hz (by omega)).mono ?_; intro e w1 hr; obtain ⟨rfl, rfl⟩ := hr.un.2 hh.out))
      go_returns
      exact ⟨rfl, Below.refl _ _⟩
    · have hd : decide ((128 : Int) < (n : Int)) = true := decide_eq_true (by omega)
      have hd2 : decide (128 < n) = true := decide_eq_true (by omega)
      clear h
      go_enter Try.func42, Try.ntmps42
      go_wp2_with (go_at_call 49; refine (c49y _ (by omega)).mono ?_; rintro e w' ⟨rfl, rfl⟩)
      go_returns
      exact ⟨rfl, Below.refl _ _⟩
  · have hh := hid h1
    clear h h1
    go_enter Try.func42, Try.ntmps42
    go_wp2_with (go_at_call 49; refine (c49n _ hh.out).mono ?_; rintro e w' ⟨rfl, rfl⟩)
    go_returns
    exact ⟨rfl, Below.refl _ _⟩
end Go.Proofs.Ytljioabolacbeaa
