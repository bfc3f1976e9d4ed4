/- Stage 6: the examples hold. -/
import Derived.Test.YtajllhjoagldkaaV
import Derived.Test.YtajllhjoagldkaaU
set_option linter.unusedSimpArgs false
set_option linter.unusedVariables false
namespace Go.Proofs.Ytajllhjoagldkaa
open Go.RowKit Go.Maps Go.WideMaps

theorem c15A (w : World) : Calls Try.prog 15 #[.agg #[.int .i64 6, .int .i64 2, .int .i64 3, .int .i64 1, .int .i64 1, .int .i64 2], .int .i64 3] w fun e w' => (∃ A c, e = .returned (.tuple #[.slice A 15 c, .int .i64 0])) ∧ Below w.heap.size w w' :=
  (show Calls Try.prog 15 #[exA.v, .int .i64 (3 : Nat)] w (RetL exA (trB exA (3 : Nat)) w) from c15 exA 3 w exA_ok (by decide)).mono fun e w' hr => by
    obtain ⟨v, f, rfl, hG, hO, hB⟩ := hr
    have h15 := ex1 hG
    obtain ⟨A, b, c, rfl, _, _⟩ := Sps.of_owns hO
    rw [h15]
    exact ⟨⟨A, c, rfl⟩, hB⟩
theorem c16B (w : World) : Calls Try.prog 16 #[.agg #[.int .i64 6, .int .i64 2, .int .i64 3, .int .i64 0, .int .i64 0, .int .i64 0], .int .i64 3, .agg #[.int .i64 0, .int .i64 0]] w fun e w' => e = .returned (.tuple #[.int .i64 3, .int .i64 1, .int .i64 0]) ∧ Below w.heap.size w w' :=
  (show Calls Try.prog 16 #[exB.v, .int .i64 (3 : Nat), .agg #[.int .i64 0, .int .i64 0]] w (RetS exB 3 0 0 w) from c16 exB 3 0 0 w exB_ok (by decide) (by decide)).mono fun e w' hr => by
    obtain ⟨f0, hG, hr, hB⟩ := hr
    obtain ⟨h3, h2, hl⟩ := ex2 hG
    rcases hr with ⟨hlost, _⟩ | ⟨n, _, ⟨hn1, hn2⟩, rfl⟩
    · have := hlost 3
      rw [h3] at this
      cases this
    · have e1 : n ≤ 3 := hn2 3 h3
      have e2 : ¬ n ≤ 2 := fun h => by
        have := lvl_mono h hn1
        rw [h2] at this
        cases this
      obtain rfl : n = 3 := by omega
      refine ⟨?_, hB⟩
      rw [show (3 - 1 : Nat) = 2 from rfl, hl]
      rfl
theorem c32B (w : World) : Calls Try.prog 32 #[.agg #[.int .i64 6, .int .i64 2, .int .i64 3, .int .i64 0, .int .i64 0, .int .i64 0]] w fun e w' => e = .returned (.tuple #[.int .i64 5, .int .i64 0]) ∧ Below w.heap.size w w' :=
  (c32 exB w exB_ok (fun f0 fs h0 hs => by
    have e4 := ex4 h0
    have e3 := ex3 hs
    subst e3
    exact fun p v h => ⟨5, e4.1 p v h⟩) (fun fs hs => by
    have e3 := ex3 hs
    subst e3
    exact ⟨0, 0, by decide⟩)).mono fun e w' hr => by
    obtain ⟨⟨f0, fs, N, h0, hs, rfl, h1, h2⟩, hB⟩ := hr
    have e4 := ex4 h0
    have e3 := ex3 hs
    subst e3
    have k1 : ¬ N ≤ 4 := fun h => by
      have := lvl_mono h (h1 6 2 (by decide))
      rw [e4.2] at this
      cases this
    have k2 : N ≤ 5 := by
      rcases h2 with h2 | ⟨p, v, h3, h4⟩
      · omega
      · rcases Nat.lt_or_ge 5 N with h | h
        · have := lvl_mono (show 5 ≤ N - 1 by omega) (e4.1 p v h3)
          rw [h4] at this
          cases this
        · exact h
    obtain rfl : N = 5 := by omega
    exact ⟨rfl, hB⟩
set_option maxRecDepth 100000 in
set_option maxHeartbeats 4000000 in
theorem c14 (w : World) : Calls Try.prog 14 #[] w fun e w' => e = .returned (.bool true) ∧ Below w.heap.size w w' := by
  go_enter Try.func14, Try.ntmps14
  go_wp2_with (first | (go_at_call 42; refine (c42 _).mono ?_; rintro e w1 ⟨rfl, hB1⟩; have hz1 := hB1.size) | (go_at_call 15; refine (c15A _).mono ?_; rintro e w2 ⟨⟨A, c, rfl⟩, hB2⟩; obtain ⟨hc2, hf2⟩ := bcell hB2; have hz2 : w1.heap.size + 1 < w2.heap.size := (by have := hB2.size; simp at this; omega)) | (go_at_call 16; refine (c16B _).mono ?_; rintro e w3 ⟨rfl, hB3⟩; obtain ⟨hc3, hf3⟩ := bcell hB3; have hz3 : w1.heap.size + 1 < w3.heap.size := (by have := hB3.size; omega)) | (go_at_call 32; refine (c32B _).mono ?_; rintro e w4 ⟨rfl, hB4⟩))
  go_returns
  exact ⟨rfl, by (repeat' (first | (with_reducible exact Below.refl _ _) | (with_reducible assumption) | (with_reducible refine Below.alloc ?_ ?_ _) | (with_reducible refine Below.drew ?_) | (with_reducible refine below_drewN ?_ _) | (with_reducible refine Below.setCell ?_ ?_ _) | (with_reducible refine Below.trans ?_ (Below.mono (by with_reducible assumption) ?_)) | go_size))⟩
end Go.Proofs.Ytajllhjoagldkaa
