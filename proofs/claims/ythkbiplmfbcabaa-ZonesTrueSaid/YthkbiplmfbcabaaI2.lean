/- Stage 1: the errors of Wait and Number of package zones. -/
import Derived.Test.YthkbiplmfbcabaaB2
import Derived.Test.YthkbiplmfbcabaaC2
set_option linter.unusedSimpArgs false
set_option linter.unusedVariables false
namespace Go.Proofs.Ythkbiplmfbcabaa
open Go.RowKit Go.Sort

set_option maxRecDepth 100000 in
set_option maxHeartbeats 1000000 in
theorem c26_err (d : Dk) (n t : Int) (w : World) (hz : Zs w d) (hm : d.zs.length ≤ 1000000) (he : d.secErr n ≠ 0) :
    Calls Try.prog 26 #[d.v, .int .i64 n, .int .i64 t] w fun e w' => e = .returned (.tuple #[.int .i64 0, .int .i64 (d.secErr n)]) ∧ Below w.heap.size w w' := by
  by_cases ok : d.Ok
  · by_cases hn : 0 ≤ n ∧ n < d.count
    · exact absurd (Dk.secErr_yes ok hn) he
    · rw [Dk.secErr_no ok hn]
      clear he
      go_enter Try.func26, Try.ntmps26
      go_wp2_with (first | (go_at_call 46; refine (c46y d _ (by exact hz.below (by (repeat' (first | (with_reducible exact Below.refl _ _) | (with_reducible assumption) | (with_reducible refine Below.alloc ?_ ?_ _) | (with_reducible refine Below.drew ?_) | (with_reducible refine below_drewN ?_ _) | (with_reducible refine Below.setCell ?_ ?_ _) | (with_reducible refine Below.trans ?_ (Below.mono (by with_reducible assumption) ?_)) | go_size))) (Nat.le_refl _)) ok).mono ?_; rintro e w1 ⟨rfl, hB1⟩; obtain ⟨hc1, hf1⟩ := bcell (hB1.mono (show w.heap.size + 1 ≤ _ by first | omega | ((try simp only [World.size_alloc, World.size_drew, World.size_setCell]); omega))); have hz1 : w.heap.size < w1.heap.size := by (have := hB1.size; (try simp only [World.size_alloc, World.size_drew, World.size_setCell] at this); omega)) | (go_at_call 52; refine (c52n d ok n _ (by exact hz.below (by (repeat' (first | (with_reducible exact Below.refl _ _) | (with_reducible assumption) | (with_reducible refine Below.alloc ?_ ?_ _) | (with_reducible refine Below.drew ?_) | (with_reducible refine below_drewN ?_ _) | (with_reducible refine Below.setCell ?_ ?_ _) | (with_reducible refine Below.trans ?_ (Below.mono (by with_reducible assumption) ?_)) | go_size))) (Nat.le_refl _)) hn).mono ?_; rintro e w2 ⟨rfl, hB2⟩; obtain ⟨hc2, hf2⟩ := bcell (hB2.mono (show w.heap.size + 1 ≤ _ by first | omega | ((try simp only [World.size_alloc, World.size_drew, World.size_setCell]); omega))); have hz2 : w.heap.size < w2.heap.size := by (have := hB2.size; (try simp only [World.size_alloc, World.size_drew, World.size_setCell] at this); omega)))
      go_returns
      exact ⟨rfl, by (repeat' (first | (with_reducible exact Below.refl _ _) | (with_reducible assumption) | (with_reducible refine Below.alloc ?_ ?_ _) | (with_reducible refine Below.drew ?_) | (with_reducible refine below_drewN ?_ _) | (with_reducible refine Below.setCell ?_ ?_ _) | (with_reducible refine Below.trans ?_ (Below.mono (by with_reducible assumption) ?_)) | go_size))⟩
  · rw [Dk.secErr_not ok]
    clear he
    go_enter Try.func26, Try.ntmps26
    go_wp2_with (go_at_call 46; refine (c46n d _ (by exact hz.below (by (repeat' (first | (with_reducible exact Below.refl _ _) | (with_reducible assumption) | (with_reducible refine Below.alloc ?_ ?_ _) | (with_reducible refine Below.drew ?_) | (with_reducible refine below_drewN ?_ _) | (with_reducible refine Below.setCell ?_ ?_ _) | (with_reducible refine Below.trans ?_ (Below.mono (by with_reducible assumption) ?_)) | go_size))) (Nat.le_refl _)) hm ok).mono ?_; rintro e w1 ⟨rfl, hB1⟩; obtain ⟨hc1, hf1⟩ := bcell (hB1.mono (show w.heap.size + 1 ≤ _ by first | omega | ((try simp only [World.size_alloc, World.size_drew, World.size_setCell]); omega))); have hz1 : w.heap.size < w1.heap.size := by (have := hB1.size; (try simp only [World.size_alloc, World.size_drew, World.size_setCell] at this); omega))
    go_returns
    exact ⟨rfl, by (repeat' (first | (with_reducible exact Below.refl _ _) | (with_reducible assumption) | (with_reducible refine Below.alloc ?_ ?_ _) | (with_reducible refine Below.drew ?_) | (with_reducible refine below_drewN ?_ _) | (with_reducible refine Below.setCell ?_ ?_ _) | (with_reducible refine Below.trans ?_ (Below.mono (by with_reducible assumption) ?_)) | go_size))⟩

set_option maxRecDepth 100000 in
set_option maxHeartbeats 1000000 in
theorem c26_time (d : Dk) (n : Nat) (w : World) (hz : Zs w d) (ok : d.Ok) (hn : n < (places d).length) (tm : Int) (ht : tm < 0 ∨ 1000000 < tm) :
    Calls Try.prog 26 #[d.v, .int .i64 n, .int .i64 tm] w fun e w' => e = .returned (.tuple #[.int .i64 0, .int .i64 1]) ∧ Below w.heap.size w w' := by
  go_enter Try.func26, Try.ntmps26
  go_wp2_with (first | (go_at_call 50; refine (c50n _ (by omega)).mono ?_; rintro e w9 ⟨rfl, rfl⟩) | (go_at_call 46; refine (c46y d _ (by exact hz.below (by (repeat' (first | (with_reducible exact Below.refl _ _) | (with_reducible assumption) | (with_reducible refine Below.alloc ?_ ?_ _) | (with_reducible refine Below.drew ?_) | (with_reducible refine below_drewN ?_ _) | (with_reducible refine Below.setCell ?_ ?_ _) | (with_reducible refine Below.trans ?_ (Below.mono (by with_reducible assumption) ?_)) | go_size))) (Nat.le_refl _)) ok).mono ?_; rintro e w1 ⟨rfl, hB1⟩; obtain ⟨hc1, hf1⟩ := bcell (hB1.mono (show w.heap.size + 1 ≤ _ by first | omega | ((try simp only [World.size_alloc, World.size_drew, World.size_setCell]); omega))); have hz1 : w.heap.size < w1.heap.size := by (have := hB1.size; (try simp only [World.size_alloc, World.size_drew, World.size_setCell] at this); omega)) | (go_at_call 52; refine (c52y d ok n _ (by exact hz.below (by (repeat' (first | (with_reducible exact Below.refl _ _) | (with_reducible assumption) | (with_reducible refine Below.alloc ?_ ?_ _) | (with_reducible refine Below.drew ?_) | (with_reducible refine below_drewN ?_ _) | (with_reducible refine Below.setCell ?_ ?_ _) | (with_reducible refine Below.trans ?_ (Below.mono (by with_reducible assumption) ?_)) | go_size))) (Nat.le_refl _)) hn).mono ?_; rintro e w2 ⟨t, hto, hth, hp, hbt, hti, rfl, hB2⟩; have hz2 : w1.heap.size < w2.heap.size := (by have := hB2.size; (try simp only [World.size_alloc] at this); omega); clear hp hbt hti))
  go_returns
  exact ⟨rfl, by (repeat' (first | (with_reducible exact Below.refl _ _) | (with_reducible assumption) | (with_reducible refine Below.alloc ?_ ?_ _) | (with_reducible refine Below.drew ?_) | (with_reducible refine below_drewN ?_ _) | (with_reducible refine Below.setCell ?_ ?_ _) | (with_reducible refine Below.trans ?_ (Below.mono (by with_reducible assumption) ?_)) | go_size))⟩

set_option maxRecDepth 100000 in
set_option maxHeartbeats 1000000 in
theorem c20_err (d : Dk) (ok : ¬ d.Ok) (hm : d.zs.length ≤ 1000000) (a b s : Int) (w : World) (hz : Zs w d) :
    Calls Try.prog 20 #[d.v, .agg #[.int .i64 a, .int .i64 b, .int .i64 s]] w fun e w' => e = .returned (.tuple #[.int .i64 0, .int .i64 10]) ∧ Below w.heap.size w w' := by
  go_enter Try.func20, Try.ntmps20
  go_wp2_with (go_at_call 46; refine (c46n d _ (by exact hz.below (by (repeat' (first | (with_reducible exact Below.refl _ _) | (with_reducible assumption) | (with_reducible refine Below.alloc ?_ ?_ _) | (with_reducible refine Below.drew ?_) | (with_reducible refine below_drewN ?_ _) | (with_reducible refine Below.setCell ?_ ?_ _) | (with_reducible refine Below.trans ?_ (Below.mono (by with_reducible assumption) ?_)) | go_size))) (Nat.le_refl _)) hm ok).mono ?_; rintro e w1 ⟨rfl, hB1⟩; have hz1 : w.heap.size + 1 + 1 + 1 < w1.heap.size := (by have := hB1.size; (try simp only [World.size_alloc] at this); omega); have hy1 : w.heap.size + 1 + 1 < w1.heap.size := (by omega); have hy2 : w.heap.size + 1 < w1.heap.size := (by omega); have hy3 : w.heap.size < w1.heap.size := (by omega); obtain ⟨hc1, hf1⟩ := bcell (hB1.mono (show w.heap.size + 4 ≤ _ by first | omega | (simp; done))))
  refine bodyPost_ret (v := .tuple #[.int .i64 0, .int .i64 10]) (by simp [results, Try.results20, go_sem, hc1, hf1, hz1, hy1, hy2, hy3]) rfl ⟨rfl, ?_⟩
  (repeat' (first | (with_reducible exact Below.refl _ _) | (with_reducible assumption) | (with_reducible refine Below.alloc ?_ ?_ _) | (with_reducible refine Below.drew ?_) | (with_reducible refine below_drewN ?_ _) | (with_reducible refine Below.setCell ?_ ?_ _) | (with_reducible refine Below.trans ?_ (Below.mono (by with_reducible assumption) ?_)) | go_size))
end Go.Proofs.Ythkbiplmfbcabaa
