/- Stage 1: Place, Angle, Wait of package zones. -/
import Derived.Test.YthkbiplmfbcabaaZ
set_option linter.unusedSimpArgs false
set_option linter.unusedVariables false
namespace Go.Proofs.Ythkbiplmfbcabaa
open Go.RowKit Go.Sort

set_option maxRecDepth 100000 in
set_option maxHeartbeats 1000000 in
theorem c22_ok (d : Dk) (n : Nat) (w : World) (hz : Zs w d) (ok : d.Ok) (hn : n < (places d).length) :
    Calls Try.prog 22 #[d.v, .int .i64 n] w fun e w' => e = .returned (.tuple #[.agg #[.int .i64 (places d)[n].1, .int .i64 (places d)[n].2.1, .int .i64 (places d)[n].2.2], .int .i64 0]) ∧ Below w.heap.size w w' := by
  have hL := ok.lenPl
  have hB := ok.cntB
  unfold lenPlaces at hL
  go_enter Try.func22, Try.ntmps22
  go_wp2_with (first | (go_at_call 46; refine (c46y d _ (by exact hz.below (by (repeat' (first | (with_reducible exact Below.refl _ _) | (with_reducible assumption) | (with_reducible refine Below.alloc ?_ ?_ _) | (with_reducible refine Below.drew ?_) | (with_reducible refine below_drewN ?_ _) | (with_reducible refine Below.setCell ?_ ?_ _) | (with_reducible refine Below.trans ?_ (Below.mono (by with_reducible assumption) ?_)) | go_size))) (Nat.le_refl _)) ok).mono ?_; rintro e w1 ⟨rfl, hB1⟩; obtain ⟨hc1, hf1⟩ := bcell (hB1.mono (show w.heap.size + 2 ≤ _ by first | omega | ((try simp only [World.size_alloc, World.size_drew, World.size_setCell]); omega))); have hz1 : w.heap.size + 1 < w1.heap.size := by (have := hB1.size; (try simp only [World.size_alloc, World.size_drew, World.size_setCell] at this); omega)) | (go_at_call 52; refine (c52y d ok n _ (by exact hz.below (by (repeat' (first | (with_reducible exact Below.refl _ _) | (with_reducible assumption) | (with_reducible refine Below.alloc ?_ ?_ _) | (with_reducible refine Below.drew ?_) | (with_reducible refine below_drewN ?_ _) | (with_reducible refine Below.setCell ?_ ?_ _) | (with_reducible refine Below.trans ?_ (Below.mono (by with_reducible assumption) ?_)) | go_size))) (Nat.le_refl _)) hn).mono ?_; rintro e w2 ⟨t, hto, hth, hp, hbt, hti, rfl, hB2⟩; obtain ⟨hc2, hf2⟩ := bcell (hB2.mono (show w.heap.size + 2 ≤ _ by first | omega | ((try simp only [World.size_alloc]); omega))); have hz2 : w.heap.size + 1 < w2.heap.size := (by have := hB2.size; (try simp only [World.size_alloc] at this); omega); have q1 := hto.fi0; have q2 := hto.en; have q3 := hth.1; have q4 := hth.2; have q5 := hto.se2; have hph := hid hp; clear hp hbt hti))
  refine bodyPost_ret (v := .tuple #[.agg #[.int .i64 t.cy, .int .i64 t.hd, .int .i64 ((n : Int) - t.fi)], .int .i64 0]) (by simp [results, Try.results22, go_sem, hc1, hf1, hz1, hc2, hf2, hz2]) rfl ⟨?_, ?_⟩
  · rw [hph.out]
  · (repeat' (first | (with_reducible exact Below.refl _ _) | (with_reducible assumption) | (with_reducible refine Below.alloc ?_ ?_ _) | (with_reducible refine Below.drew ?_) | (with_reducible refine below_drewN ?_ _) | (with_reducible refine Below.setCell ?_ ?_ _) | (with_reducible refine Below.trans ?_ (Below.mono (by with_reducible assumption) ?_)) | go_size))

set_option maxHeartbeats 1000000 in
theorem c22_err (d : Dk) (n : Int) (w : World) (hz : Zs w d) (hm : d.zs.length ≤ 1000000) (he : d.secErr n ≠ 0) :
    Calls Try.prog 22 #[d.v, .int .i64 n] w fun e w' => e = .returned (.tuple #[.agg #[.int .i64 0, .int .i64 0, .int .i64 0], .int .i64 (d.secErr n)]) ∧ Below w.heap.size w w' := by
  by_cases ok : d.Ok
  · by_cases hn : 0 ≤ n ∧ n < d.count
    · exact absurd (Dk.secErr_yes ok hn) he
    · rw [Dk.secErr_no ok hn]
      clear he
      go_enter Try.func22, Try.ntmps22
      go_wp2_with (first | (go_at_call 46; refine (c46y d _ (by exact hz.below (by (repeat' (first | (with_reducible exact Below.refl _ _) | (with_reducible assumption) | (with_reducible refine Below.alloc ?_ ?_ _) | (with_reducible refine Below.drew ?_) | (with_reducible refine below_drewN ?_ _) | (with_reducible refine Below.setCell ?_ ?_ _) | (with_reducible refine Below.trans ?_ (Below.mono (by with_reducible assumption) ?_)) | go_size))) (Nat.le_refl _)) ok).mono ?_; rintro e w1 ⟨rfl, hB1⟩; obtain ⟨hc1, hf1⟩ := bcell (hB1.mono (show w.heap.size + 2 ≤ _ by first | omega | ((try simp only [World.size_alloc, World.size_drew, World.size_setCell]); omega))); have hz1 : w.heap.size + 1 < w1.heap.size := by (have := hB1.size; (try simp only [World.size_alloc, World.size_drew, World.size_setCell] at this); omega)) | (go_at_call 52; refine (c52n d ok n _ (by exact hz.below (by (repeat' (first | (with_reducible exact Below.refl _ _) | (with_reducible assumption) | (with_reducible refine Below.alloc ?_ ?_ _) | (with_reducible refine Below.drew ?_) | (with_reducible refine below_drewN ?_ _) | (with_reducible refine Below.setCell ?_ ?_ _) | (with_reducible refine Below.trans ?_ (Below.mono (by with_reducible assumption) ?_)) | go_size))) (Nat.le_refl _)) hn).mono ?_; rintro e w2 ⟨rfl, hB2⟩; obtain ⟨hc2, hf2⟩ := bcell (hB2.mono (show w.heap.size + 2 ≤ _ by first | omega | ((try simp only [World.size_alloc, World.size_drew, World.size_setCell]); omega))); have hz2 : w.heap.size + 1 < w2.heap.size := by (have := hB2.size; (try simp only [World.size_alloc, World.size_drew, World.size_setCell] at this); omega)))
      refine bodyPost_ret (v := .tuple #[.agg #[.int .i64 0, .int .i64 0, .int .i64 0], .int .i64 1]) (by simp [results, Try.results22, go_sem, hc1, hf1, hz1, hc2, hf2, hz2]) rfl ⟨rfl, ?_⟩
      (repeat' (first | (with_reducible exact Below.refl _ _) | (with_reducible assumption) | (with_reducible refine Below.alloc ?_ ?_ _) | (with_reducible refine Below.drew ?_) | (with_reducible refine below_drewN ?_ _) | (with_reducible refine Below.setCell ?_ ?_ _) | (with_reducible refine Below.trans ?_ (Below.mono (by with_reducible assumption) ?_)) | go_size))
  · rw [Dk.secErr_not ok]
    clear he
    go_enter Try.func22, Try.ntmps22
    go_wp2_with (go_at_call 46; refine (c46n d _ (by exact hz.below (by (repeat' (first | (with_reducible exact Below.refl _ _) | (with_reducible assumption) | (with_reducible refine Below.alloc ?_ ?_ _) | (with_reducible refine Below.drew ?_) | (with_reducible refine below_drewN ?_ _) | (with_reducible refine Below.setCell ?_ ?_ _) | (with_reducible refine Below.trans ?_ (Below.mono (by with_reducible assumption) ?_)) | go_size))) (Nat.le_refl _)) hm ok).mono ?_; rintro e w1 ⟨rfl, hB1⟩; obtain ⟨hc1, hf1⟩ := bcell (hB1.mono (show w.heap.size + 2 ≤ _ by first | omega | ((try simp only [World.size_alloc, World.size_drew, World.size_setCell]); omega))); have hz1 : w.heap.size + 1 < w1.heap.size := by (have := hB1.size; (try simp only [World.size_alloc, World.size_drew, World.size_setCell] at this); omega))
    refine bodyPost_ret (v := .tuple #[.agg #[.int .i64 0, .int .i64 0, .int .i64 0], .int .i64 10]) (by simp [results, Try.results22, go_sem, hc1, hf1, hz1]) rfl ⟨rfl, ?_⟩
    (repeat' (first | (with_reducible exact Below.refl _ _) | (with_reducible assumption) | (with_reducible refine Below.alloc ?_ ?_ _) | (with_reducible refine Below.drew ?_) | (with_reducible refine below_drewN ?_ _) | (with_reducible refine Below.setCell ?_ ?_ _) | (with_reducible refine Below.trans ?_ (Below.mono (by with_reducible assumption) ?_)) | go_size))
end Go.Proofs.Ythkbiplmfbcabaa
