/- Stage 1: ready, of the laws. -/
import Derived.Test.YthkbiplmfbcabaaJ2
set_option linter.unusedSimpArgs false
set_option linter.unusedVariables false
namespace Go.Proofs.Ythkbiplmfbcabaa
open Go.RowKit

theorem c13y (d : Dk) (w : World) (hz : Zs w d) (h : d.far) : Calls Try.prog 13 #[d.v] w fun e w' => e = .returned (.bool true) ∧ Below w.heap.size w w' :=
  (c13 d w hz).mono fun _ _ hr => by
    rcases hr with ⟨⟨_, h1⟩ | ⟨h1, _⟩, h2⟩
    · exact ⟨h1, h2⟩
    · exact absurd h h1
theorem c13n (d : Dk) (w : World) (hz : Zs w d) (h : ¬ d.far) : Calls Try.prog 13 #[d.v] w fun e w' => e = .returned (.bool false) ∧ Below w.heap.size w w' :=
  (c13 d w hz).mono fun _ _ hr => by
    rcases hr with ⟨⟨h1, _⟩ | ⟨_, h1⟩, h2⟩
    · exact absurd h1 h
    · exact ⟨h1, h2⟩

def RdyRet (d : Dk) (w : World) (e : Ending) (w' : World) : Prop := ((¬ d.far ∧ d.Ok ∧ e = .returned (.bool true)) ∨ (¬ (¬ d.far ∧ d.Ok) ∧ e = .returned (.bool false))) ∧ Below w.heap.size w w'

set_option maxRecDepth 100000 in
set_option maxHeartbeats 1000000 in
theorem c34 (d : Dk) (w : World) (hz : Zs w d) : Calls Try.prog 34 #[d.v] w (RdyRet d w) := by
  by_cases hf : d.far
  · have hh := hid hf
    go_enter Try.func34, Try.ntmps34
    go_wp2_with (go_at_call 13; refine (c13y d _ (by exact hz.below (by (repeat' (first | (with_reducible exact Below.refl _ _) | (with_reducible assumption) | (with_reducible refine Below.alloc ?_ ?_ _) | (with_reducible refine Below.drew ?_) | (with_reducible refine below_drewN ?_ _) | (with_reducible refine Below.setCell ?_ ?_ _) | (with_reducible refine Below.trans ?_ (Below.mono (by with_reducible assumption) ?_)) | go_size))) (Nat.le_refl _)) hh.out).mono ?_; rintro e w1 ⟨rfl, hB1⟩; obtain ⟨hc1, hf1⟩ := bcell (hB1.mono (show w.heap.size + 1 ≤ _ by first | omega | ((try simp only [World.size_alloc, World.size_drew, World.size_setCell]); omega))); have hz1 : w.heap.size < w1.heap.size := by (have := hB1.size; (try simp only [World.size_alloc, World.size_drew, World.size_setCell] at this); omega))
    go_returns
    exact ⟨.inr ⟨fun h => h.1 hh.out, rfl⟩, by (repeat' (first | (with_reducible exact Below.refl _ _) | (with_reducible assumption) | (with_reducible refine Below.alloc ?_ ?_ _) | (with_reducible refine Below.drew ?_) | (with_reducible refine below_drewN ?_ _) | (with_reducible refine Below.setCell ?_ ?_ _) | (with_reducible refine Below.trans ?_ (Below.mono (by with_reducible assumption) ?_)) | go_size))⟩
  · have hh := hid hf
    have hm : d.zs.length ≤ 1000000 := by
      rcases Nat.lt_or_ge 20 d.zs.length with h | h
      · exact absurd (.inl h) hf
      · omega
    by_cases ok : d.Ok
    · have he := Dk.err_ok ok
      have ho := hid ok
      clear hf ok
      go_enter Try.func34, Try.ntmps34
      go_wp2_with (first | (go_at_call 13; refine (c13n d _ (by exact hz.below (by (repeat' (first | (with_reducible exact Below.refl _ _) | (with_reducible assumption) | (with_reducible refine Below.alloc ?_ ?_ _) | (with_reducible refine Below.drew ?_) | (with_reducible refine below_drewN ?_ _) | (with_reducible refine Below.setCell ?_ ?_ _) | (with_reducible refine Below.trans ?_ (Below.mono (by with_reducible assumption) ?_)) | go_size))) (Nat.le_refl _)) hh.out).mono ?_; rintro e w1 ⟨rfl, hB1⟩; obtain ⟨hc1, hf1⟩ := bcell (hB1.mono (show w.heap.size + 1 ≤ _ by first | omega | ((try simp only [World.size_alloc, World.size_drew, World.size_setCell]); omega))); have hz1 : w.heap.size < w1.heap.size := by (have := hB1.size; (try simp only [World.size_alloc, World.size_drew, World.size_setCell] at this); omega)) | (go_at_call 17; refine (c17 d _ (by exact hz.below (by (repeat' (first | (with_reducible exact Below.refl _ _) | (with_reducible assumption) | (with_reducible refine Below.alloc ?_ ?_ _) | (with_reducible refine Below.drew ?_) | (with_reducible refine below_drewN ?_ _) | (with_reducible refine Below.setCell ?_ ?_ _) | (with_reducible refine Below.trans ?_ (Below.mono (by with_reducible assumption) ?_)) | go_size))) (Nat.le_refl _)) hm).mono ?_; rw [he]; rintro e w2 ⟨rfl, hB2⟩; obtain ⟨hc2, hf2⟩ := bcell (hB2.mono (show w.heap.size + 1 ≤ _ by first | omega | ((try simp only [World.size_alloc, World.size_drew, World.size_setCell]); omega))); have hz2 : w.heap.size < w2.heap.size := by (have := hB2.size; (try simp only [World.size_alloc, World.size_drew, World.size_setCell] at this); omega)))
      go_returns
      exact ⟨.inl ⟨hh.out, ho.out, rfl⟩, by (repeat' (first | (with_reducible exact Below.refl _ _) | (with_reducible assumption) | (with_reducible refine Below.alloc ?_ ?_ _) | (with_reducible refine Below.drew ?_) | (with_reducible refine below_drewN ?_ _) | (with_reducible refine Below.setCell ?_ ?_ _) | (with_reducible refine Below.trans ?_ (Below.mono (by with_reducible assumption) ?_)) | go_size))⟩
    · have he := Dk.err_not ok
      have ho := hid ok
      clear hf ok
      go_enter Try.func34, Try.ntmps34
      go_wp2_with (first | (go_at_call 13; refine (c13n d _ (by exact hz.below (by (repeat' (first | (with_reducible exact Below.refl _ _) | (with_reducible assumption) | (with_reducible refine Below.alloc ?_ ?_ _) | (with_reducible refine Below.drew ?_) | (with_reducible refine below_drewN ?_ _) | (with_reducible refine Below.setCell ?_ ?_ _) | (with_reducible refine Below.trans ?_ (Below.mono (by with_reducible assumption) ?_)) | go_size))) (Nat.le_refl _)) hh.out).mono ?_; rintro e w1 ⟨rfl, hB1⟩; obtain ⟨hc1, hf1⟩ := bcell (hB1.mono (show w.heap.size + 1 ≤ _ by first | omega | ((try simp only [World.size_alloc, World.size_drew, World.size_setCell]); omega))); have hz1 : w.heap.size < w1.heap.size := by (have := hB1.size; (try simp only [World.size_alloc, World.size_drew, World.size_setCell] at this); omega)) | (go_at_call 17; refine (c17 d _ (by exact hz.below (by (repeat' (first | (with_reducible exact Below.refl _ _) | (with_reducible assumption) | (with_reducible refine Below.alloc ?_ ?_ _) | (with_reducible refine Below.drew ?_) | (with_reducible refine below_drewN ?_ _) | (with_reducible refine Below.setCell ?_ ?_ _) | (with_reducible refine Below.trans ?_ (Below.mono (by with_reducible assumption) ?_)) | go_size))) (Nat.le_refl _)) hm).mono ?_; rw [he]; rintro e w2 ⟨rfl, hB2⟩; obtain ⟨hc2, hf2⟩ := bcell (hB2.mono (show w.heap.size + 1 ≤ _ by first | omega | ((try simp only [World.size_alloc, World.size_drew, World.size_setCell]); omega))); have hz2 : w.heap.size < w2.heap.size := by (have := hB2.size; (try simp only [World.size_alloc, World.size_drew, World.size_setCell] at this); omega)))
      go_returns
      exact ⟨.inr ⟨fun h => ho.out h.2, rfl⟩, by (repeat' (first | (with_reducible exact Below.refl _ _) | (with_reducible assumption) | (with_reducible refine Below.alloc ?_ ?_ _) | (with_reducible refine Below.drew ?_) | (with_reducible refine below_drewN ?_ _) | (with_reducible refine Below.setCell ?_ ?_ _) | (with_reducible refine Below.trans ?_ (Below.mono (by with_reducible assumption) ?_)) | go_size))⟩

set_option maxRecDepth 100000 in
set_option maxHeartbeats 1000000 in
theorem c41 (a b l h : Int) (w : World) (a0 : 0 ≤ a) (a1 : a ≤ 1000000000) (b0 : 0 ≤ b) (b1 : b ≤ 1000000000) (l0 : -1000000000 ≤ l) (l1 : l ≤ 1000000000) (h0 : -1000000000 ≤ h) (h1 : h ≤ 1000000000) :
    Calls Try.prog 41 #[.agg #[.int .i64 a, .int .i64 b], .int .i64 l, .int .i64 h] w fun e w' => e = .returned (.agg #[.int .i64 (min b (a + l)), .int .i64 (max (min b (a + l)) (b - h))]) ∧ Below w.heap.size w w' := by
  have hw1 := IntWalk.i64_in (a + l) ⟨by omega, by omega⟩
  have hw2 := IntWalk.i64_in (b - h) ⟨by omega, by omega⟩
  by_cases g1 : a + l < b
  · rw [show min b (a + l) = a + l by omega]
    by_cases g2 : a + l < b - h
    · rw [show max (a + l) (b - h) = b - h by omega]
      go_enter Try.func41, Try.ntmps41
      go_wp2_with (go_at_call 45; refine (c45 _ _ _).mono ?_; rintro e w1 ⟨rfl, hB1⟩; obtain ⟨hc1, hf1⟩ := bcell (hB1.mono (show w.heap.size + 2 ≤ _ by first | omega | ((try simp only [World.size_alloc, World.size_drew, World.size_setCell]); omega))); have hz1 : w.heap.size + 1 < w1.heap.size := by (have := hB1.size; (try simp only [World.size_alloc, World.size_drew, World.size_setCell] at this); omega))
      refine bodyPost_ret (v := .agg #[.int .i64 (a + l), .int .i64 (b - h)]) (by simp [results, Try.results41, go_sem, hc1, hf1, hz1]) rfl ⟨rfl, ?_⟩
      (repeat' (first | (with_reducible exact Below.refl _ _) | (with_reducible assumption) | (with_reducible refine Below.alloc ?_ ?_ _) | (with_reducible refine Below.drew ?_) | (with_reducible refine below_drewN ?_ _) | (with_reducible refine Below.setCell ?_ ?_ _) | (with_reducible refine Below.trans ?_ (Below.mono (by with_reducible assumption) ?_)) | go_size))
    · rw [show max (a + l) (b - h) = a + l by omega]
      go_enter Try.func41, Try.ntmps41
      go_wp2_with (go_at_call 45; refine (c45 _ _ _).mono ?_; rintro e w1 ⟨rfl, hB1⟩; obtain ⟨hc1, hf1⟩ := bcell (hB1.mono (show w.heap.size + 2 ≤ _ by first | omega | ((try simp only [World.size_alloc, World.size_drew, World.size_setCell]); omega))); have hz1 : w.heap.size + 1 < w1.heap.size := by (have := hB1.size; (try simp only [World.size_alloc, World.size_drew, World.size_setCell] at this); omega))
      refine bodyPost_ret (v := .agg #[.int .i64 (a + l), .int .i64 (a + l)]) (by simp [results, Try.results41, go_sem, hc1, hf1, hz1]) rfl ⟨rfl, ?_⟩
      (repeat' (first | (with_reducible exact Below.refl _ _) | (with_reducible assumption) | (with_reducible refine Below.alloc ?_ ?_ _) | (with_reducible refine Below.drew ?_) | (with_reducible refine below_drewN ?_ _) | (with_reducible refine Below.setCell ?_ ?_ _) | (with_reducible refine Below.trans ?_ (Below.mono (by with_reducible assumption) ?_)) | go_size))
  · rw [show min b (a + l) = b by omega]
    by_cases g2 : b < b - h
    · rw [show max b (b - h) = b - h by omega]
      go_enter Try.func41, Try.ntmps41
      go_wp2_with (go_at_call 45; refine (c45 _ _ _).mono ?_; rintro e w1 ⟨rfl, hB1⟩; obtain ⟨hc1, hf1⟩ := bcell (hB1.mono (show w.heap.size + 2 ≤ _ by first | omega | ((try simp only [World.size_alloc, World.size_drew, World.size_setCell]); omega))); have hz1 : w.heap.size + 1 < w1.heap.size := by (have := hB1.size; (try simp only [World.size_alloc, World.size_drew, World.size_setCell] at this); omega))
      refine bodyPost_ret (v := .agg #[.int .i64 b, .int .i64 (b - h)]) (by simp [results, Try.results41, go_sem, hc1, hf1, hz1]) rfl ⟨rfl, ?_⟩
      (repeat' (first | (with_reducible exact Below.refl _ _) | (with_reducible assumption) | (with_reducible refine Below.alloc ?_ ?_ _) | (with_reducible refine Below.drew ?_) | (with_reducible refine below_drewN ?_ _) | (with_reducible refine Below.setCell ?_ ?_ _) | (with_reducible refine Below.trans ?_ (Below.mono (by with_reducible assumption) ?_)) | go_size))
    · rw [show max b (b - h) = b by omega]
      go_enter Try.func41, Try.ntmps41
      go_wp2_with (go_at_call 45; refine (c45 _ _ _).mono ?_; rintro e w1 ⟨rfl, hB1⟩; obtain ⟨hc1, hf1⟩ := bcell (hB1.mono (show w.heap.size + 2 ≤ _ by first | omega | ((try simp only [World.size_alloc, World.size_drew, World.size_setCell]); omega))); have hz1 : w.heap.size + 1 < w1.heap.size := by (have := hB1.size; (try simp only [World.size_alloc, World.size_drew, World.size_setCell] at this); omega))
      refine bodyPost_ret (v := .agg #[.int .i64 b, .int .i64 b]) (by simp [results, Try.results41, go_sem, hc1, hf1, hz1]) rfl ⟨rfl, ?_⟩
      (repeat' (first | (with_reducible exact Below.refl _ _) | (with_reducible assumption) | (with_reducible refine Below.alloc ?_ ?_ _) | (with_reducible refine Below.drew ?_) | (with_reducible refine below_drewN ?_ _) | (with_reducible refine Below.setCell ?_ ?_ _) | (with_reducible refine Below.trans ?_ (Below.mono (by with_reducible assumption) ?_)) | go_size))
end Go.Proofs.Ythkbiplmfbcabaa
