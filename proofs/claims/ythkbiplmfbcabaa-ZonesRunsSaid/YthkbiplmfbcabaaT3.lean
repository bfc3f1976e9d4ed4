/- Stage 1: the law ZonesRuns, walked. -/
import Derived.Test.YthkbiplmfbcabaaS3
set_option linter.unusedSimpArgs false
set_option linter.unusedVariables false
namespace Go.Proofs.Ythkbiplmfbcabaa
open Go.RowKit Go.Sort

theorem run_both (d : Dk) (f n : Int) (hm : d.zs.length ≤ 1000000) : ∃ a b e : Int, (∀ W, Zs W d → Calls Try.prog 29 #[d.v, .int .i64 f, .int .i64 n] W fun x w' => x = .returned (.tuple #[.agg #[.int .i64 a, .int .i64 b], .int .i64 e]) ∧ Below W.heap.size W w') ∧
    (∀ za zb zo zc W, Zs W (d.re za zb zo zc) → Calls Try.prog 28 #[(d.re za zb zo zc).v, .int .i64 f, .int .i64 n] W fun x w' => x = .returned (.tuple #[.agg #[.int .i64 a, .int .i64 b], .int .i64 e]) ∧ Below W.heap.size W w') := by
  by_cases ok : d.Ok
  · by_cases hr : d.isRun f n
    · have hL := ok.lenPl
      have hB := ok.cntB
      unfold lenPlaces at hL
      obtain ⟨r1, r2, r3, r4⟩ := hr
      obtain ⟨f, rfl⟩ : ∃ k : Nat, f = k := ⟨f.toNat, by omega⟩
      obtain ⟨n, rfl⟩ : ∃ k : Nat, n = k := ⟨n.toNat, by omega⟩
      have he := run_ticks ok (f := f) (n := n) (by omega) (by omega)
      refine ⟨d.tkLo f n, d.tkHi f n, 0, fun W hz => c29_ok d f n W hz ok (by omega) (by omega), fun za zb zo zc W hz => ?_⟩
      have := c28_ok (d.re za zb zo zc) f n W hz (Dk.re_ok.2 ok) ⟨r1, r2, r3, r4⟩
      rwa [show (d.re za zb zo zc).run f n = (d.tkLo f n, d.tkHi f n) from he] at this
    · exact ⟨0, 0, 1, fun W hz => c29_arg d f n W hz ok hr, fun za zb zo zc W hz => c28_arg (d.re za zb zo zc) f n W hz (Dk.re_ok.2 ok) hr⟩
  · exact ⟨0, 0, 10, fun W hz => c29_err d f n W hz hm ok, fun za zb zo zc W hz => c28_err (d.re za zb zo zc) f n W hz hm (fun h => ok (Dk.re_ok.1 h))⟩
theorem lost_both (d : Dk) (hm : d.zs.length ≤ 1000000) : ∃ a e : Int, (∀ W, Zs W d → Calls Try.prog 31 #[d.v] W fun x w' => x = .returned (.tuple #[.int .i64 a, .int .i64 e]) ∧ Below W.heap.size W w') ∧
    (∀ za zb zo zc W, Zs W (d.re za zb zo zc) → Calls Try.prog 30 #[(d.re za zb zo zc).v] W fun x w' => x = .returned (.tuple #[.int .i64 a, .int .i64 e]) ∧ Below W.heap.size W w') := by
  by_cases ok : d.Ok
  · exact ⟨d.lostAt 2, 0, fun W hz => c31_ok d W hz ok, fun za zb zo zc W hz => c30_ok (d.re za zb zo zc) W hz (Dk.re_ok.2 ok)⟩
  · exact ⟨0, 10, fun W hz => c31_err d W hz hm ok, fun za zb zo zc W hz => c30_err (d.re za zb zo zc) W hz hm (fun h => ok (Dk.re_ok.1 h))⟩

set_option maxRecDepth 100000 in
set_option maxHeartbeats 4000000 in
theorem c5 (d : Dk) (f n : Int) (w : World) (hz : Zs w d) :
    Calls Try.prog 5 #[d.v, .int .i64 f, .int .i64 n] w fun e w' => e = .returned (.bool true) ∧ Below w.heap.size w w' := by
  by_cases hf : d.far
  · have hh := hid hf
    clear hf
    go_enter Try.func5, Try.ntmps5
    go_wp2_with (first | (go_at_call 13; refine (c13y d _ (by exact hz.below (by (repeat' (first | (with_reducible exact Below.refl _ _) | (with_reducible assumption) | (with_reducible refine Below.alloc ?_ ?_ _) | (with_reducible refine Below.drew ?_) | (with_reducible refine below_drewN ?_ _) | (with_reducible refine Below.setCell ?_ ?_ _) | (with_reducible refine Below.trans ?_ (Below.mono (by with_reducible assumption) ?_)) | go_size))) (Nat.le_refl _)) hh.out).mono ?_; rintro e w1 ⟨rfl, hB1⟩; obtain ⟨hc1, hf1⟩ := bcell (hB1.mono (show w.heap.size + 1 ≤ _ by first | omega | ((try simp only [World.size_alloc, World.size_drew, World.size_setCell]); omega))); have hz1 : w.heap.size + 1 ≤ w1.heap.size := (by have := hB1.size; (try simp only [World.size_alloc, World.size_drew, World.size_setCell] at this); omega)) | (go_at_call 14; refine (c14 _).mono ?_; rintro e w2 ⟨rfl, hB2⟩; obtain ⟨hc2, hf2⟩ := bcell (hB2.mono (show w.heap.size + 1 ≤ _ by first | omega | ((try simp only [World.size_alloc, World.size_drew, World.size_setCell]); omega))); have hz2 : w.heap.size + 1 ≤ w2.heap.size := (by have := hB2.size; (try simp only [World.size_alloc, World.size_drew, World.size_setCell] at this); omega)))
    go_returns
    exact ⟨rfl, by (repeat' (first | (with_reducible exact Below.refl _ _) | (with_reducible assumption) | (with_reducible refine Below.alloc ?_ ?_ _) | (with_reducible refine Below.drew ?_) | (with_reducible refine below_drewN ?_ _) | (with_reducible refine Below.setCell ?_ ?_ _) | (with_reducible refine Below.trans ?_ (Below.mono (by with_reducible assumption) ?_)) | go_size))⟩
  · have hh := hid hf
    have hm := far_len hf
    obtain ⟨a, b, e, h29, h28⟩ := run_both d f n hm
    obtain ⟨l, e2, h31, h30⟩ := lost_both d hm
    have h29h := hid h29
    have h28h := hid h28
    have h31h := hid h31
    have h30h := hid h30
    clear hf h29 h28 h31 h30
    go_enter Try.func5, Try.ntmps5
    go_wp2_with (first | (go_at_call 13; refine (c13n d _ (by exact hz.below (by (repeat' (first | (with_reducible exact Below.refl _ _) | (with_reducible assumption) | (with_reducible refine Below.alloc ?_ ?_ _) | (with_reducible refine Below.drew ?_) | (with_reducible refine below_drewN ?_ _) | (with_reducible refine Below.setCell ?_ ?_ _) | (with_reducible refine Below.trans ?_ (Below.mono (by with_reducible assumption) ?_)) | go_size))) (Nat.le_refl _)) hh.out).mono ?_; rintro e w1 ⟨rfl, hB1⟩; obtain ⟨hc1, hf1⟩ := bcell (hB1.mono (show w.heap.size + 1 ≤ _ by first | omega | ((try simp only [World.size_alloc, World.size_drew, World.size_setCell]); omega))); have hz1 : w.heap.size + 1 ≤ w1.heap.size := (by have := hB1.size; (try simp only [World.size_alloc, World.size_drew, World.size_setCell] at this); omega); have hy1 : w.heap.size < w1.heap.size := (by omega)) | (go_at_call 15; refine (c15 d _ (by exact hz.below (by (repeat' (first | (with_reducible exact Below.refl _ _) | (with_reducible assumption) | (with_reducible refine Below.alloc ?_ ?_ _) | (with_reducible refine Below.drew ?_) | (with_reducible refine below_drewN ?_ _) | (with_reducible refine Below.setCell ?_ ?_ _) | (with_reducible refine Below.trans ?_ (Below.mono (by with_reducible assumption) ?_)) | go_size))) (Nat.le_refl _)) hm).mono ?_; rintro e w2 ⟨za, zb, zo, zc, rfl, hz2, hB2⟩; obtain ⟨hc2, hf2⟩ := bcell (hB2.mono (show w.heap.size + 1 ≤ _ by omega)); have hy2 : w.heap.size < w2.heap.size := (by have := hB2.size; omega)) | (go_at_call 28; refine (h28h.out za zb zo zc _ (by exact hz2.below (by (repeat' (first | (with_reducible exact Below.refl _ _) | (with_reducible assumption) | (with_reducible refine Below.alloc ?_ ?_ _) | (with_reducible refine Below.drew ?_) | (with_reducible refine below_drewN ?_ _) | (with_reducible refine Below.setCell ?_ ?_ _) | (with_reducible refine Below.trans ?_ (Below.mono (by with_reducible assumption) ?_)) | go_size))) (Nat.le_refl _))).mono ?_; rintro e w3 ⟨rfl, hB3⟩; obtain ⟨hc3, hf3⟩ := bcell (hB3.mono (show w2.heap.size + 1 ≤ _ by first | omega | ((try simp only [World.size_alloc, World.size_drew, World.size_setCell]); omega))); have hz3 : w2.heap.size + 1 ≤ w3.heap.size := (by have := hB3.size; (try simp only [World.size_alloc, World.size_drew, World.size_setCell] at this); omega); have hy3 : w2.heap.size < w3.heap.size := (by omega); have hx3 : w.heap.size < w3.heap.size := (by omega)) | (go_at_call 29; refine (h29h.out _ (by exact hz.below (by (repeat' (first | (with_reducible exact Below.refl _ _) | (with_reducible assumption) | (with_reducible refine Below.alloc ?_ ?_ _) | (with_reducible refine Below.drew ?_) | (with_reducible refine below_drewN ?_ _) | (with_reducible refine Below.setCell ?_ ?_ _) | (with_reducible refine Below.trans ?_ (Below.mono (by with_reducible assumption) ?_)) | go_size))) (Nat.le_refl _))).mono ?_; rintro e w4 ⟨rfl, hB4⟩; obtain ⟨hc4, hf4⟩ := bcell (hB4.mono (show w3.heap.size + 1 ≤ _ by first | omega | ((try simp only [World.size_alloc, World.size_drew, World.size_setCell]); omega))); have hz4 : w3.heap.size + 1 ≤ w4.heap.size := (by have := hB4.size; (try simp only [World.size_alloc, World.size_drew, World.size_setCell] at this); omega); have hy4 : w2.heap.size < w4.heap.size := (by omega); have hx4 : w.heap.size < w4.heap.size := (by omega); have hv4 : w3.heap.size < w4.heap.size := (by omega)) | (go_at_call 30; refine (h30h.out za zb zo zc _ (by exact hz2.below (by (repeat' (first | (with_reducible exact Below.refl _ _) | (with_reducible assumption) | (with_reducible refine Below.alloc ?_ ?_ _) | (with_reducible refine Below.drew ?_) | (with_reducible refine below_drewN ?_ _) | (with_reducible refine Below.setCell ?_ ?_ _) | (with_reducible refine Below.trans ?_ (Below.mono (by with_reducible assumption) ?_)) | go_size))) (Nat.le_refl _))).mono ?_; rintro e w5 ⟨rfl, hB5⟩; obtain ⟨hc5, hf5⟩ := bcell (hB5.mono (show w4.heap.size + 1 ≤ _ by first | omega | ((try simp only [World.size_alloc, World.size_drew, World.size_setCell]); omega))); have hz5 : w4.heap.size + 1 ≤ w5.heap.size := (by have := hB5.size; (try simp only [World.size_alloc, World.size_drew, World.size_setCell] at this); omega); have hy5 : w2.heap.size < w5.heap.size := (by omega); have hx5 : w.heap.size < w5.heap.size := (by omega); have hv5 : w3.heap.size < w5.heap.size := (by omega); have hu5 : w4.heap.size < w5.heap.size := (by omega)) | (go_at_call 31; refine (h31h.out _ (by exact hz.below (by (repeat' (first | (with_reducible exact Below.refl _ _) | (with_reducible assumption) | (with_reducible refine Below.alloc ?_ ?_ _) | (with_reducible refine Below.drew ?_) | (with_reducible refine below_drewN ?_ _) | (with_reducible refine Below.setCell ?_ ?_ _) | (with_reducible refine Below.trans ?_ (Below.mono (by with_reducible assumption) ?_)) | go_size))) (Nat.le_refl _))).mono ?_; rintro e w6 ⟨rfl, hB6⟩; obtain ⟨hc6, hf6⟩ := bcell (hB6.mono (show w4.heap.size + 1 ≤ _ by first | omega | ((try simp only [World.size_alloc, World.size_drew, World.size_setCell]); omega))); have hz6 : w4.heap.size + 1 ≤ w6.heap.size := (by have := hB6.size; (try simp only [World.size_alloc, World.size_drew, World.size_setCell] at this); omega); have hx6 : w.heap.size < w6.heap.size := (by omega); have hv6 : w3.heap.size < w6.heap.size := (by omega); have hu6 : w4.heap.size < w6.heap.size := (by omega)) | (go_at_call 14; refine (c14 _).mono ?_; rintro e w7 ⟨rfl, hB7⟩))
    go_returns
    exact ⟨rfl, by (repeat' (first | (with_reducible exact Below.refl _ _) | (with_reducible assumption) | (with_reducible refine Below.alloc ?_ ?_ _) | (with_reducible refine Below.drew ?_) | (with_reducible refine below_drewN ?_ _) | (with_reducible refine Below.setCell ?_ ?_ _) | (with_reducible refine Below.trans ?_ (Below.mono (by with_reducible assumption) ?_)) | go_size))⟩
end Go.Proofs.Ythkbiplmfbcabaa
