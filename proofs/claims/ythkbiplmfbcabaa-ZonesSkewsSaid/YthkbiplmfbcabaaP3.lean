/- Stage 1: the law ZonesSkews, walked. -/
import Derived.Test.YthkbiplmfbcabaaO3
set_option linter.unusedSimpArgs false
set_option linter.unusedVariables false
namespace Go.Proofs.Ythkbiplmfbcabaa
open Go.RowKit Go.Sort

theorem skews_both (d : Dk) (st : Int) (hm : d.zs.length ≤ 1000000) : ∃ a b c e : Int, (∀ W, Zs W d → Calls Try.prog 33 #[d.v, .int .i64 st] W fun x w' => x = .returned (.tuple #[.int .i64 a, .int .i64 b, .int .i64 c, .int .i64 e]) ∧ Below W.heap.size W w') ∧
    (∀ za zb zo zc W, Zs W (d.re za zb zo zc) → Calls Try.prog 32 #[(d.re za zb zo zc).v, .int .i64 st] W fun x w' => x = .returned (.tuple #[.int .i64 a, .int .i64 b, .int .i64 c, .int .i64 e]) ∧ Below W.heap.size W w') := by
  by_cases ok : d.Ok
  · by_cases hs : 1 ≤ st ∧ st ≤ d.tu
    · exact ⟨d.b0 st, d.b1 st, (d.skR st).2, 0, fun W hz => c33_ok d st W hz ok hs.1 hs.2, fun za zb zo zc W hz => c32_ok (d.re za zb zo zc) st W hz (Dk.re_ok.2 ok) hs.1 hs.2⟩
    · exact ⟨0, 0, 0, 1, fun W hz => c33_arg d st W hz ok hs, fun za zb zo zc W hz => c32_arg (d.re za zb zo zc) st W hz (Dk.re_ok.2 ok) hs⟩
  · exact ⟨0, 0, 0, 10, fun W hz => c33_err d st W hz hm ok, fun za zb zo zc W hz => c32_err (d.re za zb zo zc) st W hz hm (fun h => ok (Dk.re_ok.1 h))⟩

set_option maxRecDepth 100000 in
set_option maxHeartbeats 2000000 in
theorem c6 (d : Dk) (st : Int) (w : World) (hz : Zs w d) :
    Calls Try.prog 6 #[d.v, .int .i64 st] w fun e w' => e = .returned (.bool true) ∧ Below w.heap.size w w' := by
  by_cases hf : d.far
  · have hh := hid hf
    clear hf
    go_enter Try.func6, Try.ntmps6
    go_wp2_with (first | (go_at_call 13; refine (c13y d _ (by exact hz.below (by (repeat' (first | (with_reducible exact Below.refl _ _) | (with_reducible assumption) | (with_reducible refine Below.alloc ?_ ?_ _) | (with_reducible refine Below.drew ?_) | (with_reducible refine below_drewN ?_ _) | (with_reducible refine Below.setCell ?_ ?_ _) | (with_reducible refine Below.trans ?_ (Below.mono (by with_reducible assumption) ?_)) | go_size))) (Nat.le_refl _)) hh.out).mono ?_; rintro e w1 ⟨rfl, hB1⟩; obtain ⟨hc1, hf1⟩ := bcell (hB1.mono (show w.heap.size + 1 ≤ _ by first | omega | ((try simp only [World.size_alloc, World.size_drew, World.size_setCell]); omega))); have hz1 : w.heap.size + 1 ≤ w1.heap.size := (by have := hB1.size; (try simp only [World.size_alloc, World.size_drew, World.size_setCell] at this); omega)) | (go_at_call 14; refine (c14 _).mono ?_; rintro e w2 ⟨rfl, hB2⟩; obtain ⟨hc2, hf2⟩ := bcell (hB2.mono (show w.heap.size + 1 ≤ _ by first | omega | ((try simp only [World.size_alloc, World.size_drew, World.size_setCell]); omega))); have hz2 : w.heap.size + 1 ≤ w2.heap.size := (by have := hB2.size; (try simp only [World.size_alloc, World.size_drew, World.size_setCell] at this); omega)))
    go_returns
    exact ⟨rfl, by (repeat' (first | (with_reducible exact Below.refl _ _) | (with_reducible assumption) | (with_reducible refine Below.alloc ?_ ?_ _) | (with_reducible refine Below.drew ?_) | (with_reducible refine below_drewN ?_ _) | (with_reducible refine Below.setCell ?_ ?_ _) | (with_reducible refine Below.trans ?_ (Below.mono (by with_reducible assumption) ?_)) | go_size))⟩
  · have hh := hid hf
    have hm := far_len hf
    obtain ⟨a, b, c, e, h33, h32⟩ := skews_both d st hm
    have h33h := hid h33
    have h32h := hid h32
    clear hf h33 h32
    go_enter Try.func6, Try.ntmps6
    go_wp2_with (first | (go_at_call 13; refine (c13n d _ (by exact hz.below (by (repeat' (first | (with_reducible exact Below.refl _ _) | (with_reducible assumption) | (with_reducible refine Below.alloc ?_ ?_ _) | (with_reducible refine Below.drew ?_) | (with_reducible refine below_drewN ?_ _) | (with_reducible refine Below.setCell ?_ ?_ _) | (with_reducible refine Below.trans ?_ (Below.mono (by with_reducible assumption) ?_)) | go_size))) (Nat.le_refl _)) hh.out).mono ?_; rintro e w1 ⟨rfl, hB1⟩; obtain ⟨hc1, hf1⟩ := bcell (hB1.mono (show w.heap.size + 1 ≤ _ by first | omega | ((try simp only [World.size_alloc, World.size_drew, World.size_setCell]); omega))); have hz1 : w.heap.size + 1 ≤ w1.heap.size := (by have := hB1.size; (try simp only [World.size_alloc, World.size_drew, World.size_setCell] at this); omega); have hy1 : w.heap.size < w1.heap.size := (by omega)) | (go_at_call 15; refine (c15 d _ (by exact hz.below (by (repeat' (first | (with_reducible exact Below.refl _ _) | (with_reducible assumption) | (with_reducible refine Below.alloc ?_ ?_ _) | (with_reducible refine Below.drew ?_) | (with_reducible refine below_drewN ?_ _) | (with_reducible refine Below.setCell ?_ ?_ _) | (with_reducible refine Below.trans ?_ (Below.mono (by with_reducible assumption) ?_)) | go_size))) (Nat.le_refl _)) hm).mono ?_; rintro e w2 ⟨za, zb, zo, zc, rfl, hz2, hB2⟩; obtain ⟨hc2, hf2⟩ := bcell (hB2.mono (show w.heap.size + 1 ≤ _ by omega)); have hy2 : w.heap.size < w2.heap.size := (by have := hB2.size; omega)) | (go_at_call 32; refine (h32h.out za zb zo zc _ (by exact hz2.below (by (repeat' (first | (with_reducible exact Below.refl _ _) | (with_reducible assumption) | (with_reducible refine Below.alloc ?_ ?_ _) | (with_reducible refine Below.drew ?_) | (with_reducible refine below_drewN ?_ _) | (with_reducible refine Below.setCell ?_ ?_ _) | (with_reducible refine Below.trans ?_ (Below.mono (by with_reducible assumption) ?_)) | go_size))) (Nat.le_refl _))).mono ?_; rintro e w3 ⟨rfl, hB3⟩; obtain ⟨hc3, hf3⟩ := bcell (hB3.mono (show w.heap.size + 1 ≤ _ by first | omega | ((try simp only [World.size_alloc, World.size_drew, World.size_setCell]); omega))); have hz3 : w.heap.size + 1 ≤ w3.heap.size := (by have := hB3.size; (try simp only [World.size_alloc, World.size_drew, World.size_setCell] at this); omega); have hy3 : w.heap.size < w3.heap.size := (by omega)) | (go_at_call 33; refine (h33h.out _ (by exact hz.below (by (repeat' (first | (with_reducible exact Below.refl _ _) | (with_reducible assumption) | (with_reducible refine Below.alloc ?_ ?_ _) | (with_reducible refine Below.drew ?_) | (with_reducible refine below_drewN ?_ _) | (with_reducible refine Below.setCell ?_ ?_ _) | (with_reducible refine Below.trans ?_ (Below.mono (by with_reducible assumption) ?_)) | go_size))) (Nat.le_refl _))).mono ?_; rintro e w4 ⟨rfl, hB4⟩; have hy4 : w.heap.size < w4.heap.size := (by have := hB4.size; omega)) | (go_at_call 14; refine (c14 _).mono ?_; rintro e w5 ⟨rfl, hB5⟩))
    go_returns
    exact ⟨rfl, by (repeat' (first | (with_reducible exact Below.refl _ _) | (with_reducible assumption) | (with_reducible refine Below.alloc ?_ ?_ _) | (with_reducible refine Below.drew ?_) | (with_reducible refine below_drewN ?_ _) | (with_reducible refine Below.setCell ?_ ?_ _) | (with_reducible refine Below.trans ?_ (Below.mono (by with_reducible assumption) ?_)) | go_size))⟩
end Go.Proofs.Ythkbiplmfbcabaa
