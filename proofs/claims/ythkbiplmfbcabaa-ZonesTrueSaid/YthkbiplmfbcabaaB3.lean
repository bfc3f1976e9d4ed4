/- Stage 1: the law ZonesAngles, walked. -/
import Derived.Test.YthkbiplmfbcabaaR2
import Derived.Test.YthkbiplmfbcabaaB2
import Derived.Test.YthkbiplmfbcabaaZ2
set_option linter.unusedSimpArgs false
set_option linter.unusedVariables false
namespace Go.Proofs.Ythkbiplmfbcabaa
open Go.RowKit Go.Sort

noncomputable def Dk.angA (d : Dk) (n : Int) : Int := if d.secErr n = 0 then begAt d (d.plAt n) else 0
noncomputable def Dk.angB (d : Dk) (n : Int) : Int := if d.secErr n = 0 then d.tu / secOf d.zs (d.plAt n).1 else 0
noncomputable def Dk.waitA (d : Dk) (n t : Int) : Int := if d.secErr n = 0 ∧ 0 ≤ t ∧ t ≤ 1000000 then (begAt d (d.plAt n) - t) % d.tu else 0
noncomputable def Dk.waitE (d : Dk) (n t : Int) : Int := if d.secErr n = 0 then (if 0 ≤ t ∧ t ≤ 1000000 then 0 else 1) else d.secErr n
theorem plAt_get {d : Dk} {n : Int} (h : n.toNat < (places d).length) : (places d)[n.toNat] = d.plAt n := by
  unfold Dk.plAt
  rw [List.getD_eq_getElem?_getD, List.getElem?_eq_getElem h]; rfl

theorem u24 (d : Dk) (n : Int) (w : World) (hz : Zs w d) (hm : d.zs.length ≤ 1000000) : Calls Try.prog 24 #[d.v, .int .i64 n] w fun e w' => e = .returned (.tuple #[.int .i64 (d.angA n), .int .i64 (d.angB n), .int .i64 (d.secErr n)]) ∧ Below w.heap.size w w' := by
  unfold Dk.angA Dk.angB
  by_cases h : d.secErr n = 0
  · obtain ⟨h1, h2⟩ := Dk.sec_len h
    rw [if_pos h, if_pos h, h]
    have := c24_ok d n.toNat w hz (Dk.secErr_zero h).1 h1
    rwa [h2, plAt_get h1] at this
  · rw [if_neg h, if_neg h]; exact c24_err d n w hz hm h
theorem u25 (d : Dk) (n : Int) (w : World) (hz : Zs w d) (hm : d.zs.length ≤ 1000000) : Calls Try.prog 25 #[d.v, .int .i64 n] w fun e w' => e = .returned (.tuple #[.int .i64 (d.angA n), .int .i64 (d.angB n), .int .i64 (d.secErr n)]) ∧ Below w.heap.size w w' := by
  unfold Dk.angA Dk.angB
  by_cases h : d.secErr n = 0
  · obtain ⟨h1, h2⟩ := Dk.sec_len h
    rw [if_pos h, if_pos h, h]
    have := c25_ok d n.toNat w hz (Dk.secErr_zero h).1 h1
    rwa [h2, plAt_get h1] at this
  · rw [if_neg h, if_neg h]; exact c25_err d n w hz hm h
theorem u26 (d : Dk) (n t : Int) (w : World) (hz : Zs w d) (hm : d.zs.length ≤ 1000000) : Calls Try.prog 26 #[d.v, .int .i64 n, .int .i64 t] w fun e w' => e = .returned (.tuple #[.int .i64 (d.waitA n t), .int .i64 (d.waitE n t)]) ∧ Below w.heap.size w w' := by
  unfold Dk.waitA Dk.waitE
  by_cases h : d.secErr n = 0
  · obtain ⟨h1, h2⟩ := Dk.sec_len h
    by_cases ht : 0 ≤ t ∧ t ≤ 1000000
    · rw [if_pos ⟨h, ht⟩, if_pos h, if_pos ht]
      have := c26_ok d n.toNat w hz (Dk.secErr_zero h).1 h1 t ht.1 ht.2
      rwa [h2, plAt_get h1] at this
    · rw [if_neg (fun h' => ht h'.2), if_pos h, if_neg ht]
      have := c26_time d n.toNat w hz (Dk.secErr_zero h).1 h1 t (by omega)
      rwa [h2] at this
  · rw [if_neg (fun h' => h h'.1), if_neg h]; exact c26_err d n t w hz hm h
theorem u27 (d : Dk) (n t : Int) (w : World) (hz : Zs w d) (hm : d.zs.length ≤ 1000000) : Calls Try.prog 27 #[d.v, .int .i64 n, .int .i64 t] w fun e w' => e = .returned (.tuple #[.int .i64 (d.waitA n t), .int .i64 (d.waitE n t)]) ∧ Below w.heap.size w w' := by
  unfold Dk.waitA Dk.waitE
  by_cases h : d.secErr n = 0
  · obtain ⟨h1, h2⟩ := Dk.sec_len h
    by_cases ht : 0 ≤ t ∧ t ≤ 1000000
    · rw [if_pos ⟨h, ht⟩, if_pos h, if_pos ht]
      have := c27_ok d n.toNat t w hz (Dk.secErr_zero h).1 h1 ht.1 ht.2
      rwa [h2, plAt_get h1] at this
    · rw [if_neg (fun h' => ht h'.2), if_pos h, if_neg ht]
      exact c27_time d n t w hz hm h (by omega)
  · rw [if_neg (fun h' => h h'.1), if_neg h]; exact c27_err d n t w hz hm h
theorem v24 (d : Dk) (za : Option Addr) (zb zo zc : Nat) (n : Int) (w : World) (hz : Zs w (d.re za zb zo zc)) (hm : d.zs.length ≤ 1000000) : Calls Try.prog 24 #[(d.re za zb zo zc).v, .int .i64 n] w fun e w' => e = .returned (.tuple #[.int .i64 (d.angA n), .int .i64 (d.angB n), .int .i64 (d.secErr n)]) ∧ Below w.heap.size w w' := by
  have := u24 (d.re za zb zo zc) n w hz hm
  rwa [show (d.re za zb zo zc).angA n = d.angA n by unfold Dk.angA; rw [Dk.re_secErr]; rfl, show (d.re za zb zo zc).angB n = d.angB n by unfold Dk.angB; rw [Dk.re_secErr]; rfl, Dk.re_secErr] at this
theorem v26 (d : Dk) (za : Option Addr) (zb zo zc : Nat) (n t : Int) (w : World) (hz : Zs w (d.re za zb zo zc)) (hm : d.zs.length ≤ 1000000) : Calls Try.prog 26 #[(d.re za zb zo zc).v, .int .i64 n, .int .i64 t] w fun e w' => e = .returned (.tuple #[.int .i64 (d.waitA n t), .int .i64 (d.waitE n t)]) ∧ Below w.heap.size w w' := by
  have := u26 (d.re za zb zo zc) n t w hz hm
  rwa [show (d.re za zb zo zc).waitA n t = d.waitA n t by unfold Dk.waitA; rw [Dk.re_secErr]; rfl, show (d.re za zb zo zc).waitE n t = d.waitE n t by unfold Dk.waitE; rw [Dk.re_secErr]] at this

set_option maxRecDepth 100000 in
set_option maxHeartbeats 1000000 in
theorem c4 (d : Dk) (n tm : Int) (w : World) (hz : Zs w d) :
    Calls Try.prog 4 #[d.v, .int .i64 n, .int .i64 tm] w fun e w' => e = .returned (.bool true) ∧ Below w.heap.size w w' := by
  by_cases hf : d.far
  · have hh := hid hf
    clear hf
    go_enter Try.func4, Try.ntmps4
    go_wp2_with (first | (go_at_call 13; refine (c13y d _ (by exact hz.below (by (repeat' (first | (with_reducible exact Below.refl _ _) | (with_reducible assumption) | (with_reducible refine Below.alloc ?_ ?_ _) | (with_reducible refine Below.drew ?_) | (with_reducible refine below_drewN ?_ _) | (with_reducible refine Below.setCell ?_ ?_ _) | (with_reducible refine Below.trans ?_ (Below.mono (by with_reducible assumption) ?_)) | go_size))) (Nat.le_refl _)) hh.out).mono ?_; rintro e w1 ⟨rfl, hB1⟩; obtain ⟨hc1, hf1⟩ := bcell (hB1.mono (show w.heap.size + 1 ≤ _ by first | omega | ((try simp only [World.size_alloc, World.size_drew, World.size_setCell]); omega))); have hz1 : w.heap.size + 1 ≤ w1.heap.size := (by have := hB1.size; (try simp only [World.size_alloc, World.size_drew, World.size_setCell] at this); omega)) | (go_at_call 14; refine (c14 _).mono ?_; rintro e w2 ⟨rfl, hB2⟩; obtain ⟨hc2, hf2⟩ := bcell (hB2.mono (show w.heap.size + 1 ≤ _ by first | omega | ((try simp only [World.size_alloc, World.size_drew, World.size_setCell]); omega))); have hz2 : w.heap.size + 1 ≤ w2.heap.size := (by have := hB2.size; (try simp only [World.size_alloc, World.size_drew, World.size_setCell] at this); omega)))
    go_returns
    exact ⟨rfl, by (repeat' (first | (with_reducible exact Below.refl _ _) | (with_reducible assumption) | (with_reducible refine Below.alloc ?_ ?_ _) | (with_reducible refine Below.drew ?_) | (with_reducible refine below_drewN ?_ _) | (with_reducible refine Below.setCell ?_ ?_ _) | (with_reducible refine Below.trans ?_ (Below.mono (by with_reducible assumption) ?_)) | go_size))⟩
  · have hh := hid hf
    have hm := far_len hf
    clear hf
    go_enter Try.func4, Try.ntmps4
    go_wp2_with (first | (go_at_call 13; refine (c13n d _ (by exact hz.below (by (repeat' (first | (with_reducible exact Below.refl _ _) | (with_reducible assumption) | (with_reducible refine Below.alloc ?_ ?_ _) | (with_reducible refine Below.drew ?_) | (with_reducible refine below_drewN ?_ _) | (with_reducible refine Below.setCell ?_ ?_ _) | (with_reducible refine Below.trans ?_ (Below.mono (by with_reducible assumption) ?_)) | go_size))) (Nat.le_refl _)) hh.out).mono ?_; rintro e w1 ⟨rfl, hB1⟩; obtain ⟨hc1, hf1⟩ := bcell (hB1.mono (show w.heap.size + 1 ≤ _ by first | omega | ((try simp only [World.size_alloc, World.size_drew, World.size_setCell]); omega))); have hz1 : w.heap.size + 1 ≤ w1.heap.size := (by have := hB1.size; (try simp only [World.size_alloc, World.size_drew, World.size_setCell] at this); omega); have hy1 : w.heap.size < w1.heap.size := (by omega)) | (go_at_call 15; refine (c15 d _ (by exact hz.below (by (repeat' (first | (with_reducible exact Below.refl _ _) | (with_reducible assumption) | (with_reducible refine Below.alloc ?_ ?_ _) | (with_reducible refine Below.drew ?_) | (with_reducible refine below_drewN ?_ _) | (with_reducible refine Below.setCell ?_ ?_ _) | (with_reducible refine Below.trans ?_ (Below.mono (by with_reducible assumption) ?_)) | go_size))) (Nat.le_refl _)) hm).mono ?_; rintro e w2 ⟨za, zb, zo, zc, rfl, hz2, hB2⟩; obtain ⟨hc2, hf2⟩ := bcell (hB2.mono (show w.heap.size + 1 ≤ _ by omega)); have hy2 : w.heap.size < w2.heap.size := (by have := hB2.size; omega)) | (go_at_call 24; refine (v24 d za zb zo zc _ _ (by exact hz2.below (by (repeat' (first | (with_reducible exact Below.refl _ _) | (with_reducible assumption) | (with_reducible refine Below.alloc ?_ ?_ _) | (with_reducible refine Below.drew ?_) | (with_reducible refine below_drewN ?_ _) | (with_reducible refine Below.setCell ?_ ?_ _) | (with_reducible refine Below.trans ?_ (Below.mono (by with_reducible assumption) ?_)) | go_size))) (Nat.le_refl _)) hm).mono ?_; rintro e w3 ⟨rfl, hB3⟩; obtain ⟨hc3, hf3⟩ := bcell (hB3.mono (show w2.heap.size + 1 ≤ _ by first | omega | ((try simp only [World.size_alloc, World.size_drew, World.size_setCell]); omega))); have hz3 : w2.heap.size + 1 ≤ w3.heap.size := (by have := hB3.size; (try simp only [World.size_alloc, World.size_drew, World.size_setCell] at this); omega); have hy3 : w2.heap.size < w3.heap.size := (by omega); have hx3 : w.heap.size < w3.heap.size := (by omega)) | (go_at_call 25; refine (u25 d _ _ (by exact hz.below (by (repeat' (first | (with_reducible exact Below.refl _ _) | (with_reducible assumption) | (with_reducible refine Below.alloc ?_ ?_ _) | (with_reducible refine Below.drew ?_) | (with_reducible refine below_drewN ?_ _) | (with_reducible refine Below.setCell ?_ ?_ _) | (with_reducible refine Below.trans ?_ (Below.mono (by with_reducible assumption) ?_)) | go_size))) (Nat.le_refl _)) hm).mono ?_; rintro e w4 ⟨rfl, hB4⟩; obtain ⟨hc4, hf4⟩ := bcell (hB4.mono (show w3.heap.size ≤ _ by first | omega | ((try simp only [World.size_alloc, World.size_drew, World.size_setCell]); omega))); have hz4 : w3.heap.size ≤ w4.heap.size := (by have := hB4.size; (try simp only [World.size_alloc, World.size_drew, World.size_setCell] at this); omega); have hy4 : w2.heap.size < w4.heap.size := (by omega); have hx4 : w.heap.size < w4.heap.size := (by omega)) | (go_at_call 26; refine (v26 d za zb zo zc _ _ _ (by exact hz2.below (by (repeat' (first | (with_reducible exact Below.refl _ _) | (with_reducible assumption) | (with_reducible refine Below.alloc ?_ ?_ _) | (with_reducible refine Below.drew ?_) | (with_reducible refine below_drewN ?_ _) | (with_reducible refine Below.setCell ?_ ?_ _) | (with_reducible refine Below.trans ?_ (Below.mono (by with_reducible assumption) ?_)) | go_size))) (Nat.le_refl _)) hm).mono ?_; rintro e w5 ⟨rfl, hB5⟩; obtain ⟨hc5, hf5⟩ := bcell (hB5.mono (show w4.heap.size ≤ _ by first | omega | ((try simp only [World.size_alloc, World.size_drew, World.size_setCell]); omega))); have hz5 : w4.heap.size ≤ w5.heap.size := (by have := hB5.size; (try simp only [World.size_alloc, World.size_drew, World.size_setCell] at this); omega); have hy5 : w2.heap.size < w5.heap.size := (by omega); have hx5 : w.heap.size < w5.heap.size := (by omega)) | (go_at_call 27; refine (u27 d _ _ _ (by exact hz.below (by (repeat' (first | (with_reducible exact Below.refl _ _) | (with_reducible assumption) | (with_reducible refine Below.alloc ?_ ?_ _) | (with_reducible refine Below.drew ?_) | (with_reducible refine below_drewN ?_ _) | (with_reducible refine Below.setCell ?_ ?_ _) | (with_reducible refine Below.trans ?_ (Below.mono (by with_reducible assumption) ?_)) | go_size))) (Nat.le_refl _)) hm).mono ?_; rintro e w6 ⟨rfl, hB6⟩; have hz6 : w.heap.size < w6.heap.size := (by have := hB6.size; omega)) | (go_at_call 14; refine (c14 _).mono ?_; rintro e w12 ⟨rfl, hB12⟩))
    go_returns
    exact ⟨rfl, by (repeat' (first | (with_reducible exact Below.refl _ _) | (with_reducible assumption) | (with_reducible refine Below.alloc ?_ ?_ _) | (with_reducible refine Below.drew ?_) | (with_reducible refine below_drewN ?_ _) | (with_reducible refine Below.setCell ?_ ?_ _) | (with_reducible refine Below.trans ?_ (Below.mono (by with_reducible assumption) ?_)) | go_size))⟩
end Go.Proofs.Ythkbiplmfbcabaa
