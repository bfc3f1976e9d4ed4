/- Stage 1: the reference's Size, Place, Angle, Wait, Number, Copy. -/
import Derived.Test.YthkbiplmfbcabaaD
set_option linter.unusedSimpArgs false
set_option linter.unusedVariables false
namespace Go.Proofs.Ythkbiplmfbcabaa
open Go.RowKit

open Classical in
noncomputable def Dk.secErr (d : Dk) (n : Int) : Int := if d.Ok then (if 0 ≤ n ∧ n < d.count then 0 else 1) else 10
theorem Dk.secErr_not {d : Dk} {n : Int} (h : ¬ d.Ok) : d.secErr n = 10 := if_neg h
theorem Dk.secErr_no {d : Dk} {n : Int} (h : d.Ok) (hn : ¬ (0 ≤ n ∧ n < d.count)) : d.secErr n = 1 := by unfold Dk.secErr; rw [if_pos h, if_neg hn]
theorem Dk.secErr_yes {d : Dk} {n : Int} (h : d.Ok) (hn : 0 ≤ n ∧ n < d.count) : d.secErr n = 0 := by unfold Dk.secErr; rw [if_pos h, if_pos hn]

set_option maxHeartbeats 1000000 in
theorem c19 (d : Dk) (w : World) (hz : Zs w d) (hm : d.zs.length ≤ 1000000) :
    Calls Try.prog 19 #[d.v] w fun e w' => e = .returned (.tuple #[.int .i64 (if d.err = 0 then d.count else 0), .int .i64 d.err]) ∧ Below w.heap.size w w' := by
  by_cases ok : d.Ok
  · have he := hid (Dk.err_ok ok)
    have okh := hid ok
    clear ok
    rw [if_pos he.out, he.out]
    go_enter Try.func19, Try.ntmps19
    go_wp2_with (first | (go_at_call 17; refine (c17 d _ (by exact hz.below (by (repeat' (first | (with_reducible exact Below.refl _ _) | (with_reducible assumption) | (with_reducible refine Below.alloc ?_ ?_ _) | (with_reducible refine Below.drew ?_) | (with_reducible refine below_drewN ?_ _) | (with_reducible refine Below.setCell ?_ ?_ _) | (with_reducible refine Below.trans ?_ (Below.mono (by with_reducible assumption) ?_)) | go_size))) (Nat.le_refl _)) hm).mono ?_; rw [he.out]; rintro e w1 ⟨rfl, hB1⟩; obtain ⟨hc1, hf1⟩ := bcell (hB1.mono (show w.heap.size + 1 ≤ _ by first | omega | ((try simp only [World.size_alloc, World.size_drew, World.size_setCell]); omega))); have hz1 : w.heap.size < w1.heap.size := by (have := hB1.size; (try simp only [World.size_alloc, World.size_drew, World.size_setCell] at this); omega)) | (go_at_call 42; refine (c42 d _ (by exact hz.below (by (repeat' (first | (with_reducible exact Below.refl _ _) | (with_reducible assumption) | (with_reducible refine Below.alloc ?_ ?_ _) | (with_reducible refine Below.drew ?_) | (with_reducible refine below_drewN ?_ _) | (with_reducible refine Below.setCell ?_ ?_ _) | (with_reducible refine Below.trans ?_ (Below.mono (by with_reducible assumption) ?_)) | go_size))) (Nat.le_refl _)) okh.out).mono ?_; rintro e w2 ⟨rfl, hB2⟩))
    go_returns
    exact ⟨rfl, by (repeat' (first | (with_reducible exact Below.refl _ _) | (with_reducible assumption) | (with_reducible refine Below.alloc ?_ ?_ _) | (with_reducible refine Below.drew ?_) | (with_reducible refine below_drewN ?_ _) | (with_reducible refine Below.setCell ?_ ?_ _) | (with_reducible refine Below.trans ?_ (Below.mono (by with_reducible assumption) ?_)) | go_size))⟩
  · have he := hid (Dk.err_not ok)
    rw [he.out, if_neg (by omega)]
    go_enter Try.func19, Try.ntmps19
    go_wp2_with (first | (go_at_call 17; refine (c17 d _ (by exact hz.below (by (repeat' (first | (with_reducible exact Below.refl _ _) | (with_reducible assumption) | (with_reducible refine Below.alloc ?_ ?_ _) | (with_reducible refine Below.drew ?_) | (with_reducible refine below_drewN ?_ _) | (with_reducible refine Below.setCell ?_ ?_ _) | (with_reducible refine Below.trans ?_ (Below.mono (by with_reducible assumption) ?_)) | go_size))) (Nat.le_refl _)) hm).mono ?_; rw [he.out]; rintro e w2 ⟨rfl, hB2⟩))
    go_returns
    exact ⟨rfl, by (repeat' (first | (with_reducible exact Below.refl _ _) | (with_reducible assumption) | (with_reducible refine Below.alloc ?_ ?_ _) | (with_reducible refine Below.drew ?_) | (with_reducible refine below_drewN ?_ _) | (with_reducible refine Below.setCell ?_ ?_ _) | (with_reducible refine Below.trans ?_ (Below.mono (by with_reducible assumption) ?_)) | go_size))⟩

set_option maxHeartbeats 1000000 in
theorem c53 (d : Dk) (n : Int) (w : World) (hz : Zs w d) (hm : d.zs.length ≤ 1000000) :
    Calls Try.prog 53 #[d.v, .int .i64 n] w fun e w' => e = .returned (.int .i64 (d.secErr n)) ∧ Below w.heap.size w w' := by
  by_cases ok : d.Ok
  · have he := hid (Dk.err_ok ok)
    have okh := hid ok
    by_cases hn : 0 ≤ n ∧ n < d.count
    · have hb := hid (show decide (0 ≤ n ∧ n < d.count) = true from decide_eq_true hn)
      rw [Dk.secErr_yes ok hn]
      clear ok hn
      go_enter Try.func53, Try.ntmps53
      go_wp2_with (first | (go_at_call 17; refine (c17 d _ (by exact hz.below (by (repeat' (first | (with_reducible exact Below.refl _ _) | (with_reducible assumption) | (with_reducible refine Below.alloc ?_ ?_ _) | (with_reducible refine Below.drew ?_) | (with_reducible refine below_drewN ?_ _) | (with_reducible refine Below.setCell ?_ ?_ _) | (with_reducible refine Below.trans ?_ (Below.mono (by with_reducible assumption) ?_)) | go_size))) (Nat.le_refl _)) hm).mono ?_; rw [he.out]; rintro e w1 ⟨rfl, hB1⟩; obtain ⟨hc1, hf1⟩ := bcell (hB1.mono (show w.heap.size + 1 ≤ _ by first | omega | ((try simp only [World.size_alloc, World.size_drew, World.size_setCell]); omega))); have hz1 : w.heap.size < w1.heap.size := by (have := hB1.size; (try simp only [World.size_alloc, World.size_drew, World.size_setCell] at this); omega)) | (go_at_call 35; refine (c35 d n _ (by exact hz.below (by (repeat' (first | (with_reducible exact Below.refl _ _) | (with_reducible assumption) | (with_reducible refine Below.alloc ?_ ?_ _) | (with_reducible refine Below.drew ?_) | (with_reducible refine below_drewN ?_ _) | (with_reducible refine Below.setCell ?_ ?_ _) | (with_reducible refine Below.trans ?_ (Below.mono (by with_reducible assumption) ?_)) | go_size))) (Nat.le_refl _)) okh.out).mono ?_; rw [hb.out]; rintro e w2 ⟨rfl, hB2⟩))
      go_returns
      exact ⟨rfl, by (repeat' (first | (with_reducible exact Below.refl _ _) | (with_reducible assumption) | (with_reducible refine Below.alloc ?_ ?_ _) | (with_reducible refine Below.drew ?_) | (with_reducible refine below_drewN ?_ _) | (with_reducible refine Below.setCell ?_ ?_ _) | (with_reducible refine Below.trans ?_ (Below.mono (by with_reducible assumption) ?_)) | go_size))⟩
    · have hb := hid (show decide (0 ≤ n ∧ n < d.count) = false from decide_eq_false hn)
      rw [Dk.secErr_no ok hn]
      clear ok hn
      go_enter Try.func53, Try.ntmps53
      go_wp2_with (first | (go_at_call 17; refine (c17 d _ (by exact hz.below (by (repeat' (first | (with_reducible exact Below.refl _ _) | (with_reducible assumption) | (with_reducible refine Below.alloc ?_ ?_ _) | (with_reducible refine Below.drew ?_) | (with_reducible refine below_drewN ?_ _) | (with_reducible refine Below.setCell ?_ ?_ _) | (with_reducible refine Below.trans ?_ (Below.mono (by with_reducible assumption) ?_)) | go_size))) (Nat.le_refl _)) hm).mono ?_; rw [he.out]; rintro e w1 ⟨rfl, hB1⟩; obtain ⟨hc1, hf1⟩ := bcell (hB1.mono (show w.heap.size + 1 ≤ _ by first | omega | ((try simp only [World.size_alloc, World.size_drew, World.size_setCell]); omega))); have hz1 : w.heap.size < w1.heap.size := by (have := hB1.size; (try simp only [World.size_alloc, World.size_drew, World.size_setCell] at this); omega)) | (go_at_call 35; refine (c35 d n _ (by exact hz.below (by (repeat' (first | (with_reducible exact Below.refl _ _) | (with_reducible assumption) | (with_reducible refine Below.alloc ?_ ?_ _) | (with_reducible refine Below.drew ?_) | (with_reducible refine below_drewN ?_ _) | (with_reducible refine Below.setCell ?_ ?_ _) | (with_reducible refine Below.trans ?_ (Below.mono (by with_reducible assumption) ?_)) | go_size))) (Nat.le_refl _)) okh.out).mono ?_; rw [hb.out]; rintro e w2 ⟨rfl, hB2⟩))
      go_returns
      exact ⟨rfl, by (repeat' (first | (with_reducible exact Below.refl _ _) | (with_reducible assumption) | (with_reducible refine Below.alloc ?_ ?_ _) | (with_reducible refine Below.drew ?_) | (with_reducible refine below_drewN ?_ _) | (with_reducible refine Below.setCell ?_ ?_ _) | (with_reducible refine Below.trans ?_ (Below.mono (by with_reducible assumption) ?_)) | go_size))⟩
  · have he := hid (Dk.err_not ok)
    rw [Dk.secErr_not ok]
    go_enter Try.func53, Try.ntmps53
    go_wp2_with (first | (go_at_call 17; refine (c17 d _ (by exact hz.below (by (repeat' (first | (with_reducible exact Below.refl _ _) | (with_reducible assumption) | (with_reducible refine Below.alloc ?_ ?_ _) | (with_reducible refine Below.drew ?_) | (with_reducible refine below_drewN ?_ _) | (with_reducible refine Below.setCell ?_ ?_ _) | (with_reducible refine Below.trans ?_ (Below.mono (by with_reducible assumption) ?_)) | go_size))) (Nat.le_refl _)) hm).mono ?_; rw [he.out]; rintro e w2 ⟨rfl, hB2⟩))
    go_returns
    exact ⟨rfl, by (repeat' (first | (with_reducible exact Below.refl _ _) | (with_reducible assumption) | (with_reducible refine Below.alloc ?_ ?_ _) | (with_reducible refine Below.drew ?_) | (with_reducible refine below_drewN ?_ _) | (with_reducible refine Below.setCell ?_ ?_ _) | (with_reducible refine Below.trans ?_ (Below.mono (by with_reducible assumption) ?_)) | go_size))⟩

theorem PlRet.pos {l : List Pl} {w w' : World} {e : Ending} (h : PlRet l w e w') (hl : 0 < l.length) :
    ∃ g cap, e = .returned (.slice (some ⟨g, 0, none⟩) l.length cap) ∧ w.heap.size ≤ g ∧ Pls w' g l ∧ Below w.heap.size w w' := by
  obtain ⟨v, rfl, hown, hB⟩ := h
  have h2 := hown
  obtain ⟨_, h1⟩ := hown
  rcases h1 with ⟨_, h1⟩ | ⟨g, cap, cur, rfl, h4, _⟩
  · omega
  · exact ⟨g, cap, rfl, h4, Pls.of_owns h2, hB⟩

/-- There are as many places as sectors (proved in the plain part). -/
def lenPlaces (d : Dk) : Prop := (places d).length = d.count.toNat

set_option maxHeartbeats 1000000 in
theorem c23_err (d : Dk) (n : Int) (w : World) (hz : Zs w d) (hm : d.zs.length ≤ 1000000) (he : d.secErr n ≠ 0) :
    Calls Try.prog 23 #[d.v, .int .i64 n] w fun e w' => e = .returned (.tuple #[.agg #[.int .i64 0, .int .i64 0, .int .i64 0], .int .i64 (d.secErr n)]) ∧ Below w.heap.size w w' := by
  have hb : (d.secErr n != 0) = true := by simpa using he
  go_enter Try.func23, Try.ntmps23
  go_wp2_with (first | (go_at_call 53; refine (c53 d n _ (by exact hz.below (by (repeat' (first | (with_reducible exact Below.refl _ _) | (with_reducible assumption) | (with_reducible refine Below.alloc ?_ ?_ _) | (with_reducible refine Below.drew ?_) | (with_reducible refine below_drewN ?_ _) | (with_reducible refine Below.setCell ?_ ?_ _) | (with_reducible refine Below.trans ?_ (Below.mono (by with_reducible assumption) ?_)) | go_size))) (Nat.le_refl _)) hm).mono ?_; rintro e w1 ⟨rfl, hB1⟩; obtain ⟨hc1, hf1⟩ := bcell (hB1.mono (show w.heap.size + 2 ≤ _ by first | omega | ((try simp only [World.size_alloc, World.size_drew, World.size_setCell]); omega))); have hz1 : w.heap.size + 1 < w1.heap.size := by (have := hB1.size; (try simp only [World.size_alloc, World.size_drew, World.size_setCell] at this); omega)))
  refine bodyPost_ret (v := .tuple #[.agg #[.int .i64 0, .int .i64 0, .int .i64 0], .int .i64 (d.secErr n)]) (by simp [results, Try.results23, go_sem, hc1, hf1, hz1]) rfl ⟨rfl, ?_⟩
  (repeat' (first | (with_reducible exact Below.refl _ _) | (with_reducible assumption) | (with_reducible refine Below.alloc ?_ ?_ _) | (with_reducible refine Below.drew ?_) | (with_reducible refine below_drewN ?_ _) | (with_reducible refine Below.setCell ?_ ?_ _) | (with_reducible refine Below.trans ?_ (Below.mono (by with_reducible assumption) ?_)) | go_size))

set_option maxRecDepth 100000 in
set_option maxHeartbeats 1000000 in
theorem c23_ok (d : Dk) (n : Nat) (w : World) (hz : Zs w d) (ok : d.Ok) (hn : n < (places d).length) (hL : lenPlaces d) :
    Calls Try.prog 23 #[d.v, .int .i64 n] w fun e w' => e = .returned (.tuple #[.agg #[.int .i64 (places d)[n].1, .int .i64 (places d)[n].2.1, .int .i64 (places d)[n].2.2], .int .i64 0]) ∧ Below w.heap.size w w' := by
  have h0 := hid (Dk.secErr_yes ok (show 0 ≤ (n : Int) ∧ (n : Int) < d.count by have := ok.cntB; unfold lenPlaces at hL; omega))
  have okh := hid ok
  have hm : d.zs.length ≤ 1000000 := by have := ok.zl4; omega
  clear ok hL
  go_enter Try.func23, Try.ntmps23
  go_wp2_with (first | (go_at_call 53; refine (c53 d n _ (by exact hz.below (by (repeat' (first | (with_reducible exact Below.refl _ _) | (with_reducible assumption) | (with_reducible refine Below.alloc ?_ ?_ _) | (with_reducible refine Below.drew ?_) | (with_reducible refine below_drewN ?_ _) | (with_reducible refine Below.setCell ?_ ?_ _) | (with_reducible refine Below.trans ?_ (Below.mono (by with_reducible assumption) ?_)) | go_size))) (Nat.le_refl _)) hm).mono ?_; rw [h0.out]; rintro e w1 ⟨rfl, hB1⟩; obtain ⟨hc1, hf1⟩ := bcell (hB1.mono (show w.heap.size + 2 ≤ _ by first | omega | ((try simp only [World.size_alloc, World.size_drew, World.size_setCell]); omega))); have hz1 : w.heap.size + 1 < w1.heap.size := by (have := hB1.size; (try simp only [World.size_alloc, World.size_drew, World.size_setCell] at this); omega)) | (go_at_call 51; refine (c51 d _ (by exact hz.below (by (repeat' (first | (with_reducible exact Below.refl _ _) | (with_reducible assumption) | (with_reducible refine Below.alloc ?_ ?_ _) | (with_reducible refine Below.drew ?_) | (with_reducible refine below_drewN ?_ _) | (with_reducible refine Below.setCell ?_ ?_ _) | (with_reducible refine Below.trans ?_ (Below.mono (by with_reducible assumption) ?_)) | go_size))) (Nat.le_refl _)) okh.out).mono ?_; intro e w2 hr; obtain ⟨g, cap, rfl, hg, hp, hB2⟩ := hr.pos (by omega); obtain ⟨hc2, hf2⟩ := bcell (hB2.mono (show w.heap.size + 2 ≤ _ by omega)); have p0 := hp.c0 n hn; have p1 := hp.c1 n hn; have p2 := hp.c2 n hn))
  refine bodyPost_ret (v := .tuple #[.agg #[.int .i64 (places d)[n].1, .int .i64 (places d)[n].2.1, .int .i64 (places d)[n].2.2], .int .i64 0]) (by simp [results, Try.results23, go_sem, hc1, hf1, hz1, hc2, hf2]) rfl ⟨rfl, ?_⟩
  (repeat' (first | (with_reducible exact Below.refl _ _) | (with_reducible assumption) | (with_reducible refine Below.alloc ?_ ?_ _) | (with_reducible refine Below.drew ?_) | (with_reducible refine below_drewN ?_ _) | (with_reducible refine Below.setCell ?_ ?_ _) | (with_reducible refine Below.trans ?_ (Below.mono (by with_reducible assumption) ?_)) | go_size))
end Go.Proofs.Ythkbiplmfbcabaa
