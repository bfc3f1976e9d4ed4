/- Stage 1: Angle and Wait of package zones. -/
import Derived.Test.YthkbiplmfbcabaaZ
set_option linter.unusedSimpArgs false
set_option linter.unusedVariables false
namespace Go.Proofs.Ythkbiplmfbcabaa
open Go.RowKit Go.Sort

theorem c57B (a n : Int) (w : World) (h1 : 1 ≤ n) (h2 : n ≤ 1000) (h3 : -1000000000 ≤ a) (h4 : a ≤ 1000000000) :
    Calls Try.prog 57 #[.int .i64 a, .int .i64 n] w fun e w' => e = .returned (.int .i64 (a % n)) ∧ Below w.heap.size w w' :=
  (c57 a n w h1 h2 h3 h4).mono fun _ _ ⟨he, hw⟩ => ⟨he, hw ▸ Below.refl _ _⟩
theorem begT_bd (c : Ck) (t : Tk) (n : Int) (h : 1 ≤ c.d.tu) : 0 ≤ begT c t n ∧ begT c t n < c.d.tu :=
  ⟨Int.emod_nonneg _ (by omega), Int.emod_lt_of_pos _ (by omega)⟩

set_option maxRecDepth 100000 in
set_option maxHeartbeats 1000000 in
theorem c24_ok (d : Dk) (n : Nat) (w : World) (hz : Zs w d) (ok : d.Ok) (hn : n < (places d).length) :
    Calls Try.prog 24 #[d.v, .int .i64 n] w fun e w' => e = .returned (.tuple #[.int .i64 (begAt d (places d)[n]), .int .i64 (d.tu / secOf d.zs (places d)[n].1), .int .i64 0]) ∧ Below w.heap.size w w' := by
  have hL := ok.lenPl
  have hB := ok.cntB
  have tu1 := ok.tu1; have tu2 := ok.tu2
  unfold lenPlaces at hL
  go_enter Try.func24, Try.ntmps24
  go_wp2_with (first | (go_at_call 46; refine (c46y d _ (by exact hz.below (by (repeat' (first | (with_reducible exact Below.refl _ _) | (with_reducible assumption) | (with_reducible refine Below.alloc ?_ ?_ _) | (with_reducible refine Below.drew ?_) | (with_reducible refine below_drewN ?_ _) | (with_reducible refine Below.setCell ?_ ?_ _) | (with_reducible refine Below.trans ?_ (Below.mono (by with_reducible assumption) ?_)) | go_size))) (Nat.le_refl _)) ok).mono ?_; rintro e w1 ⟨rfl, hB1⟩; obtain ⟨hc1, hf1⟩ := bcell (hB1.mono (show w.heap.size + 1 ≤ _ by first | omega | ((try simp only [World.size_alloc, World.size_drew, World.size_setCell]); omega))); have hz1 : w.heap.size < w1.heap.size := by (have := hB1.size; (try simp only [World.size_alloc, World.size_drew, World.size_setCell] at this); omega)) | (go_at_call 52; refine (c52y d ok n _ (by exact hz.below (by (repeat' (first | (with_reducible exact Below.refl _ _) | (with_reducible assumption) | (with_reducible refine Below.alloc ?_ ?_ _) | (with_reducible refine Below.drew ?_) | (with_reducible refine below_drewN ?_ _) | (with_reducible refine Below.setCell ?_ ?_ _) | (with_reducible refine Below.trans ?_ (Below.mono (by with_reducible assumption) ?_)) | go_size))) (Nat.le_refl _)) hn).mono ?_; rintro e w2 ⟨t, hto, hth, hp, hbt, hti, rfl, hB2⟩; have hz2 : w1.heap.size < w2.heap.size := (by have := hB2.size; (try simp only [World.size_alloc] at this); omega); have hph := hid hp; have hbth := hid hbt; have htih := hid hti; clear hp hbt hti))
  have hC : (w2.alloc (.cells t.cells 82)).heap[w1.heap.size]? = some (.cells d.ck.cells 73 (0, 0)) := (Below.heap_alloc _ _ _ hz2).trans ((hB2.block _ (by simp)).trans (heap_new w1 _))
  have k1 := cells_regrown hC
  have k2 := cells_regrown (heap_new w2 (.cells t.cells 82))
  have q1 := hto.fi0; have q2 := hto.en; have q3 := hth.1; have q4 := hth.2; have q5 := hto.se2; have q6 := hto.of0; have q7 := hto.of1; have q8 := hto.ti0; have q9 := hto.ti1
  have q10 : d.ck.d.count ≤ 5120 := hB.2
  clear hc1 hf1
  refine wp_region_quiet_below (by kernel_rfl) (by kernel_rfl) ?_; (repeat (refine wpQuiet_step (fun K hK => ?_); go_simp; first | (refine hK _ ?_; clear hK K) | (apply Exists.intro; refine ⟨fun _ => ?_, hK _ ?_⟩; (first | exact Calls.regrown_of (c54 d.ck t n _ tu1 tu2 q6 (by have : t.of < d.tu := q7; omega) q3 (by omega) q1 (by omega) (by omega) (by have : t.ti ≤ d.tu := q9; omega))); clear hK K))); refine wpQuiet_nil ?_; intro _ hw; obtain ⟨q, hwq⟩ := hw; subst hwq
  have hB3 := below_regrown (w2.alloc (.cells t.cells 82)) q.d q.os
  generalize grow (redrawn (w2.alloc (.cells t.cells 82)) q.d) q.os = w3 at hB3 ⊢
  go_wp2
  go_returns
  exact ⟨by rw [← hbth.out, ← htih.out]; rfl, by (repeat' (first | (with_reducible exact Below.refl _ _) | (with_reducible assumption) | (with_reducible refine Below.alloc ?_ ?_ _) | (with_reducible refine Below.drew ?_) | (with_reducible refine below_drewN ?_ _) | (with_reducible refine Below.setCell ?_ ?_ _) | (with_reducible refine Below.trans ?_ (Below.mono (by with_reducible assumption) ?_)) | go_size))⟩

set_option maxHeartbeats 1000000 in
theorem c24_err (d : Dk) (n : Int) (w : World) (hz : Zs w d) (hm : d.zs.length ≤ 1000000) (he : d.secErr n ≠ 0) :
    Calls Try.prog 24 #[d.v, .int .i64 n] w fun e w' => e = .returned (.tuple #[.int .i64 0, .int .i64 0, .int .i64 (d.secErr n)]) ∧ Below w.heap.size w w' := by
  by_cases ok : d.Ok
  · by_cases hn : 0 ≤ n ∧ n < d.count
    · exact absurd (Dk.secErr_yes ok hn) he
    · rw [Dk.secErr_no ok hn]
      clear he
      go_enter Try.func24, Try.ntmps24
      go_wp2_with (first | (go_at_call 46; refine (c46y d _ (by exact hz.below (by (repeat' (first | (with_reducible exact Below.refl _ _) | (with_reducible assumption) | (with_reducible refine Below.alloc ?_ ?_ _) | (with_reducible refine Below.drew ?_) | (with_reducible refine below_drewN ?_ _) | (with_reducible refine Below.setCell ?_ ?_ _) | (with_reducible refine Below.trans ?_ (Below.mono (by with_reducible assumption) ?_)) | go_size))) (Nat.le_refl _)) ok).mono ?_; rintro e w1 ⟨rfl, hB1⟩; obtain ⟨hc1, hf1⟩ := bcell (hB1.mono (show w.heap.size + 1 ≤ _ by first | omega | ((try simp only [World.size_alloc, World.size_drew, World.size_setCell]); omega))); have hz1 : w.heap.size < w1.heap.size := by (have := hB1.size; (try simp only [World.size_alloc, World.size_drew, World.size_setCell] at this); omega)) | (go_at_call 52; refine (c52n d ok n _ (by exact hz.below (by (repeat' (first | (with_reducible exact Below.refl _ _) | (with_reducible assumption) | (with_reducible refine Below.alloc ?_ ?_ _) | (with_reducible refine Below.drew ?_) | (with_reducible refine below_drewN ?_ _) | (with_reducible refine Below.setCell ?_ ?_ _) | (with_reducible refine Below.trans ?_ (Below.mono (by with_reducible assumption) ?_)) | go_size))) (Nat.le_refl _)) hn).mono ?_; rintro e w2 ⟨rfl, hB2⟩; obtain ⟨hc2, hf2⟩ := bcell (hB2.mono (show w.heap.size + 1 ≤ _ by first | omega | ((try simp only [World.size_alloc, World.size_drew, World.size_setCell]); omega))); have hz2 : w.heap.size < w2.heap.size := by (have := hB2.size; (try simp only [World.size_alloc, World.size_drew, World.size_setCell] at this); omega)))
      go_returns
      exact ⟨rfl, by (repeat' (first | (with_reducible exact Below.refl _ _) | (with_reducible assumption) | (with_reducible refine Below.alloc ?_ ?_ _) | (with_reducible refine Below.drew ?_) | (with_reducible refine below_drewN ?_ _) | (with_reducible refine Below.setCell ?_ ?_ _) | (with_reducible refine Below.trans ?_ (Below.mono (by with_reducible assumption) ?_)) | go_size))⟩
  · rw [Dk.secErr_not ok]
    clear he
    go_enter Try.func24, Try.ntmps24
    go_wp2_with (go_at_call 46; refine (c46n d _ (by exact hz.below (by (repeat' (first | (with_reducible exact Below.refl _ _) | (with_reducible assumption) | (with_reducible refine Below.alloc ?_ ?_ _) | (with_reducible refine Below.drew ?_) | (with_reducible refine below_drewN ?_ _) | (with_reducible refine Below.setCell ?_ ?_ _) | (with_reducible refine Below.trans ?_ (Below.mono (by with_reducible assumption) ?_)) | go_size))) (Nat.le_refl _)) hm ok).mono ?_; rintro e w1 ⟨rfl, hB1⟩; obtain ⟨hc1, hf1⟩ := bcell (hB1.mono (show w.heap.size + 1 ≤ _ by first | omega | ((try simp only [World.size_alloc, World.size_drew, World.size_setCell]); omega))); have hz1 : w.heap.size < w1.heap.size := by (have := hB1.size; (try simp only [World.size_alloc, World.size_drew, World.size_setCell] at this); omega))
    go_returns
    exact ⟨rfl, by (repeat' (first | (with_reducible exact Below.refl _ _) | (with_reducible assumption) | (with_reducible refine Below.alloc ?_ ?_ _) | (with_reducible refine Below.drew ?_) | (with_reducible refine below_drewN ?_ _) | (with_reducible refine Below.setCell ?_ ?_ _) | (with_reducible refine Below.trans ?_ (Below.mono (by with_reducible assumption) ?_)) | go_size))⟩

set_option maxRecDepth 100000 in
set_option maxHeartbeats 1000000 in
theorem c26_ok (d : Dk) (n : Nat) (w : World) (hz : Zs w d) (ok : d.Ok) (hn : n < (places d).length) (tm : Int) (tm0 : 0 ≤ tm) (tm1 : tm ≤ 1000000) :
    Calls Try.prog 26 #[d.v, .int .i64 n, .int .i64 tm] w fun e w' => e = .returned (.tuple #[.int .i64 ((begAt d (places d)[n] - tm) % d.tu), .int .i64 0]) ∧ Below w.heap.size w w' := by
  have hL := ok.lenPl
  have hB := ok.cntB
  have tu1 := ok.tu1; have tu2 := ok.tu2
  unfold lenPlaces at hL
  go_enter Try.func26, Try.ntmps26
  go_wp2_with (first | (go_at_call 50; refine (c50y _ (by omega)).mono ?_; rintro e w9 ⟨rfl, rfl⟩) | (go_at_call 46; refine (c46y d _ (by exact hz.below (by (repeat' (first | (with_reducible exact Below.refl _ _) | (with_reducible assumption) | (with_reducible refine Below.alloc ?_ ?_ _) | (with_reducible refine Below.drew ?_) | (with_reducible refine below_drewN ?_ _) | (with_reducible refine Below.setCell ?_ ?_ _) | (with_reducible refine Below.trans ?_ (Below.mono (by with_reducible assumption) ?_)) | go_size))) (Nat.le_refl _)) ok).mono ?_; rintro e w1 ⟨rfl, hB1⟩; obtain ⟨hc1, hf1⟩ := bcell (hB1.mono (show w.heap.size + 1 ≤ _ by first | omega | ((try simp only [World.size_alloc, World.size_drew, World.size_setCell]); omega))); have hz1 : w.heap.size < w1.heap.size := by (have := hB1.size; (try simp only [World.size_alloc, World.size_drew, World.size_setCell] at this); omega)) | (go_at_call 52; refine (c52y d ok n _ (by exact hz.below (by (repeat' (first | (with_reducible exact Below.refl _ _) | (with_reducible assumption) | (with_reducible refine Below.alloc ?_ ?_ _) | (with_reducible refine Below.drew ?_) | (with_reducible refine below_drewN ?_ _) | (with_reducible refine Below.setCell ?_ ?_ _) | (with_reducible refine Below.trans ?_ (Below.mono (by with_reducible assumption) ?_)) | go_size))) (Nat.le_refl _)) hn).mono ?_; rintro e w2 ⟨t, hto, hth, hp, hbt, hti, rfl, hB2⟩; have hz2 : w1.heap.size < w2.heap.size := (by have := hB2.size; (try simp only [World.size_alloc] at this); omega); have hph := hid hp; have hbth := hid hbt; have htih := hid hti; clear hp hbt hti))
  have hC : (w2.alloc (.cells t.cells 82)).heap[w1.heap.size]? = some (.cells d.ck.cells 73 (0, 0)) := (Below.heap_alloc _ _ _ hz2).trans ((hB2.block _ (by simp)).trans (heap_new w1 _))
  have k1 := cells_regrown hC
  have k2 := cells_regrown (heap_new w2 (.cells t.cells 82))
  have q1 := hto.fi0; have q2 := hto.en; have q3 := hth.1; have q4 := hth.2; have q5 := hto.se2; have q6 := hto.of0; have q7 := hto.of1; have q8 := hto.ti0; have q9 := hto.ti1
  have q10 : d.ck.d.count ≤ 5120 := hB.2
  have hbd := begT_bd d.ck t n tu1
  have hwr : IntKind.i64.wrap (begT d.ck t n - tm) = begT d.ck t n - tm := i64w _ (by omega) (by have : begT d.ck t n < d.tu := hbd.2; omega)
  have hbd2 : begT d.ck t n < d.tu := hbd.2
  clear hc1 hf1
  refine wp_region_quiet_below (by kernel_rfl) (by kernel_rfl) ?_; (repeat (refine wpQuiet_step (fun K hK => ?_); go_simp; first | (refine hK _ ?_; clear hK K) | (apply Exists.intro; refine ⟨fun _ => ?_, hK _ ?_⟩; (first | exact Calls.regrown_of (c54 d.ck t n _ tu1 tu2 q6 (by have : t.of < d.tu := q7; omega) q3 (by omega) q1 (by omega) (by omega) (by have : t.ti ≤ d.tu := q9; omega)) | exact Calls.regrown_of (c57B _ _ _ tu1 tu2 (by omega) (by omega))); clear hK K))); refine wpQuiet_nil ?_; intro _ hw; obtain ⟨q, hwq⟩ := hw; subst hwq
  have hB3 := below_regrown (w2.alloc (.cells t.cells 82)) q.d q.os
  generalize grow (redrawn (w2.alloc (.cells t.cells 82)) q.d) q.os = w3 at hB3 ⊢
  go_wp2
  go_returns
  exact ⟨by rw [← hbth.out]; rfl, by (repeat' (first | (with_reducible exact Below.refl _ _) | (with_reducible assumption) | (with_reducible refine Below.alloc ?_ ?_ _) | (with_reducible refine Below.drew ?_) | (with_reducible refine below_drewN ?_ _) | (with_reducible refine Below.setCell ?_ ?_ _) | (with_reducible refine Below.trans ?_ (Below.mono (by with_reducible assumption) ?_)) | go_size))⟩
end Go.Proofs.Ythkbiplmfbcabaa
