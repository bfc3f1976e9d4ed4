/- Stage 1: Lost of package zones. -/
import Derived.Test.YthkbiplmfbcabaaE2
import Derived.Test.YthkbiplmfbcabaaF2
set_option linter.unusedSimpArgs false
set_option linter.unusedVariables false
namespace Go.Proofs.Ythkbiplmfbcabaa
open Go.RowKit Go.Sort

def lost1 (tu s h : Int) : Int := (gapV tu s h - s).tdiv tu
def Dk.sw (d : Dk) : Int × Int := swOf d.count (tracksOf d.ck)
def Dk.lostAt (d : Dk) (k : Nat) : Int := if k = 0 then 0 else if k = 1 then (swOf d.ck.d.count (tracksOf d.ck)).1 * lost1 d.ck.d.tu d.ck.s0 d.ck.h0 else (swOf d.ck.d.count (tracksOf d.ck)).1 * lost1 d.ck.d.tu d.ck.s0 d.ck.h0 + (swOf d.ck.d.count (tracksOf d.ck)).2 * lost1 d.ck.d.tu d.ck.s1 d.ck.h1

theorem lost1_bd {tu s h : Int} (t1 : 1 ≤ tu) (t2 : tu ≤ 1000) (s0 : 0 ≤ s) (s1 : s < tu) (h0 : 0 ≤ h) (h1 : h ≤ 2000) : 0 ≤ gapV tu s h - s ∧ gapV tu s h - s ≤ 3000 ∧ 0 ≤ lost1 tu s h ∧ lost1 tu s h ≤ 3000 := by
  have g := gapV_bd (tu := tu) (sk := s) (t := h) t1
  have g0 : 0 ≤ gapV tu s h - s := by
    by_cases hs : s ≤ h
    · omega
    · have : (s - h) % tu = s - h := Int.emod_eq_of_lt (by omega) (by omega)
      unfold gapV; omega
  refine ⟨g0, by omega, ?_, ?_⟩
  · unfold lost1; exact Int.tdiv_nonneg g0 (by omega)
  · unfold lost1
    rw [Int.tdiv_eq_ediv_of_nonneg g0]
    have := Int.ediv_le_self tu g0
    omega

theorem ix93_0 (a b : Int) : ∀ w : World, (Instr.index 93 (.agg #[.int .i64 a, .int .i64 b]) (.int .i64 0)).run Try.prog w = .ok (.int .i64 a) w := fun _ => by kernel_rfl
theorem ix93_1 (a b : Int) : ∀ w : World, (Instr.index 93 (.agg #[.int .i64 a, .int .i64 b]) (.int .i64 1)).run Try.prog w = .ok (.int .i64 b) w := fun _ => by kernel_rfl

set_option maxRecDepth 100000 in
set_option maxHeartbeats 1000000 in
theorem c30_ok (d : Dk) (w : World) (hz : Zs w d) (ok : d.Ok) :
    Calls Try.prog 30 #[d.v] w fun e w' => e = .returned (.tuple #[.int .i64 (d.lostAt 2), .int .i64 0]) ∧ Below w.heap.size w w' := by
  have tu1 : 1 ≤ d.ck.d.tu := ok.tu1
  have tu2 : d.ck.d.tu ≤ 1000 := ok.tu2
  have hsb := swOf_bd d.ck.d.count (tracksOf d.ck)
  have hlen := tracks_len d.ck ok.ck
  have b1 := lost1_bd (tu := d.ck.d.tu) (s := d.ck.s0) (h := d.ck.h0) tu1 tu2 ok.ck.s00 ok.ck.s01 (by have := ok.sp.l00; have := ok.sp.l01; omega) ok.sp.l02
  have b2 := lost1_bd (tu := d.ck.d.tu) (s := d.ck.s1) (h := d.ck.h1) tu1 tu2 ok.ck.s10 ok.ck.s11 (by have := ok.sp.l10; have := ok.sp.l11; omega) ok.sp.l12
  go_enter Try.func30, Try.ntmps30
  go_wp2_with (first | (go_at_call 46; refine (c46y d _ (by exact hz.below (by (repeat' (first | (with_reducible exact Below.refl _ _) | (with_reducible assumption) | (with_reducible refine Below.alloc ?_ ?_ _) | (with_reducible refine Below.drew ?_) | (with_reducible refine below_drewN ?_ _) | (with_reducible refine Below.setCell ?_ ?_ _) | (with_reducible refine Below.trans ?_ (Below.mono (by with_reducible assumption) ?_)) | go_size))) (Nat.le_refl _)) ok).mono ?_; rintro e w1 ⟨rfl, hB1⟩; obtain ⟨hc1, hf1⟩ := bcell (hB1.mono (show w.heap.size + 1 ≤ _ by first | omega | ((try simp only [World.size_alloc, World.size_drew, World.size_setCell]); omega))); have hz1 : w.heap.size < w1.heap.size := by (have := hB1.size; (try simp only [World.size_alloc, World.size_drew, World.size_setCell] at this); omega)) | (go_at_call 61; refine (c61 d.ck ok.ck _ (by exact hz.below (by (repeat' (first | (with_reducible exact Below.refl _ _) | (with_reducible assumption) | (with_reducible refine Below.alloc ?_ ?_ _) | (with_reducible refine Below.drew ?_) | (with_reducible refine below_drewN ?_ _) | (with_reducible refine Below.setCell ?_ ?_ _) | (with_reducible refine Below.trans ?_ (Below.mono (by with_reducible assumption) ?_)) | go_size))) (Nat.le_refl _))).mono ?_; rintro e w2 ⟨rfl, hB2⟩; have hy2 : w1.heap.size < w2.heap.size := (by have := hB2.size; (try simp only [World.size_alloc] at this); omega); obtain ⟨hc2, hf2⟩ := bcell (hB2.mono (show w1.heap.size + 1 ≤ _ by first | omega | (simp; done)))))
  have hvb2 : w2.heap[w1.heap.size]? = some (.cells d.ck.cells 73 (0, 0)) := (hB2.block _ (by simp)).trans (heap_new w1 _)
  have p1 := mul_le_mul_of hsb.1.1 b1.2.2.1 (show (swOf d.ck.d.count (tracksOf d.ck)).1 ≤ 320 by omega) b1.2.2.2
  have p2 := mul_le_mul_of hsb.2.1 b2.2.2.1 (show (swOf d.ck.d.count (tracksOf d.ck)).2 ≤ 320 by omega) b2.2.2.2
  have p3 := Int.mul_nonneg hsb.1.1 b1.2.2.1
  have p4 := Int.mul_nonneg hsb.2.1 b2.2.2.1
  go_loopw [6, 20] (fun s i wr => ∃ k : Nat, k ≤ 2 ∧ i = .int .i64 k ∧ s = .int .i64 (d.lostAt k) ∧ Below (w1.heap.size + 1) w2 wr) (fun _ i _ => 2 - (intOf i).toNat)
  case atStart => exact ⟨0, Nat.zero_le _, rfl, rfl, Below.refl _ _⟩
  case round =>
    obtain ⟨k, hk, rfl, rfl, hB⟩ := hrel
    have hvb := (hB.block _ (by omega)).trans hvb2
    have hy3 : w1.heap.size < wr.heap.size := by have := hB.size; omega
    clear hc2 hf2
    have hx0 := ix93_0 (swOf d.ck.d.count (tracksOf d.ck)).1 (swOf d.ck.d.count (tracksOf d.ck)).2
    have hx1 := ix93_1 (swOf d.ck.d.count (tracksOf d.ck)).1 (swOf d.ck.d.count (tracksOf d.ck)).2
    rcases (show k = 0 ∨ k = 1 ∨ k = 2 by omega) with rfl | rfl | rfl
    · have hw1 := i64w (x := gapV d.ck.d.tu d.ck.s0 d.ck.h0 - d.ck.s0) (by omega) (by omega)
      have hw2 : IntKind.i64.wrap ((gapV d.ck.d.tu d.ck.s0 d.ck.h0 - d.ck.s0).tdiv d.ck.d.tu) = lost1 d.ck.d.tu d.ck.s0 d.ck.h0 := i64w (x := lost1 d.ck.d.tu d.ck.s0 d.ck.h0) (by omega) (by omega)
      have hw3 := i64w (x := (swOf d.ck.d.count (tracksOf d.ck)).1 * lost1 d.ck.d.tu d.ck.s0 d.ck.h0) (by omega) (by omega)
      have hw4 := i64w (x := 0 + (swOf d.ck.d.count (tracksOf d.ck)).1 * lost1 d.ck.d.tu d.ck.s0 d.ck.h0) (by omega) (by omega)
      have hct := fun j => cell_at (j := j) hvb
      have hnz : (d.ck.d.tu = 0) = False := by simp; omega
      go_wp2_with fail
      have hn := heap_new wr (.cells #[.int .i64 d.ck.l0, .int .i64 d.ck.h0, .int .i64 d.ck.s0] 70)
      have hv4 := (Below.heap_alloc wr (.cells #[.int .i64 d.ck.l0, .int .i64 d.ck.h0, .int .i64 d.ck.s0] 70) w1.heap.size hy3).trans hvb
      have k1 := cells_regrown hv4
      have k2 := cells_regrown hn
      refine wp_region_quiet_below (by kernel_rfl) (by kernel_rfl) ?_; (repeat (refine wpQuiet_step (fun K hK => ?_); go_simp; first | (refine hK _ ?_; clear hK K) | (apply Exists.intro; refine ⟨fun _ => ?_, hK _ ?_⟩; (first | exact Calls.regrown_of (c62 d.ck _ _ _ _ _ tu1 tu2 (by have := ok.sp.l00; have := ok.sp.l01; omega) ok.sp.l02 ok.ck.s00 (by have := ok.ck.s01; omega))); clear hK K))); refine wpQuiet_nil ?_; intro _ hw; obtain ⟨q, hwq⟩ := hw; subst hwq
      have hB5 := below_regrown (wr.alloc (.cells #[.int .i64 d.ck.l0, .int .i64 d.ck.h0, .int .i64 d.ck.s0] 70)) q.d q.os
      generalize grow (redrawn (wr.alloc (.cells #[.int .i64 d.ck.l0, .int .i64 d.ck.h0, .int .i64 d.ck.s0] 70)) q.d) q.os = w5 at hB5 ⊢
      go_wp2
      go_roundw
      case rel => exact ⟨1, by omega, by go_num, by simp [Dk.lostAt, hw3], (hB.alloc (by omega) _).trans (hB5.mono (by simp; omega))⟩
      case measure => simp [intOf]
    · have hw1 := i64w (x := gapV d.ck.d.tu d.ck.s1 d.ck.h1 - d.ck.s1) (by omega) (by omega)
      have hw2 : IntKind.i64.wrap ((gapV d.ck.d.tu d.ck.s1 d.ck.h1 - d.ck.s1).tdiv d.ck.d.tu) = lost1 d.ck.d.tu d.ck.s1 d.ck.h1 := i64w (x := lost1 d.ck.d.tu d.ck.s1 d.ck.h1) (by omega) (by omega)
      have hw3 := i64w (x := (swOf d.ck.d.count (tracksOf d.ck)).2 * lost1 d.ck.d.tu d.ck.s1 d.ck.h1) (by omega) (by omega)
      have hw4 := i64w (x := (swOf d.ck.d.count (tracksOf d.ck)).1 * lost1 d.ck.d.tu d.ck.s0 d.ck.h0 + (swOf d.ck.d.count (tracksOf d.ck)).2 * lost1 d.ck.d.tu d.ck.s1 d.ck.h1) (by omega) (by omega)
      have hct := fun j => cell_at (j := j) hvb
      have hnz : (d.ck.d.tu = 0) = False := by simp; omega
      go_wp2_with fail
      have hn := heap_new wr (.cells #[.int .i64 d.ck.l1, .int .i64 d.ck.h1, .int .i64 d.ck.s1] 70)
      have hv4 := (Below.heap_alloc wr (.cells #[.int .i64 d.ck.l1, .int .i64 d.ck.h1, .int .i64 d.ck.s1] 70) w1.heap.size hy3).trans hvb
      have k1 := cells_regrown hv4
      have k2 := cells_regrown hn
      refine wp_region_quiet_below (by kernel_rfl) (by kernel_rfl) ?_; (repeat (refine wpQuiet_step (fun K hK => ?_); go_simp; first | (refine hK _ ?_; clear hK K) | (apply Exists.intro; refine ⟨fun _ => ?_, hK _ ?_⟩; (first | exact Calls.regrown_of (c62 d.ck _ _ _ _ _ tu1 tu2 (by have := ok.sp.l10; have := ok.sp.l11; omega) ok.sp.l12 ok.ck.s10 (by have := ok.ck.s11; omega))); clear hK K))); refine wpQuiet_nil ?_; intro _ hw; obtain ⟨q, hwq⟩ := hw; subst hwq
      have hB5 := below_regrown (wr.alloc (.cells #[.int .i64 d.ck.l1, .int .i64 d.ck.h1, .int .i64 d.ck.s1] 70)) q.d q.os
      generalize grow (redrawn (wr.alloc (.cells #[.int .i64 d.ck.l1, .int .i64 d.ck.h1, .int .i64 d.ck.s1] 70)) q.d) q.os = w5 at hB5 ⊢
      go_wp2
      go_roundw
      case rel => exact ⟨2, by omega, by go_num, by simp [Dk.lostAt, hw4], (hB.alloc (by omega) _).trans (hB5.mono (by simp; omega))⟩
      case measure => simp [intOf]
    · go_wp2_with fail
      go_returns
      exact ⟨rfl, by (repeat' (first | (with_reducible exact Below.refl _ _) | (with_reducible assumption) | (with_reducible refine Below.alloc ?_ ?_ _) | (with_reducible refine Below.drew ?_) | (with_reducible refine below_drewN ?_ _) | (with_reducible refine Below.setCell ?_ ?_ _) | (with_reducible refine Below.trans ?_ (Below.mono (by with_reducible assumption) ?_)) | go_size))⟩

set_option maxHeartbeats 1000000 in
theorem c30_err (d : Dk) (w : World) (hz : Zs w d) (hm : d.zs.length ≤ 1000000) (ok : ¬ d.Ok) :
    Calls Try.prog 30 #[d.v] w fun e w' => e = .returned (.tuple #[.int .i64 0, .int .i64 10]) ∧ Below w.heap.size w w' := by
  go_enter Try.func30, Try.ntmps30
  go_wp2_with (go_at_call 46; refine (c46n d _ (by exact hz.below (by (repeat' (first | (with_reducible exact Below.refl _ _) | (with_reducible assumption) | (with_reducible refine Below.alloc ?_ ?_ _) | (with_reducible refine Below.drew ?_) | (with_reducible refine below_drewN ?_ _) | (with_reducible refine Below.setCell ?_ ?_ _) | (with_reducible refine Below.trans ?_ (Below.mono (by with_reducible assumption) ?_)) | go_size))) (Nat.le_refl _)) hm ok).mono ?_; rintro e w1 ⟨rfl, hB1⟩; obtain ⟨hc1, hf1⟩ := bcell (hB1.mono (show w.heap.size + 1 ≤ _ by first | omega | ((try simp only [World.size_alloc, World.size_drew, World.size_setCell]); omega))); have hz1 : w.heap.size < w1.heap.size := by (have := hB1.size; (try simp only [World.size_alloc, World.size_drew, World.size_setCell] at this); omega))
  go_returns
  exact ⟨rfl, by (repeat' (first | (with_reducible exact Below.refl _ _) | (with_reducible assumption) | (with_reducible refine Below.alloc ?_ ?_ _) | (with_reducible refine Below.drew ?_) | (with_reducible refine below_drewN ?_ _) | (with_reducible refine Below.setCell ?_ ?_ _) | (with_reducible refine Below.trans ?_ (Below.mono (by with_reducible assumption) ?_)) | go_size))⟩
end Go.Proofs.Ythkbiplmfbcabaa
