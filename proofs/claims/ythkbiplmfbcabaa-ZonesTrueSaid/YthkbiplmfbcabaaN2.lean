/- Stage 1: the best skew as one number; Skews of package zones when it refuses. -/
import Derived.Test.YthkbiplmfbcabaaH2
import Derived.Test.YthkbiplmfbcabaaE2
import Derived.Test.YthkbiplmfbcabaaWd
set_option linter.unusedSimpArgs false
set_option linter.unusedVariables false
namespace Go.Proofs.Ythkbiplmfbcabaa
open Go.RowKit Go.Sort

def jOf (tu st : Int) : Nat := ((tu - 1) / st).toNat
theorem jOf_eq {tu st : Int} {j : Nat} (st0 : 1 ≤ st) (h1 : st * j < tu) (h2 : tu ≤ st * (j + 1)) : jOf tu st = j := by
  have h3 : (tu - 1) / st = (j : Int) := by
    refine Int.le_antisymm ?_ ?_
    · have : (tu - 1) / st < j + 1 := Int.ediv_lt_of_lt_mul (by omega) (by rw [Int.mul_comm]; omega)
      omega
    · exact (Int.le_ediv_iff_mul_le (by omega)).2 (by rw [Int.mul_comm]; omega)
  unfold jOf
  rw [h3]; rfl
theorem jOf_lt {tu st : Int} (st0 : 1 ≤ st) (tu0 : 1 ≤ tu) : st * (jOf tu st : Int) < tu := by
  have h1 : 0 ≤ (tu - 1) / st := Int.ediv_nonneg (by omega) (by omega)
  have h2 : ((jOf tu st : Nat) : Int) = (tu - 1) / st := by unfold jOf; omega
  rw [h2]
  have := Int.mul_ediv_self_le (x := tu - 1) (k := st) (by omega)
  omega
def bestOf (tu n h st : Int) : Int := (bestSt tu n h st (jOf tu st)).1
theorem bestSt_mem (tu n h st : Int) (j : Nat) : ∃ i : Nat, i ≤ j ∧ (bestSt tu n h st j).1 = st * i ∧ (bestSt tu n h st j).2 = n * gapV tu (st * i) h := by
  induction j with
  | zero => exact ⟨0, Nat.le_refl _, by simp [bestSt], by simp [bestSt]⟩
  | succ j ih =>
    rw [bestSt]
    split
    · exact ⟨j + 1, Nat.le_refl _, by simp, by simp⟩
    · obtain ⟨i, h1, h2, h3⟩ := ih
      exact ⟨i, by omega, h2, h3⟩
theorem bestOf_bd {tu n h st : Int} (st0 : 1 ≤ st) (tu0 : 1 ≤ tu) : 0 ≤ bestOf tu n h st ∧ bestOf tu n h st < tu := by
  obtain ⟨i, h1, h2, _⟩ := bestSt_mem tu n h st (jOf tu st)
  have h3 := jOf_lt st0 tu0
  unfold bestOf
  rw [h2]
  have h4 : 0 ≤ st * (i : Int) := Int.mul_nonneg (by omega) (by omega)
  have h5 : st * (i : Int) ≤ st * (jOf tu st : Int) := Int.mul_le_mul_of_nonneg_left (by omega) (by omega)
  omega

theorem c64' (c : Ck) (l h s n st : Int) (w : World) (tu1 : 1 ≤ c.d.tu) (tu2 : c.d.tu ≤ 1000) (h0 : 0 ≤ h) (h1 : h ≤ 2000) (n0 : 0 ≤ n) (n1 : n ≤ 1000) (st0 : 1 ≤ st) (st1 : st ≤ c.d.tu) :
    Calls Try.prog 64 #[c.v, .agg #[.int .i64 l, .int .i64 h, .int .i64 s], .int .i64 n, .int .i64 st] w fun e w' => e = .returned (.int .i64 (bestOf c.d.tu n h st)) ∧ Below w.heap.size w w' :=
  (c64 c l h s n st w tu1 tu2 h0 h1 n0 n1 st0 st1).mono fun e w' hr => by
    obtain ⟨⟨j, j1, j2, he⟩, hB⟩ := hr
    refine ⟨?_, hB⟩
    rw [he]
    unfold bestOf
    rw [jOf_eq st0 j1 j2]

set_option maxHeartbeats 1000000 in
theorem c32_err (d : Dk) (st : Int) (w : World) (hz : Zs w d) (hm : d.zs.length ≤ 1000000) (ok : ¬ d.Ok) :
    Calls Try.prog 32 #[d.v, .int .i64 st] w fun e w' => e = .returned (.tuple #[.int .i64 0, .int .i64 0, .int .i64 0, .int .i64 10]) ∧ Below w.heap.size w w' := by
  go_enter Try.func32, Try.ntmps32
  go_wp2_with (go_at_call 46; refine (c46n d _ (by exact hz.below (by (repeat' (first | (with_reducible exact Below.refl _ _) | (with_reducible assumption) | (with_reducible refine Below.alloc ?_ ?_ _) | (with_reducible refine Below.drew ?_) | (with_reducible refine below_drewN ?_ _) | (with_reducible refine Below.setCell ?_ ?_ _) | (with_reducible refine Below.trans ?_ (Below.mono (by with_reducible assumption) ?_)) | go_size))) (Nat.le_refl _)) hm ok).mono ?_; rintro e w1 ⟨rfl, hB1⟩; obtain ⟨hc1, hf1⟩ := bcell (hB1.mono (show w.heap.size + 1 ≤ _ by first | omega | ((try simp only [World.size_alloc, World.size_drew, World.size_setCell]); omega))); have hz1 : w.heap.size < w1.heap.size := by (have := hB1.size; (try simp only [World.size_alloc, World.size_drew, World.size_setCell] at this); omega))
  refine bodyPost_ret (v := .tuple #[.int .i64 0, .int .i64 0, .int .i64 0, .int .i64 10]) (by simp [results, Try.results32, go_sem, hc1, hf1, hz1]) rfl ⟨rfl, ?_⟩
  (repeat' (first | (with_reducible exact Below.refl _ _) | (with_reducible assumption) | (with_reducible refine Below.alloc ?_ ?_ _) | (with_reducible refine Below.drew ?_) | (with_reducible refine below_drewN ?_ _) | (with_reducible refine Below.setCell ?_ ?_ _) | (with_reducible refine Below.trans ?_ (Below.mono (by with_reducible assumption) ?_)) | go_size))
set_option maxHeartbeats 1000000 in
theorem c32_arg (d : Dk) (st : Int) (w : World) (hz : Zs w d) (ok : d.Ok) (hs : ¬ (1 ≤ st ∧ st ≤ d.tu)) :
    Calls Try.prog 32 #[d.v, .int .i64 st] w fun e w' => e = .returned (.tuple #[.int .i64 0, .int .i64 0, .int .i64 0, .int .i64 1]) ∧ Below w.heap.size w w' := by
  go_enter Try.func32, Try.ntmps32
  go_wp2_with (first | (go_at_call 46; refine (c46y d _ (by exact hz.below (by (repeat' (first | (with_reducible exact Below.refl _ _) | (with_reducible assumption) | (with_reducible refine Below.alloc ?_ ?_ _) | (with_reducible refine Below.drew ?_) | (with_reducible refine below_drewN ?_ _) | (with_reducible refine Below.setCell ?_ ?_ _) | (with_reducible refine Below.trans ?_ (Below.mono (by with_reducible assumption) ?_)) | go_size))) (Nat.le_refl _)) ok).mono ?_; rintro e w1 ⟨rfl, hB1⟩; obtain ⟨hc1, hf1⟩ := bcell (hB1.mono (show w.heap.size + 1 ≤ _ by first | omega | ((try simp only [World.size_alloc, World.size_drew, World.size_setCell]); omega))); have hz1 : w.heap.size < w1.heap.size := by (have := hB1.size; (try simp only [World.size_alloc, World.size_drew, World.size_setCell] at this); omega)) | (go_at_call 50; refine (c50n _ (by exact hs)).mono ?_; rintro e w9 ⟨rfl, rfl⟩))
  refine bodyPost_ret (v := .tuple #[.int .i64 0, .int .i64 0, .int .i64 0, .int .i64 1]) (by simp [results, Try.results32, go_sem, hc1, hf1, hz1]) rfl ⟨rfl, ?_⟩
  (repeat' (first | (with_reducible exact Below.refl _ _) | (with_reducible assumption) | (with_reducible refine Below.alloc ?_ ?_ _) | (with_reducible refine Below.drew ?_) | (with_reducible refine below_drewN ?_ _) | (with_reducible refine Below.setCell ?_ ?_ _) | (with_reducible refine Below.trans ?_ (Below.mono (by with_reducible assumption) ?_)) | go_size))
end Go.Proofs.Ythkbiplmfbcabaa
