/- Stage 1: the example's disk. -/
import Derived.Test.YthkbiplmfbcabaaJ2
set_option linter.unusedSimpArgs false
set_option linter.unusedVariables false
namespace Go.Proofs.Ythkbiplmfbcabaa
open Go.RowKit

def exD (b : Nat) : Dk := ⟨2, 60, some ⟨b, 0, none⟩, b, 0, 2, [(2, 6), (1, 5)], 10, 25, 4, 12, 20, 30⟩
theorem exD_ok (b : Nat) : (exD b).Ok := by
  constructor <;> simp [exD, okZ]

def ExRet (w : World) (e : Ending) (w' : World) : Prop := e = .returned (exD (w.heap.size + 1)).v ∧ Zs w' (exD (w.heap.size + 1)) ∧ Below w.heap.size w w'

set_option maxRecDepth 100000 in
set_option maxHeartbeats 1000000 in
theorem c44 (w : World) : Calls Try.prog 44 #[] w (ExRet w) := by
  go_enter Try.func44, Try.ntmps44
  go_wp2_with (first | (go_at_call 45; refine (c45 4 12 _).mono ?_; rintro e w1 ⟨rfl, hB1⟩; have hz1 : w.heap.size + 1 < w1.heap.size := (by have := hB1.size; (try simp only [World.size_alloc] at this); omega); have hy1 : w.heap.size < w1.heap.size := (by omega); obtain ⟨hc1, hf1⟩ := bcell (hB1.mono (show w.heap.size + 2 ≤ _ by first | omega | (simp; done))); have hb1 := hB1.block (w.heap.size + 1) (by first | omega | (simp; done))) | (go_at_call 45; refine (c45 20 30 _).mono ?_; rintro e w2 ⟨rfl, hB2⟩; have hz2 : w.heap.size + 1 < w2.heap.size := (by have := hB2.size; (try simp only [World.size_alloc] at this); omega); have hy2 : w.heap.size < w2.heap.size := (by omega); obtain ⟨hc2, hf2⟩ := bcell (hB2.mono (show w.heap.size + 2 ≤ _ by first | omega | (simp; done))); have hb2 := hB2.block (w.heap.size + 1) (by first | omega | (simp; done))))
  refine bodyPost_ret (v := (exD (w.heap.size + 1)).v) (by simp [results, Try.results44, go_sem, hc1, hf1, hz1, hy1, hc2, hf2, hz2, hy2, exD]) rfl ⟨rfl, ?_, ?_⟩
  · have hk : ∀ k, k < (exD (w.heap.size + 1)).zs.length → k = 0 ∨ k = 1 := fun k hk => by have : k < 2 := hk; omega
    have hs : w.heap.size + 1 < w2.heap.size := hz2
    refine ⟨fun _ _ => rfl, fun k hk => by show w.heap.size + 1 < _; simp; omega, fun k h => ?_, fun k h => ?_, by simp [exD]⟩
    · rcases hk k h with rfl | rfl
      · show World.cell? _ ⟨w.heap.size + 1, 0, none⟩ = some (.int .i64 2)
        simp [go_sem, hc2, hc1, hz1, hy1, hz2, hy2]
      · show World.cell? _ ⟨w.heap.size + 1, 2, none⟩ = some (.int .i64 1)
        simp [go_sem, hc2, hc1, hz1, hy1, hz2, hy2]
    · rcases hk k h with rfl | rfl
      · show World.cell? _ ⟨w.heap.size + 1, 1, none⟩ = some (.int .i64 6)
        simp [go_sem, hc2, hc1, hz1, hy1, hz2, hy2]
      · show World.cell? _ ⟨w.heap.size + 1, 3, none⟩ = some (.int .i64 5)
        simp [go_sem, hc2, hc1, hz1, hy1, hz2, hy2]
  · (repeat' (first | (with_reducible exact Below.refl _ _) | (with_reducible assumption) | (with_reducible refine Below.alloc ?_ ?_ _) | (with_reducible refine Below.drew ?_) | (with_reducible refine below_drewN ?_ _) | (with_reducible refine Below.setCell ?_ ?_ _) | (with_reducible refine Below.trans ?_ (Below.mono (by with_reducible assumption) ?_)) | go_size))
end Go.Proofs.Ythkbiplmfbcabaa
