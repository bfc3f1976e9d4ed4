/- Stage 1: the law ZonesParts, whole. -/
import Derived.Test.YthkbiplmfbcabaaK3
import Derived.Test.YthkbiplmfbcabaaK3b
import Derived.Test.YthkbiplmfbcabaaK3c
set_option linter.unusedSimpArgs false
set_option linter.unusedVariables false
namespace Go.Proofs.Ythkbiplmfbcabaa
open Go.RowKit Go.Sort

theorem c9 (d : Dk) (xf xn xa xl xh : Int) (w : World) (hz : Zs w d) : Calls Try.prog 9 #[d.v, .agg #[.int .i64 xf, .int .i64 xn, .int .i64 xa, .int .i64 xl, .int .i64 xh]] w fun e w' => e = .returned (.bool true) ∧ Below w.heap.size w w' := by
  by_cases h1 : ¬ d.far ∧ d.Ok
  · obtain ⟨hf, ok⟩ := h1
    by_cases h2 : 0 ≤ xf ∧ xf < d.count ∧ 1 ≤ xn ∧ xn ≤ d.count - xf
    · by_cases h3 : 1 ≤ xa ∧ xa < xn ∧ 0 ≤ xl ∧ xl ≤ 2000 ∧ 0 ≤ xh ∧ xh ≤ 2000
      · have hL := ok.lenPl
        unfold lenPlaces at hL
        obtain ⟨f, rfl⟩ : ∃ k : Nat, xf = k := ⟨xf.toNat, by omega⟩
        obtain ⟨n, rfl⟩ : ∃ k : Nat, xn = k := ⟨xn.toNat, by omega⟩
        obtain ⟨t, rfl⟩ : ∃ k : Nat, xa = k := ⟨xa.toNat, by omega⟩
        obtain ⟨m, hm⟩ : ∃ m, t = m + 1 := ⟨t - 1, by omega⟩
        obtain ⟨r, hr⟩ : ∃ r, n = m + (r + 1) + 1 := ⟨n - t - 1, by omega⟩
        rcases kindAt_bd d (f + m) with h | h | h
        · exact c9_k0 d f m r n t xl xh w hz hf ok hr hm (by omega) h3.2.2.1 h3.2.2.2.1 h3.2.2.2.2.1 h3.2.2.2.2.2 h
        · exact c9_k1 d f m r n t xl xh w hz hf ok hr hm (by omega) h3.2.2.1 h3.2.2.2.1 h3.2.2.2.2.1 h3.2.2.2.2.2 h
        · exact c9_k2 d f m r n t xl xh w hz hf ok hr hm (by omega) h3.2.2.1 h3.2.2.2.1 h3.2.2.2.2.1 h3.2.2.2.2.2 h
      · exact c9_out d xf xn xa xl xh w hz hf ok h2 h3
    · exact c9_norun d xf xn xa xl xh w hz hf ok h2
  · exact c9_no d xf xn xa xl xh w hz h1
end Go.Proofs.Ythkbiplmfbcabaa
