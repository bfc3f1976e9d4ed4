/- Stage 4: the stream of data. -/
import Derived.Test.YtljioabolacbeaaH
set_option linter.unusedSimpArgs false
set_option linter.unusedVariables false
namespace Go.Proofs.Ytljioabolacbeaa
open Go.RowKit

/-- The state after k words. -/
def stN (q : Cd) (st : Nat) (d : Nat → Int) : Nat → Nat
  | 0 => st
  | k + 1 => ((q.N (stN q st d k)).f (d k).toNat).toNat
/-- The word of the medium at the k-th word of data. -/
def mdN (q : Cd) (st : Nat) (d : Nat → Int) (k : Nat) : Nat := ((q.W (stN q st d k)).f (d k).toNat).toNat
/-- The bits of the stream. -/
def sm (q : Cd) (st : Nat) (d : Nat → Int) (i : Nat) : Int := bt q.O (mdN q st d (i / q.O)) (i % q.O)
theorem stN_lt {q : Cd} (ok : q.Ok) {st n : Nat} {d : Nat → Int} (hst : st < q.wn) (hd : allB (2 ^ q.B : Nat) n d) : ∀ k, k ≤ n → stN q st d k < q.wn
  | 0, _ => hst
  | k + 1, h => by
    have ih := stN_lt ok hst hd k (by omega)
    have h1 := hd k (by omega)
    have h2 := ok.nv _ ih (d k).toNat (by rw [ok.nl _ ih]; unfold bel at h1; omega)
    unfold bel at h2
    simp only [stN]
    omega
theorem mdN_lt {q : Cd} (ok : q.Ok) {st n : Nat} {d : Nat → Int} (hst : st < q.wn) (hd : allB (2 ^ q.B : Nat) n d) {k : Nat} (h : k < n) : mdN q st d k < 2 ^ q.O ∧ ((mdN q st d k : Nat) : Int) = (q.W (stN q st d k)).f (d k).toNat ∧ ((stN q st d (k + 1) : Nat) : Int) = (q.N (stN q st d k)).f (d k).toNat ∧ (d k).toNat < 2 ^ q.B ∧ (((d k).toNat : Nat) : Int) = d k := by
  have ih := stN_lt ok hst hd k (by omega)
  have h1 := hd k h
  unfold bel at h1
  have h2 := ok.wv _ ih (d k).toNat (by rw [ok.wl _ ih]; omega)
  have h3 := ok.nv _ ih (d k).toNat (by rw [ok.nl _ ih]; omega)
  unfold bel at h2 h3
  refine ⟨?_, ?_, ?_, ?_, ?_⟩
  · unfold mdN; omega
  · unfold mdN; omega
  · simp only [stN]; omega
  · omega
  · omega
end Go.Proofs.Ytljioabolacbeaa
