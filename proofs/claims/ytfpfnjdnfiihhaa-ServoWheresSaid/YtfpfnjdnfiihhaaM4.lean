/- Stage 2, plain mathematics: paths that move, and agree. -/
import Derived.Test.YtfpfnjdnfiihhaaRf
set_option linter.unusedSimpArgs false
set_option linter.unusedVariables false
namespace Go.Proofs.Ytfpfnjdnfiihhaa

theorem Pth.far {N m : Nat} {p : Nat → Nat} {n : Nat} (h : Pth N m p n) : ∀ (d i : Nat), i + d < n → p (i + d) ≤ p i + m * d ∧ p i ≤ p (i + d) + m * d
  | 0, i, _ => by simp
  | d + 1, i, hi => by
    have ih := Pth.far h d i (by omega)
    have h1 := (h (i + (d + 1)) hi).2 (by omega)
    rw [show i + (d + 1) - 1 = i + d by omega] at h1
    have e : m * (d + 1) = m * d + m := by rw [Nat.mul_succ]
    omega
theorem cst_low {ag : Nat → Nat → Bool} {p : Nat → Nat} (a : Nat) : ∀ n, (∀ i, a ≤ i → i < n → ag i (p i) = false) → (n : Int) - a ≤ cst ag p n
  | 0, _ => by simp only [cst]; omega
  | n + 1, h => by
    have ih := cst_low a n (fun i h1 h2 => h i h1 (by omega))
    simp only [cst]
    by_cases ha : a ≤ n
    · rw [h n ha (by omega)]
      simp only [Bool.false_eq_true, if_false]
      omega
    · have := cst_nn (ag := ag) (p := p) n
      split <;> omega
theorem cst_some {ag : Nat → Nat → Bool} {p : Nat → Nat} {n a : Nat} (h : cst ag p n < (n : Int) - a) : ∃ i, a ≤ i ∧ i < n ∧ ag i (p i) = true := by
  apply Classical.byContradiction
  intro hno
  have := cst_low (ag := ag) (p := p) a n (fun i h1 h2 => by
    cases e : ag i (p i) with
    | false => rfl
    | true => exact absurd ⟨i, h1, h2, e⟩ hno)
  omega
/-- Two positions that agree with a wedge that was read are near each other. -/
theorem agr_near {s : Sv} {g : Wg} {i p q : Nat} (hr : g.wc i ≠ -1) (hp : agr s g i p = true) (hq : agr s g i q = true) : (q : Int) - p ≤ 2 * s.no ∧ (p : Int) - q ≤ 2 * s.no := by
  have h2 : (trk (g.wc i).toNat : Int) < s.tr := by
    rcases agr_ref.1 hp with h | h
    · exact absurd h hr
    · exact h.1
  have h3 := ((agr_iff hr h2 p).1 hp).2
  have h4 := ((agr_iff hr h2 q).1 hq).2
  omega
/-- What is found again. -/
theorem found {s : Sv} {g : Wg} (ok : s.Ok) {f : Nat → Int} (hp : PathP s f g.wn) (hw : s.wr < g.wn) (hag : ∀ i, g.wn - 1 - s.wr.toNat ≤ i → i < g.wn → g.wc i ≠ -1 ∧ agr s g i (pos f i) = true)
    {x : Nat} (hx : x < s.N) (hfl : fl s g x ≤ s.wr) : f (g.wn - 1) - (2 * s.no + 2 * s.mv * s.wr) ≤ (x : Int) ∧ (x : Int) ≤ f (g.wn - 1) + (2 * s.no + 2 * s.mv * s.wr) := by
  have w0 := ok.w0
  obtain ⟨m, hm⟩ : ∃ m, g.wn = m + 1 := ⟨g.wn - 1, by omega⟩
  unfold fl at hfl
  rw [hm] at hfl hp hag
  obtain ⟨q, q1, q2, q3⟩ := (flt_path m x _ hx).1 hfl
  obtain ⟨i, i1, i2, i3⟩ := cst_some (a := m - s.wr.toNat) (show cst (agr s g) q (m + 1) < ((m + 1 : Nat) : Int) - ((m - s.wr.toNat : Nat) : Int) by omega)
  obtain ⟨r1, r2⟩ := hag i (by omega) i2
  have hn := agr_near r1 r2 i3
  have f1 := q1.far (m - i) i (by omega)
  have f2 := (hp.pth ok).far (m - i) i (by omega)
  rw [show i + (m - i) = m by omega] at f1 f2
  have hi := (hp m (by omega)).1.pos.1
  rw [show g.wn - 1 = m by omega]
  have hmm := ok.mb.1
  have hle : s.m * (m - i) ≤ s.m * s.wr.toNat := Nat.mul_le_mul_left _ (by omega)
  have e1 : ((s.m * s.wr.toNat : Nat) : Int) = s.mv * s.wr := by
    rw [Int.natCast_mul, hmm, show ((s.wr.toNat : Nat) : Int) = s.wr by omega]
  have e2 : 2 * s.mv * s.wr = 2 * (s.mv * s.wr) := by rw [Int.mul_assoc]
  rw [hi, e2]
  omega
end Go.Proofs.Ytfpfnjdnfiihhaa
