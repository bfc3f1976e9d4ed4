/- Stage 1: runs as sums, cut in two, and with narrower switches. -/
import Derived.Test.YthkbiplmfbcabaaF3
set_option linter.unusedSimpArgs false
set_option linter.unusedVariables false
namespace Go.Proofs.Ythkbiplmfbcabaa
open Go.RowKit

theorem sm_split (d : Dk) (γ : Int → Int) (f n : Nat) : sm (gAt d γ (f + (n + 1))) f (n + 1) = sm (tkAt d) f (n + 1) + sm (fun i => gk γ (kindAt d i)) f n := by
  have e1 : sm (gAt d γ (f + (n + 1))) f (n + 1) = sm (tkAt d) f (n + 1) + sm (fun i => if i + 1 < f + (n + 1) then gk γ (kindAt d i) else 0) f (n + 1) := sm_plus _ _ f (n + 1)
  rw [e1, sm.eq_2 (fun i => if i + 1 < f + (n + 1) then gk γ (kindAt d i) else 0), if_neg (by omega)]
  have e2 : sm (fun i => if i + 1 < f + (n + 1) then gk γ (kindAt d i) else 0) f n = sm (fun i => gk γ (kindAt d i)) f n := sm_congr (fun i _ h2 => by rw [if_pos (by omega)])
  rw [e2]
  omega
/-- A run of so many sectors and one more. -/
def runV (d : Dk) (γ : Int → Int) (f n : Nat) : Int := sm (tkAt d) f (n + 1) + sm (fun i => gk γ (kindAt d i)) f n
theorem run_eq {d : Dk} (ok : d.Ok) {f n : Nat} (h : f + (n + 1) ≤ (places d).length) : d.run f ((n + 1 : Nat) : Int) = (runV d (gLo d.ck) f n, runV d (gHi d.ck) f n) := by
  unfold Dk.run
  rw [runOf_run1]
  have e : (f : Int) + ((n + 1 : Nat) : Int) = ((f + (n + 1) : Nat) : Int) := by omega
  rw [e, run1_all ok _ h, run1_all ok _ h, show f + (n + 1) - f = n + 1 by omega, sm_split, sm_split]
  rfl

theorem tkAt_bd {d : Dk} (ok : d.Ok) {j : Nat} (hj : j < (places d).length) : 1 ≤ tkAt d j ∧ tkAt d j ≤ 1000 := by
  obtain ⟨m1, m2, m3, m4, m5, m6⟩ := mem_places (plN_mem (d := d) (i := j) hj)
  obtain ⟨s1, s2, s3⟩ := ok.sec m1 m2
  have hst := sec_ticks ok m1 m2
  have tu1 := ok.tu1
  have tu2 := ok.tu2
  have h9 : d.tu / secOf d.zs (plN d j).1 ≤ d.tu := Int.ediv_le_self _ (by omega)
  unfold tkAt
  refine ⟨?_, by omega⟩
  rcases Int.lt_or_le 0 (d.tu / secOf d.zs (plN d j).1) with h | h
  · omega
  · have : 0 ≤ d.tu / secOf d.zs (plN d j).1 := Int.ediv_nonneg (by omega) (by omega)
    have h0 : d.tu / secOf d.zs (plN d j).1 = 0 := by omega
    rw [h0] at hst
    simp at hst
    omega
theorem sm_bd {g : Nat → Int} {a k : Nat} {l u : Int} (h : ∀ i, a ≤ i → i < a + k → l ≤ g i ∧ g i ≤ u) : l * k ≤ sm g a k ∧ sm g a k ≤ u * k := by
  induction k with
  | zero => simp [sm]
  | succ k ih =>
    have h1 := ih (fun i h1 h2 => h i h1 (by omega))
    have h2 := h (a + k) (by omega) (by omega)
    rw [sm, Int.natCast_succ, Int.mul_add, Int.mul_add, Int.mul_one, Int.mul_one]
    omega
theorem sm_mono {g h : Nat → Int} {a k : Nat} (H : ∀ i, a ≤ i → i < a + k → g i ≤ h i) : sm g a k ≤ sm h a k := by
  induction k with
  | zero => exact Int.le_refl _
  | succ k ih =>
    have h1 := ih (fun i h1 h2 => H i h1 (by omega))
    have h2 := H (a + k) (by omega) (by omega)
    rw [sm, sm]
    omega
theorem gapV_mono {tu s t t' : Int} (tu1 : 1 ≤ tu) (h : t ≤ t') : gapV tu s t ≤ gapV tu s t' := by
  unfold gapV
  obtain ⟨q, hq⟩ : ∃ q, q = (s - t) / tu := ⟨_, rfl⟩
  obtain ⟨q', hq'⟩ : ∃ q, q = (s - t') / tu := ⟨_, rfl⟩
  have e1 := Int.mul_ediv_add_emod (s - t) tu
  have e2 := Int.mul_ediv_add_emod (s - t') tu
  rw [← hq] at e1
  rw [← hq'] at e2
  have h1 : q' ≤ q := by rw [hq, hq']; exact Int.ediv_le_ediv (by omega) (by omega)
  have h2 : tu * q' ≤ tu * q := Int.mul_le_mul_of_nonneg_left h1 (by omega)
  omega
theorem gk_mono {γ δ : Int → Int} (h0 : γ 0 ≤ δ 0) (h1 : γ 1 ≤ δ 1) (k : Int) : gk γ k ≤ gk δ k := by
  unfold gk
  split
  · exact h0
  · split
    · exact h1
    · exact Int.le_refl _
theorem runV_mono (d : Dk) {γ δ : Int → Int} (h0 : γ 0 ≤ δ 0) (h1 : γ 1 ≤ δ 1) (f n : Nat) : runV d γ f n ≤ runV d δ f n := by
  unfold runV
  have := sm_mono (g := fun i => gk γ (kindAt d i)) (h := fun i => gk δ (kindAt d i)) (a := f) (k := n) (fun i _ _ => gk_mono h0 h1 _)
  omega
/-- A run is cut behind a sector. -/
theorem runV_cut (d : Dk) (γ : Int → Int) (f m n : Nat) : runV d γ f (m + (n + 1)) = runV d γ f m + runV d γ (f + (m + 1)) n + gk γ (kindAt d (f + m)) := by
  unfold runV
  rw [show m + (n + 1) + 1 = (m + 1) + (n + 1) by omega, sm_add, show m + (n + 1) = (m + 1) + n by omega, sm_add (fun i => gk γ (kindAt d i)) f (m + 1) n, sm.eq_2 (fun i => gk γ (kindAt d i)) f m]
  omega
theorem runV_bd {d : Dk} (ok : d.Ok) {γ : Int → Int} (h0 : 0 ≤ γ 0 ∧ γ 0 ≤ 3000) (h1 : 0 ≤ γ 1 ∧ γ 1 ≤ 3000) {f n : Nat} (h : f + (n + 1) ≤ (places d).length) : 1 ≤ runV d γ f n ∧ runV d γ f n ≤ 1000 * ((n : Int) + 1) + 3000 * n := by
  have h2 := sm_bd (g := tkAt d) (a := f) (k := n + 1) (l := 1) (u := 1000) (fun i h1 h2 => tkAt_bd ok (by omega))
  have h3 := sm_bd (g := fun i => gk γ (kindAt d i)) (a := f) (k := n) (l := 0) (u := 3000) (fun i _ _ => by
    unfold gk
    split
    · exact h0
    · split
      · exact h1
      · omega)
  unfold runV
  rw [Int.natCast_succ] at h2
  omega
end Go.Proofs.Ythkbiplmfbcabaa
