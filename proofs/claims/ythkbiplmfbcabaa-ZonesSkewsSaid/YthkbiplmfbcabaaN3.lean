/- Stage 1: what the reference's Skews counts. -/
import Derived.Test.YthkbiplmfbcabaaJ3
set_option linter.unusedSimpArgs false
set_option linter.unusedVariables false
namespace Go.Proofs.Ythkbiplmfbcabaa
open Go.RowKit Go.Sort

theorem tracks_cnt (c : Ck) (y : Nat) : (trkC c y).length = y * c.d.hd.toNat := by
  induction y with
  | zero => simp [trkC]
  | succ y ih => rw [trkC_succ, List.length_append, ih, Nat.succ_mul]; simp [trkH]
theorem own_all {d : Dk} (ok : d.Ok) {N : Nat} (hN : (places d).length = N + 1) : own d (N + 1) = d.cyls * d.hd * d.tu := by
  have hcnt := ok.lenPl
  have hB := ok.cntB
  have hcB := ok.cylB
  have hd1 := ok.hd1
  unfold lenPlaces at hcnt
  have k1 := run1_tracks ok.ck (fun _ => 0) (tracksOf d.ck) (fun t ht => tracks_ok ok.ck ht)
  have k2 := run1_all ok (fun _ => 0) (f := 0) (to := N + 1) (by omega)
  rw [Nat.sub_zero, sm_full] at k2
  have e : ((N + 1 : Nat) : Int) = d.ck.d.count := by show _ = d.count; omega
  rw [e] at k2
  have k3 : run1 (fun _ => 0) 0 d.ck.d.count (tracksOf d.ck) = own d (N + 1) := by
    have := k2
    simp only [Int.mul_zero, Int.add_zero] at this
    exact this
  rw [k3] at k1
  simp only [Int.mul_zero, Int.add_zero] at k1
  rw [k1]
  have key : ∀ l : List Tk, (∀ t ∈ l, t.se * t.ti = d.tu) → (l.map fun t => t.se * t.ti).sum = (l.length : Int) * d.tu := by
    intro l
    induction l with
    | nil => intro _; simp
    | cons t l ih =>
      intro h
      rw [List.map_cons, List.sum_cons, ih (fun x hx => h x (List.mem_cons_of_mem _ hx)), h t List.mem_cons_self, List.length_cons, Int.natCast_succ, Int.add_mul, Int.one_mul]
      omega
  rw [key (tracksOf d.ck) (fun t ht => by
    obtain ⟨y, h, hy, hh, rfl⟩ := mem_tracks ht
    exact sec_ticks ok (c := (y : Int)) (by omega) hy)]
  congr 1
  have h2 : (tracksOf d.ck).length = d.cyls.toNat * d.hd.toNat := tracks_cnt d.ck d.cyls.toNat
  rw [h2, Int.natCast_mul]
  have e1 : ((d.cyls.toNat : Nat) : Int) = d.cyls := by omega
  have e2 : ((d.hd.toNat : Nat) : Int) = d.hd := by omega
  rw [e1, e2]

theorem nK_succ (d : Dk) (i : Nat) (k : Int) : nK d (i + 1) k = nK d i k + if kindAt d i = k then 1 else 0 := by
  unfold nK
  rw [sm, Nat.zero_add]
theorem nK_bd (d : Dk) (i : Nat) (k : Int) : 0 ≤ nK d i k ∧ nK d i k ≤ i := by
  unfold nK
  have := sm_bd (g := fun i => if kindAt d i = k then (1 : Int) else 0) (a := 0) (k := i) (l := 0) (u := 1) (fun i _ _ => by split <;> omega)
  omega

/-- The best pair so far, when the first skew is that of row j and k of the second ones have been tried after the first row's; A, B: what the rows have come to. -/
def pairSt (tu n1 n2 h1 h2 st : Int) (j k : Nat) : Int × Int × Int :=
  if j = 0 then (0, (bestSt tu n2 h2 st k).1, n1 * gapV tu 0 h1 + (bestSt tu n2 h2 st k).2)
  else if n1 * gapV tu (st * j) h1 + (bestSt tu n2 h2 st k).2 < (bestSt tu n1 h1 st (j - 1)).2 + (bestSt tu n2 h2 st (jOf tu st)).2 then (st * j, (bestSt tu n2 h2 st k).1, n1 * gapV tu (st * j) h1 + (bestSt tu n2 h2 st k).2)
  else ((bestSt tu n1 h1 st (j - 1)).1, (bestSt tu n2 h2 st (jOf tu st)).1, (bestSt tu n1 h1 st (j - 1)).2 + (bestSt tu n2 h2 st (jOf tu st)).2)
/-- After the whole row j. -/
def rowSt (tu n1 n2 h1 h2 st : Int) (j : Nat) : Int × Int × Int := ((bestSt tu n1 h1 st j).1, (bestSt tu n2 h2 st (jOf tu st)).1, (bestSt tu n1 h1 st j).2 + (bestSt tu n2 h2 st (jOf tu st)).2)
theorem pair_row (tu n1 n2 h1 h2 st : Int) (j : Nat) : pairSt tu n1 n2 h1 h2 st j (jOf tu st) = rowSt tu n1 n2 h1 h2 st j := by
  unfold pairSt rowSt
  cases j with
  | zero => rw [if_pos rfl]; rfl
  | succ j =>
    rw [if_neg (by omega), Nat.add_sub_cancel, bestSt, Int.natCast_succ]
    by_cases h : n1 * gapV tu (st * ((j : Int) + 1)) h1 < (bestSt tu n1 h1 st j).2
    · rw [if_pos (by omega), if_pos h]
    · rw [if_neg (by omega), if_neg h]
/-- One more of the second skews. -/
theorem pair_step (tu n1 n2 h1 h2 st : Int) (j k : Nat) :
    pairSt tu n1 n2 h1 h2 st j (k + 1) = if n1 * gapV tu (st * j) h1 + n2 * gapV tu (st * (k + 1)) h2 < (pairSt tu n1 n2 h1 h2 st j k).2.2 then (st * j, st * (k + 1), n1 * gapV tu (st * j) h1 + n2 * gapV tu (st * (k + 1)) h2) else pairSt tu n1 n2 h1 h2 st j k := by
  unfold pairSt
  rw [bestSt]
  cases j with
  | zero =>
    simp only [if_true, Int.natCast_zero, Int.mul_zero]
    by_cases h : n2 * gapV tu (st * ((k : Int) + 1)) h2 < (bestSt tu n2 h2 st k).2
    · rw [if_pos h, if_pos (by omega)]
    · rw [if_neg h, if_neg (by omega)]
  | succ j =>
    simp only [Nat.succ_ne_zero, if_false, Nat.add_sub_cancel, Nat.add_eq_zero_iff, Nat.one_ne_zero, and_false]
    by_cases h : n2 * gapV tu (st * ((k : Int) + 1)) h2 < (bestSt tu n2 h2 st k).2
    · rw [if_pos h]
      by_cases h5 : n1 * gapV tu (st * ((j + 1 : Nat) : Int)) h1 + (bestSt tu n2 h2 st k).2 < (bestSt tu n1 h1 st j).2 + (bestSt tu n2 h2 st (jOf tu st)).2
      · rw [if_pos (by dsimp only; omega), if_pos h5, if_pos (by dsimp only; omega)]
      · rw [if_neg h5]
    · rw [if_neg h]
      by_cases h5 : n1 * gapV tu (st * ((j + 1 : Nat) : Int)) h1 + (bestSt tu n2 h2 st k).2 < (bestSt tu n1 h1 st j).2 + (bestSt tu n2 h2 st (jOf tu st)).2
      · rw [if_pos h5, if_neg (by dsimp only; omega)]
      · rw [if_neg h5, if_neg (by dsimp only; omega)]
/-- The first of the second skews. -/
theorem pair_first (tu n1 n2 h1 h2 st : Int) (j : Nat) :
    pairSt tu n1 n2 h1 h2 st (j + 1) 0 = if n1 * gapV tu (st * ((j + 1 : Nat) : Int)) h1 + n2 * gapV tu 0 h2 < (rowSt tu n1 n2 h1 h2 st j).2.2 then (st * ((j + 1 : Nat) : Int), 0, n1 * gapV tu (st * ((j + 1 : Nat) : Int)) h1 + n2 * gapV tu 0 h2) else rowSt tu n1 n2 h1 h2 st j := by
  unfold pairSt rowSt
  rw [if_neg (by omega), Nat.add_sub_cancel, bestSt]

/-- What head, cyl and best hold when the second loop comes to k in row j. -/
def stS (tu n1 n2 h1 h2 st ow : Int) (j : Nat) : Nat → Int × Int × Int
  | 0 => match j with
    | 0 => (0, 0, -1)
    | j + 1 => ((rowSt tu n1 n2 h1 h2 st j).1, (rowSt tu n1 n2 h1 h2 st j).2.1, ow + (rowSt tu n1 n2 h1 h2 st j).2.2)
  | k + 1 => ((pairSt tu n1 n2 h1 h2 st j k).1, (pairSt tu n1 n2 h1 h2 st j k).2.1, ow + (pairSt tu n1 n2 h1 h2 st j k).2.2)
theorem stS_next (tu n1 n2 h1 h2 st ow : Int) (j : Nat) : stS tu n1 n2 h1 h2 st ow j (jOf tu st + 1) = stS tu n1 n2 h1 h2 st ow (j + 1) 0 := by
  simp only [stS]
  rw [pair_row]
theorem best_nonneg {tu n h st : Int} (tu1 : 1 ≤ tu) (n0 : 0 ≤ n) (h0 : 0 ≤ h) (j : Nat) : 0 ≤ (bestSt tu n h st j).2 := by
  obtain ⟨i, _, _, h4⟩ := bestSt_mem tu n h st j
  rw [h4]
  have := gapV_bd (tu := tu) (sk := st * i) (t := h) tu1
  exact Int.mul_nonneg n0 (by omega)
theorem stS_step {tu n1 n2 h1 h2 st ow : Int} (tu1 : 1 ≤ tu) (p1 : 0 ≤ n1) (p2 : 0 ≤ n2) (q1 : 0 ≤ h1) (q2 : 0 ≤ h2) (o0 : 0 ≤ ow) {j k : Nat} {a b c z y n : Int} (h : (a, b, c) = stS tu n1 n2 h1 h2 st ow j k) (hz : z = st * j) (hy : y = st * k) (hn : n = ow + n1 * gapV tu z h1 + n2 * gapV tu y h2) :
    ((c < 0 ∨ n < c) → (z, y, n) = stS tu n1 n2 h1 h2 st ow j (k + 1)) ∧ (¬ (c < 0 ∨ n < c) → (a, b, c) = stS tu n1 n2 h1 h2 st ow j (k + 1)) := by
  have r0 : ∀ j, 0 ≤ (rowSt tu n1 n2 h1 h2 st j).2.2 := by
    intro j
    have := best_nonneg (st := st) tu1 p1 q1 j
    have := best_nonneg (st := st) tu1 p2 q2 (jOf tu st)
    unfold rowSt
    dsimp only
    omega
  have s0 : ∀ k, 0 ≤ (pairSt tu n1 n2 h1 h2 st j k).2.2 := by
    intro k
    have g1 := best_nonneg (st := st) tu1 p1 q1 (j - 1)
    have g2 := best_nonneg (st := st) tu1 p2 q2 (jOf tu st)
    have g3 := best_nonneg (st := st) tu1 p2 q2 k
    have g4 : 0 ≤ n1 * gapV tu (st * j) h1 := by
      have := gapV_bd (tu := tu) (sk := st * j) (t := h1) tu1
      exact Int.mul_nonneg p1 (by omega)
    have g5 : 0 ≤ n1 * gapV tu 0 h1 := by
      have := gapV_bd (tu := tu) (sk := 0) (t := h1) tu1
      exact Int.mul_nonneg p1 (by omega)
    unfold pairSt
    split
    · dsimp only; omega
    · split <;> dsimp only <;> omega
  cases k with
  | zero =>
    have hy0 : y = 0 := by rw [hy]; simp
    subst hy0
    cases j with
    | zero =>
      have hz0 : z = 0 := by rw [hz]; simp
      subst hz0
      simp only [stS, Prod.mk.injEq] at h
      obtain ⟨rfl, rfl, rfl⟩ := h
      refine ⟨fun _ => ?_, fun h => absurd (.inl (by omega)) h⟩
      simp only [stS, pairSt, if_true, bestSt, Prod.mk.injEq, true_and]
      omega
    | succ j =>
      simp only [stS, Prod.mk.injEq] at h
      obtain ⟨rfl, rfl, rfl⟩ := h
      have := r0 j
      refine ⟨fun hc => ?_, fun hc => ?_⟩
      · simp only [stS]
        rw [pair_first, ← hz, if_pos (by omega)]
        simp only [Prod.mk.injEq, true_and]
        omega
      · simp only [stS]
        rw [pair_first, ← hz, if_neg (by omega)]
  | succ k =>
    simp only [stS, Prod.mk.injEq] at h
    obtain ⟨rfl, rfl, rfl⟩ := h
    have := s0 k
    rw [Int.natCast_succ] at hy
    refine ⟨fun hc => ?_, fun hc => ?_⟩
    · simp only [stS]
      rw [pair_step, ← hz, ← hy, if_pos (by omega)]
      simp only [Prod.mk.injEq, true_and]
      omega
    · simp only [stS]
      rw [pair_step, ← hz, ← hy, if_neg (by omega)]
end Go.Proofs.Ythkbiplmfbcabaa
