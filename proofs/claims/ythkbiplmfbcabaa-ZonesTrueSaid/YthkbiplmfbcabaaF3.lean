/- Stage 1: the run of all sectors, and the best skews. -/
import Derived.Test.YthkbiplmfbcabaaE3
import Derived.Test.YthkbiplmfbcabaaO2
set_option linter.unusedSimpArgs false
set_option linter.unusedVariables false
namespace Go.Proofs.Ythkbiplmfbcabaa
open Go.RowKit

theorem sm_plus (g h : Nat → Int) (a k : Nat) : sm (fun i => g i + h i) a k = sm g a k + sm h a k := by
  induction k with
  | zero => rfl
  | succ k ih => simp only [sm]; rw [ih]; omega
theorem sm_mul (g : Nat → Int) (c : Int) (a k : Nat) : sm (fun i => g i * c) a k = sm g a k * c := by
  induction k with
  | zero => simp [sm]
  | succ k ih => simp only [sm]; rw [ih, Int.add_mul]
/-- How many switches of a kind the first so many sectors have. -/
def nK (d : Dk) (N : Nat) (k : Int) : Int := sm (fun i => if kindAt d i = k then 1 else 0) 0 N
def own (d : Dk) (N : Nat) : Int := sm (tkAt d) 0 N
theorem gk_lin (γ : Int → Int) (k : Int) : gk γ k = (if k = 1 then 1 else 0) * γ 0 + (if k = 2 then 1 else 0) * γ 1 := by
  unfold gk
  by_cases h1 : k = 1
  · subst h1; simp
  · by_cases h2 : k = 2
    · subst h2; simp
    · simp [h1, h2]
theorem sm_full (d : Dk) (γ : Int → Int) (N : Nat) : sm (gAt d γ (N + 1)) 0 (N + 1) = own d (N + 1) + nK d N 1 * γ 0 + nK d N 2 * γ 1 := by
  have e1 : sm (gAt d γ (N + 1)) 0 (N + 1) = sm (tkAt d) 0 (N + 1) + sm (fun i => if i + 1 < N + 1 then gk γ (kindAt d i) else 0) 0 (N + 1) := sm_plus _ _ 0 (N + 1)
  rw [e1, sm.eq_2 (fun i => if i + 1 < N + 1 then gk γ (kindAt d i) else 0), if_neg (by omega)]
  have e2 : sm (fun i => if i + 1 < N + 1 then gk γ (kindAt d i) else 0) 0 N = sm (fun i => (if kindAt d i = 1 then 1 else 0) * γ 0 + (if kindAt d i = 2 then 1 else 0) * γ 1) 0 N :=
    sm_congr (fun i _ h2 => by rw [if_pos (by omega), gk_lin])
  rw [e2, sm_plus, sm_mul, sm_mul]
  unfold own nK
  omega

theorem run1_tracks {c : Ck} (cok : c.Ok) (γ : Int → Int) (l : List Tk) (hl : ∀ t ∈ l, TkOk c t) : run1 γ 0 c.d.count l = (l.map fun t => t.se * t.ti).sum + (swOf c.d.count l).1 * γ 0 + (swOf c.d.count l).2 * γ 1 := by
  obtain ⟨m, hm⟩ : ∃ m, m = l.length := ⟨_, rfl⟩
  induction m generalizing l with
  | zero =>
    obtain rfl := List.length_eq_zero_iff.1 hm.symm
    simp [run1, swOf]
  | succ m ih =>
    obtain ⟨l', t, rfl⟩ : ∃ l' t, l = l' ++ [t] := by
      have hne : l ≠ [] := by rintro rfl; simp at hm
      exact ⟨l.dropLast, l.getLast hne, (List.dropLast_concat_getLast hne).symm⟩
    have h1 := ih l' (fun t ht => hl t (List.mem_append_left _ ht)) (by simpa using hm)
    have ht := hl t (by simp)
    have q1 := ht.fi0; have q2 := ht.se1; have q3 := ht.en; have q4 := ht.ti0
    rw [run1_snoc, swOf_snoc, h1, List.map_append, List.sum_append]
    have hread : readOf t 0 c.d.count = t.se * t.ti := by
      unfold readOf
      congr 1
      split <;> split <;> omega
    have hpos := Int.mul_pos (show 0 < t.se by omega) (show 0 < t.ti by omega)
    unfold run1Step swStep
    rw [if_neg (by omega), hread]
    simp only [List.map_cons, List.map_nil, List.sum_cons, List.sum_nil]
    by_cases he : t.fi + t.se < c.d.count
    · rw [if_pos he, if_pos he]
      rcases ht.be with hb | hb
      · rw [if_pos hb, hb]
        dsimp only
        rw [Int.add_mul]
        omega
      · rw [if_neg (by omega), hb]
        dsimp only
        rw [Int.add_mul]
        omega
    · rw [if_neg he, if_neg he]
      omega

theorem sw_nK {d : Dk} (ok : d.Ok) {N : Nat} (hN : (places d).length = N + 1) : (swOf d.ck.d.count (tracksOf d.ck)).1 = nK d N 1 ∧ (swOf d.ck.d.count (tracksOf d.ck)).2 = nK d N 2 := by
  have hcnt := ok.lenPl
  have hB := ok.cntB
  unfold lenPlaces at hcnt
  have key : ∀ γ : Int → Int, ((tracksOf d.ck).map fun t => t.se * t.ti).sum + (swOf d.ck.d.count (tracksOf d.ck)).1 * γ 0 + (swOf d.ck.d.count (tracksOf d.ck)).2 * γ 1 = own d (N + 1) + nK d N 1 * γ 0 + nK d N 2 * γ 1 := by
    intro γ
    rw [← run1_tracks ok.ck γ (tracksOf d.ck) (fun t ht => tracks_ok ok.ck ht), ← sm_full d γ N]
    have := run1_all ok γ (f := 0) (to := N + 1) (by omega)
    rw [show ((N + 1 : Nat) : Int) = d.ck.d.count by show _ = d.count; omega] at this
    exact this
  have k0 := key (fun _ => 0)
  have k1 := key (fun x => if x = 0 then 1 else 0)
  have k2 := key (fun x => if x = 1 then 1 else 0)
  simp at k0 k1 k2
  omega

theorem run_hi {d : Dk} (ok : d.Ok) {N : Nat} (hN : (places d).length = N + 1) : (d.run 0 d.count).2 = own d (N + 1) + nK d N 1 * gapV d.tu d.hs d.hh + nK d N 2 * gapV d.tu d.cs d.ch := by
  have hcnt := ok.lenPl
  have hB := ok.cntB
  unfold lenPlaces at hcnt
  unfold Dk.run
  rw [runOf_run1]
  have e : (0 : Int) + d.count = ((N + 1 : Nat) : Int) := by omega
  rw [e]
  have := run1_all ok (gHi d.ck) (f := 0) (to := N + 1) (by omega)
  refine this.trans ?_
  rw [Nat.sub_zero, sm_full]
  rfl

theorem bestSt_min {tu n h st : Int} (st0 : 1 ≤ st) (j : Nat) : ∀ i, i ≤ j → (bestSt tu n h st j).2 ≤ n * gapV tu (st * i) h ∧ (n * gapV tu (st * i) h = (bestSt tu n h st j).2 → (bestSt tu n h st j).1 ≤ st * i) := by
  induction j with
  | zero =>
    intro i hi
    obtain rfl : i = 0 := by omega
    simp [bestSt]
  | succ j ih =>
    intro i hi
    rw [bestSt]
    split
    · rename_i hlt
      dsimp only
      rcases Nat.lt_or_ge j i with h1 | h1
      · obtain rfl : i = j + 1 := by omega
        rw [Int.natCast_succ]
        exact ⟨Int.le_refl _, fun _ => Int.le_refl _⟩
      · have := (ih i h1).1
        exact ⟨by omega, fun e => by omega⟩
    · rename_i hlt
      rcases Nat.lt_or_ge j i with h1 | h1
      · obtain rfl : i = j + 1 := by omega
        rw [Int.natCast_succ]
        refine ⟨by omega, fun _ => ?_⟩
        obtain ⟨i', h2, h3, _⟩ := bestSt_mem tu n h st j
        rw [h3]
        exact Int.mul_le_mul_of_nonneg_left (by omega) (by omega)
      · exact ih i h1
theorem bestOf_min {tu n h st x : Int} (st0 : 1 ≤ st) (x0 : 0 ≤ x) (x1 : x < tu) (hx : x % st = 0) : n * gapV tu (bestOf tu n h st) h ≤ n * gapV tu x h ∧ (n * gapV tu x h = n * gapV tu (bestOf tu n h st) h → bestOf tu n h st ≤ x) := by
  have hxe : st * (x / st) = x := by have := Int.mul_ediv_add_emod x st; omega
  have hq0 : 0 ≤ x / st := Int.ediv_nonneg x0 (by omega)
  have hq1 : x / st ≤ (tu - 1) / st := Int.ediv_le_ediv (by omega) (by omega)
  obtain ⟨h1, h2⟩ := bestSt_min (tu := tu) (n := n) (h := h) st0 (jOf tu st) (x / st).toNat (by unfold jOf; omega)
  rw [show (((x / st).toNat : Nat) : Int) = x / st by omega, hxe] at h1 h2
  obtain ⟨i, _, h3, h4⟩ := bestSt_mem tu n h st (jOf tu st)
  have e : (bestSt tu n h st (jOf tu st)).2 = n * gapV tu (bestOf tu n h st) h := by
    unfold bestOf
    rw [h4, h3]
  rw [← e]
  exact ⟨h1, h2⟩
theorem bestOf_mod {tu n h st : Int} (st0 : 1 ≤ st) : bestOf tu n h st % st = 0 := by
  obtain ⟨i, _, h3, _⟩ := bestSt_mem tu n h st (jOf tu st)
  unfold bestOf
  rw [h3]
  exact Int.mul_emod_right _ _

/-- The disk with other skews. -/
@[reducible] def Dk.sk (d : Dk) (h c : Int) : Dk := { d with hs := h, cs := c }
theorem Dk.sk_ok {d : Dk} (ok : d.Ok) {h c : Int} (h0 : 0 ≤ h) (h1 : h < d.tu) (c0 : 0 ≤ c) (c1 : c < d.tu) : (d.sk h c).Ok :=
  ⟨ok.hd1, ok.hd4, ok.tu1, ok.tu2, ok.zl1, ok.zl4, h0, h1, c0, c1, ok.zok, ok.hl0, ok.hl1, ok.hh2, ok.cl0, ok.cl1, ok.ch2⟩
theorem sk_hi {d : Dk} (ok : d.Ok) {N : Nat} (hN : (places d).length = N + 1) {h c : Int} (h0 : 0 ≤ h) (h1 : h < d.tu) (c0 : 0 ≤ c) (c1 : c < d.tu) : ((d.sk h c).run 0 d.count).2 = own d (N + 1) + nK d N 1 * gapV d.tu h d.hh + nK d N 2 * gapV d.tu c d.ch :=
  run_hi (Dk.sk_ok ok h0 h1 c0 c1) (N := N) hN
theorem skR_hi {d : Dk} (ok : d.Ok) {st : Int} (st0 : 1 ≤ st) : (d.skR st).2 = ((d.sk (d.b0 st) (d.b1 st)).run 0 d.count).2 := by
  unfold Dk.skR Dk.run
  rw [Int.zero_add]
  rfl
theorem best_skews {d : Dk} (ok : d.Ok) {st : Int} (st0 : 1 ≤ st) {h c : Int} (h0 : 0 ≤ h) (h1 : h < d.tu) (hm : h % st = 0) (c0 : 0 ≤ c) (c1 : c < d.tu) (cm : c % st = 0) :
    (d.skR st).2 < ((d.sk h c).run 0 d.count).2 ∨ (((d.sk h c).run 0 d.count).2 = (d.skR st).2 ∧ (d.b0 st < h ∨ (h = d.b0 st ∧ d.b1 st ≤ c))) := by
  have hp := places_pos ok
  obtain ⟨N, hN⟩ : ∃ N, (places d).length = N + 1 := ⟨(places d).length - 1, by omega⟩
  obtain ⟨b1, b2⟩ := bestOf_bd (tu := d.tu) (n := (swOf d.ck.d.count (tracksOf d.ck)).1) (h := d.ck.h0) st0 ok.tu1
  obtain ⟨b3, b4⟩ := bestOf_bd (tu := d.tu) (n := (swOf d.ck.d.count (tracksOf d.ck)).2) (h := d.ck.h1) st0 ok.tu1
  have e1 := bestOf_min (tu := d.tu) (n := (swOf d.ck.d.count (tracksOf d.ck)).1) (h := d.ck.h0) st0 h0 h1 hm
  have e2 := bestOf_min (tu := d.tu) (n := (swOf d.ck.d.count (tracksOf d.ck)).2) (h := d.ck.h1) st0 c0 c1 cm
  rw [skR_hi ok st0, sk_hi ok hN h0 h1 c0 c1, sk_hi ok hN (h := d.b0 st) (c := d.b1 st) b1 b2 b3 b4]
  obtain ⟨s1, s2⟩ := sw_nK ok hN
  rw [s1] at e1
  rw [s2] at e2
  have f1 : bestOf d.tu (nK d N 1) d.ck.h0 st = d.b0 st := by unfold Dk.b0; rw [s1]; rfl
  have f2 : bestOf d.tu (nK d N 2) d.ck.h1 st = d.b1 st := by unfold Dk.b1; rw [s2]; rfl
  rw [f1] at e1
  rw [f2] at e2
  have e1' : nK d N 1 * gapV d.tu (d.b0 st) d.hh ≤ nK d N 1 * gapV d.tu h d.hh ∧ (nK d N 1 * gapV d.tu h d.hh = nK d N 1 * gapV d.tu (d.b0 st) d.hh → d.b0 st ≤ h) := e1
  have e2' : nK d N 2 * gapV d.tu (d.b1 st) d.ch ≤ nK d N 2 * gapV d.tu c d.ch ∧ (nK d N 2 * gapV d.tu c d.ch = nK d N 2 * gapV d.tu (d.b1 st) d.ch → d.b1 st ≤ c) := e2
  omega
end Go.Proofs.Ythkbiplmfbcabaa
