/- Stage 1: a run as a sum over its sectors. -/
import Derived.Test.YthkbiplmfbcabaaD3
set_option linter.unusedSimpArgs false
set_option linter.unusedVariables false
namespace Go.Proofs.Ythkbiplmfbcabaa
open Go.RowKit

/-- The sum of k terms from a on. -/
def sm (g : Nat → Int) (a : Nat) : Nat → Int
  | 0 => 0
  | k + 1 => sm g a k + g (a + k)
theorem sm_add (g : Nat → Int) (a k m : Nat) : sm g a (k + m) = sm g a k + sm g (a + k) m := by
  induction m with
  | zero => simp [sm]
  | succ m ih => rw [← Nat.add_assoc, sm, ih, sm, Nat.add_assoc a k m]; omega
theorem sm_congr {g h : Nat → Int} {a k : Nat} (H : ∀ i, a ≤ i → i < a + k → g i = h i) : sm g a k = sm h a k := by
  induction k with
  | zero => rfl
  | succ k ih => rw [sm, sm, ih (fun i h1 h2 => H i h1 (by omega)), H (a + k) (by omega) (by omega)]
theorem sm_const {g : Nat → Int} {t : Int} {a k : Nat} (H : ∀ i, a ≤ i → i < a + k → g i = t) : sm g a k = k * t := by
  induction k with
  | zero => simp [sm]
  | succ k ih => rw [sm, ih (fun i h1 h2 => H i h1 (by omega)), H (a + k) (by omega) (by omega), Int.natCast_succ, Int.add_mul, Int.one_mul]

def tkAt (d : Dk) (i : Nat) : Int := d.tu / secOf d.zs (plN d i).1
/-- The gap of a kind of switches, if those of heads and of cylinders take so much. -/
def gk (γ : Int → Int) (k : Int) : Int := if k = 1 then γ 0 else if k = 2 then γ 1 else 0
theorem gk_zero (γ : Int → Int) : gk γ 0 = 0 := by unfold gk; rw [if_neg (by omega), if_neg (by omega)]
def gAt (d : Dk) (γ : Int → Int) (to : Nat) (i : Nat) : Int := tkAt d i + if i + 1 < to then gk γ (kindAt d i) else 0
def run1Step (γ : Int → Int) (f to : Int) (r : Int) (t : Tk) : Int :=
  if readOf t f to ≤ 0 then r else if t.fi + t.se < to then r + readOf t f to + γ t.be else r + readOf t f to
def run1 (γ : Int → Int) (f to : Int) (l : List Tk) : Int := l.foldl (run1Step γ f to) 0
theorem run1_snoc (γ : Int → Int) (f to : Int) (l : List Tk) (t : Tk) : run1 γ f to (l ++ [t]) = run1Step γ f to (run1 γ f to l) t := by simp [run1, List.foldl_append]
def gLo (c : Ck) (be : Int) : Int := gapV c.d.tu (c.sk be) (c.lo be)
def gHi (c : Ck) (be : Int) : Int := gapV c.d.tu (c.sk be) (c.hi be)
theorem runOf_run1 (c : Ck) (f to : Int) (l : List Tk) : runOf c f to l = (run1 (gLo c) f to l, run1 (gHi c) f to l) := by
  have key : ∀ (l : List Tk) (r : Int × Int), l.foldl (runStep c f to) r = (l.foldl (run1Step (gLo c) f to) r.1, l.foldl (run1Step (gHi c) f to) r.2) := by
    intro l
    induction l with
    | nil => intro r; rfl
    | cons t l ih =>
      intro r
      simp only [List.foldl_cons]
      rw [ih]
      congr 2
      · unfold runStep run1Step
        split
        · rfl
        · split <;> rfl
      · unfold runStep run1Step
        split
        · rfl
        · split <;> rfl
  exact key l (0, 0)

theorem in_track {d : Dk} (ok : d.Ok) {y h i : Nat} (hy : (y : Int) < d.cyls) (hh : (h : Int) < d.hd) (h1 : firstOf d.ck y h ≤ (i : Int)) (h2 : (i : Int) < firstOf d.ck y h + secOf d.zs y) :
    i < (places d).length ∧ plN d i = ((y : Int), (h : Int), (i : Int) - firstOf d.ck y h) := by
  obtain ⟨hl, hp⟩ := place_atD ok hy hh (n := i) ⟨h1, h2⟩
  rw [plN_get hl] at hp
  exact ⟨hl, hp⟩

theorem read_sum {d : Dk} (ok : d.Ok) (γ : Int → Int) {f to : Nat} (hto : to ≤ (places d).length) {y h F s : Nat} (hy : (y : Int) < d.cyls) (hh : (h : Int) < d.hd) (hF : firstOf d.ck y h = F) (hs : secOf d.zs y = s) :
    sm (gAt d γ to) f (min (F + s) to - f) = run1Step γ f to (sm (gAt d γ to) f (min F to - f)) (trk d.ck y h) := by
  obtain ⟨s1, s2, _⟩ := ok.sec (c := (y : Int)) (by omega) hy
  have hst := sec_ticks ok (c := (y : Int)) (by omega) hy
  have tu1 := ok.tu1
  obtain ⟨ti, hti⟩ : ∃ ti, ti = d.tu / secOf d.zs y := ⟨_, rfl⟩
  have hti1 : 1 ≤ ti := by
    rw [← hti] at hst
    rcases Int.lt_or_le 0 ti with h1 | h1
    · omega
    · exfalso
      have := Int.mul_nonpos_of_nonneg_of_nonpos (show 0 ≤ secOf d.zs y by omega) h1
      omega
  have hread : readOf (trk d.ck y h) f to = (((min (F + s) to : Nat) : Int) - ((max f F : Nat) : Int)) * ti := by
    unfold readOf
    show ((if firstOf d.ck y h + secOf d.zs y < (to : Int) then firstOf d.ck y h + secOf d.zs y else (to : Int)) - (if (f : Int) < firstOf d.ck y h then firstOf d.ck y h else (f : Int))) * (d.tu / secOf d.zs y) = _
    rw [← hti, hF, hs]
    congr 1
    split <;> split <;> omega
  have hbe : (trk d.ck y h).be = behOf d.ck h := rfl
  have hend : ((trk d.ck y h).fi + (trk d.ck y h).se < (to : Int)) ↔ F + s < to := by
    show (firstOf d.ck y h + secOf d.zs y < (to : Int)) ↔ _
    rw [hF, hs]; omega
  unfold run1Step
  by_cases hr : min (F + s) to ≤ max f F
  · have hr0 : readOf (trk d.ck y h) f to ≤ 0 := by
      rw [hread]
      exact Int.mul_nonpos_of_nonpos_of_nonneg (by omega) (by omega)
    rw [if_pos hr0]
    congr 1
    omega
  · have hr0 : ¬ readOf (trk d.ck y h) f to ≤ 0 := by
      rw [hread]
      have := Int.mul_pos (show (0 : Int) < ((min (F + s) to : Nat) : Int) - ((max f F : Nat) : Int) by omega) (show 0 < ti by omega)
      omega
    rw [if_neg hr0]
    obtain ⟨a, ha⟩ : ∃ a, a = max f F := ⟨_, rfl⟩
    have e1 : min (F + s) to - f = (min F to - f) + (min (F + s) to - a) := by omega
    rw [e1, sm_add]
    have e2 : f + (min F to - f) = a := by omega
    rw [e2]
    have hin : ∀ i, a ≤ i → i < F + s → i < (places d).length ∧ plN d i = ((y : Int), (h : Int), (i : Int) - firstOf d.ck y h) := fun i h1 h2 => in_track ok hy hh (by omega) (by omega)
    have htk : ∀ i, a ≤ i → i < F + s → tkAt d i = ti := by
      intro i h1 h2
      unfold tkAt
      rw [(hin i h1 h2).2, hti]
    have hk0 : ∀ i, a ≤ i → i + 1 < F + s → gAt d γ to i = ti := by
      intro i h1 h2
      unfold gAt
      rw [htk i h1 (by omega)]
      have : kindAt d i = 0 := by
        unfold kindAt kindOf
        rw [(hin i h1 (by omega)).2, (hin (i + 1) (by omega) h2).2, if_pos rfl, if_pos rfl]
      rw [this, gk_zero]
      simp
    rw [hread, ← ha]
    by_cases hE : F + s < to
    · rw [if_pos (hend.2 hE), show min (F + s) to - a = (F + s - 1 - a) + 1 by omega, sm, sm_const (fun i h1 h2 => hk0 i h1 (by omega)), show a + (F + s - 1 - a) = F + s - 1 by omega]
      have hlast : gAt d γ to (F + s - 1) = ti + γ (trk d.ck y h).be := by
        unfold gAt
        rw [htk _ (by omega) (by omega), if_pos (by omega), hbe]
        congr 1
        have hp := (hin (F + s - 1) (by omega) (by omega)).2
        have hne := next_place ok (i := F + s - 1) (by omega)
        have h22 : (plN d (F + s - 1)).2.2 + 1 = secOf d.zs (plN d (F + s - 1)).1 := by
          rw [hp]; dsimp only; omega
        unfold gk kindAt kindOf behOf
        rcases hne with ⟨_, h9⟩ | ⟨_, h9, hq⟩ | ⟨_, h9, _, hq⟩
        · omega
        · rw [hq]
          dsimp only
          rw [if_pos rfl, if_neg (show ¬ (plN d (F + s - 1)).2.1 + 1 = (plN d (F + s - 1)).2.1 by omega), if_pos rfl]
          rw [hp] at h9
          dsimp only at h9
          rw [if_neg (show ¬ (h : Int) = d.ck.d.hd - 1 by show ¬ (h : Int) = d.hd - 1; omega)]
        · rw [hq]
          dsimp only
          rw [if_neg (show ¬ (plN d (F + s - 1)).1 + 1 = (plN d (F + s - 1)).1 by omega), if_neg (by omega), if_pos rfl]
          rw [hp] at h9
          dsimp only at h9
          rw [if_pos (show (h : Int) = d.ck.d.hd - 1 by show (h : Int) = d.hd - 1; omega)]
      rw [hlast]
      have e3 : ((min (F + s) to : Nat) : Int) - (a : Int) = ((F + s - 1 - a : Nat) : Int) + 1 := by omega
      rw [e3, Int.add_mul, Int.one_mul]
      omega
    · rw [if_neg (fun hx => hE (hend.1 hx))]
      congr 1
      have e3 : ((min (F + s) to : Nat) : Int) - (a : Int) = ((min (F + s) to - a : Nat) : Int) := by omega
      rw [e3]
      by_cases hEe : F + s = to
      · rw [show min (F + s) to - a = (F + s - 1 - a) + 1 by omega, sm, sm_const (fun i h1 h2 => hk0 i h1 (by omega)), show a + (F + s - 1 - a) = F + s - 1 by omega]
        have hlast : gAt d γ to (F + s - 1) = ti := by
          unfold gAt
          rw [htk _ (by omega) (by omega), if_neg (by omega)]
          omega
        rw [hlast, Int.natCast_succ, Int.add_mul, Int.one_mul]
      · exact sm_const (fun i h1 h2 => hk0 i h1 (by omega))

theorem run1_trk {d : Dk} (ok : d.Ok) (γ : Int → Int) {f to : Nat} (hto : to ≤ (places d).length) (y : Nat) : ∀ (h : Nat), (y : Int) < d.cyls → (h : Int) ≤ d.hd →
    run1 γ f to (trkC d.ck y ++ trkH d.ck y h) = sm (gAt d γ to) f (min (plC d y ++ plH d y h).length to - f) := by
  induction y with
  | zero =>
    intro h
    induction h with
    | zero => intro _ _; simp [trkC, trkH, run1, plC, plH, sm]
    | succ h ih =>
      intro hy hh
      rw [trkH_succ, ← List.append_assoc, run1_snoc, ih hy (by omega)]
      have hs := ok.sec (c := ((0 : Nat) : Int)) (by omega) hy
      rw [← read_sum ok γ hto hy (by omega) (F := (plC d 0 ++ plH d 0 h).length) (s := (secOf d.zs ((0 : Nat) : Int)).toNat) rfl (by omega)]
      congr 2
      rw [plH_succ]
      simp only [List.length_append, plS_len]
      omega
  | succ y ihy =>
    intro h
    induction h with
    | zero =>
      intro hy hh
      have h2 := ihy d.hd.toNat (by omega) (by omega)
      have e : trkC d.ck (y + 1) ++ trkH d.ck (y + 1) 0 = trkC d.ck y ++ trkH d.ck y d.hd.toNat := by rw [trkC_succ]; simp [trkH]; rfl
      rw [e, h2, plC_succ]
      simp [plH]
    | succ h ih =>
      intro hy hh
      rw [trkH_succ, ← List.append_assoc, run1_snoc, ih hy (by omega)]
      have hs := ok.sec (c := ((y + 1 : Nat) : Int)) (by omega) hy
      rw [← read_sum ok γ hto hy (by omega) (F := (plC d (y + 1) ++ plH d (y + 1) h).length) (s := (secOf d.zs ((y + 1 : Nat) : Int)).toNat) rfl (by omega)]
      congr 2
      rw [plH_succ]
      simp only [List.length_append, plS_len]
      omega

theorem run1_all {d : Dk} (ok : d.Ok) (γ : Int → Int) {f to : Nat} (hto : to ≤ (places d).length) : run1 γ f to (tracksOf d.ck) = sm (gAt d γ to) f (to - f) := by
  have hp : 0 < d.cyls := by
    have h1 := places_pos ok
    rcases Int.lt_or_le 0 d.cyls with h | h
    · exact h
    · exfalso
      unfold places at h1
      rw [show d.cyls.toNat = 0 by omega] at h1
      simp [plC] at h1
  have hd1 := ok.hd1
  obtain ⟨k, hk⟩ : ∃ k, d.cyls.toNat = k + 1 := ⟨d.cyls.toNat - 1, by omega⟩
  have h2 := run1_trk ok γ (f := f) hto k d.hd.toNat (by omega) (by omega)
  have e : tracksOf d.ck = trkC d.ck k ++ trkH d.ck k d.hd.toNat := by
    unfold tracksOf
    show trkC d.ck d.cyls.toNat = _
    rw [hk, trkC_succ]; rfl
  have e2 : (plC d k ++ plH d k d.hd.toNat).length = (places d).length := by
    unfold places
    rw [hk, plC_succ]
  rw [e, h2, e2]
  congr 1
  omega
end Go.Proofs.Ythkbiplmfbcabaa
