/- Stage 1: the plain functions of package zones. -/
import Derived.Test.YthkbiplmfbcabaaT
set_option linter.unusedSimpArgs false
set_option linter.unusedVariables false
namespace Go.Proofs.Ythkbiplmfbcabaa
open Go.RowKit

set_option maxHeartbeats 400000 in
theorem c50 (n l h : Int) (w : World) : Calls Try.prog 50 #[.int .i64 n, .int .i64 l, .int .i64 h] w (RetB (l ≤ n ∧ n ≤ h) w) := by
  by_cases h1 : l ≤ n <;> by_cases h2 : n ≤ h <;> (go_enter Try.func50, Try.ntmps50; go_wp2; go_ret) <;> first | exact RetB.yes (by omega) | exact RetB.no (by omega)
theorem c50y {n l h : Int} (w : World) (p : l ≤ n ∧ n ≤ h) : Calls Try.prog 50 #[.int .i64 n, .int .i64 l, .int .i64 h] w fun e w' => e = .returned (.bool true) ∧ w = w' :=
  (c50 n l h w).mono fun _ _ hr => by
    rcases hr with ⟨_, h1⟩ | ⟨h1, _⟩
    · exact h1
    · exact absurd p h1
theorem c50n {n l h : Int} (w : World) (p : ¬ (l ≤ n ∧ n ≤ h)) : Calls Try.prog 50 #[.int .i64 n, .int .i64 l, .int .i64 h] w fun e w' => e = .returned (.bool false) ∧ w = w' :=
  (c50 n l h w).mono fun _ _ hr => by
    rcases hr with ⟨h1, _⟩ | ⟨_, h1⟩
    · exact absurd h1 p
    · exact h1

set_option maxHeartbeats 400000 in
theorem c57 (a n : Int) (w : World) (h1 : 1 ≤ n) (h2 : n ≤ 1000) (h3 : -1000000000 ≤ a) (h4 : a ≤ 1000000000) :
    Calls Try.prog 57 #[.int .i64 a, .int .i64 n] w fun e w' => e = .returned (.int .i64 (a % n)) ∧ w = w' := by
  go_enter Try.func57, Try.ntmps57
  go_wp2
  go_returns
  exact ⟨by show Ending.returned (.int .i64 ((wrap64 (a.tmod n + n)).tmod n)) = _; rw [mod_fix _ _ h1 (by omega)], rfl⟩

def gapV (tu sk t : Int) : Int := t + (sk - t) % tu
theorem gapV_bd {tu sk t : Int} (h1 : 1 ≤ tu) : t ≤ gapV tu sk t ∧ gapV tu sk t < t + tu := by
  unfold gapV
  have := Int.emod_nonneg (sk - t) (show tu ≠ 0 by omega)
  have := Int.emod_lt_of_pos (sk - t) (show 0 < tu by omega)
  omega

set_option maxHeartbeats 400000 in
theorem c62 (c : Ck) (l h s t : Int) (w : World) (h1 : 1 ≤ c.d.tu) (h2 : c.d.tu ≤ 1000) (t0 : 0 ≤ t) (t1 : t ≤ 2000) (s0 : 0 ≤ s) (s1 : s ≤ 1000) :
    Calls Try.prog 62 #[c.v, .agg #[.int .i64 l, .int .i64 h, .int .i64 s], .int .i64 t] w fun e w' => e = .returned (.int .i64 (gapV c.d.tu s t)) ∧ Below w.heap.size w w' := by
  have q6 := Int.emod_nonneg (s - t) (show c.d.tu ≠ 0 by omega)
  have q7 := Int.emod_lt_of_pos (s - t) (show 0 < c.d.tu by omega)
  go_enter Try.func62, Try.ntmps62
  go_wp2_with (go_at_call 57; refine (c57 _ _ _ h1 h2 (by omega) (by omega)).mono ?_; rintro e w9 ⟨rfl, rfl⟩)
  go_returns
  exact ⟨rfl, by (repeat' (first | (with_reducible exact Below.refl _ _) | (with_reducible assumption) | (with_reducible refine Below.alloc ?_ ?_ _) | (with_reducible refine Below.drew ?_) | (with_reducible refine below_drewN ?_ _) | (with_reducible refine Below.setCell ?_ ?_ _) | (with_reducible refine Below.trans ?_ (Below.mono (by with_reducible assumption) ?_)) | go_size))⟩

def begT (c : Ck) (t : Tk) (n : Int) : Int := (t.of + (n - t.fi) * t.ti) % c.d.tu

set_option maxHeartbeats 400000 in
theorem c54 (c : Ck) (t : Tk) (n : Int) (w : World) (h1 : 1 ≤ c.d.tu) (h2 : c.d.tu ≤ 1000) (o0 : 0 ≤ t.of) (o1 : t.of ≤ 1000) (n0 : t.fi ≤ n) (n1 : n ≤ t.fi + 16) (f0 : 0 ≤ t.fi) (f1 : t.fi ≤ 10000) (t0 : 0 ≤ t.ti) (t1 : t.ti ≤ 1000) :
    Calls Try.prog 54 #[c.v, t.v, .int .i64 n] w fun e w' => e = .returned (.int .i64 (begT c t n)) ∧ Below w.heap.size w w' := by
  have m1 := mul_le_mul_of (show 0 ≤ n - t.fi by omega) t0 (show n - t.fi ≤ 16 by omega) t1
  go_enter Try.func54, Try.ntmps54
  go_wp2
  go_returns
  exact ⟨rfl, by (repeat' (first | (with_reducible exact Below.refl _ _) | (with_reducible assumption) | (with_reducible refine Below.alloc ?_ ?_ _) | (with_reducible refine Below.drew ?_) | (with_reducible refine below_drewN ?_ _) | (with_reducible refine Below.setCell ?_ ?_ _) | (with_reducible refine Below.trans ?_ (Below.mono (by with_reducible assumption) ?_)) | go_size))⟩

/-- A bool is handed back that says whether p holds; what lay there lies as it lay. -/
def RetBB (p : Prop) (w : World) (e : Ending) (w' : World) : Prop := (p ∧ e = .returned (.bool true) ∧ Below w.heap.size w w') ∨ (¬ p ∧ e = .returned (.bool false) ∧ Below w.heap.size w w')

set_option maxHeartbeats 1000000 in
theorem c70 (sk lo hi tu : Int) (b : Nat) (w : World) (hb : b < w.heap.size) (hc : w.cell? ⟨b, 1, none⟩ = some (.int .i64 tu)) (h1 : 1 ≤ tu) (h2 : tu ≤ 1000) :
    Calls Try.prog 70 #[.int .i64 sk, .agg #[.int .i64 lo, .int .i64 hi], .pointer (some ⟨b, 0, none⟩)] w (RetBB ((0 ≤ sk ∧ sk < tu) ∧ (0 ≤ lo ∧ lo ≤ hi) ∧ hi ≤ 2000) w) := by
  by_cases p1 : 0 ≤ sk ∧ sk ≤ tu - 1
  · by_cases p2 : 0 ≤ lo ∧ lo ≤ hi
    · by_cases p3 : hi ≤ 2000
      · go_enter Try.func70, Try.ntmps70
        go_wp2_with (go_at_call 50; refine (c50y _ (by omega)).mono ?_; rintro e w9 ⟨rfl, rfl⟩)
        go_returns
        exact .inl ⟨by omega, rfl, by (repeat' (first | (with_reducible exact Below.refl _ _) | (with_reducible assumption) | (with_reducible refine Below.alloc ?_ ?_ _) | (with_reducible refine Below.drew ?_) | (with_reducible refine below_drewN ?_ _) | (with_reducible refine Below.setCell ?_ ?_ _) | (with_reducible refine Below.trans ?_ (Below.mono (by with_reducible assumption) ?_)) | go_size))⟩
      · have hd : decide (hi ≤ 2000) = false := decide_eq_false p3
        go_enter Try.func70, Try.ntmps70
        go_wp2_with (go_at_call 50; refine (c50y _ (by omega)).mono ?_; rintro e w9 ⟨rfl, rfl⟩)
        go_returns
        exact .inr ⟨by omega, rfl, by (repeat' (first | (with_reducible exact Below.refl _ _) | (with_reducible assumption) | (with_reducible refine Below.alloc ?_ ?_ _) | (with_reducible refine Below.drew ?_) | (with_reducible refine below_drewN ?_ _) | (with_reducible refine Below.setCell ?_ ?_ _) | (with_reducible refine Below.trans ?_ (Below.mono (by with_reducible assumption) ?_)) | go_size))⟩
    · go_enter Try.func70, Try.ntmps70
      go_wp2_with (go_at_call 50; first | (refine (c50y _ (by omega)).mono ?_; rintro e w9 ⟨rfl, rfl⟩) | (refine (c50n _ (by omega)).mono ?_; rintro e w9 ⟨rfl, rfl⟩))
      go_returns
      exact .inr ⟨by omega, rfl, by (repeat' (first | (with_reducible exact Below.refl _ _) | (with_reducible assumption) | (with_reducible refine Below.alloc ?_ ?_ _) | (with_reducible refine Below.drew ?_) | (with_reducible refine below_drewN ?_ _) | (with_reducible refine Below.setCell ?_ ?_ _) | (with_reducible refine Below.trans ?_ (Below.mono (by with_reducible assumption) ?_)) | go_size))⟩
  · go_enter Try.func70, Try.ntmps70
    go_wp2_with (go_at_call 50; refine (c50n _ (by omega)).mono ?_; rintro e w9 ⟨rfl, rfl⟩)
    go_returns
    exact .inr ⟨by omega, rfl, by (repeat' (first | (with_reducible exact Below.refl _ _) | (with_reducible assumption) | (with_reducible refine Below.alloc ?_ ?_ _) | (with_reducible refine Below.drew ?_) | (with_reducible refine below_drewN ?_ _) | (with_reducible refine Below.setCell ?_ ?_ _) | (with_reducible refine Below.trans ?_ (Below.mono (by with_reducible assumption) ?_)) | go_size))⟩

theorem c70y {sk lo hi tu : Int} {b : Nat} (w : World) (hb : b < w.heap.size) (hc : w.cell? ⟨b, 1, none⟩ = some (.int .i64 tu)) (h1 : 1 ≤ tu) (h2 : tu ≤ 1000) (p : (0 ≤ sk ∧ sk < tu) ∧ (0 ≤ lo ∧ lo ≤ hi) ∧ hi ≤ 2000) :
    Calls Try.prog 70 #[.int .i64 sk, .agg #[.int .i64 lo, .int .i64 hi], .pointer (some ⟨b, 0, none⟩)] w fun e w' => e = .returned (.bool true) ∧ Below w.heap.size w w' :=
  (c70 sk lo hi tu b w hb hc h1 h2).mono fun _ _ hr => by
    rcases hr with ⟨_, h1⟩ | ⟨h1, _⟩
    · exact h1
    · exact absurd p h1
theorem c70n {sk lo hi tu : Int} {b : Nat} (w : World) (hb : b < w.heap.size) (hc : w.cell? ⟨b, 1, none⟩ = some (.int .i64 tu)) (h1 : 1 ≤ tu) (h2 : tu ≤ 1000) (p : ¬ ((0 ≤ sk ∧ sk < tu) ∧ (0 ≤ lo ∧ lo ≤ hi) ∧ hi ≤ 2000)) :
    Calls Try.prog 70 #[.int .i64 sk, .agg #[.int .i64 lo, .int .i64 hi], .pointer (some ⟨b, 0, none⟩)] w fun e w' => e = .returned (.bool false) ∧ Below w.heap.size w w' :=
  (c70 sk lo hi tu b w hb hc h1 h2).mono fun _ _ hr => by
    rcases hr with ⟨h1, _⟩ | ⟨_, h1⟩
    · exact absurd h1 p
    · exact h1

def VBox (d : Dk) (w : World) (b : Nat) : Prop := b < w.heap.size ∧ w.cell? ⟨b, 1, none⟩ = some (.int .i64 d.tu)

set_option maxRecDepth 100000 in
set_option maxHeartbeats 2000000 in
theorem c66 (d : Dk) (w : World) (hz : Zs w d) (hm : d.zs.length ≤ 1000000) : Calls Try.prog 66 #[d.v] w (RetBB d.Ok w) := by
  obtain ⟨W0, hW0⟩ : ∃ W0 : World, W0 = w.alloc (.cells #[.int .i64 d.hd, .int .i64 d.tu, .slice d.za d.zs.length d.zc, .int .i64 d.hs, .int .i64 d.cs, .int .i64 d.hl, .int .i64 d.hh, .int .i64 d.cl, .int .i64 d.ch] 26) := ⟨_, rfl⟩
  have hB0 : Below w.heap.size w W0 := by rw [hW0]; exact (Below.refl _ _).alloc (Nat.le_refl _) _
  have hs0 : W0.heap.size = w.heap.size + 1 := by rw [hW0]; simp
  by_cases p1 : 1 ≤ d.hd ∧ d.hd ≤ 4
  · by_cases p2 : 1 ≤ d.tu ∧ d.tu ≤ 1000
    · by_cases p3 : 1 ≤ (d.zs.length : Int) ∧ (d.zs.length : Int) ≤ 4
      · go_enter Try.func66, Try.ntmps66
        go_wp2_with (go_at_call 50; refine (c50y _ (by omega)).mono ?_; rintro e w9 ⟨rfl, rfl⟩)
        rw [← hW0]
        go_loopw [26] (fun i wr => ∃ k : Nat, k ≤ d.zs.length ∧ i = .int .i64 k ∧ (∀ j, (hj : j < d.zs.length) → j < k → okZ d.tu d.zs[j]) ∧ Below (w.heap.size + 1) W0 wr) (fun i _ => d.zs.length - (intOf i).toNat)
        case atStart => exact ⟨0, Nat.zero_le _, rfl, fun j _ h => absurd h (Nat.not_lt_zero _), Below.refl _ _⟩
        case round =>
          obtain ⟨k, hk, rfl, hall, hB⟩ := hrel
          have hsz : w.heap.size < wr.heap.size := by have := hB.size; omega
          clear hs0
          have hall' := hid hall
          clear hall
          obtain ⟨hc, hf⟩ := bcell hB
          by_cases hlt : k < d.zs.length
          · have h1 := hz.c1 k hlt; have h2 := hz.c2 k hlt; have h3 := hz.lt k hlt; have h4 := hz.ix hlt
            go_wp2_with (go_at_call 50; refine (c50 _ _ _ _).mono ?_; rintro e w' (⟨g, rfl, rfl⟩ | ⟨g, rfl, rfl⟩))
            rotate_left
            · go_roundw
              case rel =>
                have hz5 : d.tu % d.zs[k].2 = 0 := by simp_all
                exact ⟨k + 1, by omega, by go_num, okZ_snoc hlt hall'.out ⟨by omega, by omega, by omega, by omega, hz5⟩, hB.alloc (by omega) _⟩
              case measure => simp [intOf]; omega
            all_goals
              go_returns
              clear hc hf
              refine .inr ⟨fun h => ?_, rfl, (hB0.trans (hB.mono (by omega))).alloc (by omega) _⟩
              obtain ⟨z1, z2, z3, z4, z5⟩ := okZ_get h.zok hlt
              first | omega | simp_all
          · have hcell : wr.cell? ⟨w.heap.size, 1, none⟩ = some (.int .i64 d.tu) := by rw [hc _ _ (by omega), hW0]; simp [go_sem]
            have hBw : Below w.heap.size w wr := hB0.trans (hB.mono (by omega))
            by_cases g1 : (0 ≤ d.hs ∧ d.hs < d.tu) ∧ (0 ≤ d.hl ∧ d.hl ≤ d.hh) ∧ d.hh ≤ 2000
            · by_cases g2 : (0 ≤ d.cs ∧ d.cs < d.tu) ∧ (0 ≤ d.cl ∧ d.cl ≤ d.ch) ∧ d.ch ≤ 2000
              · go_wp2_with (go_at_call 70; first | (with_reducible refine (c70y _ hsz hcell p2.1 p2.2 g1).mono ?_; rintro e w1 ⟨rfl, hB1⟩; obtain ⟨hc1, hf1⟩ := bcell hB1; have hcell1 : w1.cell? ⟨w.heap.size, 1, none⟩ = some (.int .i64 d.tu) := (hc1 _ _ hsz).trans hcell; have hz1 := hB1.size) | (with_reducible refine (c70y _ (Nat.lt_of_lt_of_le hsz hB1.size) hcell1 p2.1 p2.2 g2).mono ?_; rintro e w2 ⟨rfl, hB2⟩))
                go_returns
                exact .inl ⟨⟨by omega, by omega, by omega, by omega, by omega, by omega, by omega, by omega, by omega, by omega, okZ_all (fun j hj => hall'.out j hj (by omega)), by omega, by omega, by omega, by omega, by omega, by omega⟩, rfl, by (repeat' (first | (with_reducible exact Below.refl _ _) | (with_reducible assumption) | (with_reducible refine Below.alloc ?_ ?_ _) | (with_reducible refine Below.drew ?_) | (with_reducible refine below_drewN ?_ _) | (with_reducible refine Below.setCell ?_ ?_ _) | (with_reducible refine Below.trans ?_ (Below.mono (by with_reducible assumption) ?_)) | go_size))⟩
              · go_wp2_with (go_at_call 70; first | (with_reducible refine (c70y _ hsz hcell p2.1 p2.2 g1).mono ?_; rintro e w1 ⟨rfl, hB1⟩; obtain ⟨hc1, hf1⟩ := bcell hB1; have hcell1 : w1.cell? ⟨w.heap.size, 1, none⟩ = some (.int .i64 d.tu) := (hc1 _ _ hsz).trans hcell; have hz1 := hB1.size) | (with_reducible refine (c70n _ (Nat.lt_of_lt_of_le hsz hB1.size) hcell1 p2.1 p2.2 g2).mono ?_; rintro e w2 ⟨rfl, hB2⟩))
                go_returns
                exact .inr ⟨fun h => g2 ⟨⟨h.cs0, h.cs1⟩, ⟨h.cl0, h.cl1⟩, h.ch2⟩, rfl, by (repeat' (first | (with_reducible exact Below.refl _ _) | (with_reducible assumption) | (with_reducible refine Below.alloc ?_ ?_ _) | (with_reducible refine Below.drew ?_) | (with_reducible refine below_drewN ?_ _) | (with_reducible refine Below.setCell ?_ ?_ _) | (with_reducible refine Below.trans ?_ (Below.mono (by with_reducible assumption) ?_)) | go_size))⟩
            · go_wp2_with (go_at_call 70; refine (c70n _ hsz hcell p2.1 p2.2 g1).mono ?_; rintro e w1 ⟨rfl, hB1⟩)
              go_returns
              exact .inr ⟨fun h => g1 ⟨⟨h.hs0, h.hs1⟩, ⟨h.hl0, h.hl1⟩, h.hh2⟩, rfl, by (repeat' (first | (with_reducible exact Below.refl _ _) | (with_reducible assumption) | (with_reducible refine Below.alloc ?_ ?_ _) | (with_reducible refine Below.drew ?_) | (with_reducible refine below_drewN ?_ _) | (with_reducible refine Below.setCell ?_ ?_ _) | (with_reducible refine Below.trans ?_ (Below.mono (by with_reducible assumption) ?_)) | go_size))⟩
      · go_enter Try.func66, Try.ntmps66
        go_wp2_with (go_at_call 50; first | (refine (c50y _ (by omega)).mono ?_; rintro e w9 ⟨rfl, rfl⟩) | (refine (c50n _ (by omega)).mono ?_; rintro e w9 ⟨rfl, rfl⟩))
        go_returns
        exact .inr ⟨fun h => by have := h.zl1; have := h.zl4; omega, rfl, by (repeat' (first | (with_reducible exact Below.refl _ _) | (with_reducible assumption) | (with_reducible refine Below.alloc ?_ ?_ _) | (with_reducible refine Below.drew ?_) | (with_reducible refine below_drewN ?_ _) | (with_reducible refine Below.setCell ?_ ?_ _) | (with_reducible refine Below.trans ?_ (Below.mono (by with_reducible assumption) ?_)) | go_size))⟩
    · go_enter Try.func66, Try.ntmps66
      go_wp2_with (go_at_call 50; first | (refine (c50y _ (by omega)).mono ?_; rintro e w9 ⟨rfl, rfl⟩) | (refine (c50n _ (by omega)).mono ?_; rintro e w9 ⟨rfl, rfl⟩))
      go_returns
      exact .inr ⟨fun h => by have := h.tu1; have := h.tu2; omega, rfl, by (repeat' (first | (with_reducible exact Below.refl _ _) | (with_reducible assumption) | (with_reducible refine Below.alloc ?_ ?_ _) | (with_reducible refine Below.drew ?_) | (with_reducible refine below_drewN ?_ _) | (with_reducible refine Below.setCell ?_ ?_ _) | (with_reducible refine Below.trans ?_ (Below.mono (by with_reducible assumption) ?_)) | go_size))⟩
  · go_enter Try.func66, Try.ntmps66
    go_wp2_with (go_at_call 50; refine (c50n _ (by omega)).mono ?_; rintro e w9 ⟨rfl, rfl⟩)
    go_returns
    exact .inr ⟨fun h => by have := h.hd1; have := h.hd4; omega, rfl, by (repeat' (first | (with_reducible exact Below.refl _ _) | (with_reducible assumption) | (with_reducible refine Below.alloc ?_ ?_ _) | (with_reducible refine Below.drew ?_) | (with_reducible refine below_drewN ?_ _) | (with_reducible refine Below.setCell ?_ ?_ _) | (with_reducible refine Below.trans ?_ (Below.mono (by with_reducible assumption) ?_)) | go_size))⟩

theorem c66y (d : Dk) (w : World) (hz : Zs w d) (hm : d.zs.length ≤ 1000000) (ok : d.Ok) : Calls Try.prog 66 #[d.v] w fun e w' => e = .returned (.bool true) ∧ Below w.heap.size w w' :=
  (c66 d w hz hm).mono fun _ _ hr => by
    rcases hr with ⟨_, h1⟩ | ⟨h1, _⟩
    · exact h1
    · exact absurd ok h1
theorem c66n (d : Dk) (w : World) (hz : Zs w d) (hm : d.zs.length ≤ 1000000) (ok : ¬ d.Ok) : Calls Try.prog 66 #[d.v] w fun e w' => e = .returned (.bool false) ∧ Below w.heap.size w w' :=
  (c66 d w hz hm).mono fun _ _ hr => by
    rcases hr with ⟨h1, _⟩ | ⟨_, h1⟩
    · exact absurd h1 ok
    · exact h1

def Dk.ck (d : Dk) : Ck := ⟨d, d.hl, d.hh, d.hs, d.cl, d.ch, d.cs⟩
theorem Dk.Ok.ck {d : Dk} (ok : d.Ok) : d.ck.Ok := ⟨ok, ok.hs0, ok.hs1, ok.cs0, ok.cs1⟩


set_option maxRecDepth 100000 in
set_option maxHeartbeats 1000000 in
theorem c46n (d : Dk) (w : World) (hz : Zs w d) (hm : d.zs.length ≤ 1000000) (ok : ¬ d.Ok) :
    Calls Try.prog 46 #[d.v] w fun e w' => e = .returned (.tuple #[.agg #[.int .i64 0, .int .i64 0, .slice none 0 0, .int .i64 0, .int .i64 0, .int .i64 0, .int .i64 0, .int .i64 0, .int .i64 0, .int .i64 0, .int .i64 0, .int .i64 0, .int .i64 0, .int .i64 0, .int .i64 0], .int .i64 10]) ∧ Below w.heap.size w w' := by
  go_enter Try.func46, Try.ntmps46
  go_wp2_with (go_at_call 66; refine (c66n d _ (by exact hz.below (by (repeat' (first | (with_reducible exact Below.refl _ _) | (with_reducible assumption) | (with_reducible refine Below.alloc ?_ ?_ _) | (with_reducible refine Below.drew ?_) | (with_reducible refine below_drewN ?_ _) | (with_reducible refine Below.setCell ?_ ?_ _) | (with_reducible refine Below.trans ?_ (Below.mono (by with_reducible assumption) ?_)) | go_size))) (Nat.le_refl _)) hm ok).mono ?_; rintro e w1 ⟨rfl, hB1⟩; obtain ⟨hc1, hf1⟩ := bcell (hB1.mono (show w.heap.size + 2 ≤ _ by first | omega | ((try simp only [World.size_alloc, World.size_drew, World.size_setCell]); omega))); have hz1 : w.heap.size + 1 < w1.heap.size := by (have := hB1.size; (try simp only [World.size_alloc, World.size_drew, World.size_setCell] at this); omega))
  refine bodyPost_ret (v := .tuple #[.agg #[.int .i64 0, .int .i64 0, .slice none 0 0, .int .i64 0, .int .i64 0, .int .i64 0, .int .i64 0, .int .i64 0, .int .i64 0, .int .i64 0, .int .i64 0, .int .i64 0, .int .i64 0, .int .i64 0, .int .i64 0], .int .i64 10]) (by simp [results, Try.results46, go_sem, hc1, hf1, hz1]) rfl ⟨rfl, ?_⟩
  (repeat' (first | (with_reducible exact Below.refl _ _) | (with_reducible assumption) | (with_reducible refine Below.alloc ?_ ?_ _) | (with_reducible refine Below.drew ?_) | (with_reducible refine below_drewN ?_ _) | (with_reducible refine Below.setCell ?_ ?_ _) | (with_reducible refine Below.trans ?_ (Below.mono (by with_reducible assumption) ?_)) | go_size))

set_option maxRecDepth 100000 in
set_option maxHeartbeats 1000000 in
theorem c46y (d : Dk) (w : World) (hz : Zs w d) (ok : d.Ok) :
    Calls Try.prog 46 #[d.v] w fun e w' => e = .returned (.tuple #[d.ck.v, .int .i64 0]) ∧ Below w.heap.size w w' := by
  have hm : d.zs.length ≤ 1000000 := by have := ok.zl4; omega
  go_enter Try.func46, Try.ntmps46
  go_wp2_with (go_at_call 66; refine (c66y d _ (by exact hz.below (by (repeat' (first | (with_reducible exact Below.refl _ _) | (with_reducible assumption) | (with_reducible refine Below.alloc ?_ ?_ _) | (with_reducible refine Below.drew ?_) | (with_reducible refine below_drewN ?_ _) | (with_reducible refine Below.setCell ?_ ?_ _) | (with_reducible refine Below.trans ?_ (Below.mono (by with_reducible assumption) ?_)) | go_size))) (Nat.le_refl _)) hm ok).mono ?_; rintro e w1 ⟨rfl, hB1⟩; obtain ⟨hc1, hf1⟩ := bcell (hB1.mono (show w.heap.size + 2 ≤ _ by first | omega | ((try simp only [World.size_alloc, World.size_drew, World.size_setCell]); omega))); have hz1 : w.heap.size + 1 < w1.heap.size := by (have := hB1.size; (try simp only [World.size_alloc, World.size_drew, World.size_setCell] at this); omega))
  refine bodyPost_ret (v := .tuple #[.agg #[.int .i64 d.hd, .int .i64 d.tu, .slice d.za d.zs.length d.zc, .int .i64 d.hs, .int .i64 d.cs, .int .i64 d.hl, .int .i64 d.hh, .int .i64 d.cl, .int .i64 d.ch, .int .i64 d.hl, .int .i64 d.hh, .int .i64 d.hs, .int .i64 d.cl, .int .i64 d.ch, .int .i64 d.cs], .int .i64 0]) (by simp [results, Try.results46, go_sem, hc1, hf1, hz1]) rfl ⟨rfl, ?_⟩
  (repeat' (first | (with_reducible exact Below.refl _ _) | (with_reducible assumption) | (with_reducible refine Below.alloc ?_ ?_ _) | (with_reducible refine Below.drew ?_) | (with_reducible refine below_drewN ?_ _) | (with_reducible refine Below.setCell ?_ ?_ _) | (with_reducible refine Below.trans ?_ (Below.mono (by with_reducible assumption) ?_)) | go_size))

set_option maxHeartbeats 1000000 in
theorem c16 (d : Dk) (w : World) (hz : Zs w d) (hm : d.zs.length ≤ 1000000) :
    Calls Try.prog 16 #[d.v] w fun e w' => e = .returned (.int .i64 d.err) ∧ Below w.heap.size w w' := by
  by_cases ok : d.Ok
  · rw [Dk.err_ok ok]
    go_enter Try.func16, Try.ntmps16
    go_wp2_with (go_at_call 46; refine (c46y d _ (by exact hz.below (by (repeat' (first | (with_reducible exact Below.refl _ _) | (with_reducible assumption) | (with_reducible refine Below.alloc ?_ ?_ _) | (with_reducible refine Below.drew ?_) | (with_reducible refine below_drewN ?_ _) | (with_reducible refine Below.setCell ?_ ?_ _) | (with_reducible refine Below.trans ?_ (Below.mono (by with_reducible assumption) ?_)) | go_size))) (Nat.le_refl _)) ok).mono ?_; rintro e w1 ⟨rfl, hB1⟩; obtain ⟨hc1, hf1⟩ := bcell (hB1.mono (show w.heap.size + 1 ≤ _ by first | omega | ((try simp only [World.size_alloc, World.size_drew, World.size_setCell]); omega))); have hz1 : w.heap.size < w1.heap.size := by (have := hB1.size; (try simp only [World.size_alloc, World.size_drew, World.size_setCell] at this); omega))
    go_returns
    exact ⟨rfl, by (repeat' (first | (with_reducible exact Below.refl _ _) | (with_reducible assumption) | (with_reducible refine Below.alloc ?_ ?_ _) | (with_reducible refine Below.drew ?_) | (with_reducible refine below_drewN ?_ _) | (with_reducible refine Below.setCell ?_ ?_ _) | (with_reducible refine Below.trans ?_ (Below.mono (by with_reducible assumption) ?_)) | go_size))⟩
  · rw [Dk.err_not ok]
    go_enter Try.func16, Try.ntmps16
    go_wp2_with (go_at_call 46; refine (c46n d _ (by exact hz.below (by (repeat' (first | (with_reducible exact Below.refl _ _) | (with_reducible assumption) | (with_reducible refine Below.alloc ?_ ?_ _) | (with_reducible refine Below.drew ?_) | (with_reducible refine below_drewN ?_ _) | (with_reducible refine Below.setCell ?_ ?_ _) | (with_reducible refine Below.trans ?_ (Below.mono (by with_reducible assumption) ?_)) | go_size))) (Nat.le_refl _)) hm ok).mono ?_; rintro e w1 ⟨rfl, hB1⟩; obtain ⟨hc1, hf1⟩ := bcell (hB1.mono (show w.heap.size + 1 ≤ _ by first | omega | ((try simp only [World.size_alloc, World.size_drew, World.size_setCell]); omega))); have hz1 : w.heap.size < w1.heap.size := by (have := hB1.size; (try simp only [World.size_alloc, World.size_drew, World.size_setCell] at this); omega))
    go_returns
    exact ⟨rfl, by (repeat' (first | (with_reducible exact Below.refl _ _) | (with_reducible assumption) | (with_reducible refine Below.alloc ?_ ?_ _) | (with_reducible refine Below.drew ?_) | (with_reducible refine below_drewN ?_ _) | (with_reducible refine Below.setCell ?_ ?_ _) | (with_reducible refine Below.trans ?_ (Below.mono (by with_reducible assumption) ?_)) | go_size))⟩
end Go.Proofs.Ythkbiplmfbcabaa
