/- Stage 1: the law ZonesParts, walked. -/
import Derived.Test.YthkbiplmfbcabaaY2
import Derived.Test.YthkbiplmfbcabaaH3
import Derived.Test.YthkbiplmfbcabaaI3
set_option linter.unusedSimpArgs false
set_option linter.unusedVariables false
namespace Go.Proofs.Ythkbiplmfbcabaa
open Go.RowKit Go.Sort

theorem c36y (d : Dk) (f n : Int) (w : World) (hz : Zs w d) (ok : d.Ok) (h : 0 ≤ f ∧ f < d.count ∧ 1 ≤ n ∧ n ≤ d.count - f) : Calls Try.prog 36 #[d.v, .int .i64 f, .int .i64 n] w fun e w' => e = .returned (.bool true) ∧ Below w.heap.size w w' := by
  have := c36 d f n w hz ok
  rwa [decide_eq_true h] at this
theorem c36n (d : Dk) (f n : Int) (w : World) (hz : Zs w d) (ok : d.Ok) (h : ¬ (0 ≤ f ∧ f < d.count ∧ 1 ≤ n ∧ n ≤ d.count - f)) : Calls Try.prog 36 #[d.v, .int .i64 f, .int .i64 n] w fun e w' => e = .returned (.bool false) ∧ Below w.heap.size w w' := by
  have := c36 d f n w hz ok
  rwa [decide_eq_false h] at this

set_option maxRecDepth 100000 in
set_option maxHeartbeats 1000000 in
theorem c9_no (d : Dk) (xf xn xa xl xh : Int) (w : World) (hz : Zs w d) (h : ¬ (¬ d.far ∧ d.Ok)) :
    Calls Try.prog 9 #[d.v, .agg #[.int .i64 xf, .int .i64 xn, .int .i64 xa, .int .i64 xl, .int .i64 xh]] w fun e w' => e = .returned (.bool true) ∧ Below w.heap.size w w' := by
  have hh := hid h
  clear h
  go_enter Try.func9, Try.ntmps9
  go_wp2_with (first | (go_at_call 34; refine (c34n d _ (by exact hz.below (by (repeat' (first | (with_reducible exact Below.refl _ _) | (with_reducible assumption) | (with_reducible refine Below.alloc ?_ ?_ _) | (with_reducible refine Below.drew ?_) | (with_reducible refine below_drewN ?_ _) | (with_reducible refine Below.setCell ?_ ?_ _) | (with_reducible refine Below.trans ?_ (Below.mono (by with_reducible assumption) ?_)) | go_size))) (Nat.le_refl _)) hh.out).mono ?_; rintro e w1 ⟨rfl, hB1⟩; obtain ⟨hc1, hf1⟩ := bcell (hB1.mono (show w.heap.size + 2 ≤ _ by first | omega | ((try simp only [World.size_alloc, World.size_drew, World.size_setCell]); omega))); have hz1 : w.heap.size + 2 ≤ w1.heap.size := (by have := hB1.size; (try simp only [World.size_alloc, World.size_drew, World.size_setCell] at this); omega)) | (go_at_call 14; refine (c14 _).mono ?_; rintro e w2 ⟨rfl, hB2⟩; obtain ⟨hc2, hf2⟩ := bcell (hB2.mono (show w.heap.size + 2 ≤ _ by first | omega | ((try simp only [World.size_alloc, World.size_drew, World.size_setCell]); omega))); have hz2 : w.heap.size + 2 ≤ w2.heap.size := (by have := hB2.size; (try simp only [World.size_alloc, World.size_drew, World.size_setCell] at this); omega)))
  go_returns
  exact ⟨rfl, by (repeat' (first | (with_reducible exact Below.refl _ _) | (with_reducible assumption) | (with_reducible refine Below.alloc ?_ ?_ _) | (with_reducible refine Below.drew ?_) | (with_reducible refine below_drewN ?_ _) | (with_reducible refine Below.setCell ?_ ?_ _) | (with_reducible refine Below.trans ?_ (Below.mono (by with_reducible assumption) ?_)) | go_size))⟩
set_option maxRecDepth 100000 in
set_option maxHeartbeats 1000000 in
theorem c9_norun (d : Dk) (xf xn xa xl xh : Int) (w : World) (hz : Zs w d) (hf : ¬ d.far) (ok : d.Ok) (h : ¬ (0 ≤ xf ∧ xf < d.count ∧ 1 ≤ xn ∧ xn ≤ d.count - xf)) :
    Calls Try.prog 9 #[d.v, .agg #[.int .i64 xf, .int .i64 xn, .int .i64 xa, .int .i64 xl, .int .i64 xh]] w fun e w' => e = .returned (.bool true) ∧ Below w.heap.size w w' := by
  have hh := hid hf
  have okh := hid ok
  have hr := hid h
  clear hf ok h
  go_enter Try.func9, Try.ntmps9
  go_wp2_with (first | (go_at_call 34; refine (c34y d _ (by exact hz.below (by (repeat' (first | (with_reducible exact Below.refl _ _) | (with_reducible assumption) | (with_reducible refine Below.alloc ?_ ?_ _) | (with_reducible refine Below.drew ?_) | (with_reducible refine below_drewN ?_ _) | (with_reducible refine Below.setCell ?_ ?_ _) | (with_reducible refine Below.trans ?_ (Below.mono (by with_reducible assumption) ?_)) | go_size))) (Nat.le_refl _)) hh.out okh.out).mono ?_; rintro e w1 ⟨rfl, hB1⟩; obtain ⟨hc1, hf1⟩ := bcell (hB1.mono (show w.heap.size + 2 ≤ _ by first | omega | ((try simp only [World.size_alloc, World.size_drew, World.size_setCell]); omega))); have hz1 : w.heap.size + 2 ≤ w1.heap.size := (by have := hB1.size; (try simp only [World.size_alloc, World.size_drew, World.size_setCell] at this); omega); have hy1 : w.heap.size < w1.heap.size := (by omega); have hx1 : w.heap.size + 1 < w1.heap.size := (by omega)) | (go_at_call 36; refine (c36n d _ _ _ (by exact hz.below (by (repeat' (first | (with_reducible exact Below.refl _ _) | (with_reducible assumption) | (with_reducible refine Below.alloc ?_ ?_ _) | (with_reducible refine Below.drew ?_) | (with_reducible refine below_drewN ?_ _) | (with_reducible refine Below.setCell ?_ ?_ _) | (with_reducible refine Below.trans ?_ (Below.mono (by with_reducible assumption) ?_)) | go_size))) (Nat.le_refl _)) okh.out hr.out).mono ?_; rintro e w2 ⟨rfl, hB2⟩; obtain ⟨hc2, hf2⟩ := bcell (hB2.mono (show w.heap.size + 2 ≤ _ by first | omega | ((try simp only [World.size_alloc, World.size_drew, World.size_setCell]); omega))); have hz2 : w.heap.size + 2 ≤ w2.heap.size := (by have := hB2.size; (try simp only [World.size_alloc, World.size_drew, World.size_setCell] at this); omega); have hy2 : w.heap.size < w2.heap.size := (by omega); have hx2 : w.heap.size + 1 < w2.heap.size := (by omega)) | (go_at_call 14; refine (c14 _).mono ?_; rintro e w4 ⟨rfl, hB4⟩; obtain ⟨hc4, hf4⟩ := bcell (hB4.mono (show w.heap.size + 2 ≤ _ by first | omega | ((try simp only [World.size_alloc, World.size_drew, World.size_setCell]); omega))); have hz4 : w.heap.size + 2 ≤ w4.heap.size := (by have := hB4.size; (try simp only [World.size_alloc, World.size_drew, World.size_setCell] at this); omega)))
  go_returns
  exact ⟨rfl, by (repeat' (first | (with_reducible exact Below.refl _ _) | (with_reducible assumption) | (with_reducible refine Below.alloc ?_ ?_ _) | (with_reducible refine Below.drew ?_) | (with_reducible refine below_drewN ?_ _) | (with_reducible refine Below.setCell ?_ ?_ _) | (with_reducible refine Below.trans ?_ (Below.mono (by with_reducible assumption) ?_)) | go_size))⟩
set_option maxRecDepth 100000 in
set_option maxHeartbeats 4000000 in
theorem c9_out (d : Dk) (xf xn xa xl xh : Int) (w : World) (hz : Zs w d) (hf : ¬ d.far) (ok : d.Ok) (h : 0 ≤ xf ∧ xf < d.count ∧ 1 ≤ xn ∧ xn ≤ d.count - xf) (ho : ¬ (1 ≤ xa ∧ xa < xn ∧ 0 ≤ xl ∧ xl ≤ 2000 ∧ 0 ≤ xh ∧ xh ≤ 2000)) :
    Calls Try.prog 9 #[d.v, .agg #[.int .i64 xf, .int .i64 xn, .int .i64 xa, .int .i64 xl, .int .i64 xh]] w fun e w' => e = .returned (.bool true) ∧ Below w.heap.size w w' := by
  have hh := hid hf
  have okh := hid ok
  have hr := hid h
  clear hf ok h
  have hcs : xa < 1 ∨ (1 ≤ xa ∧ xn ≤ xa) ∨ (1 ≤ xa ∧ xa < xn ∧ xl < 0) ∨ (1 ≤ xa ∧ xa < xn ∧ 0 ≤ xl ∧ 2000 < xl) ∨ (1 ≤ xa ∧ xa < xn ∧ 0 ≤ xl ∧ xl ≤ 2000 ∧ xh < 0) ∨ (1 ≤ xa ∧ xa < xn ∧ 0 ≤ xl ∧ xl ≤ 2000 ∧ 0 ≤ xh ∧ 2000 < xh) := by omega
  clear ho
  rcases hcs with h1 | ⟨h1, h2⟩ | ⟨h1, h2, h3⟩ | ⟨h1, h2, h3, h4⟩ | ⟨h1, h2, h3, h4, h5⟩ | ⟨h1, h2, h3, h4, h5, h6⟩
  all_goals
    go_enter Try.func9, Try.ntmps9
    go_wp2_with (first | (go_at_call 34; refine (c34y d _ (by exact hz.below (by (repeat' (first | (with_reducible exact Below.refl _ _) | (with_reducible assumption) | (with_reducible refine Below.alloc ?_ ?_ _) | (with_reducible refine Below.drew ?_) | (with_reducible refine below_drewN ?_ _) | (with_reducible refine Below.setCell ?_ ?_ _) | (with_reducible refine Below.trans ?_ (Below.mono (by with_reducible assumption) ?_)) | go_size))) (Nat.le_refl _)) hh.out okh.out).mono ?_; rintro e w1 ⟨rfl, hB1⟩; obtain ⟨hc1, hf1⟩ := bcell (hB1.mono (show w.heap.size + 2 ≤ _ by first | omega | ((try simp only [World.size_alloc, World.size_drew, World.size_setCell]); omega))); have hz1 : w.heap.size + 2 ≤ w1.heap.size := (by have := hB1.size; (try simp only [World.size_alloc, World.size_drew, World.size_setCell] at this); omega); have hy1 : w.heap.size < w1.heap.size := (by omega); have hx1 : w.heap.size + 1 < w1.heap.size := (by omega)) | (go_at_call 36; refine (c36y d _ _ _ (by exact hz.below (by (repeat' (first | (with_reducible exact Below.refl _ _) | (with_reducible assumption) | (with_reducible refine Below.alloc ?_ ?_ _) | (with_reducible refine Below.drew ?_) | (with_reducible refine below_drewN ?_ _) | (with_reducible refine Below.setCell ?_ ?_ _) | (with_reducible refine Below.trans ?_ (Below.mono (by with_reducible assumption) ?_)) | go_size))) (Nat.le_refl _)) okh.out hr.out).mono ?_; rintro e w2 ⟨rfl, hB2⟩; obtain ⟨hc2, hf2⟩ := bcell (hB2.mono (show w.heap.size + 2 ≤ _ by first | omega | ((try simp only [World.size_alloc, World.size_drew, World.size_setCell]); omega))); have hz2 : w.heap.size + 2 ≤ w2.heap.size := (by have := hB2.size; (try simp only [World.size_alloc, World.size_drew, World.size_setCell] at this); omega); have hy2 : w.heap.size < w2.heap.size := (by omega); have hx2 : w.heap.size + 1 < w2.heap.size := (by omega)) | (go_at_call 14; refine (c14 _).mono ?_; rintro e w4 ⟨rfl, hB4⟩; obtain ⟨hc4, hf4⟩ := bcell (hB4.mono (show w.heap.size + 2 ≤ _ by first | omega | ((try simp only [World.size_alloc, World.size_drew, World.size_setCell]); omega))); have hz4 : w.heap.size + 2 ≤ w4.heap.size := (by have := hB4.size; (try simp only [World.size_alloc, World.size_drew, World.size_setCell] at this); omega)))
    go_returns
    exact ⟨rfl, by (repeat' (first | (with_reducible exact Below.refl _ _) | (with_reducible assumption) | (with_reducible refine Below.alloc ?_ ?_ _) | (with_reducible refine Below.drew ?_) | (with_reducible refine below_drewN ?_ _) | (with_reducible refine Below.setCell ?_ ?_ _) | (with_reducible refine Below.trans ?_ (Below.mono (by with_reducible assumption) ?_)) | go_size))⟩

/-- The disk with narrower switches, its zones elsewhere. -/
@[reducible] def Dk.nw (d : Dk) (za : Option Addr) (zb zo zc : Nat) (hl hh cl ch : Int) : Dk := { d with za := za, zb := zb, zo := zo, zc := zc, hl := hl, hh := hh, cl := cl, ch := ch }
theorem Dk.nw_ok {d : Dk} (ok : d.Ok) {za : Option Addr} {zb zo zc : Nat} {hl hh cl ch : Int} (h1 : 0 ≤ hl) (h2 : hl ≤ hh) (h3 : hh ≤ 2000) (h4 : 0 ≤ cl) (h5 : cl ≤ ch) (h6 : ch ≤ 2000) : (d.nw za zb zo zc hl hh cl ch).Ok :=
  ⟨ok.hd1, ok.hd4, ok.tu1, ok.tu2, ok.zl1, ok.zl4, ok.hs0, ok.hs1, ok.cs0, ok.cs1, ok.zok, h1, h2, h3, h4, h5, h6⟩
theorem Zs.nw {w : World} {d : Dk} {za : Option Addr} {zb zo zc : Nat} (h : Zs w (d.re za zb zo zc)) (a b e f : Int) : Zs w (d.nw za zb zo zc a b e f) := ⟨h.ad, h.lt, h.c1, h.c2, h.nl⟩
def skG (d : Dk) (k t : Int) : Int := if 0 < k then gapV d.tu (skewK d k) t else 0
def loK (d : Dk) (k : Int) : Int := if k = 1 then d.hl else if k = 2 then d.cl else 0
def hiK (d : Dk) (k : Int) : Int := if k = 1 then d.hh else if k = 2 then d.ch else 0
theorem gk_lo (d : Dk) (i : Nat) : gk (gLo d.ck) (kindAt d i) = skG d (kindAt d i) (loK d (kindAt d i)) := by
  rcases kindAt_bd d i with h | h | h <;> rw [h] <;> rfl
theorem gk_hi (d : Dk) (i : Nat) : gk (gHi d.ck) (kindAt d i) = skG d (kindAt d i) (hiK d (kindAt d i)) := by
  rcases kindAt_bd d i with h | h | h <;> rw [h] <;> rfl
theorem c40g (d : Dk) (k t : Int) (w : World) (ok : d.Ok) (t0 : 0 ≤ t) (t1 : t ≤ 2000) : Calls Try.prog 40 #[d.v, .int .i64 k, .int .i64 t] w fun e w' => e = .returned (.int .i64 (gapV d.tu (skewK d k) t)) ∧ Below w.heap.size w w' := c40 d k t w ok t0 t1
/-- What the numbers of the cut runs are to each other. -/
structure Parts (d : Dk) (K : Int) (aL aH bL bH sL sH tL tH : Int) : Prop where
  l : sL = aL + bL + skG d K (loK d K)
  h : sH = aH + bH + skG d K (hiK d K)
  la : aL < sL
  hb : bH < sH
  tl : sL ≤ tL
  th : tH ≤ sH
  b1 : 0 ≤ aL ∧ aL ≤ 30000000
  b2 : 0 ≤ aH ∧ aH ≤ 30000000
  b3 : 0 ≤ bL ∧ bL ≤ 30000000
  b4 : 0 ≤ bH ∧ bH ≤ 30000000
  b5 : 0 ≤ sL ∧ sL ≤ 30000000
  b6 : 0 ≤ sH ∧ sH ≤ 30000000
theorem gLo_bd {d : Dk} (ok : d.Ok) : (0 ≤ gLo d.ck 0 ∧ gLo d.ck 0 ≤ 3000) ∧ (0 ≤ gLo d.ck 1 ∧ gLo d.ck 1 ≤ 3000) := by
  have tu1 : 1 ≤ d.ck.d.tu := ok.tu1
  have tu2 : d.ck.d.tu ≤ 1000 := ok.tu2
  have a1 := gapV_bd (tu := d.ck.d.tu) (sk := d.ck.sk 0) (t := d.ck.lo 0) tu1
  have a2 := gapV_bd (tu := d.ck.d.tu) (sk := d.ck.sk 1) (t := d.ck.lo 1) tu1
  have e1 : d.ck.lo 0 = d.hl := rfl
  have e2 : d.ck.lo 1 = d.cl := rfl
  have := ok.hl0; have := ok.hl1; have := ok.hh2; have := ok.cl0; have := ok.cl1; have := ok.ch2
  unfold gLo
  omega
theorem gHi_bd {d : Dk} (ok : d.Ok) : (0 ≤ gHi d.ck 0 ∧ gHi d.ck 0 ≤ 3000) ∧ (0 ≤ gHi d.ck 1 ∧ gHi d.ck 1 ≤ 3000) := by
  have tu1 : 1 ≤ d.ck.d.tu := ok.tu1
  have tu2 : d.ck.d.tu ≤ 1000 := ok.tu2
  have a1 := gapV_bd (tu := d.ck.d.tu) (sk := d.ck.sk 0) (t := d.ck.hi 0) tu1
  have a2 := gapV_bd (tu := d.ck.d.tu) (sk := d.ck.sk 1) (t := d.ck.hi 1) tu1
  have e1 : d.ck.hi 0 = d.hh := rfl
  have e2 : d.ck.hi 1 = d.ch := rfl
  have := ok.hl0; have := ok.hl1; have := ok.hh2; have := ok.cl0; have := ok.cl1; have := ok.ch2
  unfold gHi
  omega
theorem parts_of {d : Dk} (ok : d.Ok) {f m r : Nat} (h : f + (m + (r + 1) + 1) ≤ (places d).length) {za : Option Addr} {zb zo zc : Nat} {hl hh cl ch : Int} (ok' : (d.nw za zb zo zc hl hh cl ch).Ok) (h1 : d.hl ≤ hl) (h2 : hh ≤ d.hh) (h3 : d.cl ≤ cl) (h4 : ch ≤ d.ch) :
    Parts d (kindAt d (f + m)) (d.run f ((m + 1 : Nat) : Int)).1 (d.run f ((m + 1 : Nat) : Int)).2 (d.run ((f + (m + 1) : Nat) : Int) ((r + 1 : Nat) : Int)).1 (d.run ((f + (m + 1) : Nat) : Int) ((r + 1 : Nat) : Int)).2
      (d.run f ((m + (r + 1) + 1 : Nat) : Int)).1 (d.run f ((m + (r + 1) + 1 : Nat) : Int)).2 ((d.nw za zb zo zc hl hh cl ch).run f ((m + (r + 1) + 1 : Nat) : Int)).1 ((d.nw za zb zo zc hl hh cl ch).run f ((m + (r + 1) + 1 : Nat) : Int)).2 := by
  have hL := ok.lenPl
  have hB := ok.cntB
  unfold lenPlaces at hL
  have tu1 := ok.tu1
  have q1 := gLo_bd ok
  have q2 := gHi_bd ok
  rw [run_eq ok (f := f) (n := m) (by omega), run_eq ok (f := f + (m + 1)) (n := r) (by omega), run_eq ok (f := f) (n := m + (r + 1)) (by omega), run_eq ok' (f := f) (n := m + (r + 1)) h]
  dsimp only
  have e1 := runV_cut d (gLo d.ck) f m r
  have e2 := runV_cut d (gHi d.ck) f m r
  have l1 := runV_bd ok q1.1 q1.2 (f := f) (n := m) (by omega)
  have l2 := runV_bd ok q2.1 q2.2 (f := f) (n := m) (by omega)
  have l3 := runV_bd ok q1.1 q1.2 (f := f + (m + 1)) (n := r) (by omega)
  have l4 := runV_bd ok q2.1 q2.2 (f := f + (m + 1)) (n := r) (by omega)
  have l5 := runV_bd ok q1.1 q1.2 (f := f) (n := m + (r + 1)) (by omega)
  have l6 := runV_bd ok q2.1 q2.2 (f := f) (n := m + (r + 1)) (by omega)
  have g1 : 0 ≤ gk (gLo d.ck) (kindAt d (f + m)) := by unfold gk; split; exact q1.1.1; split; exact q1.2.1; exact Int.le_refl _
  have g2 : 0 ≤ gk (gHi d.ck) (kindAt d (f + m)) := by unfold gk; split; exact q2.1.1; split; exact q2.2.1; exact Int.le_refl _
  have t1 : runV d (gLo d.ck) f (m + (r + 1)) ≤ runV (d.nw za zb zo zc hl hh cl ch) (gLo (d.nw za zb zo zc hl hh cl ch).ck) f (m + (r + 1)) :=
    runV_mono d (γ := gLo d.ck) (δ := gLo (d.nw za zb zo zc hl hh cl ch).ck) (gapV_mono tu1 h1) (gapV_mono tu1 h3) f (m + (r + 1))
  have t2 : runV (d.nw za zb zo zc hl hh cl ch) (gHi (d.nw za zb zo zc hl hh cl ch).ck) f (m + (r + 1)) ≤ runV d (gHi d.ck) f (m + (r + 1)) :=
    runV_mono d (γ := gHi (d.nw za zb zo zc hl hh cl ch).ck) (δ := gHi d.ck) (gapV_mono tu1 h2) (gapV_mono tu1 h4) f (m + (r + 1))
  exact ⟨by rw [e1, gk_lo], by rw [e2, gk_hi], by omega, by omega, t1, t2, by omega, by omega, by omega, by omega, by omega, by omega⟩
end Go.Proofs.Ythkbiplmfbcabaa
