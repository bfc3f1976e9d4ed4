/- Stage 1: the law ZonesTrue, walked. -/
import Derived.Test.YthkbiplmfbcabaaS3
import Derived.Test.YthkbiplmfbcabaaY2
set_option linter.unusedSimpArgs false
set_option linter.unusedVariables false
namespace Go.Proofs.Ythkbiplmfbcabaa
open Go.RowKit Go.Sort

theorem ticksV_mono {d : Dk} (tu1 : 1 ≤ d.tu) {f n : Nat} {xs ys : List Int} (h : ∀ i, i < n - 1 → 0 < kindAt d (f + i) → xs.getD i 0 ≤ ys.getD i 0) : ticksV d f n xs ≤ ticksV d f n ys := by
  unfold ticksV
  have := sm_mono (g := fun i => if 0 < kindAt d i then gapV d.tu (skewK d (kindAt d i)) (xs.getD (i - f) 0) else 0) (h := fun i => if 0 < kindAt d i then gapV d.tu (skewK d (kindAt d i)) (ys.getD (i - f) 0) else 0) (a := f) (k := n - 1) (fun i h1 h2 => by
    obtain ⟨j, rfl⟩ : ∃ j, i = f + j := ⟨i - f, by omega⟩
    rw [show f + j - f = j by omega]
    split
    · rename_i hp
      exact gapV_mono tu1 (h j (by omega) hp)
    · exact Int.le_refl _)
  omega

set_option maxRecDepth 100000 in
set_option maxHeartbeats 1000000 in
theorem c8_no (d : Dk) (xf xn : Int) (xs : List Int) (za : Option Addr) (zb zo zc : Nat) (w : World) (hz : Zs w d) (h : ¬ (¬ d.far ∧ d.Ok)) :
    Calls Try.prog 8 #[d.v, .agg #[.int .i64 xf, .int .i64 xn, .slice za xs.length zc]] w fun e w' => e = .returned (.bool true) ∧ Below w.heap.size w w' := by
  have hh := hid h
  clear h
  go_enter Try.func8, Try.ntmps8
  go_wp2_with (first | (go_at_call 34; refine (c34n d _ (by exact hz.below (by (repeat' (first | (with_reducible exact Below.refl _ _) | (with_reducible assumption) | (with_reducible refine Below.alloc ?_ ?_ _) | (with_reducible refine Below.drew ?_) | (with_reducible refine below_drewN ?_ _) | (with_reducible refine Below.setCell ?_ ?_ _) | (with_reducible refine Below.trans ?_ (Below.mono (by with_reducible assumption) ?_)) | go_size))) (Nat.le_refl _)) hh.out).mono ?_; rintro e w1 ⟨rfl, hB1⟩; obtain ⟨hc1, hf1⟩ := bcell (hB1.mono (show w.heap.size + 2 ≤ _ by first | omega | ((try simp only [World.size_alloc, World.size_drew, World.size_setCell]); omega))); have hz1 : w.heap.size + 2 ≤ w1.heap.size := (by have := hB1.size; (try simp only [World.size_alloc, World.size_drew, World.size_setCell] at this); omega)) | (go_at_call 14; refine (c14 _).mono ?_; rintro e w2 ⟨rfl, hB2⟩; obtain ⟨hc2, hf2⟩ := bcell (hB2.mono (show w.heap.size + 2 ≤ _ by first | omega | ((try simp only [World.size_alloc, World.size_drew, World.size_setCell]); omega))); have hz2 : w.heap.size + 2 ≤ w2.heap.size := (by have := hB2.size; (try simp only [World.size_alloc, World.size_drew, World.size_setCell] at this); omega)))
  go_returns
  exact ⟨rfl, by (repeat' (first | (with_reducible exact Below.refl _ _) | (with_reducible assumption) | (with_reducible refine Below.alloc ?_ ?_ _) | (with_reducible refine Below.drew ?_) | (with_reducible refine below_drewN ?_ _) | (with_reducible refine Below.setCell ?_ ?_ _) | (with_reducible refine Below.trans ?_ (Below.mono (by with_reducible assumption) ?_)) | go_size))⟩
set_option maxRecDepth 100000 in
set_option maxHeartbeats 1000000 in
theorem c8_norun (d : Dk) (xf xn : Int) (xs : List Int) (za : Option Addr) (zb zo zc : Nat) (w : World) (hz : Zs w d) (hf : ¬ d.far) (ok : d.Ok) (h : ¬ (0 ≤ xf ∧ xf < d.count ∧ 1 ≤ xn ∧ xn ≤ d.count - xf)) :
    Calls Try.prog 8 #[d.v, .agg #[.int .i64 xf, .int .i64 xn, .slice za xs.length zc]] w fun e w' => e = .returned (.bool true) ∧ Below w.heap.size w w' := by
  have hh := hid hf
  have okh := hid ok
  have hr := hid h
  clear hf ok h
  go_enter Try.func8, Try.ntmps8
  go_wp2_with (first | (go_at_call 34; refine (c34y d _ (by exact hz.below (by (repeat' (first | (with_reducible exact Below.refl _ _) | (with_reducible assumption) | (with_reducible refine Below.alloc ?_ ?_ _) | (with_reducible refine Below.drew ?_) | (with_reducible refine below_drewN ?_ _) | (with_reducible refine Below.setCell ?_ ?_ _) | (with_reducible refine Below.trans ?_ (Below.mono (by with_reducible assumption) ?_)) | go_size))) (Nat.le_refl _)) hh.out okh.out).mono ?_; rintro e w1 ⟨rfl, hB1⟩; obtain ⟨hc1, hf1⟩ := bcell (hB1.mono (show w.heap.size + 2 ≤ _ by first | omega | ((try simp only [World.size_alloc, World.size_drew, World.size_setCell]); omega))); have hz1 : w.heap.size + 2 ≤ w1.heap.size := (by have := hB1.size; (try simp only [World.size_alloc, World.size_drew, World.size_setCell] at this); omega); have hy1 : w.heap.size < w1.heap.size := (by omega); have hx1 : w.heap.size + 1 < w1.heap.size := (by omega)) | (go_at_call 36; refine (c36n d _ _ _ (by exact hz.below (by (repeat' (first | (with_reducible exact Below.refl _ _) | (with_reducible assumption) | (with_reducible refine Below.alloc ?_ ?_ _) | (with_reducible refine Below.drew ?_) | (with_reducible refine below_drewN ?_ _) | (with_reducible refine Below.setCell ?_ ?_ _) | (with_reducible refine Below.trans ?_ (Below.mono (by with_reducible assumption) ?_)) | go_size))) (Nat.le_refl _)) okh.out hr.out).mono ?_; rintro e w2 ⟨rfl, hB2⟩; obtain ⟨hc2, hf2⟩ := bcell (hB2.mono (show w.heap.size + 2 ≤ _ by first | omega | ((try simp only [World.size_alloc, World.size_drew, World.size_setCell]); omega))); have hz2 : w.heap.size + 2 ≤ w2.heap.size := (by have := hB2.size; (try simp only [World.size_alloc, World.size_drew, World.size_setCell] at this); omega); have hy2 : w.heap.size < w2.heap.size := (by omega); have hx2 : w.heap.size + 1 < w2.heap.size := (by omega)) | (go_at_call 14; refine (c14 _).mono ?_; rintro e w4 ⟨rfl, hB4⟩; obtain ⟨hc4, hf4⟩ := bcell (hB4.mono (show w.heap.size + 2 ≤ _ by first | omega | ((try simp only [World.size_alloc, World.size_drew, World.size_setCell]); omega))); have hz4 : w.heap.size + 2 ≤ w4.heap.size := (by have := hB4.size; (try simp only [World.size_alloc, World.size_drew, World.size_setCell] at this); omega)))
  go_returns
  exact ⟨rfl, by (repeat' (first | (with_reducible exact Below.refl _ _) | (with_reducible assumption) | (with_reducible refine Below.alloc ?_ ?_ _) | (with_reducible refine Below.drew ?_) | (with_reducible refine below_drewN ?_ _) | (with_reducible refine Below.setCell ?_ ?_ _) | (with_reducible refine Below.trans ?_ (Below.mono (by with_reducible assumption) ?_)) | go_size))⟩
set_option maxRecDepth 100000 in
set_option maxHeartbeats 1000000 in
theorem c8_long (d : Dk) (xf xn : Int) (xs : List Int) (za : Option Addr) (zb zo zc : Nat) (w : World) (hz : Zs w d) (hf : ¬ d.far) (ok : d.Ok) (h : 0 ≤ xf ∧ xf < d.count ∧ 1 ≤ xn ∧ xn ≤ d.count - xf) (hl : (300 : Int) < xs.length) :
    Calls Try.prog 8 #[d.v, .agg #[.int .i64 xf, .int .i64 xn, .slice za xs.length zc]] w fun e w' => e = .returned (.bool true) ∧ Below w.heap.size w w' := by
  have hh := hid hf
  have okh := hid ok
  have hr := hid h
  clear hf ok h
  go_enter Try.func8, Try.ntmps8
  go_wp2_with (first | (go_at_call 34; refine (c34y d _ (by exact hz.below (by (repeat' (first | (with_reducible exact Below.refl _ _) | (with_reducible assumption) | (with_reducible refine Below.alloc ?_ ?_ _) | (with_reducible refine Below.drew ?_) | (with_reducible refine below_drewN ?_ _) | (with_reducible refine Below.setCell ?_ ?_ _) | (with_reducible refine Below.trans ?_ (Below.mono (by with_reducible assumption) ?_)) | go_size))) (Nat.le_refl _)) hh.out okh.out).mono ?_; rintro e w1 ⟨rfl, hB1⟩; obtain ⟨hc1, hf1⟩ := bcell (hB1.mono (show w.heap.size + 2 ≤ _ by first | omega | ((try simp only [World.size_alloc, World.size_drew, World.size_setCell]); omega))); have hz1 : w.heap.size + 2 ≤ w1.heap.size := (by have := hB1.size; (try simp only [World.size_alloc, World.size_drew, World.size_setCell] at this); omega); have hy1 : w.heap.size < w1.heap.size := (by omega); have hx1 : w.heap.size + 1 < w1.heap.size := (by omega)) | (go_at_call 36; refine (c36y d _ _ _ (by exact hz.below (by (repeat' (first | (with_reducible exact Below.refl _ _) | (with_reducible assumption) | (with_reducible refine Below.alloc ?_ ?_ _) | (with_reducible refine Below.drew ?_) | (with_reducible refine below_drewN ?_ _) | (with_reducible refine Below.setCell ?_ ?_ _) | (with_reducible refine Below.trans ?_ (Below.mono (by with_reducible assumption) ?_)) | go_size))) (Nat.le_refl _)) okh.out hr.out).mono ?_; rintro e w2 ⟨rfl, hB2⟩; obtain ⟨hc2, hf2⟩ := bcell (hB2.mono (show w.heap.size + 2 ≤ _ by first | omega | ((try simp only [World.size_alloc, World.size_drew, World.size_setCell]); omega))); have hz2 : w.heap.size + 2 ≤ w2.heap.size := (by have := hB2.size; (try simp only [World.size_alloc, World.size_drew, World.size_setCell] at this); omega); have hy2 : w.heap.size < w2.heap.size := (by omega); have hx2 : w.heap.size + 1 < w2.heap.size := (by omega)) | (go_at_call 14; refine (c14 _).mono ?_; rintro e w4 ⟨rfl, hB4⟩; obtain ⟨hc4, hf4⟩ := bcell (hB4.mono (show w.heap.size + 2 ≤ _ by first | omega | ((try simp only [World.size_alloc, World.size_drew, World.size_setCell]); omega))); have hz4 : w.heap.size + 2 ≤ w4.heap.size := (by have := hB4.size; (try simp only [World.size_alloc, World.size_drew, World.size_setCell] at this); omega)))
  go_returns
  exact ⟨rfl, by (repeat' (first | (with_reducible exact Below.refl _ _) | (with_reducible assumption) | (with_reducible refine Below.alloc ?_ ?_ _) | (with_reducible refine Below.drew ?_) | (with_reducible refine below_drewN ?_ _) | (with_reducible refine Below.setCell ?_ ?_ _) | (with_reducible refine Below.trans ?_ (Below.mono (by with_reducible assumption) ?_)) | go_size))⟩

set_option maxRecDepth 100000 in
set_option maxHeartbeats 16000000 in
theorem c8_yes (d : Dk) (f n : Nat) (xs : List Int) (za : Option Addr) (zb zo zc : Nat) (w : World) (hz : Zs w d) (hx : Ints w za zb zo xs) (hf : ¬ d.far) (ok : d.Ok) (hn : 1 ≤ n) (hfn : f + n ≤ (places d).length) (hl3 : xs.length ≤ 300) :
    Calls Try.prog 8 #[d.v, .agg #[.int .i64 f, .int .i64 n, .slice za xs.length zc]] w fun e w' => e = .returned (.bool true) ∧ Below w.heap.size w w' := by
  have hh := hid hf
  have okh := hid ok
  have hL := ok.lenPl
  have hB := ok.cntB
  unfold lenPlaces at hL
  have hr := hid (show 0 ≤ (f : Int) ∧ (f : Int) < d.count ∧ 1 ≤ (n : Int) ∧ (n : Int) ≤ d.count - f by omega)
  obtain ⟨nq, hq⟩ : ∃ q, q = n - 1 := ⟨_, rfl⟩
  have hnq5 : nq ≤ 5120 := by omega
  have hqh := hid hq
  have hrt := run_ticks ok hn hfn
  obtain ⟨tl, htl⟩ : ∃ x, x = d.tkLo f n := ⟨_, rfl⟩
  obtain ⟨th, hth⟩ : ∃ x, x = d.tkHi f n := ⟨_, rfl⟩
  have x28 : Hid (∀ W, Zs W d → Calls Try.prog 28 #[d.v, .int .i64 f, .int .i64 n] W fun e w' => e = .returned (.tuple #[.agg #[.int .i64 tl, .int .i64 th], .int .i64 0]) ∧ Below W.heap.size W w') := hid (fun W hzW => by
    have := c28_ok d f n W hzW ok ⟨by omega, by omega, by omega, by omega⟩
    rwa [hrt, ← htl, ← hth] at this)
  have xlo : Hid (∀ za zb zc W, Zs W d → Ints W za zb 0 (lows d f nq) → Calls Try.prog 39 #[d.v, .int .i64 f, .int .i64 n, .slice za nq zc] W fun e w' => e = .returned (.int .i64 tl) ∧ Below W.heap.size W w') := hid (fun za zb zc W hzW hx => by
    rw [htl]; unfold Dk.tkLo; rw [← hq]
    exact c39s d f n (lows d f nq) za zb 0 zc nq (lows_len _ _ _).symm W hzW ok hn hfn hx (by rw [lows_len]; exact hq) (fun i hi _ => by simp only [lows, List.getElem_map]; exact loK_bd ok _))
  have xhi : Hid (∀ za zb zc W, Zs W d → Ints W za zb 0 (highs d f nq) → Calls Try.prog 39 #[d.v, .int .i64 f, .int .i64 n, .slice za nq zc] W fun e w' => e = .returned (.int .i64 th) ∧ Below W.heap.size W w') := hid (fun za zb zc W hzW hx => by
    rw [hth]; unfold Dk.tkHi; rw [← hq]
    exact c39s d f n (highs d f nq) za zb 0 zc nq (highs_len _ _ _).symm W hzW ok hn hfn hx (by rw [highs_len]; exact hq) (fun i hi _ => by simp only [highs, List.getElem_map]; exact hiK_bd ok _))
  obtain ⟨tx, htx⟩ : ∃ x, x = ticksV d f n xs := ⟨_, rfl⟩
  have xin : Hid (xs.length = nq → (∀ i, (hi : i < xs.length) → i < nq → 0 < kindAt d (f + i) → loK d (kindAt d (f + i)) ≤ xs[i] ∧ xs[i] ≤ hiK d (kindAt d (f + i))) → (tl ≤ tx ∧ tx ≤ th) ∧ ∀ W, Zs W d → Ints W za zb zo xs → Calls Try.prog 39 #[d.v, .int .i64 f, .int .i64 n, .slice za xs.length zc] W fun e w' => e = .returned (.int .i64 tx) ∧ Below W.heap.size W w') := hid (fun hl hin => by
    refine ⟨⟨?_, ?_⟩, fun W hzW hxW => ?_⟩
    · rw [htl, htx]; unfold Dk.tkLo; rw [← hq]
      refine ticksV_mono ok.tu1 (fun i hi hp => ?_)
      have h1 := (hin i (by omega) (by omega) hp).1
      rw [List.getD_eq_getElem?_getD, List.getD_eq_getElem?_getD, List.getElem?_eq_getElem (show i < xs.length by omega), List.getElem?_eq_getElem (show i < (lows d f nq).length by rw [lows_len]; omega)]
      simpa [lows] using h1
    · rw [hth, htx]; unfold Dk.tkHi; rw [← hq]
      refine ticksV_mono ok.tu1 (fun i hi hp => ?_)
      have h1 := (hin i (by omega) (by omega) hp).2
      rw [List.getD_eq_getElem?_getD, List.getD_eq_getElem?_getD, List.getElem?_eq_getElem (show i < xs.length by omega), List.getElem?_eq_getElem (show i < (highs d f nq).length by rw [highs_len]; omega)]
      simpa [highs] using h1
    · rw [htx]
      exact c39 d f n xs za zb zo zc W hzW ok hn hfn hxW (by omega) (fun i hi hp => by
        have h1 := hin i hi (by omega) hp
        have h2 := loK_bd ok (kindAt d (f + i))
        have h3 := hiK_bd ok (kindAt d (f + i))
        omega))
  obtain ⟨b0, hb0⟩ : ∃ b : Bool, ((xs.length : Int) == (nq : Int)) = b := ⟨_, rfl⟩
  have hb0h := hid hb0
  clear hf ok hL hB hq hrt htl hth htx
  go_enter Try.func8, Try.ntmps8
  go_wp2_with (first | (go_at_call 34; refine (c34y d _ (by exact hz.below (by (repeat' (first | (with_reducible exact Below.refl _ _) | (with_reducible assumption) | (with_reducible refine Below.alloc ?_ ?_ _) | (with_reducible refine Below.drew ?_) | (with_reducible refine below_drewN ?_ _) | (with_reducible refine Below.setCell ?_ ?_ _) | (with_reducible refine Below.trans ?_ (Below.mono (by with_reducible assumption) ?_)) | go_size))) (Nat.le_refl _)) hh.out okh.out).mono ?_; rintro e w1 ⟨rfl, hB1⟩; obtain ⟨hc1, hf1⟩ := bcell (hB1.mono (show w.heap.size + 2 ≤ _ by first | omega | ((try simp only [World.size_alloc, World.size_drew, World.size_setCell]); omega))); have hz1 : w.heap.size + 2 ≤ w1.heap.size := (by have := hB1.size; (try simp only [World.size_alloc, World.size_drew, World.size_setCell] at this); omega); have hy1 : w.heap.size < w1.heap.size := (by omega); have hx1 : w.heap.size + 1 < w1.heap.size := (by omega)) | (go_at_call 36; refine (c36y d _ _ _ (by exact hz.below (by (repeat' (first | (with_reducible exact Below.refl _ _) | (with_reducible assumption) | (with_reducible refine Below.alloc ?_ ?_ _) | (with_reducible refine Below.drew ?_) | (with_reducible refine below_drewN ?_ _) | (with_reducible refine Below.setCell ?_ ?_ _) | (with_reducible refine Below.trans ?_ (Below.mono (by with_reducible assumption) ?_)) | go_size))) (Nat.le_refl _)) okh.out hr.out).mono ?_; rintro e w2 ⟨rfl, hB2⟩; obtain ⟨hc2, hf2⟩ := bcell (hB2.mono (show w.heap.size + 2 ≤ _ by first | omega | ((try simp only [World.size_alloc, World.size_drew, World.size_setCell]); omega))); have hz2 : w.heap.size + 2 ≤ w2.heap.size := (by have := hB2.size; (try simp only [World.size_alloc, World.size_drew, World.size_setCell] at this); omega); have hy2 : w.heap.size < w2.heap.size := (by omega); have hx2 : w.heap.size + 1 < w2.heap.size := (by omega)) | (go_at_call 28; refine (x28.out _ (by exact hz.below (by (repeat' (first | (with_reducible exact Below.refl _ _) | (with_reducible assumption) | (with_reducible refine Below.alloc ?_ ?_ _) | (with_reducible refine Below.drew ?_) | (with_reducible refine below_drewN ?_ _) | (with_reducible refine Below.setCell ?_ ?_ _) | (with_reducible refine Below.trans ?_ (Below.mono (by with_reducible assumption) ?_)) | go_size))) (Nat.le_refl _))).mono ?_; rintro e w3 ⟨rfl, hB3⟩; obtain ⟨hc3, hf3⟩ := bcell (hB3.mono (show w.heap.size + 2 ≤ _ by first | omega | ((try simp only [World.size_alloc, World.size_drew, World.size_setCell]); omega))); have hz3 : w.heap.size + 2 ≤ w3.heap.size := (by have := hB3.size; (try simp only [World.size_alloc, World.size_drew, World.size_setCell] at this); omega); have hy3 : w.heap.size < w3.heap.size := (by omega); have hx3 : w.heap.size + 1 < w3.heap.size := (by omega)) | (go_at_call 37; refine (c37 d f n _ (by exact hz.below (by (repeat' (first | (with_reducible exact Below.refl _ _) | (with_reducible assumption) | (with_reducible refine Below.alloc ?_ ?_ _) | (with_reducible refine Below.drew ?_) | (with_reducible refine below_drewN ?_ _) | (with_reducible refine Below.setCell ?_ ?_ _) | (with_reducible refine Below.trans ?_ (Below.mono (by with_reducible assumption) ?_)) | go_size))) (Nat.le_refl _)) okh.out hn hfn).mono ?_; intro e w4 hr; rw [← hqh.out] at hr; obtain ⟨ka, kb, kc, rfl, hki, hB4⟩ := hr.ints; clear hr; obtain ⟨hc4, hf4⟩ := bcell (hB4.mono (show w3.heap.size + 1 ≤ _ by first | omega | ((try simp only [World.size_alloc]); omega))); have hy4 : w.heap.size < w4.heap.size := (by have := hB4.size; (try simp only [World.size_alloc] at this); omega); have hx4 : w.heap.size + 1 < w4.heap.size := (by have := hB4.size; (try simp only [World.size_alloc] at this); omega); have hv4' : w3.heap.size < w4.heap.size := (by have := hB4.size; (try simp only [World.size_alloc] at this); omega)))
  have hv2 : w4.heap[w.heap.size]? = some (.cells #[.int .i64 d.hd, .int .i64 d.tu, .slice d.za d.zs.length d.zc, .int .i64 d.hs, .int .i64 d.cs, .int .i64 d.hl, .int .i64 d.hh, .int .i64 d.cl, .int .i64 d.ch] 26 (0, 0)) := by
    rw [hB4.block _ (by simp only [World.size_alloc]; omega), Below.heap_alloc _ _ _ hy3, hB3.block _ hy2, hB2.block _ hy1, hB1.block _ (by simp only [World.size_alloc]; omega), Below.heap_alloc _ _ _ (by simp)]; exact heap_new w _
  have hv3 : w4.heap[w.heap.size + 1]? = some (.cells #[.int .i64 f, .int .i64 n, .slice za xs.length zc] 51 (0, 0)) := by
    rw [hB4.block _ (by simp only [World.size_alloc]; omega), Below.heap_alloc _ _ _ hx3, hB3.block _ hx2, hB2.block _ hx1, hB1.block _ (by simp only [World.size_alloc]; omega)]; have := heap_new (w.alloc (.cells #[.int .i64 d.hd, .int .i64 d.tu, .slice d.za d.zs.length d.zc, .int .i64 d.hs, .int .i64 d.cs, .int .i64 d.hl, .int .i64 d.hh, .int .i64 d.cl, .int .i64 d.ch] 26)) (.cells #[.int .i64 f, .int .i64 n, .slice za xs.length zc] 51); rwa [World.size_alloc] at this
  have hv5 : w4.heap[w3.heap.size]? = some (.cells #[.int .i64 tl, .int .i64 th] 24 (0, 0)) := by
    rw [hB4.block _ (by simp)]; exact heap_new w3 _
  have hbw : Below w.heap.size w w4 := by (repeat' (first | (with_reducible exact Below.refl _ _) | (with_reducible assumption) | (with_reducible refine Below.alloc ?_ ?_ _) | (with_reducible refine Below.drew ?_) | (with_reducible refine below_drewN ?_ _) | (with_reducible refine Below.setCell ?_ ?_ _) | (with_reducible refine Below.trans ?_ (Below.mono (by with_reducible assumption) ?_)) | go_size))
  have hzw : Zs w4 d := hz.below hbw (Nat.le_refl _)
  have hxs := hx.below hbw (Nat.le_refl _)
  have hkl := kinds_len d f nq
  have nx := (Array.getElem?_eq_some_iff.1 hv3).1
  clear hc1 hf1 hc2 hf2 hc3 hf3 hc4 hf4 hB1 hB2 hB3 hB4 hx
  go_loopw [8, 9, 10, 11] (fun va vb vt vi wr => ∃ (k : Nat) (oo pp : Value) (bb : Bool), k ≤ nq ∧ vi = .int .i64 k ∧ oo = va ∧ pp = vb ∧ vt = .bool bb ∧ TwoRows wr w4.heap.size oo pp k (lows d f k) (highs d f k) ∧ Hid (bb = true → xs.length = nq ∧ ∀ i, (hi : i < xs.length) → i < k → 0 < kindAt d (f + i) → loK d (kindAt d (f + i)) ≤ xs[i] ∧ xs[i] ≤ hiK d (kindAt d (f + i))) ∧ Below w4.heap.size w4 wr) (fun _ _ _ vi _ => nq - (intOf vi).toNat)
  case atStart => exact ⟨0, _, _, b0, by omega, rfl, rfl, rfl, rfl, ⟨World.ownsRow_nil _ _ _ _, World.ownsRow_nil _ _ _ _, fun b hb => by cases hb⟩, hid (fun h => ⟨by have := hb0h.out; rw [h] at this; simp only [beq_iff_eq] at this; omega, fun i hi hik => absurd hik (Nat.not_lt_zero _)⟩), Below.refl _ _⟩
  case round =>
    obtain ⟨k, oo, pp, bb, hk, rfl, rfl, rfl, rfl, hTw, hbb, hBr⟩ := hrel
    have hsz := hBr.size
    by_cases hlt : k < nq
    · have hik : k < (kinds d f nq).length := by rw [hkl]; exact hlt
      have i0 := hki.ix (cap := kc) (len := nq) hik hkl.symm
      have hkp4 := hki.c k hik
      have hkb4 := hki.lt k hik
      obtain ⟨KK, hKK⟩ : ∃ K, K = kindAt d (f + k) := ⟨_, rfl⟩
      rw [show (kinds d f nq)[k] = KK by rw [hKK]; simp [kinds], Nat.zero_add] at hkp4
      rw [Nat.zero_add] at i0
      have hkp := (hBr.cell (p := ⟨kb, k, none⟩) hkb4).trans hkp4
      have hkb1 : kb < wr.heap.size := by omega
      have hKb : Hid (KK = 0 ∨ KK = 1 ∨ KK = 2) := hid (by rw [hKK]; exact kindAt_bd _ _)
      have hKp0 : 0 ≤ KK := by have := hKb.out; omega
      have hKe : Hid (kindAt d (f + k) = KK) := hid hKK.symm
      have hkn : Hid (k + 1 ≤ nq) := hid hlt
      have hw3 : IntKind.i64.wrap ((k : Int) + 1) = ((k + 1 : Nat) : Int) := by rw [i64w _ (by omega) (by omega)]; omega
      have hvr := (hBr.block _ hy4).trans hv2
      have hzr := hzw.below hBr (Nat.le_refl _)
      have hk5 : k ≤ 5120 := by omega
      clear hKK hik
      go_wp2
      refine wpIn_wide.1 (wild_region (F := Fence.wide) (n := 0) (C := fun w' => Below wr.heap.size wr w') (R := Turns1 wr.heap.size 24 2 (.cells #[.int .i64 (loK d KK), .int .i64 (hiK d KK)] 24)) (G := fun i us w' => match i with
        | 0 => us 0 = d.v
        | 1 => us 1 = .slice ka nq kc
        | 2 => us 2 = .int .i64 k
        | 3 => us 3 = .pointer (some ⟨kb, k, none⟩)
        | 4 => us 4 = .int .i64 KK
        | 5 => us 5 = .tuple #[.agg #[.int .i64 (loK d KK), .int .i64 (hiK d KK)], .int .i64 (skewK d KK)]
        | 6 => us 6 = .tuple #[.agg #[.int .i64 (loK d KK), .int .i64 (hiK d KK)], .int .i64 (skewK d KK)]
        | 7 => us 7 = .agg #[.int .i64 (loK d KK), .int .i64 (hiK d KK)]
        | 8 => us 8 = .int .i64 (skewK d KK)
        | 9 => ∃ b : Nat, us 9 = .pointer (some ⟨b, 0, none⟩) ∧ wr.heap.size ≤ b ∧ ∃ cs : Array Value, cs.size = 2 ∧ w'.heap[b]? = some (.cells cs 24 (0, 0))
        | 10 => ∃ b : Nat, us 9 = .pointer (some ⟨b, 0, none⟩) ∧ wr.heap.size ≤ b ∧ w'.heap[b]? = some (.cells #[.int .i64 (loK d KK), .int .i64 (hiK d KK)] 24 (0, 0))
        | 11 => us 11 = .int .i64 (skewK d KK)
        | _ => True) (by kernel_rfl) (by kernel_rfl) (by kernel_rfl) ?loc1 (Below.refl _ _).drew ?stab1 ?steps1 ?fin1)
      case loc1 =>
        intro j us i v w' hij hdp hG
        rcases j with _ | _ | _ | _ | _ | _ | _ | _ | _ | _ | _ | _ | j
        all_goals first | trivial | ((try dsimp only at hG ⊢); rw [upd_ne _ _ (Ne.symm hij)]; exact hG) | skip
        by_cases hia : i = 9
        · subst hia; exact absurd hdp (by decide)
        · (try dsimp only at hG ⊢); rw [upd_ne _ _ (Ne.symm hia)]; exact hG
      case stab1 =>
        intro i us A B hAB hG
        rcases i with _ | _ | _ | _ | _ | _ | _ | _ | _ | _ | _ | _ | i <;> try exact hG
        · obtain ⟨b, h1, h2, cs, h3, h4⟩ := hG
          rcases hAB.2 b (Array.getElem?_eq_some_iff.1 h4).1 with h5 | ⟨_, _, h5⟩
          · exact ⟨b, h1, h2, cs, h3, h5.trans h4⟩
          · exact ⟨b, h1, h2, _, rfl, h5⟩
        · obtain ⟨b, h1, h2, h4⟩ := hG
          rcases hAB.2 b (Array.getElem?_eq_some_iff.1 h4).1 with h5 | ⟨_, _, h5⟩
          · exact ⟨b, h1, h2, h5.trans h4⟩
          · exact ⟨b, h1, h2, h5⟩
      case steps1 =>
        dsimp only [StepsW, StepW]
        refine ⟨?_, ?_, ?_, ?_, ?_, ?_, ?_, ?_, ?_, ?_, ?_, ?_, trivial⟩
        all_goals (intro A us W hA hC hG K hK; have hcw0 := fun j => cell_at (j := j) ((hC.block _ (by omega)).trans hvr); have hzw0 := hzr.below hC (Nat.le_refl _); have hCs := hC.size; simp only [AfterW, Region.binds, true_implies, and_true, forall_const] at hG)
        · have h2 : A.tmps[2]?.getD undef = .pointer (some ⟨w.heap.size, 0, none⟩) := slot_none hA rfl rfl
          clear hA
          go_simp
          exact hK _ W hC (.of_below (Below.refl _ _)) (upd_same _ _ _)
        · have h7 : A.tmps[7]?.getD undef = .slice ka nq kc := slot_none hA rfl rfl
          clear hA
          go_simp
          exact hK _ W hC (.of_below (Below.refl _ _)) (upd_same _ _ _)
        · have h11 : A.tmps[11]?.getD undef = .int .i64 k := slot_none hA rfl rfl
          clear hA
          go_simp
          exact hK _ W hC (.of_below (Below.refl _ _)) (upd_same _ _ _)
        · have h65 := slot_some (t := 65) (v := .slice ka nq kc) hA (by kernel_rfl) rfl (by simp) (by first | exact hG | exact hG.1 | exact hG.2 | exact hG.2.1 | exact hG.2.2 | exact hG.2.2.1 | exact hG.2.2.2 | exact hG.2.2.2.1 | exact hG.2.2.2.2 | exact hG.2.2.2.2.1 | exact hG.2.2.2.2.2 | exact hG.2.2.2.2.2.1 | exact hG.2.2.2.2.2.2.1)
          have h66 := slot_some (t := 66) (v := .int .i64 k) hA (by kernel_rfl) rfl (by simp) (by first | exact hG | exact hG.1 | exact hG.2 | exact hG.2.1 | exact hG.2.2 | exact hG.2.2.1 | exact hG.2.2.2 | exact hG.2.2.2.1 | exact hG.2.2.2.2 | exact hG.2.2.2.2.1 | exact hG.2.2.2.2.2 | exact hG.2.2.2.2.2.1 | exact hG.2.2.2.2.2.2.1)
          clear hA
          go_simp
          exact hK _ W hC (.of_below (Below.refl _ _)) (upd_same _ _ _)
        · have h67 := slot_some (t := 67) (v := .pointer (some ⟨kb, k, none⟩)) hA (by kernel_rfl) rfl (by simp) (by first | exact hG | exact hG.1 | exact hG.2 | exact hG.2.1 | exact hG.2.2 | exact hG.2.2.1 | exact hG.2.2.2 | exact hG.2.2.2.1 | exact hG.2.2.2.2 | exact hG.2.2.2.2.1 | exact hG.2.2.2.2.2 | exact hG.2.2.2.2.2.1 | exact hG.2.2.2.2.2.2.1)
          have hkc := (hC.cell (p := ⟨kb, k, none⟩) hkb1).trans hkp
          clear hA
          go_simp
          exact hK _ W hC (.of_below (Below.refl _ _)) (upd_same _ _ _)
        · have h64 := slot_some (t := 64) (v := d.v) hA (by kernel_rfl) rfl (by simp) (by first | exact hG | exact hG.1 | exact hG.2 | exact hG.2.1 | exact hG.2.2 | exact hG.2.2.1 | exact hG.2.2.2 | exact hG.2.2.2.1 | exact hG.2.2.2.2 | exact hG.2.2.2.2.1 | exact hG.2.2.2.2.2 | exact hG.2.2.2.2.2.1 | exact hG.2.2.2.2.2.2.1)
          have h68 := slot_some (t := 68) (v := .int .i64 KK) hA (by kernel_rfl) rfl (by simp) (by first | exact hG | exact hG.1 | exact hG.2 | exact hG.2.1 | exact hG.2.2 | exact hG.2.2.1 | exact hG.2.2.2 | exact hG.2.2.2.1 | exact hG.2.2.2.2 | exact hG.2.2.2.2.1 | exact hG.2.2.2.2.2 | exact hG.2.2.2.2.2.1 | exact hG.2.2.2.2.2.2.1)
          clear hA
          gi_wp2_with (refine ⟨trivial, rfl, ?_⟩; gi_at_call 38; refine (callsIn_wide.2 (c38g d KK hKb.out _)).mono ?_; rintro e w9 ⟨rfl, hB9⟩)
          exact hK _ w9 (hC.trans (hB9.mono hC.size)) (.of_below hB9) (upd_same _ _ _)
        · have h69 := slot_some (t := 69) (v := .tuple #[.agg #[.int .i64 (loK d KK), .int .i64 (hiK d KK)], .int .i64 (skewK d KK)]) hA (by kernel_rfl) rfl (by simp) (by first | exact hG | exact hG.1 | exact hG.2 | exact hG.2.1 | exact hG.2.2 | exact hG.2.2.1 | exact hG.2.2.2 | exact hG.2.2.2.1 | exact hG.2.2.2.2 | exact hG.2.2.2.2.1 | exact hG.2.2.2.2.2 | exact hG.2.2.2.2.2.1 | exact hG.2.2.2.2.2.2.1)
          clear hA
          go_simp
          exact hK _ W hC (.of_below (Below.refl _ _)) (upd_same _ _ _)
        · have h63 := slot_some (t := 63) (v := .tuple #[.agg #[.int .i64 (loK d KK), .int .i64 (hiK d KK)], .int .i64 (skewK d KK)]) hA (by kernel_rfl) rfl (by simp) (by first | exact hG | exact hG.1 | exact hG.2 | exact hG.2.1 | exact hG.2.2 | exact hG.2.2.1 | exact hG.2.2.2 | exact hG.2.2.2.1 | exact hG.2.2.2.2 | exact hG.2.2.2.2.1 | exact hG.2.2.2.2.2 | exact hG.2.2.2.2.2.1 | exact hG.2.2.2.2.2.2.1)
          clear hA
          go_simp
          exact hK _ W hC (.of_below (Below.refl _ _)) (upd_same _ _ _)
        · have h63 := slot_some (t := 63) (v := .tuple #[.agg #[.int .i64 (loK d KK), .int .i64 (hiK d KK)], .int .i64 (skewK d KK)]) hA (by kernel_rfl) rfl (by simp) (by first | exact hG | exact hG.1 | exact hG.2 | exact hG.2.1 | exact hG.2.2 | exact hG.2.2.1 | exact hG.2.2.2 | exact hG.2.2.2.1 | exact hG.2.2.2.2 | exact hG.2.2.2.2.1 | exact hG.2.2.2.2.2 | exact hG.2.2.2.2.2.1 | exact hG.2.2.2.2.2.2.1)
          clear hA
          go_simp
          exact hK _ W hC (.of_below (Below.refl _ _)) (upd_same _ _ _)
        · clear hA
          gi_wp2
          exact hK (.pointer (some ⟨W.heap.size, 0, none⟩)) _ (hC.alloc hC.size _) (.of_below ((Below.refl _ _).alloc (Nat.le_refl _) _)) ⟨W.heap.size, upd_same _ _ _, hC.size, _, rfl, heap_new W _⟩
        · obtain ⟨b, g7, gb, cs, gs, gh⟩ : ∃ b : Nat, us 9 = .pointer (some ⟨b, 0, none⟩) ∧ wr.heap.size ≤ b ∧ ∃ cs : Array Value, cs.size = 2 ∧ W.heap[b]? = some (.cells cs 24 (0, 0)) := (by first | exact hG | exact hG.1 | exact hG.2 | exact hG.2.1 | exact hG.2.2 | exact hG.2.2.1 | exact hG.2.2.2 | exact hG.2.2.2.1 | exact hG.2.2.2.2 | exact hG.2.2.2.2.1 | exact hG.2.2.2.2.2 | exact hG.2.2.2.2.2.1 | exact hG.2.2.2.2.2.2.1)
          have ha := slot_some (t := 12) hA (by kernel_rfl) rfl (by simp) g7
          have h70 := slot_some (t := 70) (v := .agg #[.int .i64 (loK d KK), .int .i64 (hiK d KK)]) hA (by kernel_rfl) rfl (by simp) (by first | exact hG | exact hG.1 | exact hG.2 | exact hG.2.1 | exact hG.2.2 | exact hG.2.2.1 | exact hG.2.2.2 | exact hG.2.2.2.1 | exact hG.2.2.2.2 | exact hG.2.2.2.2.1 | exact hG.2.2.2.2.2 | exact hG.2.2.2.2.2.1 | exact hG.2.2.2.2.2.2.1)
          clear hA hcw0
          obtain ⟨l⟩ := cs
          match l, gs with
          | [v0, v1], _ =>
            have hcb := fun j => cell_at (j := j) gh
            have hfb : ∀ j, W.frozen? ⟨b, j, none⟩ = false := fun j => frozen_at (j := j) gh
            have hbs : b < W.heap.size := (Array.getElem?_eq_some_iff.1 gh).1
            have hp2 := put2 (v0 := .int .i64 (loK d KK)) (v1 := .int .i64 (hiK d KK)) gh
            gi_wp2
            refine hK undef _ ((hC.setCell (by dsimp only; omega) _).setCell (by dsimp only; omega) _) ⟨by simp, fun k hk => ?_⟩ ⟨b, by rw [upd_ne _ _ (by omega)]; exact g7, gb, hp2⟩
            by_cases hkb : k = b
            · subst hkb; exact .inr ⟨gb, ⟨_, rfl, gh⟩, hp2⟩
            · left; rw [Below.heap_setCell _ _ _ _ (by dsimp only; omega), Below.heap_setCell _ _ _ _ (by dsimp only; omega)]
        · have h71 := slot_some (t := 71) (v := .int .i64 (skewK d KK)) hA (by kernel_rfl) rfl (by simp) (by first | exact hG | exact hG.1 | exact hG.2 | exact hG.2.1 | exact hG.2.2 | exact hG.2.2.1 | exact hG.2.2.2 | exact hG.2.2.2.1 | exact hG.2.2.2.2 | exact hG.2.2.2.2.1 | exact hG.2.2.2.2.2 | exact hG.2.2.2.2.2.1 | exact hG.2.2.2.2.2.2.1)
          clear hA
          go_simp
          exact hK _ W hC (.of_below (Below.refl _ _)) (upd_same _ _ _)
      case fin1 =>
        intro us W hC hG
        have hCs := hC.size
        obtain ⟨q9, ga, gb, gh⟩ : ∃ b : Nat, us 9 = .pointer (some ⟨b, 0, none⟩) ∧ wr.heap.size ≤ b ∧ W.heap[b]? = some (.cells #[.int .i64 (loK d KK), .int .i64 (hiK d KK)] 24 (0, 0)) := hG 10 (by decide)
        have g11 : us 11 = .int .i64 (skewK d KK) := hG 11 (by decide)
        simp only [frW, Nat.reduceAdd, Nat.zero_add, ga, g11, Act.put, List.setIfInBounds_toArray, List.set_cons_succ, List.set_cons_zero]
        clear hG ga g11
        have hX1 : Below wr.heap.size wr W := hC
        have hTR := hTw.keep hX1
        have hq := gh
        have hBs : w4.heap.size ≤ W.heap.size := Nat.le_trans hsz hCs
        have hqS : ¬ (oo.ownBlock = some q9 ∨ pp.ownBlock = some q9) := by
          rintro (h | h)
          · have := (hTw.ro.lt _ h).2; omega
          · have := (hTw.rp.lt _ h).2; omega
        have hown1 : ∀ b, (oo.ownBlock = some b ∨ pp.ownBlock = some b) → w4.heap.size ≤ b := by
          rintro b (h | h)
          · exact (hTw.ro.lt _ h).1
          · exact (hTw.rp.lt _ h).1
        have hkb : k ≤ 100000 := by omega
        clear gh hC hTw
        obtain ⟨wq, rfl⟩ : ∃ wq, wq = W := ⟨_, rfl⟩
        go_wp2
        have hoL : ∀ g, (oo).ownBlock = some g → g < wq.heap.size := fun g hg => (hTR.ro.lt g hg).2
        have hpL : ∀ g, (pp).ownBlock = some g → g < wq.heap.size := fun g hg => (hTR.rp.lt g hg).2
        have sepR : ∀ g, (pp).ownBlock = some g → (oo).ownBlock ≠ some g := fun g hg hg' => hTR.sep g hg' hg
        refine wpIn_wide.1 (wildx_region (F := Fence.wide) (n := 0) (pa := 4) (pb := 9) (X := fun us _ => ∀ b b', (us 4).ownBlock = some b → (us 9).ownBlock = some b' → b ≠ b') (C := fun w' => Keep (fun b => (oo).ownBlock = some b ∨ (pp).ownBlock = some b) wq w')
          (R := fun j x y => x.grownBy y (if j = 4 then (oo).ownBlock else if j = 9 then (pp).ownBlock else none)) (H := fun j us w' => (j = 4 → w'.ownsRow w4.heap.size 3 1 (oo) k ((lows d f k).map (Value.int .i64))) ∧ (j = 9 → w'.ownsRow w4.heap.size 3 1 (pp) k ((highs d f k).map (Value.int .i64))) ∧ (j = 0 → us 10 = oo) ∧ (j = 5 → us 11 = pp)) (G := fun i us w' => match i with
          | 0 => us 0 = oo
          | 1 => us 1 = .pointer (some ⟨q9, 0, none⟩)
          | 2 => us 2 = .int .i64 (loK d KK)
          | 3 => BlkG wq w' (loK d KK) (us 3)
          | 4 => AppG wq w' w4.heap.size (oo) k ((lows d f k).map (Value.int .i64) ++ [.int .i64 (loK d KK)]) (us 4)
          | 5 => us 5 = pp
          | 6 => us 6 = .pointer (some ⟨q9, 1, none⟩)
          | 7 => us 7 = .int .i64 (hiK d KK)
          | 8 => BlkG wq w' (hiK d KK) (us 8)
          | 9 => AppG wq w' w4.heap.size (pp) k ((highs d f k).map (Value.int .i64) ++ [.int .i64 (hiK d KK)]) (us 9)
          | 10 => us 10 = us 4
          | 11 => us 11 = us 9
          | _ => True) (by decide) ?hX2 (by decide) (by decide) (by kernel_rfl) (by kernel_rfl) (by kernel_rfl) ?loc2 ⟨rfl, rfl, rfl, Nat.le_refl _, fun _ _ _ => rfl⟩ ?h02 ?gs2 ?hs2 ?hl2 ?steps2 ?fin2)
        case hX2 =>
          intro k us v w w' h1 h2 _ hX
          (try dsimp only)
          rw [upd_ne _ _ (Ne.symm h1), upd_ne _ _ (Ne.symm h2)]
          exact hX
        case loc2 =>
          intro j us i v w' hij hdp hG
          rcases j with _ | _ | _ | _ | _ | _ | _ | _ | _ | _ | _ | _ | j
          all_goals first | trivial | ((try dsimp only at hG ⊢); rw [upd_ne _ _ (Ne.symm hij)]; exact hG) | skip
          · by_cases hia : i = 4
            · subst hia; exact absurd hdp (by decide)
            · (try dsimp only at hG ⊢); rw [upd_ne _ _ (Ne.symm hij), upd_ne _ _ (Ne.symm hia)]; exact hG
          · by_cases hia : i = 9
            · subst hia; exact absurd hdp (by decide)
            · (try dsimp only at hG ⊢); rw [upd_ne _ _ (Ne.symm hij), upd_ne _ _ (Ne.symm hia)]; exact hG
        case h02 =>
          intro us hus j
          refine ⟨fun _ => hTR.ro, fun _ => hTR.rp, fun _ => ?_, fun _ => ?_⟩
          · have h1 := congrArg (fun a : Act => a.tmps[8]?) hus
            dsimp only at h1
            rw [frW_some _ 0 us _ 8 10 (by kernel_rfl) rfl (by simp)] at h1
            simpa using h1
          · have h1 := congrArg (fun a : Act => a.tmps[9]?) hus
            dsimp only at h1
            rw [frW_some _ 0 us _ 9 11 (by kernel_rfl) rfl (by simp)] at h1
            simpa using h1
        case gs2 =>
          intro j i us x y hji hR hG
          have hrl : ∀ g, (if j = 4 then (oo).ownBlock else if j = 9 then (pp).ownBlock else none) = some g → g < wq.heap.size := by
            intro g hg
            split at hg
            · exact hoL g hg
            · split at hg
              · exact hpL g hg
              · cases hg
          rcases i with _ | _ | _ | _ | _ | _ | _ | _ | _ | _ | _ | _ | i <;> try exact hG
          · exact BlkG.kept hG hR hrl
          · refine AppG.kept (p := pp) hG hR ?_ hTR.sep hpL
            rw [if_neg hji]
            split
            · exact .inr rfl
            · exact .inl rfl
          · exact BlkG.kept hG hR hrl
          · refine AppG.kept (p := oo) hG hR ?_ sepR hoL
            split
            · exact .inr rfl
            · first | exact .inl rfl | (rw [if_neg hji]; exact .inl rfl)
        case hs2 =>
          intro j i us x y hji hR hH
          refine ⟨fun hi => ?_, fun hi => ?_, hH.2.2.1, hH.2.2.2⟩
          · refine row_kept (p := pp) (hH.1 hi) hR ?_ hTR.sep
            subst hi
            rw [if_neg hji]
            split
            · exact .inr rfl
            · exact .inl rfl
          · refine row_kept (p := oo) (hH.2.1 hi) hR ?_ sepR
            subst hi
            split
            · exact .inr rfl
            · first | exact .inl rfl | (rw [if_neg hji]; exact .inl rfl)
        case hl2 =>
          intro j i us v x hji hdp hH
          refine ⟨hH.1, hH.2.1, fun hi => ?_, fun hi => ?_⟩
          · subst hi
            rw [upd_ne _ _ (fun e => by subst e; exact absurd hdp (by decide))]
            exact hH.2.2.1 rfl
          · subst hi
            rw [upd_ne _ _ (fun e => by subst e; exact absurd hdp (by decide))]
            exact hH.2.2.2 rfl
        case steps2 =>
          dsimp only [StepsX, StepX]
          refine ⟨?_, ?_, ?_, ?_, ?_, ?_, ?_, ?_, ?_, ?_, ?_, ?_, trivial⟩
          all_goals (intro A us W hA hC hH hG K hK; have hcw0 := fun j => cell_at (j := j) ((hC.block _ (Array.getElem?_eq_some_iff.1 hq).1 hqS).trans hq); have hCs := hC.size; simp only [AfterW, Region.binds, true_implies, and_true, forall_const] at hG)
          · have hs0 := slot_some (t := 8) (v := oo) hA (by kernel_rfl) rfl (by simp) (hH.2.2.1 rfl)
            clear hA
            go_simp
            exact hK _ W hC (grown_of_below (Below.refl _ _)) (upd_same _ _ _) (fun h => absurd h (by decide)) (fun h => absurd h (by decide))
          · have hs0 : A.tmps[12]?.getD undef = .pointer (some ⟨q9, 0, none⟩) := slot_none hA rfl rfl
            clear hA
            go_simp
            exact hK _ W hC (grown_of_below (Below.refl _ _)) (upd_same _ _ _) (fun h => absurd h (by decide)) (fun h => absurd h (by decide))
          · have hs0 := slot_some (t := 73) (v := .pointer (some ⟨q9, 0, none⟩)) hA (by kernel_rfl) rfl (by simp) (by first | exact hG | exact hG.1 | exact hG.2 | exact hG.2.1 | exact hG.2.2 | exact hG.2.2.1 | exact hG.2.2.2 | exact hG.2.2.2.1 | exact hG.2.2.2.2 | exact hG.2.2.2.2.1 | exact hG.2.2.2.2.2 | exact hG.2.2.2.2.2.1 | exact hG.2.2.2.2.2.2.1)
            clear hA
            go_simp
            exact hK _ W hC (grown_of_below (Below.refl _ _)) (upd_same _ _ _) (fun h => absurd h (by decide)) (fun h => absurd h (by decide))
          · have hs0 := slot_some (t := 74) (v := .int .i64 (loK d KK)) hA (by kernel_rfl) rfl (by simp) (by first | exact hG | exact hG.1 | exact hG.2 | exact hG.2.1 | exact hG.2.2 | exact hG.2.2.1 | exact hG.2.2.2 | exact hG.2.2.2.1 | exact hG.2.2.2.2 | exact hG.2.2.2.2.1 | exact hG.2.2.2.2.2 | exact hG.2.2.2.2.2.1 | exact hG.2.2.2.2.2.2.1)
            clear hA
            gi_wp2
            exact hK (.slice (some ⟨W.heap.size, 0, none⟩) 1 1) _ (hC.grown (grown_of_below ((Below.refl _ _).alloc (Nat.le_refl _) _)) (fun b hb => by cases hb)) (grown_of_below ((Below.refl _ _).alloc (Nat.le_refl _) _)) (by show BlkG _ _ _ (upd us 3 _ 3); rw [upd_same]; exact ⟨W.heap.size, rfl, hCs, heap_new W _⟩) (fun h => absurd h (by decide)) (fun h => absurd h (by decide))
          · have g0 : us 0 = oo := (by first | exact hG | exact hG.1 | exact hG.2 | exact hG.2.1 | exact hG.2.2 | exact hG.2.2.1 | exact hG.2.2.2 | exact hG.2.2.2.1 | exact hG.2.2.2.2 | exact hG.2.2.2.2.1 | exact hG.2.2.2.2.2 | exact hG.2.2.2.2.2.1 | exact hG.2.2.2.2.2.2.1)
            obtain ⟨b, hb1, hb2, hb3⟩ : BlkG wq W (loK d KK) (us 3) := (by first | exact hG | exact hG.1 | exact hG.2 | exact hG.2.1 | exact hG.2.2 | exact hG.2.2.1 | exact hG.2.2.2 | exact hG.2.2.2.1 | exact hG.2.2.2.2 | exact hG.2.2.2.2.1 | exact hG.2.2.2.2.2 | exact hG.2.2.2.2.2.1 | exact hG.2.2.2.2.2.2.1)
            have h1 := slot_some (t := 72) hA (by kernel_rfl) rfl (by simp) g0
            have h2 := slot_some (t := 75) hA (by kernel_rfl) rfl (by simp) hb1
            refine wpIn_app 72 75 rfl w4.heap.size (oo) k ((lows d f k).map (Value.int .i64)) h1 (hH.1 rfl) b (loK d KK) h2 hb3 hkb (Nat.le_trans hBs hCs) ?_
            intro g cap w9 hown hgr hat hlt
            exact hK _ w9 (hC.grown hgr (fun b hb => .inl hb)) hgr (by show AppG _ _ _ _ _ _ (upd us 4 _ 4); rw [upd_same]; exact ⟨g, cap, rfl, hown, hat.imp id (fun h => by omega), hlt⟩) (fun _ hGo b b' h1 h2 e => by rw [upd_same] at h1; rw [upd_ne _ _ (by decide)] at h2; exact app_sep (u' := .slice (some ⟨g, 0, none⟩) (k + 1) cap) hGo hCs rfl hat sepR hpL hoL b' b h2 h1 e.symm) (fun h => absurd h (by decide))
          · have hs0 := slot_some (t := 9) (v := pp) hA (by kernel_rfl) rfl (by simp) (hH.2.2.2 rfl)
            clear hA
            go_simp
            exact hK _ W hC (grown_of_below (Below.refl _ _)) (upd_same _ _ _) (fun h => absurd h (by decide)) (fun h => absurd h (by decide))
          · have hs0 : A.tmps[12]?.getD undef = .pointer (some ⟨q9, 0, none⟩) := slot_none hA rfl rfl
            clear hA
            go_simp
            exact hK _ W hC (grown_of_below (Below.refl _ _)) (upd_same _ _ _) (fun h => absurd h (by decide)) (fun h => absurd h (by decide))
          · have hs0 := slot_some (t := 78) (v := .pointer (some ⟨q9, 1, none⟩)) hA (by kernel_rfl) rfl (by simp) (by first | exact hG | exact hG.1 | exact hG.2 | exact hG.2.1 | exact hG.2.2 | exact hG.2.2.1 | exact hG.2.2.2 | exact hG.2.2.2.1 | exact hG.2.2.2.2 | exact hG.2.2.2.2.1 | exact hG.2.2.2.2.2 | exact hG.2.2.2.2.2.1 | exact hG.2.2.2.2.2.2.1)
            clear hA
            go_simp
            exact hK _ W hC (grown_of_below (Below.refl _ _)) (upd_same _ _ _) (fun h => absurd h (by decide)) (fun h => absurd h (by decide))
          · have hs0 := slot_some (t := 79) (v := .int .i64 (hiK d KK)) hA (by kernel_rfl) rfl (by simp) (by first | exact hG | exact hG.1 | exact hG.2 | exact hG.2.1 | exact hG.2.2 | exact hG.2.2.1 | exact hG.2.2.2 | exact hG.2.2.2.1 | exact hG.2.2.2.2 | exact hG.2.2.2.2.1 | exact hG.2.2.2.2.2 | exact hG.2.2.2.2.2.1 | exact hG.2.2.2.2.2.2.1)
            clear hA
            gi_wp2
            exact hK (.slice (some ⟨W.heap.size, 0, none⟩) 1 1) _ (hC.grown (grown_of_below ((Below.refl _ _).alloc (Nat.le_refl _) _)) (fun b hb => by cases hb)) (grown_of_below ((Below.refl _ _).alloc (Nat.le_refl _) _)) (by show BlkG _ _ _ (upd us 8 _ 8); rw [upd_same]; exact ⟨W.heap.size, rfl, hCs, heap_new W _⟩) (fun h => absurd h (by decide)) (fun h => absurd h (by decide))
          · have g0 : us 5 = pp := (by first | exact hG | exact hG.1 | exact hG.2 | exact hG.2.1 | exact hG.2.2 | exact hG.2.2.1 | exact hG.2.2.2 | exact hG.2.2.2.1 | exact hG.2.2.2.2 | exact hG.2.2.2.2.1 | exact hG.2.2.2.2.2 | exact hG.2.2.2.2.2.1 | exact hG.2.2.2.2.2.2.1)
            obtain ⟨b, hb1, hb2, hb3⟩ : BlkG wq W (hiK d KK) (us 8) := (by first | exact hG | exact hG.1 | exact hG.2 | exact hG.2.1 | exact hG.2.2 | exact hG.2.2.1 | exact hG.2.2.2 | exact hG.2.2.2.1 | exact hG.2.2.2.2 | exact hG.2.2.2.2.1 | exact hG.2.2.2.2.2 | exact hG.2.2.2.2.2.1 | exact hG.2.2.2.2.2.2.1)
            have h1 := slot_some (t := 77) hA (by kernel_rfl) rfl (by simp) g0
            have h2 := slot_some (t := 80) hA (by kernel_rfl) rfl (by simp) hb1
            refine wpIn_app 77 80 rfl w4.heap.size (pp) k ((highs d f k).map (Value.int .i64)) h1 (hH.2.1 rfl) b (hiK d KK) h2 hb3 hkb (Nat.le_trans hBs hCs) ?_
            intro g cap w9 hown hgr hat hlt
            exact hK _ w9 (hC.grown hgr (fun b hb => .inr hb)) hgr (by show AppG _ _ _ _ _ _ (upd us 9 _ 9); rw [upd_same]; exact ⟨g, cap, rfl, hown, hat.imp id (fun h => by omega), hlt⟩) (fun h => absurd h (by decide)) (fun _ hGo b b' h1 h2 e => by rw [upd_same] at h2; rw [upd_ne _ _ (by decide)] at h1; exact app_sep (u' := .slice (some ⟨g, 0, none⟩) (k + 1) cap) hGo hCs rfl hat hTR.sep hoL hpL b b' h1 h2 e)
          · have hs0 := slot_some (t := 76) (v := us 4) hA (by kernel_rfl) rfl (by simp) rfl
            clear hA
            go_simp
            exact hK _ W hC (grown_of_below (Below.refl _ _)) (by show upd us 10 _ 10 = upd us 10 _ 4; rw [upd_same, upd_ne _ _ (by decide)]) (fun h => absurd h (by decide)) (fun h => absurd h (by decide))
          · have hs0 := slot_some (t := 81) (v := us 9) hA (by kernel_rfl) rfl (by simp) rfl
            clear hA
            go_simp
            exact hK _ W hC (grown_of_below (Below.refl _ _)) (by show upd us 11 _ 11 = upd us 11 _ 9; rw [upd_same, upd_ne _ _ (by decide)]) (fun h => absurd h (by decide)) (fun h => absurd h (by decide))
        case fin2 =>
          intro us W hC hG hX
          have hCs := hC.size
          have gA : us 10 = us 4 := hG 10 (by decide)
          have gB : us 11 = us 9 := hG 11 (by decide)
          obtain ⟨g8, cap8, e8, own8, at8, lt8⟩ : AppG wq W w4.heap.size (oo) k ((lows d f k).map (Value.int .i64) ++ [.int .i64 (loK d KK)]) (us 4) := hG 4 (by decide)
          obtain ⟨g9, cap9, e9, own9, at9, lt9⟩ : AppG wq W w4.heap.size (pp) k ((highs d f k).map (Value.int .i64) ++ [.int .i64 (hiK d KK)]) (us 9) := hG 9 (by decide)
          rw [e8] at gA
          rw [e9] at gB
          have hTN : TwoRows W w4.heap.size (.slice (some ⟨g8, 0, none⟩) (k + 1) cap8) (.slice (some ⟨g9, 0, none⟩) (k + 1) cap9) (k + 1) (lows d f k ++ [(loK d KK)]) (highs d f k ++ [(hiK d KK)]) := by
            refine ⟨by rw [List.map_append]; exact own8, by rw [List.map_append]; exact own9, fun b hb hb' => ?_⟩
            exact hX b b (by rw [e8]; exact hb) (by rw [e9]; exact hb') rfl
          simp only [frW, Nat.reduceAdd, Nat.zero_add, gA, gB, Act.put, List.setIfInBounds_toArray, List.set_cons_succ, List.set_cons_zero]
          clear hG hX gA gB e8 e9 own8 own9 at8 at9 lt8 lt9
          have hBW : Below w4.heap.size w4 W := (hBr.trans (hX1.mono hsz)).trans (below_keep hC hown1 hBs)
          have hqW := (hC.block _ (Array.getElem?_eq_some_iff.1 hq).1 hqS).trans hq
          have hcq := fun j => cell_at (j := j) hqW
          have hx3 := (hBW.block _ nx).trans hv3
          have hc3 := fun j => cell_at (j := j) hx3
          have hkW : W.cell? ⟨kb, k, none⟩ = some (.int .i64 KK) := (hBW.cell (p := ⟨kb, k, none⟩) hkb4).trans hkp4
          clear hC hq hqS hown1
          cases bb with
          | false =>
            go_wp2
            go_quiet (fail)
            go_wp2
            go_roundw
            case rel => exact ⟨k + 1, _, _, false, hkn.out, by go_num, rfl, rfl, rfl, by rw [lows_succ, highs_succ, hKe.out]; exact hTN.keep (below_drewN (Below.refl _ _) _), hid (fun h => by cases h), below_drewN hBW _⟩
            case measure => simp [intOf]; omega
          | true =>
            obtain ⟨hl, hin⟩ := hbb.out rfl
            have hxk : k < xs.length := by omega
            have i1 := hxs.ix (cap := zc) (len := xs.length) hxk rfl
            have px := (hBW.cell (p := ⟨zb, zo + k, none⟩) (hxs.lt k hxk)).trans (hxs.c k hxk)
            obtain ⟨x, hxv⟩ : ∃ x, x = xs[k] := ⟨_, rfl⟩
            rw [← hxv] at px
            by_cases hK0 : KK = 0
            · have t1 : (KK == 0) = true := by simpa using hK0
              have hnew : Hid (true = true → xs.length = nq ∧ ∀ i, (hi : i < xs.length) → i < k + 1 → 0 < kindAt d (f + i) → loK d (kindAt d (f + i)) ≤ xs[i] ∧ xs[i] ≤ hiK d (kindAt d (f + i))) := hid (fun _ => ⟨hl, fun i hi hik hp => by
                by_cases hik2 : i = k
                · subst hik2; rw [hKe.out] at hp; omega
                · exact hin i hi (by omega) hp⟩)
              clear hin hxv hK0 hl
              go_wp2
              go_quiet (fail)
              go_wp2
              go_roundw
              case rel => exact ⟨k + 1, _, _, true, hkn.out, by go_num, rfl, rfl, rfl, by rw [lows_succ, highs_succ, hKe.out]; exact hTN.keep (below_drewN (Below.refl _ _) _), hid (fun _ => hnew.out (by first | trivial | rfl)), below_drewN hBW _⟩
              case measure => simp [intOf]; omega
            · have t1 : (KK == 0) = false := by simpa using hK0
              by_cases hlo : loK d KK ≤ x
              · by_cases hhi : x ≤ hiK d KK
                · have hnew : Hid (true = true → xs.length = nq ∧ ∀ i, (hi : i < xs.length) → i < k + 1 → 0 < kindAt d (f + i) → loK d (kindAt d (f + i)) ≤ xs[i] ∧ xs[i] ≤ hiK d (kindAt d (f + i))) := hid (fun _ => ⟨hl, fun i hi hik hp => by
                    by_cases hik2 : i = k
                    · subst hik2; rw [hKe.out, ← hxv]; exact ⟨hlo, hhi⟩
                    · exact hin i hi (by omega) hp⟩)
                  clear hin hxv hK0 hl
                  go_wp2
                  go_quiet (fail)
                  go_wp2
                  go_roundw
                  case rel => exact ⟨k + 1, _, _, true, hkn.out, by go_num, rfl, rfl, rfl, by rw [lows_succ, highs_succ, hKe.out]; exact hTN.keep (below_drewN (Below.refl _ _) _), hid (fun _ => hnew.out (by first | trivial | rfl)), below_drewN hBW _⟩
                  case measure => simp [intOf]; omega
                · have t3 : decide (x ≤ hiK d KK) = false := by simpa using hhi
                  clear hin hxv hK0 hl
                  go_wp2
                  go_quiet (fail)
                  go_wp2
                  go_roundw
                  case rel => exact ⟨k + 1, _, _, false, hkn.out, by go_num, rfl, rfl, rfl, by rw [lows_succ, highs_succ, hKe.out]; exact hTN.keep (below_drewN (Below.refl _ _) _), hid (fun h => by cases h), below_drewN hBW _⟩
                  case measure => simp [intOf]; omega
              · have t2 : decide (loK d KK ≤ x) = false := by simpa using hlo
                clear hin hxv hK0 hl
                go_wp2
                go_quiet (fail)
                go_wp2
                go_roundw
                case rel => exact ⟨k + 1, _, _, false, hkn.out, by go_num, rfl, rfl, rfl, by rw [lows_succ, highs_succ, hKe.out]; exact hTN.keep (below_drewN (Below.refl _ _) _), hid (fun h => by cases h), below_drewN hBW _⟩
                case measure => simp [intOf]; omega
    · obtain rfl : k = nq := by omega
      obtain ⟨wo, rfl⟩ : ∃ wo, wo = wr := ⟨_, rfl⟩
      obtain ⟨oa, ob, oc, rfl, _, hol⟩ := Ints.of_owns hTw.ro (lows_len _ _ _).symm
      obtain ⟨pa, pb, pc, rfl, _, hpl⟩ := Ints.of_owns hTw.rp (highs_len _ _ _).symm
      have hvr := (hBr.block _ hy4).trans hv2
      have hv3r := (hBr.block _ hx4).trans hv3
      have hv5r := (hBr.block _ hv4').trans hv5
      have hzr := hzw.below hBr (Nat.le_refl _)
      have hxr := hxs.below hBr (Nat.le_refl _)
      have hbr : Below w.heap.size w wo := hbw.trans (hBr.mono hbw.size)
      have hbrs := hbr.size
      have k1 := cells_regrown hvr
      have k2 := cells_regrown hv3r
      have k3 := cells_regrown hv5r
      clear hTw hki
      go_wp2
      refine wp_region_quiet_below (by kernel_rfl) (by kernel_rfl) ?_; (repeat (refine wpQuiet_step (fun K hK => ?_); go_simp; first | (refine hK _ ?_; clear hK K) | (apply Exists.intro; refine ⟨fun _ => ?_, hK _ ?_⟩; (first | (go_at_call_of 39 oa; exact Calls.regrown_of (xlo.out oa ob oc _ (hzr.below (below_regrown _ _ _) (Nat.le_refl _)) (hol.below (below_regrown _ _ _) (Nat.le_refl _)))) | (go_at_call_of 39 pa; exact Calls.regrown_of (xhi.out pa pb pc _ (hzr.below (below_regrown _ _ _) (Nat.le_refl _)) (hpl.below (below_regrown _ _ _) (Nat.le_refl _))))); clear hK K))); refine wpQuiet_nil ?_; intro _ hw; obtain ⟨q, hwq⟩ := hw; subst hwq
      have hB5 := below_regrown wo q.d q.os
      generalize grow (redrawn wo q.d) q.os = w5 at hB5 ⊢
      have hd5 := (hB5.block _ (Array.getElem?_eq_some_iff.1 hvr).1).trans hvr
      have hx5 := (hB5.block _ (Array.getElem?_eq_some_iff.1 hv3r).1).trans hv3r
      have hs5 := (hB5.block _ (Array.getElem?_eq_some_iff.1 hv5r).1).trans hv5r
      have n2 := (Array.getElem?_eq_some_iff.1 hd5).1
      have n3 := (Array.getElem?_eq_some_iff.1 hx5).1
      have n5 := (Array.getElem?_eq_some_iff.1 hs5).1
      have hz5 := hzr.below hB5 (Nat.le_refl _)
      have hxs5 := hxr.below hB5 (Nat.le_refl _)
      have hb5 : Below w.heap.size w w5 := hbr.trans (hB5.mono hbr.size)
      have hb5s := hb5.size
      have hc2 := fun j => cell_at (j := j) hd5
      have hc3 := fun j => cell_at (j := j) hx5
      have hc5 := fun j => cell_at (j := j) hs5
      clear k1 k2 k3 hvr hv3r hv5r hol hpl hd5 hx5 hs5
      cases bb with
      | false =>
        go_wp2_with (go_at_call 14; refine (c14 _).mono ?_; rintro e w8 ⟨rfl, hB8⟩)
        go_returns
        exact ⟨rfl, by (repeat' (first | (with_reducible exact Below.refl _ _) | (with_reducible assumption) | (with_reducible refine Below.alloc ?_ ?_ _) | (with_reducible refine Below.drew ?_) | (with_reducible refine below_drewN ?_ _) | (with_reducible refine Below.setCell ?_ ?_ _) | (with_reducible refine Below.trans ?_ (Below.mono (by with_reducible assumption) ?_)) | go_size))⟩
      | true =>
        obtain ⟨hl, hin⟩ := hbb.out rfl
        obtain ⟨⟨y1, y2⟩, h39⟩ := xin.out hl hin
        have h39h := hid h39
        clear hin h39 hbb
        have t1 : decide (tl ≤ tx) = true := by simpa using y1
        have t2 : decide (tx ≤ th) = true := by simpa using y2
        clear y1 y2 hl
        go_wp2_with (first | (go_at_call 39; refine (h39h.out _ (by first | exact hz5 | exact hz5.below (by (repeat' (first | (with_reducible exact Below.refl _ _) | (with_reducible assumption) | (with_reducible refine Below.alloc ?_ ?_ _) | (with_reducible refine Below.drew ?_) | (with_reducible refine below_drewN ?_ _) | (with_reducible refine Below.setCell ?_ ?_ _) | (with_reducible refine Below.trans ?_ (Below.mono (by with_reducible assumption) ?_)) | go_size))) (Nat.le_refl _)) (by first | exact hxs5 | exact hxs5.below (by (repeat' (first | (with_reducible exact Below.refl _ _) | (with_reducible assumption) | (with_reducible refine Below.alloc ?_ ?_ _) | (with_reducible refine Below.drew ?_) | (with_reducible refine below_drewN ?_ _) | (with_reducible refine Below.setCell ?_ ?_ _) | (with_reducible refine Below.trans ?_ (Below.mono (by with_reducible assumption) ?_)) | go_size))) (Nat.le_refl _))).mono ?_; rintro e w6 ⟨rfl, hB6⟩; obtain ⟨hc6, hf6⟩ := bcell (hB6.mono (show w5.heap.size ≤ _ by omega)); have hb6s : w.heap.size ≤ w6.heap.size := (by have := hB6.size; omega)) | (go_at_call 14; refine (c14 _).mono ?_; rintro e w8 ⟨rfl, hB8⟩))
        go_returns
        exact ⟨rfl, by (repeat' (first | (with_reducible exact Below.refl _ _) | (with_reducible assumption) | (with_reducible refine Below.alloc ?_ ?_ _) | (with_reducible refine Below.drew ?_) | (with_reducible refine below_drewN ?_ _) | (with_reducible refine Below.setCell ?_ ?_ _) | (with_reducible refine Below.trans ?_ (Below.mono (by with_reducible assumption) ?_)) | go_size))⟩

theorem c8 (d : Dk) (xf xn : Int) (xs : List Int) (za : Option Addr) (zb zo zc : Nat) (w : World) (hz : Zs w d) (hx : Ints w za zb zo xs) : Calls Try.prog 8 #[d.v, .agg #[.int .i64 xf, .int .i64 xn, .slice za xs.length zc]] w fun e w' => e = .returned (.bool true) ∧ Below w.heap.size w w' := by
  by_cases h1 : ¬ d.far ∧ d.Ok
  · obtain ⟨hf, ok⟩ := h1
    by_cases h2 : 0 ≤ xf ∧ xf < d.count ∧ 1 ≤ xn ∧ xn ≤ d.count - xf
    · by_cases h3 : xs.length ≤ 300
      · have hL := ok.lenPl
        unfold lenPlaces at hL
        obtain ⟨f, rfl⟩ : ∃ k : Nat, xf = k := ⟨xf.toNat, by omega⟩
        obtain ⟨n, rfl⟩ : ∃ k : Nat, xn = k := ⟨xn.toNat, by omega⟩
        exact c8_yes d f n xs za zb zo zc w hz hx hf ok (by omega) (by omega) h3
      · exact c8_long d xf xn xs za zb zo zc w hz hf ok h2 (by omega)
    · exact c8_norun d xf xn xs za zb zo zc w hz hf ok h2
  · exact c8_no d xf xn xs za zb zo zc w hz h1
end Go.Proofs.Ythkbiplmfbcabaa
