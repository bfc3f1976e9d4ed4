/- Stage 1: the law ZonesStands, walked. -/
import Derived.Test.YthkbiplmfbcabaaX2
import Derived.Test.YthkbiplmfbcabaaB3
import Derived.Test.YthkbiplmfbcabaaA3
import Derived.Test.YthkbiplmfbcabaaD3
set_option linter.unusedSimpArgs false
set_option linter.unusedVariables false
namespace Go.Proofs.Ythkbiplmfbcabaa
open Go.RowKit Go.Sort

set_option maxRecDepth 100000 in
set_option maxHeartbeats 1000000 in
theorem c12_no (d : Dk) (n tm : Int) (w : World) (hz : Zs w d) (h : ¬ (¬ d.far ∧ d.Ok)) :
    Calls Try.prog 12 #[d.v, .int .i64 n, .int .i64 tm] w fun e w' => e = .returned (.bool true) ∧ Below w.heap.size w w' := by
  have hh := hid h
  clear h
  go_enter Try.func12, Try.ntmps12
  go_wp2_with (first | (go_at_call 34; refine (c34n d _ (by exact hz.below (by (repeat' (first | (with_reducible exact Below.refl _ _) | (with_reducible assumption) | (with_reducible refine Below.alloc ?_ ?_ _) | (with_reducible refine Below.drew ?_) | (with_reducible refine below_drewN ?_ _) | (with_reducible refine Below.setCell ?_ ?_ _) | (with_reducible refine Below.trans ?_ (Below.mono (by with_reducible assumption) ?_)) | go_size))) (Nat.le_refl _)) hh.out).mono ?_; rintro e w1 ⟨rfl, hB1⟩; obtain ⟨hc1, hf1⟩ := bcell (hB1.mono (show w.heap.size + 1 ≤ _ by first | omega | ((try simp only [World.size_alloc, World.size_drew, World.size_setCell]); omega))); have hz1 : w.heap.size + 1 ≤ w1.heap.size := (by have := hB1.size; (try simp only [World.size_alloc, World.size_drew, World.size_setCell] at this); omega)) | (go_at_call 14; refine (c14 _).mono ?_; rintro e w2 ⟨rfl, hB2⟩; obtain ⟨hc2, hf2⟩ := bcell (hB2.mono (show w.heap.size + 1 ≤ _ by first | omega | ((try simp only [World.size_alloc, World.size_drew, World.size_setCell]); omega))); have hz2 : w.heap.size + 1 ≤ w2.heap.size := (by have := hB2.size; (try simp only [World.size_alloc, World.size_drew, World.size_setCell] at this); omega)))
  go_returns
  exact ⟨rfl, by (repeat' (first | (with_reducible exact Below.refl _ _) | (with_reducible assumption) | (with_reducible refine Below.alloc ?_ ?_ _) | (with_reducible refine Below.drew ?_) | (with_reducible refine below_drewN ?_ _) | (with_reducible refine Below.setCell ?_ ?_ _) | (with_reducible refine Below.trans ?_ (Below.mono (by with_reducible assumption) ?_)) | go_size))⟩
set_option maxRecDepth 100000 in
set_option maxHeartbeats 1000000 in
theorem c12_out (d : Dk) (n tm : Int) (w : World) (hz : Zs w d) (hf : ¬ d.far) (ok : d.Ok) (h : ¬ ((0 ≤ n ∧ n < d.count) ∧ 0 ≤ tm ∧ tm ≤ 1000000)) :
    Calls Try.prog 12 #[d.v, .int .i64 n, .int .i64 tm] w fun e w' => e = .returned (.bool true) ∧ Below w.heap.size w w' := by
  have hh := hid hf
  have okh := hid ok
  clear hf ok
  by_cases h1 : 0 ≤ n ∧ n < d.count
  · have hh1 := hid h1
    rcases (show tm < 0 ∨ 1000000 < tm by omega) with h2 | h2
    all_goals
      clear h h1
      go_enter Try.func12, Try.ntmps12
      go_wp2_with (first | (go_at_call 34; refine (c34y d _ (by exact hz.below (by (repeat' (first | (with_reducible exact Below.refl _ _) | (with_reducible assumption) | (with_reducible refine Below.alloc ?_ ?_ _) | (with_reducible refine Below.drew ?_) | (with_reducible refine below_drewN ?_ _) | (with_reducible refine Below.setCell ?_ ?_ _) | (with_reducible refine Below.trans ?_ (Below.mono (by with_reducible assumption) ?_)) | go_size))) (Nat.le_refl _)) hh.out okh.out).mono ?_; rintro e w1 ⟨rfl, hB1⟩; obtain ⟨hc1, hf1⟩ := bcell (hB1.mono (show w.heap.size + 1 ≤ _ by first | omega | ((try simp only [World.size_alloc, World.size_drew, World.size_setCell]); omega))); have hz1 : w.heap.size + 1 ≤ w1.heap.size := (by have := hB1.size; (try simp only [World.size_alloc, World.size_drew, World.size_setCell] at this); omega); have hy1 : w.heap.size < w1.heap.size := (by omega)) | (go_at_call 35; refine (c35y d n _ (by exact hz.below (by (repeat' (first | (with_reducible exact Below.refl _ _) | (with_reducible assumption) | (with_reducible refine Below.alloc ?_ ?_ _) | (with_reducible refine Below.drew ?_) | (with_reducible refine below_drewN ?_ _) | (with_reducible refine Below.setCell ?_ ?_ _) | (with_reducible refine Below.trans ?_ (Below.mono (by with_reducible assumption) ?_)) | go_size))) (Nat.le_refl _)) okh.out hh1.out).mono ?_; rintro e w2 ⟨rfl, hB2⟩; obtain ⟨hc2, hf2⟩ := bcell (hB2.mono (show w.heap.size + 1 ≤ _ by first | omega | ((try simp only [World.size_alloc, World.size_drew, World.size_setCell]); omega))); have hz2 : w.heap.size + 1 ≤ w2.heap.size := (by have := hB2.size; (try simp only [World.size_alloc, World.size_drew, World.size_setCell] at this); omega); have hy2 : w.heap.size < w2.heap.size := (by omega)) | (go_at_call 14; refine (c14 _).mono ?_; rintro e w4 ⟨rfl, hB4⟩; obtain ⟨hc4, hf4⟩ := bcell (hB4.mono (show w.heap.size + 1 ≤ _ by first | omega | ((try simp only [World.size_alloc, World.size_drew, World.size_setCell]); omega))); have hz4 : w.heap.size + 1 ≤ w4.heap.size := (by have := hB4.size; (try simp only [World.size_alloc, World.size_drew, World.size_setCell] at this); omega)))
      go_returns
      exact ⟨rfl, by (repeat' (first | (with_reducible exact Below.refl _ _) | (with_reducible assumption) | (with_reducible refine Below.alloc ?_ ?_ _) | (with_reducible refine Below.drew ?_) | (with_reducible refine below_drewN ?_ _) | (with_reducible refine Below.setCell ?_ ?_ _) | (with_reducible refine Below.trans ?_ (Below.mono (by with_reducible assumption) ?_)) | go_size))⟩
  · have hh1 := hid h1
    clear h h1
    go_enter Try.func12, Try.ntmps12
    go_wp2_with (first | (go_at_call 34; refine (c34y d _ (by exact hz.below (by (repeat' (first | (with_reducible exact Below.refl _ _) | (with_reducible assumption) | (with_reducible refine Below.alloc ?_ ?_ _) | (with_reducible refine Below.drew ?_) | (with_reducible refine below_drewN ?_ _) | (with_reducible refine Below.setCell ?_ ?_ _) | (with_reducible refine Below.trans ?_ (Below.mono (by with_reducible assumption) ?_)) | go_size))) (Nat.le_refl _)) hh.out okh.out).mono ?_; rintro e w1 ⟨rfl, hB1⟩; obtain ⟨hc1, hf1⟩ := bcell (hB1.mono (show w.heap.size + 1 ≤ _ by first | omega | ((try simp only [World.size_alloc, World.size_drew, World.size_setCell]); omega))); have hz1 : w.heap.size + 1 ≤ w1.heap.size := (by have := hB1.size; (try simp only [World.size_alloc, World.size_drew, World.size_setCell] at this); omega); have hy1 : w.heap.size < w1.heap.size := (by omega)) | (go_at_call 35; refine (c35n d n _ (by exact hz.below (by (repeat' (first | (with_reducible exact Below.refl _ _) | (with_reducible assumption) | (with_reducible refine Below.alloc ?_ ?_ _) | (with_reducible refine Below.drew ?_) | (with_reducible refine below_drewN ?_ _) | (with_reducible refine Below.setCell ?_ ?_ _) | (with_reducible refine Below.trans ?_ (Below.mono (by with_reducible assumption) ?_)) | go_size))) (Nat.le_refl _)) okh.out hh1.out).mono ?_; rintro e w2 ⟨rfl, hB2⟩; obtain ⟨hc2, hf2⟩ := bcell (hB2.mono (show w.heap.size + 1 ≤ _ by first | omega | ((try simp only [World.size_alloc, World.size_drew, World.size_setCell]); omega))); have hz2 : w.heap.size + 1 ≤ w2.heap.size := (by have := hB2.size; (try simp only [World.size_alloc, World.size_drew, World.size_setCell] at this); omega); have hy2 : w.heap.size < w2.heap.size := (by omega)) | (go_at_call 14; refine (c14 _).mono ?_; rintro e w4 ⟨rfl, hB4⟩; obtain ⟨hc4, hf4⟩ := bcell (hB4.mono (show w.heap.size + 1 ≤ _ by first | omega | ((try simp only [World.size_alloc, World.size_drew, World.size_setCell]); omega))); have hz4 : w.heap.size + 1 ≤ w4.heap.size := (by have := hB4.size; (try simp only [World.size_alloc, World.size_drew, World.size_setCell] at this); omega)))
    go_returns
    exact ⟨rfl, by (repeat' (first | (with_reducible exact Below.refl _ _) | (with_reducible assumption) | (with_reducible refine Below.alloc ?_ ?_ _) | (with_reducible refine Below.drew ?_) | (with_reducible refine below_drewN ?_ _) | (with_reducible refine Below.setCell ?_ ?_ _) | (with_reducible refine Below.trans ?_ (Below.mono (by with_reducible assumption) ?_)) | go_size))⟩
theorem KdRet.pos {d : Dk} {f k : Nat} {w w' : World} {e : Ending} (h : KdRet d f k w e w') (hk : 0 < k) :
    ∃ g cap, e = .returned (.slice (some ⟨g, 0, none⟩) k cap) ∧ w.heap.size ≤ g ∧ g < w'.heap.size ∧ (∀ i, i < k → w'.cell? ⟨g, i, none⟩ = some (.int .i64 (kindAt d (f + i)))) ∧ Below w.heap.size w w' := by
  obtain ⟨v, rfl, hown, hB⟩ := h
  have h2 := hown
  obtain ⟨_, h1⟩ := hown
  rcases h1 with ⟨_, h1⟩ | ⟨g, cap, cur, rfl, h4, _⟩
  · omega
  · have hlt := (h2.lt g rfl).2
    refine ⟨g, cap, rfl, h4, hlt, fun i hi => ?_, hB⟩
    have := h2.cellAt i (by simp [kinds_len]; omega)
    rw [this]
    simp [kinds, hi]

theorem s24 (d : Dk) (ok : d.Ok) (j : Nat) (hj : j < (places d).length) (x tk : Int) (hx : x = begAt d (plN d j)) (ht : tk = d.tu / secOf d.zs (plN d j).1) (w : World) (hz : Zs w d) :
    Calls Try.prog 24 #[d.v, .int .i64 j] w fun e w' => e = .returned (.tuple #[.int .i64 x, .int .i64 tk, .int .i64 0]) ∧ Below w.heap.size w w' := by
  have := c24_ok d j w hz ok hj
  rw [plN_get hj] at this
  rwa [hx, ht]
theorem s26 (d : Dk) (ok : d.Ok) (j : Nat) (hj : j < (places d).length) (tm wa : Int) (t0 : 0 ≤ tm) (t1 : tm ≤ 1000000) (hx : wa = (begAt d (plN d j) - tm) % d.tu) (w : World) (hz : Zs w d) :
    Calls Try.prog 26 #[d.v, .int .i64 j, .int .i64 tm] w fun e w' => e = .returned (.tuple #[.int .i64 wa, .int .i64 0]) ∧ Below w.heap.size w w' := by
  have := c26_ok d j w hz ok hj tm t0 t1
  rw [plN_get hj] at this
  rwa [hx]
theorem ticks_bd {d : Dk} (ok : d.Ok) {j : Nat} (hj : j < (places d).length) : 1 ≤ d.tu / secOf d.zs (plN d j).1 ∧ d.tu / secOf d.zs (plN d j).1 ≤ d.tu := by
  obtain ⟨m1, m2, m3, m4, m5, m6⟩ := mem_places (plN_mem (d := d) (i := j) hj)
  obtain ⟨s1, s2, s3⟩ := ok.sec m1 m2
  have hst := sec_ticks ok m1 m2
  have tu1 := ok.tu1
  refine ⟨?_, Int.ediv_le_self _ (by omega)⟩
  rcases Int.lt_or_le 0 (d.tu / secOf d.zs (plN d j).1) with h | h
  · omega
  · have : 0 ≤ d.tu / secOf d.zs (plN d j).1 := Int.ediv_nonneg (by omega) (by omega)
    have h0 : d.tu / secOf d.zs (plN d j).1 = 0 := by omega
    rw [h0] at hst
    simp at hst
    omega

set_option maxRecDepth 100000 in
set_option maxHeartbeats 1000000 in
theorem c12_zero (d : Dk) (tm : Int) (w : World) (hz : Zs w d) (hf : ¬ d.far) (ok : d.Ok) (hn : 0 < (places d).length) (t0 : 0 ≤ tm) (t1 : tm ≤ 1000000) :
    Calls Try.prog 12 #[d.v, .int .i64 (0 : Nat), .int .i64 tm] w fun e w' => e = .returned (.bool true) ∧ Below w.heap.size w w' := by
  have hh := hid hf
  have okh := hid ok
  have hcnt := ok.lenPl
  unfold lenPlaces at hcnt
  have tu1 := ok.tu1
  have tu2 := ok.tu2
  obtain ⟨b1, b2⟩ := begAt_bd ok (plN d 0)
  obtain ⟨k1, k2⟩ := ticks_bd ok hn
  have hh1 := hid (show 0 ≤ ((0 : Nat) : Int) ∧ ((0 : Nat) : Int) < d.count by omega)
  obtain ⟨x, hx⟩ : ∃ x, x = begAt d (plN d 0) := ⟨_, rfl⟩
  obtain ⟨tk, htk⟩ : ∃ x, x = d.tu / secOf d.zs (plN d 0).1 := ⟨_, rfl⟩
  obtain ⟨wa, hwa⟩ : ∃ x, x = (begAt d (plN d 0) - tm) % d.tu := ⟨_, rfl⟩
  have x24 := hid (s24 d ok 0 hn x tk hx htk)
  have x26 := hid (s26 d ok 0 hn tm wa t0 t1 hwa)
  have w0 : 0 ≤ wa := by rw [hwa]; exact Int.emod_nonneg _ (by omega)
  have w1' : wa < d.tu := by rw [hwa]; exact Int.emod_lt_of_pos _ (by omega)
  have hstand : (tm + wa) % d.tu = x := by
    rw [hwa, hx, Int.add_emod_emod, show tm + (begAt d (plN d 0) - tm) = begAt d (plN d 0) by omega]
    exact Int.emod_eq_of_lt b1 b2
  rw [← hx] at b1 b2
  rw [← htk] at k1 k2
  have hb1 : ((tm + wa) % d.tu != x) = false := by simpa using hstand
  clear hf ok hcnt hx htk hwa hstand
  go_enter Try.func12, Try.ntmps12
  go_wp2_with (first | (go_at_call 34; refine (c34y d _ (by exact hz.below (by (repeat' (first | (with_reducible exact Below.refl _ _) | (with_reducible assumption) | (with_reducible refine Below.alloc ?_ ?_ _) | (with_reducible refine Below.drew ?_) | (with_reducible refine below_drewN ?_ _) | (with_reducible refine Below.setCell ?_ ?_ _) | (with_reducible refine Below.trans ?_ (Below.mono (by with_reducible assumption) ?_)) | go_size))) (Nat.le_refl _)) hh.out okh.out).mono ?_; rintro e w1 ⟨rfl, hB1⟩; obtain ⟨hc1, hf1⟩ := bcell (hB1.mono (show w.heap.size + 1 ≤ _ by first | omega | ((try simp only [World.size_alloc, World.size_drew, World.size_setCell]); omega))); have hz1 : w.heap.size + 1 ≤ w1.heap.size := (by have := hB1.size; (try simp only [World.size_alloc, World.size_drew, World.size_setCell] at this); omega); have hy1 : w.heap.size < w1.heap.size := (by omega)) | (go_at_call 35; refine (c35y d (0 : Nat) _ (by exact hz.below (by (repeat' (first | (with_reducible exact Below.refl _ _) | (with_reducible assumption) | (with_reducible refine Below.alloc ?_ ?_ _) | (with_reducible refine Below.drew ?_) | (with_reducible refine below_drewN ?_ _) | (with_reducible refine Below.setCell ?_ ?_ _) | (with_reducible refine Below.trans ?_ (Below.mono (by with_reducible assumption) ?_)) | go_size))) (Nat.le_refl _)) okh.out hh1.out).mono ?_; rintro e w2 ⟨rfl, hB2⟩; obtain ⟨hc2, hf2⟩ := bcell (hB2.mono (show w.heap.size + 1 ≤ _ by first | omega | ((try simp only [World.size_alloc, World.size_drew, World.size_setCell]); omega))); have hz2 : w.heap.size + 1 ≤ w2.heap.size := (by have := hB2.size; (try simp only [World.size_alloc, World.size_drew, World.size_setCell] at this); omega); have hy2 : w.heap.size < w2.heap.size := (by omega)) | (go_at_call 26; refine (x26.out _ (by exact hz.below (by (repeat' (first | (with_reducible exact Below.refl _ _) | (with_reducible assumption) | (with_reducible refine Below.alloc ?_ ?_ _) | (with_reducible refine Below.drew ?_) | (with_reducible refine below_drewN ?_ _) | (with_reducible refine Below.setCell ?_ ?_ _) | (with_reducible refine Below.trans ?_ (Below.mono (by with_reducible assumption) ?_)) | go_size))) (Nat.le_refl _))).mono ?_; rintro e w3 ⟨rfl, hB3⟩; obtain ⟨hc3, hf3⟩ := bcell (hB3.mono (show w.heap.size + 1 ≤ _ by first | omega | ((try simp only [World.size_alloc, World.size_drew, World.size_setCell]); omega))); have hz3 : w.heap.size + 1 ≤ w3.heap.size := (by have := hB3.size; (try simp only [World.size_alloc, World.size_drew, World.size_setCell] at this); omega); have hy3 : w.heap.size < w3.heap.size := (by omega)) | (go_at_call 24; refine (x24.out _ (by exact hz.below (by (repeat' (first | (with_reducible exact Below.refl _ _) | (with_reducible assumption) | (with_reducible refine Below.alloc ?_ ?_ _) | (with_reducible refine Below.drew ?_) | (with_reducible refine below_drewN ?_ _) | (with_reducible refine Below.setCell ?_ ?_ _) | (with_reducible refine Below.trans ?_ (Below.mono (by with_reducible assumption) ?_)) | go_size))) (Nat.le_refl _))).mono ?_; rintro e w4 ⟨rfl, hB4⟩; obtain ⟨hc4, hf4⟩ := bcell (hB4.mono (show w.heap.size + 1 ≤ _ by first | omega | ((try simp only [World.size_alloc, World.size_drew, World.size_setCell]); omega))); have hz4 : w.heap.size + 1 ≤ w4.heap.size := (by have := hB4.size; (try simp only [World.size_alloc, World.size_drew, World.size_setCell] at this); omega); have hy4 : w.heap.size < w4.heap.size := (by omega)) | (go_at_call 14; refine (c14 _).mono ?_; rintro e w8 ⟨rfl, hB8⟩))
  go_returns
  exact ⟨rfl, by (repeat' (first | (with_reducible exact Below.refl _ _) | (with_reducible assumption) | (with_reducible refine Below.alloc ?_ ?_ _) | (with_reducible refine Below.drew ?_) | (with_reducible refine below_drewN ?_ _) | (with_reducible refine Below.setCell ?_ ?_ _) | (with_reducible refine Below.trans ?_ (Below.mono (by with_reducible assumption) ?_)) | go_size))⟩
set_option maxRecDepth 100000 in
set_option maxHeartbeats 2000000 in
theorem c12_k0 (d : Dk) (i j : Nat) (tm : Int) (w : World) (hz : Zs w d) (hf : ¬ d.far) (ok : d.Ok) (hji : j = i + 1) (hn : j < (places d).length) (t0 : 0 ≤ tm) (t1 : tm ≤ 1000000) (hk : kindAt d i = 0) :
    Calls Try.prog 12 #[d.v, .int .i64 j, .int .i64 tm] w fun e w' => e = .returned (.bool true) ∧ Below w.heap.size w w' := by
  have hh := hid hf
  have okh := hid ok
  have hcnt := ok.lenPl
  have hB := ok.cntB
  unfold lenPlaces at hcnt
  have tu1 := ok.tu1
  have tu2 := ok.tu2
  have hi : i < (places d).length := by omega
  have hnb := next_begins ok (i := i) (by omega)
  rw [hk, ← hji] at hnb
  obtain ⟨b1, b2⟩ := begAt_bd ok (plN d j)
  obtain ⟨k1, k2⟩ := ticks_bd ok hn
  obtain ⟨b3, b4⟩ := begAt_bd ok (plN d i)
  obtain ⟨k3, k4⟩ := ticks_bd ok hi
  have hh1 := hid (show 0 ≤ (j : Int) ∧ (j : Int) < d.count by omega)
  obtain ⟨x, hx⟩ : ∃ x, x = begAt d (plN d j) := ⟨_, rfl⟩
  obtain ⟨tk, htk⟩ : ∃ x, x = d.tu / secOf d.zs (plN d j).1 := ⟨_, rfl⟩
  obtain ⟨y, hy⟩ : ∃ x, x = begAt d (plN d i) := ⟨_, rfl⟩
  obtain ⟨ty, hty⟩ : ∃ x, x = d.tu / secOf d.zs (plN d i).1 := ⟨_, rfl⟩
  obtain ⟨wa, hwa⟩ : ∃ x, x = (begAt d (plN d j) - tm) % d.tu := ⟨_, rfl⟩
  have x24 := hid (s24 d ok j hn x tk hx htk)
  have y24 := hid (s24 d ok i hi y ty hy hty)
  have x26 := hid (s26 d ok j hn tm wa t0 t1 hwa)
  have x37 := hid (c37 d i 2)
  have w0 : 0 ≤ wa := by rw [hwa]; exact Int.emod_nonneg _ (by omega)
  have w1' : wa < d.tu := by rw [hwa]; exact Int.emod_lt_of_pos _ (by omega)
  have hstand : (tm + wa) % d.tu = x := by
    rw [hwa, hx, Int.add_emod_emod, show tm + (begAt d (plN d j) - tm) = begAt d (plN d j) by omega]
    exact Int.emod_eq_of_lt b1 b2
  rw [← hx] at b1 b2 hnb
  rw [← htk] at k1 k2
  rw [← hy] at b3 b4 hnb
  rw [← hty] at k3 k4 hnb
  have hb1 : ((tm + wa) % d.tu != x) = false := by simpa using hstand
  have hb2 : ((j : Int) == 0) = false := by simp; omega
  have hw1 : IntKind.i64.wrap ((j : Int) - 1) = (i : Int) := by rw [i64w _ (by omega) (by omega)]; omega
  have hlen := hid (show i + 2 ≤ (places d).length by omega)
  have q1 := Int.emod_nonneg (y + ty) (show d.tu ≠ 0 by omega)
  have q2 := Int.emod_lt_of_pos (y + ty) (show 0 < d.tu by omega)
  have hb3 : ((y + ty) % d.tu == x) = true := by
    have : ((y + ty) % d.tu + 0) % d.tu = x := hnb
    rw [Int.add_zero, Int.emod_emod] at this
    simpa using this
  have hkh := hid hk
  clear hf ok hcnt hx htk hwa hstand hy hty hnb hk hji hn hi
  go_enter Try.func12, Try.ntmps12
  go_wp2_with (first | (go_at_call 34; refine (c34y d _ (by exact hz.below (by (repeat' (first | (with_reducible exact Below.refl _ _) | (with_reducible assumption) | (with_reducible refine Below.alloc ?_ ?_ _) | (with_reducible refine Below.drew ?_) | (with_reducible refine below_drewN ?_ _) | (with_reducible refine Below.setCell ?_ ?_ _) | (with_reducible refine Below.trans ?_ (Below.mono (by with_reducible assumption) ?_)) | go_size))) (Nat.le_refl _)) hh.out okh.out).mono ?_; rintro e w1 ⟨rfl, hB1⟩; obtain ⟨hc1, hf1⟩ := bcell (hB1.mono (show w.heap.size + 1 ≤ _ by first | omega | ((try simp only [World.size_alloc, World.size_drew, World.size_setCell]); omega))); have hz1 : w.heap.size + 1 ≤ w1.heap.size := (by have := hB1.size; (try simp only [World.size_alloc, World.size_drew, World.size_setCell] at this); omega); have hy1 : w.heap.size < w1.heap.size := (by omega)) | (go_at_call 35; refine (c35y d j _ (by exact hz.below (by (repeat' (first | (with_reducible exact Below.refl _ _) | (with_reducible assumption) | (with_reducible refine Below.alloc ?_ ?_ _) | (with_reducible refine Below.drew ?_) | (with_reducible refine below_drewN ?_ _) | (with_reducible refine Below.setCell ?_ ?_ _) | (with_reducible refine Below.trans ?_ (Below.mono (by with_reducible assumption) ?_)) | go_size))) (Nat.le_refl _)) okh.out hh1.out).mono ?_; rintro e w2 ⟨rfl, hB2⟩; obtain ⟨hc2, hf2⟩ := bcell (hB2.mono (show w.heap.size + 1 ≤ _ by first | omega | ((try simp only [World.size_alloc, World.size_drew, World.size_setCell]); omega))); have hz2 : w.heap.size + 1 ≤ w2.heap.size := (by have := hB2.size; (try simp only [World.size_alloc, World.size_drew, World.size_setCell] at this); omega); have hy2 : w.heap.size < w2.heap.size := (by omega)) | (go_at_call 26; refine (x26.out _ (by exact hz.below (by (repeat' (first | (with_reducible exact Below.refl _ _) | (with_reducible assumption) | (with_reducible refine Below.alloc ?_ ?_ _) | (with_reducible refine Below.drew ?_) | (with_reducible refine below_drewN ?_ _) | (with_reducible refine Below.setCell ?_ ?_ _) | (with_reducible refine Below.trans ?_ (Below.mono (by with_reducible assumption) ?_)) | go_size))) (Nat.le_refl _))).mono ?_; rintro e w3 ⟨rfl, hB3⟩; obtain ⟨hc3, hf3⟩ := bcell (hB3.mono (show w.heap.size + 1 ≤ _ by first | omega | ((try simp only [World.size_alloc, World.size_drew, World.size_setCell]); omega))); have hz3 : w.heap.size + 1 ≤ w3.heap.size := (by have := hB3.size; (try simp only [World.size_alloc, World.size_drew, World.size_setCell] at this); omega); have hy3 : w.heap.size < w3.heap.size := (by omega)) | (go_at_call_of 24 j; refine (x24.out _ (by exact hz.below (by (repeat' (first | (with_reducible exact Below.refl _ _) | (with_reducible assumption) | (with_reducible refine Below.alloc ?_ ?_ _) | (with_reducible refine Below.drew ?_) | (with_reducible refine below_drewN ?_ _) | (with_reducible refine Below.setCell ?_ ?_ _) | (with_reducible refine Below.trans ?_ (Below.mono (by with_reducible assumption) ?_)) | go_size))) (Nat.le_refl _))).mono ?_; rintro e w4 ⟨rfl, hB4⟩; obtain ⟨hc4, hf4⟩ := bcell (hB4.mono (show w.heap.size + 1 ≤ _ by first | omega | ((try simp only [World.size_alloc, World.size_drew, World.size_setCell]); omega))); have hz4 : w.heap.size + 1 ≤ w4.heap.size := (by have := hB4.size; (try simp only [World.size_alloc, World.size_drew, World.size_setCell] at this); omega); have hy4 : w.heap.size < w4.heap.size := (by omega)) | (go_at_call_of 24 i; refine (y24.out _ (by exact hz.below (by (repeat' (first | (with_reducible exact Below.refl _ _) | (with_reducible assumption) | (with_reducible refine Below.alloc ?_ ?_ _) | (with_reducible refine Below.drew ?_) | (with_reducible refine below_drewN ?_ _) | (with_reducible refine Below.setCell ?_ ?_ _) | (with_reducible refine Below.trans ?_ (Below.mono (by with_reducible assumption) ?_)) | go_size))) (Nat.le_refl _))).mono ?_; rintro e w5 ⟨rfl, hB5⟩; obtain ⟨hc5, hf5⟩ := bcell (hB5.mono (show w.heap.size + 1 ≤ _ by first | omega | ((try simp only [World.size_alloc, World.size_drew, World.size_setCell]); omega))); have hz5 : w.heap.size + 1 ≤ w5.heap.size := (by have := hB5.size; (try simp only [World.size_alloc, World.size_drew, World.size_setCell] at this); omega); have hy5 : w.heap.size < w5.heap.size := (by omega)) | (go_at_call 37; refine (x37.out _ (by exact hz.below (by (repeat' (first | (with_reducible exact Below.refl _ _) | (with_reducible assumption) | (with_reducible refine Below.alloc ?_ ?_ _) | (with_reducible refine Below.drew ?_) | (with_reducible refine below_drewN ?_ _) | (with_reducible refine Below.setCell ?_ ?_ _) | (with_reducible refine Below.trans ?_ (Below.mono (by with_reducible assumption) ?_)) | go_size))) (Nat.le_refl _)) okh.out (by omega) hlen.out).mono ?_; intro e w6 hr; obtain ⟨g, cap, rfl, hg1, hg2, hgc, hB6⟩ := hr.pos (by omega); have hg0 := hgc 0 (by omega); rw [Nat.add_zero, hkh.out] at hg0; obtain ⟨hc6, hf6⟩ := bcell (hB6.mono (show w.heap.size + 1 ≤ _ by omega)); have hy6 : w.heap.size < w6.heap.size := (by omega); clear hgc hr) | (go_at_call 14; refine (c14 _).mono ?_; rintro e w8 ⟨rfl, hB8⟩))
  go_returns
  exact ⟨rfl, by (repeat' (first | (with_reducible exact Below.refl _ _) | (with_reducible assumption) | (with_reducible refine Below.alloc ?_ ?_ _) | (with_reducible refine Below.drew ?_) | (with_reducible refine below_drewN ?_ _) | (with_reducible refine Below.setCell ?_ ?_ _) | (with_reducible refine Below.trans ?_ (Below.mono (by with_reducible assumption) ?_)) | go_size))⟩
set_option maxRecDepth 100000 in
set_option maxHeartbeats 2000000 in
theorem c12_k1 (d : Dk) (i j : Nat) (tm : Int) (w : World) (hz : Zs w d) (hf : ¬ d.far) (ok : d.Ok) (hji : j = i + 1) (hn : j < (places d).length) (t0 : 0 ≤ tm) (t1 : tm ≤ 1000000) (hk : kindAt d i = 1) :
    Calls Try.prog 12 #[d.v, .int .i64 j, .int .i64 tm] w fun e w' => e = .returned (.bool true) ∧ Below w.heap.size w w' := by
  have hh := hid hf
  have okh := hid ok
  have hcnt := ok.lenPl
  have hB := ok.cntB
  unfold lenPlaces at hcnt
  have tu1 := ok.tu1
  have tu2 := ok.tu2
  have hi : i < (places d).length := by omega
  have hnb := next_begins ok (i := i) (by omega)
  rw [hk, ← hji] at hnb
  obtain ⟨b1, b2⟩ := begAt_bd ok (plN d j)
  obtain ⟨k1, k2⟩ := ticks_bd ok hn
  obtain ⟨b3, b4⟩ := begAt_bd ok (plN d i)
  obtain ⟨k3, k4⟩ := ticks_bd ok hi
  have hh1 := hid (show 0 ≤ (j : Int) ∧ (j : Int) < d.count by omega)
  obtain ⟨x, hx⟩ : ∃ x, x = begAt d (plN d j) := ⟨_, rfl⟩
  obtain ⟨tk, htk⟩ : ∃ x, x = d.tu / secOf d.zs (plN d j).1 := ⟨_, rfl⟩
  obtain ⟨y, hy⟩ : ∃ x, x = begAt d (plN d i) := ⟨_, rfl⟩
  obtain ⟨ty, hty⟩ : ∃ x, x = d.tu / secOf d.zs (plN d i).1 := ⟨_, rfl⟩
  obtain ⟨wa, hwa⟩ : ∃ x, x = (begAt d (plN d j) - tm) % d.tu := ⟨_, rfl⟩
  have x24 := hid (s24 d ok j hn x tk hx htk)
  have y24 := hid (s24 d ok i hi y ty hy hty)
  have x26 := hid (s26 d ok j hn tm wa t0 t1 hwa)
  have x37 := hid (c37 d i 2)
  have w0 : 0 ≤ wa := by rw [hwa]; exact Int.emod_nonneg _ (by omega)
  have w1' : wa < d.tu := by rw [hwa]; exact Int.emod_lt_of_pos _ (by omega)
  have hstand : (tm + wa) % d.tu = x := by
    rw [hwa, hx, Int.add_emod_emod, show tm + (begAt d (plN d j) - tm) = begAt d (plN d j) by omega]
    exact Int.emod_eq_of_lt b1 b2
  rw [← hx] at b1 b2 hnb
  rw [← htk] at k1 k2
  rw [← hy] at b3 b4 hnb
  rw [← hty] at k3 k4 hnb
  have hb1 : ((tm + wa) % d.tu != x) = false := by simpa using hstand
  have hb2 : ((j : Int) == 0) = false := by simp; omega
  have hw1 : IntKind.i64.wrap ((j : Int) - 1) = (i : Int) := by rw [i64w _ (by omega) (by omega)]; omega
  have hlen := hid (show i + 2 ≤ (places d).length by omega)
  have q1 := Int.emod_nonneg (y + ty) (show d.tu ≠ 0 by omega)
  have q2 := Int.emod_lt_of_pos (y + ty) (show 0 < d.tu by omega)
  have s1 := ok.hs0
  have s2 := ok.hs1
  have hb3 : ((y + ty + d.hs) % d.tu == x) = true := by
    have : ((y + ty) % d.tu + d.hs) % d.tu = x := hnb
    rw [Int.emod_add_emod] at this
    simpa using this
  have x38 : Hid (∀ W, Calls Try.prog 38 #[d.v, .int .i64 1] W fun e w' => e = .returned (.tuple #[.agg #[.int .i64 d.hl, .int .i64 d.hh], .int .i64 d.hs]) ∧ Below W.heap.size W w') := hid (fun W => c38 d 1 W)
  have hkh := hid hk
  clear hf ok hcnt hx htk hwa hstand hy hty hnb hk hji hn hi
  go_enter Try.func12, Try.ntmps12
  go_wp2_with (first | (go_at_call 34; refine (c34y d _ (by exact hz.below (by (repeat' (first | (with_reducible exact Below.refl _ _) | (with_reducible assumption) | (with_reducible refine Below.alloc ?_ ?_ _) | (with_reducible refine Below.drew ?_) | (with_reducible refine below_drewN ?_ _) | (with_reducible refine Below.setCell ?_ ?_ _) | (with_reducible refine Below.trans ?_ (Below.mono (by with_reducible assumption) ?_)) | go_size))) (Nat.le_refl _)) hh.out okh.out).mono ?_; rintro e w1 ⟨rfl, hB1⟩; obtain ⟨hc1, hf1⟩ := bcell (hB1.mono (show w.heap.size + 1 ≤ _ by first | omega | ((try simp only [World.size_alloc, World.size_drew, World.size_setCell]); omega))); have hz1 : w.heap.size + 1 ≤ w1.heap.size := (by have := hB1.size; (try simp only [World.size_alloc, World.size_drew, World.size_setCell] at this); omega); have hy1 : w.heap.size < w1.heap.size := (by omega)) | (go_at_call 35; refine (c35y d j _ (by exact hz.below (by (repeat' (first | (with_reducible exact Below.refl _ _) | (with_reducible assumption) | (with_reducible refine Below.alloc ?_ ?_ _) | (with_reducible refine Below.drew ?_) | (with_reducible refine below_drewN ?_ _) | (with_reducible refine Below.setCell ?_ ?_ _) | (with_reducible refine Below.trans ?_ (Below.mono (by with_reducible assumption) ?_)) | go_size))) (Nat.le_refl _)) okh.out hh1.out).mono ?_; rintro e w2 ⟨rfl, hB2⟩; obtain ⟨hc2, hf2⟩ := bcell (hB2.mono (show w.heap.size + 1 ≤ _ by first | omega | ((try simp only [World.size_alloc, World.size_drew, World.size_setCell]); omega))); have hz2 : w.heap.size + 1 ≤ w2.heap.size := (by have := hB2.size; (try simp only [World.size_alloc, World.size_drew, World.size_setCell] at this); omega); have hy2 : w.heap.size < w2.heap.size := (by omega)) | (go_at_call 26; refine (x26.out _ (by exact hz.below (by (repeat' (first | (with_reducible exact Below.refl _ _) | (with_reducible assumption) | (with_reducible refine Below.alloc ?_ ?_ _) | (with_reducible refine Below.drew ?_) | (with_reducible refine below_drewN ?_ _) | (with_reducible refine Below.setCell ?_ ?_ _) | (with_reducible refine Below.trans ?_ (Below.mono (by with_reducible assumption) ?_)) | go_size))) (Nat.le_refl _))).mono ?_; rintro e w3 ⟨rfl, hB3⟩; obtain ⟨hc3, hf3⟩ := bcell (hB3.mono (show w.heap.size + 1 ≤ _ by first | omega | ((try simp only [World.size_alloc, World.size_drew, World.size_setCell]); omega))); have hz3 : w.heap.size + 1 ≤ w3.heap.size := (by have := hB3.size; (try simp only [World.size_alloc, World.size_drew, World.size_setCell] at this); omega); have hy3 : w.heap.size < w3.heap.size := (by omega)) | (go_at_call_of 24 j; refine (x24.out _ (by exact hz.below (by (repeat' (first | (with_reducible exact Below.refl _ _) | (with_reducible assumption) | (with_reducible refine Below.alloc ?_ ?_ _) | (with_reducible refine Below.drew ?_) | (with_reducible refine below_drewN ?_ _) | (with_reducible refine Below.setCell ?_ ?_ _) | (with_reducible refine Below.trans ?_ (Below.mono (by with_reducible assumption) ?_)) | go_size))) (Nat.le_refl _))).mono ?_; rintro e w4 ⟨rfl, hB4⟩; obtain ⟨hc4, hf4⟩ := bcell (hB4.mono (show w.heap.size + 1 ≤ _ by first | omega | ((try simp only [World.size_alloc, World.size_drew, World.size_setCell]); omega))); have hz4 : w.heap.size + 1 ≤ w4.heap.size := (by have := hB4.size; (try simp only [World.size_alloc, World.size_drew, World.size_setCell] at this); omega); have hy4 : w.heap.size < w4.heap.size := (by omega)) | (go_at_call_of 24 i; refine (y24.out _ (by exact hz.below (by (repeat' (first | (with_reducible exact Below.refl _ _) | (with_reducible assumption) | (with_reducible refine Below.alloc ?_ ?_ _) | (with_reducible refine Below.drew ?_) | (with_reducible refine below_drewN ?_ _) | (with_reducible refine Below.setCell ?_ ?_ _) | (with_reducible refine Below.trans ?_ (Below.mono (by with_reducible assumption) ?_)) | go_size))) (Nat.le_refl _))).mono ?_; rintro e w5 ⟨rfl, hB5⟩; obtain ⟨hc5, hf5⟩ := bcell (hB5.mono (show w.heap.size + 1 ≤ _ by first | omega | ((try simp only [World.size_alloc, World.size_drew, World.size_setCell]); omega))); have hz5 : w.heap.size + 1 ≤ w5.heap.size := (by have := hB5.size; (try simp only [World.size_alloc, World.size_drew, World.size_setCell] at this); omega); have hy5 : w.heap.size < w5.heap.size := (by omega)) | (go_at_call 37; refine (x37.out _ (by exact hz.below (by (repeat' (first | (with_reducible exact Below.refl _ _) | (with_reducible assumption) | (with_reducible refine Below.alloc ?_ ?_ _) | (with_reducible refine Below.drew ?_) | (with_reducible refine below_drewN ?_ _) | (with_reducible refine Below.setCell ?_ ?_ _) | (with_reducible refine Below.trans ?_ (Below.mono (by with_reducible assumption) ?_)) | go_size))) (Nat.le_refl _)) okh.out (by omega) hlen.out).mono ?_; intro e w6 hr; obtain ⟨g, cap, rfl, hg1, hg2, hgc, hB6⟩ := hr.pos (by omega); have hg0 := hgc 0 (by omega); rw [Nat.add_zero, hkh.out] at hg0; obtain ⟨hc6, hf6⟩ := bcell (hB6.mono (show w.heap.size + 1 ≤ _ by omega)); have hy6 : w.heap.size < w6.heap.size := (by omega); clear hgc hr) | (go_at_call 38; refine (x38.out _).mono ?_; rintro e w7 ⟨rfl, hB7⟩; obtain ⟨hc7, hf7⟩ := bcell (hB7.mono (show w.heap.size + 1 ≤ _ by first | omega | ((try simp only [World.size_alloc, World.size_drew, World.size_setCell]); omega))); have hz7 : w.heap.size + 1 ≤ w7.heap.size := (by have := hB7.size; (try simp only [World.size_alloc, World.size_drew, World.size_setCell] at this); omega); have hy7 : w.heap.size < w7.heap.size := (by omega)) | (go_at_call 14; refine (c14 _).mono ?_; rintro e w8 ⟨rfl, hB8⟩))
  go_returns
  exact ⟨rfl, by (repeat' (first | (with_reducible exact Below.refl _ _) | (with_reducible assumption) | (with_reducible refine Below.alloc ?_ ?_ _) | (with_reducible refine Below.drew ?_) | (with_reducible refine below_drewN ?_ _) | (with_reducible refine Below.setCell ?_ ?_ _) | (with_reducible refine Below.trans ?_ (Below.mono (by with_reducible assumption) ?_)) | go_size))⟩
set_option maxRecDepth 100000 in
set_option maxHeartbeats 2000000 in
theorem c12_k2 (d : Dk) (i j : Nat) (tm : Int) (w : World) (hz : Zs w d) (hf : ¬ d.far) (ok : d.Ok) (hji : j = i + 1) (hn : j < (places d).length) (t0 : 0 ≤ tm) (t1 : tm ≤ 1000000) (hk : kindAt d i = 2) :
    Calls Try.prog 12 #[d.v, .int .i64 j, .int .i64 tm] w fun e w' => e = .returned (.bool true) ∧ Below w.heap.size w w' := by
  have hh := hid hf
  have okh := hid ok
  have hcnt := ok.lenPl
  have hB := ok.cntB
  unfold lenPlaces at hcnt
  have tu1 := ok.tu1
  have tu2 := ok.tu2
  have hi : i < (places d).length := by omega
  have hnb := next_begins ok (i := i) (by omega)
  rw [hk, ← hji] at hnb
  obtain ⟨b1, b2⟩ := begAt_bd ok (plN d j)
  obtain ⟨k1, k2⟩ := ticks_bd ok hn
  obtain ⟨b3, b4⟩ := begAt_bd ok (plN d i)
  obtain ⟨k3, k4⟩ := ticks_bd ok hi
  have hh1 := hid (show 0 ≤ (j : Int) ∧ (j : Int) < d.count by omega)
  obtain ⟨x, hx⟩ : ∃ x, x = begAt d (plN d j) := ⟨_, rfl⟩
  obtain ⟨tk, htk⟩ : ∃ x, x = d.tu / secOf d.zs (plN d j).1 := ⟨_, rfl⟩
  obtain ⟨y, hy⟩ : ∃ x, x = begAt d (plN d i) := ⟨_, rfl⟩
  obtain ⟨ty, hty⟩ : ∃ x, x = d.tu / secOf d.zs (plN d i).1 := ⟨_, rfl⟩
  obtain ⟨wa, hwa⟩ : ∃ x, x = (begAt d (plN d j) - tm) % d.tu := ⟨_, rfl⟩
  have x24 := hid (s24 d ok j hn x tk hx htk)
  have y24 := hid (s24 d ok i hi y ty hy hty)
  have x26 := hid (s26 d ok j hn tm wa t0 t1 hwa)
  have x37 := hid (c37 d i 2)
  have w0 : 0 ≤ wa := by rw [hwa]; exact Int.emod_nonneg _ (by omega)
  have w1' : wa < d.tu := by rw [hwa]; exact Int.emod_lt_of_pos _ (by omega)
  have hstand : (tm + wa) % d.tu = x := by
    rw [hwa, hx, Int.add_emod_emod, show tm + (begAt d (plN d j) - tm) = begAt d (plN d j) by omega]
    exact Int.emod_eq_of_lt b1 b2
  rw [← hx] at b1 b2 hnb
  rw [← htk] at k1 k2
  rw [← hy] at b3 b4 hnb
  rw [← hty] at k3 k4 hnb
  have hb1 : ((tm + wa) % d.tu != x) = false := by simpa using hstand
  have hb2 : ((j : Int) == 0) = false := by simp; omega
  have hw1 : IntKind.i64.wrap ((j : Int) - 1) = (i : Int) := by rw [i64w _ (by omega) (by omega)]; omega
  have hlen := hid (show i + 2 ≤ (places d).length by omega)
  have q1 := Int.emod_nonneg (y + ty) (show d.tu ≠ 0 by omega)
  have q2 := Int.emod_lt_of_pos (y + ty) (show 0 < d.tu by omega)
  have s1 := ok.cs0
  have s2 := ok.cs1
  have hb3 : ((y + ty + d.cs) % d.tu == x) = true := by
    have : ((y + ty) % d.tu + d.cs) % d.tu = x := hnb
    rw [Int.emod_add_emod] at this
    simpa using this
  have x38 : Hid (∀ W, Calls Try.prog 38 #[d.v, .int .i64 2] W fun e w' => e = .returned (.tuple #[.agg #[.int .i64 d.cl, .int .i64 d.ch], .int .i64 d.cs]) ∧ Below W.heap.size W w') := hid (fun W => c38 d 2 W)
  have hkh := hid hk
  clear hf ok hcnt hx htk hwa hstand hy hty hnb hk hji hn hi
  go_enter Try.func12, Try.ntmps12
  go_wp2_with (first | (go_at_call 34; refine (c34y d _ (by exact hz.below (by (repeat' (first | (with_reducible exact Below.refl _ _) | (with_reducible assumption) | (with_reducible refine Below.alloc ?_ ?_ _) | (with_reducible refine Below.drew ?_) | (with_reducible refine below_drewN ?_ _) | (with_reducible refine Below.setCell ?_ ?_ _) | (with_reducible refine Below.trans ?_ (Below.mono (by with_reducible assumption) ?_)) | go_size))) (Nat.le_refl _)) hh.out okh.out).mono ?_; rintro e w1 ⟨rfl, hB1⟩; obtain ⟨hc1, hf1⟩ := bcell (hB1.mono (show w.heap.size + 1 ≤ _ by first | omega | ((try simp only [World.size_alloc, World.size_drew, World.size_setCell]); omega))); have hz1 : w.heap.size + 1 ≤ w1.heap.size := (by have := hB1.size; (try simp only [World.size_alloc, World.size_drew, World.size_setCell] at this); omega); have hy1 : w.heap.size < w1.heap.size := (by omega)) | (go_at_call 35; refine (c35y d j _ (by exact hz.below (by (repeat' (first | (with_reducible exact Below.refl _ _) | (with_reducible assumption) | (with_reducible refine Below.alloc ?_ ?_ _) | (with_reducible refine Below.drew ?_) | (with_reducible refine below_drewN ?_ _) | (with_reducible refine Below.setCell ?_ ?_ _) | (with_reducible refine Below.trans ?_ (Below.mono (by with_reducible assumption) ?_)) | go_size))) (Nat.le_refl _)) okh.out hh1.out).mono ?_; rintro e w2 ⟨rfl, hB2⟩; obtain ⟨hc2, hf2⟩ := bcell (hB2.mono (show w.heap.size + 1 ≤ _ by first | omega | ((try simp only [World.size_alloc, World.size_drew, World.size_setCell]); omega))); have hz2 : w.heap.size + 1 ≤ w2.heap.size := (by have := hB2.size; (try simp only [World.size_alloc, World.size_drew, World.size_setCell] at this); omega); have hy2 : w.heap.size < w2.heap.size := (by omega)) | (go_at_call 26; refine (x26.out _ (by exact hz.below (by (repeat' (first | (with_reducible exact Below.refl _ _) | (with_reducible assumption) | (with_reducible refine Below.alloc ?_ ?_ _) | (with_reducible refine Below.drew ?_) | (with_reducible refine below_drewN ?_ _) | (with_reducible refine Below.setCell ?_ ?_ _) | (with_reducible refine Below.trans ?_ (Below.mono (by with_reducible assumption) ?_)) | go_size))) (Nat.le_refl _))).mono ?_; rintro e w3 ⟨rfl, hB3⟩; obtain ⟨hc3, hf3⟩ := bcell (hB3.mono (show w.heap.size + 1 ≤ _ by first | omega | ((try simp only [World.size_alloc, World.size_drew, World.size_setCell]); omega))); have hz3 : w.heap.size + 1 ≤ w3.heap.size := (by have := hB3.size; (try simp only [World.size_alloc, World.size_drew, World.size_setCell] at this); omega); have hy3 : w.heap.size < w3.heap.size := (by omega)) | (go_at_call_of 24 j; refine (x24.out _ (by exact hz.below (by (repeat' (first | (with_reducible exact Below.refl _ _) | (with_reducible assumption) | (with_reducible refine Below.alloc ?_ ?_ _) | (with_reducible refine Below.drew ?_) | (with_reducible refine below_drewN ?_ _) | (with_reducible refine Below.setCell ?_ ?_ _) | (with_reducible refine Below.trans ?_ (Below.mono (by with_reducible assumption) ?_)) | go_size))) (Nat.le_refl _))).mono ?_; rintro e w4 ⟨rfl, hB4⟩; obtain ⟨hc4, hf4⟩ := bcell (hB4.mono (show w.heap.size + 1 ≤ _ by first | omega | ((try simp only [World.size_alloc, World.size_drew, World.size_setCell]); omega))); have hz4 : w.heap.size + 1 ≤ w4.heap.size := (by have := hB4.size; (try simp only [World.size_alloc, World.size_drew, World.size_setCell] at this); omega); have hy4 : w.heap.size < w4.heap.size := (by omega)) | (go_at_call_of 24 i; refine (y24.out _ (by exact hz.below (by (repeat' (first | (with_reducible exact Below.refl _ _) | (with_reducible assumption) | (with_reducible refine Below.alloc ?_ ?_ _) | (with_reducible refine Below.drew ?_) | (with_reducible refine below_drewN ?_ _) | (with_reducible refine Below.setCell ?_ ?_ _) | (with_reducible refine Below.trans ?_ (Below.mono (by with_reducible assumption) ?_)) | go_size))) (Nat.le_refl _))).mono ?_; rintro e w5 ⟨rfl, hB5⟩; obtain ⟨hc5, hf5⟩ := bcell (hB5.mono (show w.heap.size + 1 ≤ _ by first | omega | ((try simp only [World.size_alloc, World.size_drew, World.size_setCell]); omega))); have hz5 : w.heap.size + 1 ≤ w5.heap.size := (by have := hB5.size; (try simp only [World.size_alloc, World.size_drew, World.size_setCell] at this); omega); have hy5 : w.heap.size < w5.heap.size := (by omega)) | (go_at_call 37; refine (x37.out _ (by exact hz.below (by (repeat' (first | (with_reducible exact Below.refl _ _) | (with_reducible assumption) | (with_reducible refine Below.alloc ?_ ?_ _) | (with_reducible refine Below.drew ?_) | (with_reducible refine below_drewN ?_ _) | (with_reducible refine Below.setCell ?_ ?_ _) | (with_reducible refine Below.trans ?_ (Below.mono (by with_reducible assumption) ?_)) | go_size))) (Nat.le_refl _)) okh.out (by omega) hlen.out).mono ?_; intro e w6 hr; obtain ⟨g, cap, rfl, hg1, hg2, hgc, hB6⟩ := hr.pos (by omega); have hg0 := hgc 0 (by omega); rw [Nat.add_zero, hkh.out] at hg0; obtain ⟨hc6, hf6⟩ := bcell (hB6.mono (show w.heap.size + 1 ≤ _ by omega)); have hy6 : w.heap.size < w6.heap.size := (by omega); clear hgc hr) | (go_at_call 38; refine (x38.out _).mono ?_; rintro e w7 ⟨rfl, hB7⟩; obtain ⟨hc7, hf7⟩ := bcell (hB7.mono (show w.heap.size + 1 ≤ _ by first | omega | ((try simp only [World.size_alloc, World.size_drew, World.size_setCell]); omega))); have hz7 : w.heap.size + 1 ≤ w7.heap.size := (by have := hB7.size; (try simp only [World.size_alloc, World.size_drew, World.size_setCell] at this); omega); have hy7 : w.heap.size < w7.heap.size := (by omega)) | (go_at_call 14; refine (c14 _).mono ?_; rintro e w8 ⟨rfl, hB8⟩))
  go_returns
  exact ⟨rfl, by (repeat' (first | (with_reducible exact Below.refl _ _) | (with_reducible assumption) | (with_reducible refine Below.alloc ?_ ?_ _) | (with_reducible refine Below.drew ?_) | (with_reducible refine below_drewN ?_ _) | (with_reducible refine Below.setCell ?_ ?_ _) | (with_reducible refine Below.trans ?_ (Below.mono (by with_reducible assumption) ?_)) | go_size))⟩
theorem c12 (d : Dk) (n tm : Int) (w : World) (hz : Zs w d) : Calls Try.prog 12 #[d.v, .int .i64 n, .int .i64 tm] w fun e w' => e = .returned (.bool true) ∧ Below w.heap.size w w' := by
  by_cases h1 : ¬ d.far ∧ d.Ok
  · obtain ⟨hf, ok⟩ := h1
    by_cases h2 : (0 ≤ n ∧ n < d.count) ∧ 0 ≤ tm ∧ tm ≤ 1000000
    · obtain ⟨⟨n0, n1⟩, t0, t1⟩ := h2
      have hcnt := ok.lenPl
      unfold lenPlaces at hcnt
      obtain ⟨j, rfl⟩ : ∃ k : Nat, n = k := ⟨n.toNat, by omega⟩
      rcases Nat.eq_zero_or_pos j with rfl | hj
      · exact c12_zero d tm w hz hf ok (by omega) t0 t1
      · obtain ⟨i, hji⟩ : ∃ i, j = i + 1 := ⟨j - 1, by omega⟩
        rcases kindOf_bd (plN d i) (plN d (i + 1)) with h | h | h
        · exact c12_k0 d i j tm w hz hf ok hji (by omega) t0 t1 h
        · exact c12_k1 d i j tm w hz hf ok hji (by omega) t0 t1 h
        · exact c12_k2 d i j tm w hz hf ok hji (by omega) t0 t1 h
    · exact c12_out d n tm w hz hf ok h2
  · exact c12_no d n tm w hz h1
end Go.Proofs.Ythkbiplmfbcabaa
