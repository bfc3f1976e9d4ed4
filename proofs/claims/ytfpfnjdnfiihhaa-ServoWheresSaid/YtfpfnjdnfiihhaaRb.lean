/- Stage 2: whether a wedge agrees, as the reference says it. -/
import Derived.Test.YtfpfnjdnfiihhaaRa
set_option linter.unusedSimpArgs false
set_option linter.unusedVariables false
namespace Go.Proofs.Ytfpfnjdnfiihhaa
open Go.RowKit

theorem Sv.Ok.atw {s : Sv} (ok : s.Ok) {t : Int} (h0 : 0 ≤ t) (h1 : t ≤ 127) (i : Nat) : -16 ≤ s.at_ t i ∧ s.at_ t i ≤ 2048 := by
  have h2 : t * s.st ≤ 127 * 16 := Int.mul_le_mul h1 ok.s2 (by have := ok.s1; omega) (by omega)
  have h4 := Int.mul_nonneg h0 (show 0 ≤ s.st by have := ok.s1; omega)
  have h3 := ok.ro (i % s.rn) (Nat.mod_lt _ (by have := ok.r1; omega))
  unfold Sv.at_
  omega
set_option maxHeartbeats 4000000 in
theorem c23y (s : Sv) (g : Wg) (i p : Nat) (w : World) (hz : s.In w) (ok : s.Ok) (okg : g.Ok) (hi : i < g.wn) (hp : p ≤ 1009) (hy : agr s g i p = true) :
    Calls Try.prog 23 #[s.v, .agg #[.int .i64 (g.wc i), .int .i64 (g.wu i)], .int .i64 (i : Nat), .int .i64 (p : Nat)] w fun e w' => e = .returned (.bool true) ∧ Below w.heap.size w w' := by
  have hn := okg.n2
  have hc := okg.c i hi
  have hu := okg.u i hi
  have s1 := ok.s1; have s2 := ok.s2; have n0 := ok.n0; have n1 := ok.n1; have t2 := ok.t2
  have hr := agr_ref.1 hy
  have okh := hid ok
  obtain ⟨cc, hcc⟩ : ∃ cc, cc = g.wc i := ⟨_, rfl⟩
  obtain ⟨uu, huu⟩ : ∃ uu, uu = g.wu i := ⟨_, rfl⟩
  rw [← hcc, ← huu] at hr ⊢
  rw [← hcc] at hc
  rw [← huu] at hu
  by_cases hm : cc = -1
  · subst hm
    clear hr hy ok okg
    go_enter Try.func23, Try.ntmps23
    go_wp2_with fail
    go_returns
    exact ⟨rfl, by (repeat' (first | (with_reducible exact Below.refl _ _) | (with_reducible assumption) | (with_reducible refine Below.alloc ?_ ?_ _) | (with_reducible refine Below.drew ?_) | (with_reducible refine below_drewN ?_ _) | (with_reducible refine Below.setCell ?_ ?_ _) | (with_reducible refine Below.trans ?_ (Below.mono (by with_reducible assumption) ?_)) | go_size))⟩
  · obtain ⟨k, rfl⟩ : ∃ k : Nat, cc = k := ⟨cc.toNat, by omega⟩
    have hk1 : k < 128 := by omega
    have htl := trk_lt hk1
    rw [show ((k : Int).toNat) = k by omega] at hr
    obtain ⟨h1, h2, h3⟩ := hr.resolve_left hm
    have hat := ok.atw (show (0 : Int) ≤ trk k by omega) (by omega) i
    obtain ⟨x, hx⟩ : ∃ x, x = s.at_ (trk k) i := ⟨_, rfl⟩
    rw [← hx] at h2 h3 hat
    have hxh := hid hx
    have ha := absI_bd (n := (p : Int) - x) (m := 3100) (by omega)
    have e1 : IntKind.i64.wrap (2 * absI ((p : Int) - x)) = 2 * absI ((p : Int) - x) := IntWalk.i64_in _ (by omega)
    have e2 : IntKind.i64.wrap (uu - ((p : Int) - x)) = uu - ((p : Int) - x) := IntWalk.i64_in _ (by omega)
    have hm' : ((k : Int) == -1) = false := by first | (simp; done) | (simp; omega)
    have t0 : trkA (k : Int) = trk k := by unfold trkA; rw [if_pos (by omega)]; rfl
    have t1 : argE (k : Int) = 0 := by unfold argE; rw [if_pos (by omega)]
    clear hr hy ok okg hm hcc hx huu
    go_enter Try.func23, Try.ntmps23
    go_wp2_with (first | (go_at_call 33; refine (c33 _ _).mono ?_; rintro e w' ⟨rfl, rfl⟩) | (go_at_call 26; refine (c26 s (trk k) i i _ (.inl rfl) (hz.below (by (repeat' (first | (with_reducible exact Below.refl _ _) | (with_reducible assumption) | (with_reducible refine Below.alloc ?_ ?_ _) | (with_reducible refine Below.drew ?_) | (with_reducible refine below_drewN ?_ _) | (with_reducible refine Below.setCell ?_ ?_ _) | (with_reducible refine Below.trans ?_ (Below.mono (by with_reducible assumption) ?_)) | go_size))) (Nat.le_refl _)) okh.out (by omega) (by omega) (by omega)).mono ?_; rw [← hxh.out]; rintro e w1 ⟨rfl, hB1⟩; obtain ⟨hc1, hf1⟩ := bcell (hB1.mono (show w.heap.size + 2 ≤ _ by simp)); have hz1 : w.heap.size + 1 < w1.heap.size := (by have := hB1.size; simp at this; omega); have k0 : w1.cell? ⟨w.heap.size, 0, none⟩ = some (.int .i64 s.tr) := (by rw [hc1 _ _ (by omega)]; simp); have k1 : w1.cell? ⟨w.heap.size, 1, none⟩ = some (.int .i64 s.st) := (by rw [hc1 _ _ (by omega)]; simp); have k3 : w1.cell? ⟨w.heap.size, 3, none⟩ = some (.int .i64 s.no) := (by rw [hc1 _ _ (by omega)]; simp); have k4 : w1.cell? ⟨w.heap.size + 1, 1, none⟩ = some (.int .i64 uu) := (by rw [hc1 _ _ (by omega)]; simp); clear hc1 hf1))
    go_quiet ((go_at_call 55; exact Calls.quiet_of_same (c55 _ _ (by omega))))
    go_wp2
    go_returns
    exact ⟨rfl, below_drewN (Below.trans (show Below w.heap.size w _ by (repeat' (first | (with_reducible exact Below.refl _ _) | (with_reducible assumption) | (with_reducible refine Below.alloc ?_ ?_ _) | (with_reducible refine Below.drew ?_) | (with_reducible refine below_drewN ?_ _) | (with_reducible refine Below.setCell ?_ ?_ _) | (with_reducible refine Below.trans ?_ (Below.mono (by with_reducible assumption) ?_)) | go_size))) (hB1.mono (by simp; omega))) _⟩
set_option maxHeartbeats 4000000 in
theorem c23n (s : Sv) (g : Wg) (i p : Nat) (w : World) (hz : s.In w) (ok : s.Ok) (okg : g.Ok) (hi : i < g.wn) (hp : p ≤ 1009) (hy : agr s g i p = false) :
    Calls Try.prog 23 #[s.v, .agg #[.int .i64 (g.wc i), .int .i64 (g.wu i)], .int .i64 (i : Nat), .int .i64 (p : Nat)] w fun e w' => e = .returned (.bool false) ∧ Below w.heap.size w w' := by
  have hn := okg.n2
  have hc := okg.c i hi
  have hu := okg.u i hi
  have s1 := ok.s1; have s2 := ok.s2; have n0 := ok.n0; have n1 := ok.n1; have t2 := ok.t2
  have hr := mt agr_ref.2 (show ¬ agr s g i p = true by rw [hy]; simp)
  have okh := hid ok
  obtain ⟨cc, hcc⟩ : ∃ cc, cc = g.wc i := ⟨_, rfl⟩
  obtain ⟨uu, huu⟩ : ∃ uu, uu = g.wu i := ⟨_, rfl⟩
  rw [← hcc, ← huu] at hr ⊢
  rw [← hcc] at hc
  rw [← huu] at hu
  have hm : ¬ cc = -1 := fun h => hr (.inl h)
  · obtain ⟨k, rfl⟩ : ∃ k : Nat, cc = k := ⟨cc.toNat, by omega⟩
    have hk1 : k < 128 := by omega
    have htl := trk_lt hk1
    rw [show ((k : Int).toNat) = k by omega] at hr
    have hr' := fun h => hr (.inr h)
    clear hr
    have hat := ok.atw (show (0 : Int) ≤ trk k by omega) (by omega) i
    obtain ⟨x, hx⟩ : ∃ x, x = s.at_ (trk k) i := ⟨_, rfl⟩
    rw [← hx] at hr' hat
    have hxh := hid hx
    have ha := absI_bd (n := (p : Int) - x) (m := 3100) (by omega)
    have e1 : IntKind.i64.wrap (2 * absI ((p : Int) - x)) = 2 * absI ((p : Int) - x) := IntWalk.i64_in _ (by omega)
    have e2 : IntKind.i64.wrap (uu - ((p : Int) - x)) = uu - ((p : Int) - x) := IntWalk.i64_in _ (by omega)
    have hm' : ((k : Int) == -1) = false := by first | (simp; done) | (simp; omega)
    have t0 : trkA (k : Int) = trk k := by unfold trkA; rw [if_pos (by omega)]; rfl
    have t1 : argE (k : Int) = 0 := by unfold argE; rw [if_pos (by omega)]
    clear hy ok okg hm hcc hx huu
    by_cases h1 : (trk k : Int) < s.tr
    · by_cases h2 : 2 * absI ((p : Int) - x) ≤ s.st
      · have h3 : ¬ absI (uu - ((p : Int) - x)) ≤ s.no := fun h3 => hr' ⟨h1, h2, h3⟩
        have h3' : s.no < absI (uu - ((p : Int) - x)) := by omega
        have h3d : decide (absI (uu - ((p : Int) - x)) ≤ s.no) = false := by simpa using h3'
        clear hr' h3
        go_enter Try.func23, Try.ntmps23
        go_wp2_with (first | (go_at_call 33; refine (c33 _ _).mono ?_; rintro e w' ⟨rfl, rfl⟩) | (go_at_call 26; refine (c26 s (trk k) i i _ (.inl rfl) (hz.below (by (repeat' (first | (with_reducible exact Below.refl _ _) | (with_reducible assumption) | (with_reducible refine Below.alloc ?_ ?_ _) | (with_reducible refine Below.drew ?_) | (with_reducible refine below_drewN ?_ _) | (with_reducible refine Below.setCell ?_ ?_ _) | (with_reducible refine Below.trans ?_ (Below.mono (by with_reducible assumption) ?_)) | go_size))) (Nat.le_refl _)) okh.out (by omega) (by omega) (by omega)).mono ?_; rw [← hxh.out]; rintro e w1 ⟨rfl, hB1⟩; obtain ⟨hc1, hf1⟩ := bcell (hB1.mono (show w.heap.size + 2 ≤ _ by simp)); have hz1 : w.heap.size + 1 < w1.heap.size := (by have := hB1.size; simp at this; omega); have k0 : w1.cell? ⟨w.heap.size, 0, none⟩ = some (.int .i64 s.tr) := (by rw [hc1 _ _ (by omega)]; simp); have k1 : w1.cell? ⟨w.heap.size, 1, none⟩ = some (.int .i64 s.st) := (by rw [hc1 _ _ (by omega)]; simp); have k3 : w1.cell? ⟨w.heap.size, 3, none⟩ = some (.int .i64 s.no) := (by rw [hc1 _ _ (by omega)]; simp); have k4 : w1.cell? ⟨w.heap.size + 1, 1, none⟩ = some (.int .i64 uu) := (by rw [hc1 _ _ (by omega)]; simp); clear hc1 hf1))
        go_quiet ((go_at_call 55; exact Calls.quiet_of_same (c55 _ _ (by omega))))
        go_wp2
        go_returns
        exact ⟨rfl, below_drewN (Below.trans (show Below w.heap.size w _ by (repeat' (first | (with_reducible exact Below.refl _ _) | (with_reducible assumption) | (with_reducible refine Below.alloc ?_ ?_ _) | (with_reducible refine Below.drew ?_) | (with_reducible refine below_drewN ?_ _) | (with_reducible refine Below.setCell ?_ ?_ _) | (with_reducible refine Below.trans ?_ (Below.mono (by with_reducible assumption) ?_)) | go_size))) (hB1.mono (by simp; omega))) _⟩
      · have h2' : s.st < 2 * absI ((p : Int) - x) := by omega
        have h2d : decide (2 * absI ((p : Int) - x) ≤ s.st) = false := by simpa using h2'
        clear hr' h2
        go_enter Try.func23, Try.ntmps23
        go_wp2_with (first | (go_at_call 33; refine (c33 _ _).mono ?_; rintro e w' ⟨rfl, rfl⟩) | (go_at_call 26; refine (c26 s (trk k) i i _ (.inl rfl) (hz.below (by (repeat' (first | (with_reducible exact Below.refl _ _) | (with_reducible assumption) | (with_reducible refine Below.alloc ?_ ?_ _) | (with_reducible refine Below.drew ?_) | (with_reducible refine below_drewN ?_ _) | (with_reducible refine Below.setCell ?_ ?_ _) | (with_reducible refine Below.trans ?_ (Below.mono (by with_reducible assumption) ?_)) | go_size))) (Nat.le_refl _)) okh.out (by omega) (by omega) (by omega)).mono ?_; rw [← hxh.out]; rintro e w1 ⟨rfl, hB1⟩; obtain ⟨hc1, hf1⟩ := bcell (hB1.mono (show w.heap.size + 2 ≤ _ by simp)); have hz1 : w.heap.size + 1 < w1.heap.size := (by have := hB1.size; simp at this; omega); have k0 : w1.cell? ⟨w.heap.size, 0, none⟩ = some (.int .i64 s.tr) := (by rw [hc1 _ _ (by omega)]; simp); have k1 : w1.cell? ⟨w.heap.size, 1, none⟩ = some (.int .i64 s.st) := (by rw [hc1 _ _ (by omega)]; simp); have k3 : w1.cell? ⟨w.heap.size, 3, none⟩ = some (.int .i64 s.no) := (by rw [hc1 _ _ (by omega)]; simp); have k4 : w1.cell? ⟨w.heap.size + 1, 1, none⟩ = some (.int .i64 uu) := (by rw [hc1 _ _ (by omega)]; simp); clear hc1 hf1))
        go_quiet ((go_at_call 55; exact Calls.quiet_of_same (c55 _ _ (by omega))))
        go_wp2
        go_returns
        exact ⟨rfl, below_drewN (Below.trans (show Below w.heap.size w _ by (repeat' (first | (with_reducible exact Below.refl _ _) | (with_reducible assumption) | (with_reducible refine Below.alloc ?_ ?_ _) | (with_reducible refine Below.drew ?_) | (with_reducible refine below_drewN ?_ _) | (with_reducible refine Below.setCell ?_ ?_ _) | (with_reducible refine Below.trans ?_ (Below.mono (by with_reducible assumption) ?_)) | go_size))) (hB1.mono (by simp; omega))) _⟩
    · have h1' : s.tr ≤ (trk k : Int) := by omega
      have h1d : decide ((trk k : Int) < s.tr) = false := by simpa using h1'
      clear hr' h1
      go_enter Try.func23, Try.ntmps23
      go_wp2_with (first | (go_at_call 33; refine (c33 _ _).mono ?_; rintro e w' ⟨rfl, rfl⟩) | (go_at_call 26; refine (c26 s (trk k) i i _ (.inl rfl) (hz.below (by (repeat' (first | (with_reducible exact Below.refl _ _) | (with_reducible assumption) | (with_reducible refine Below.alloc ?_ ?_ _) | (with_reducible refine Below.drew ?_) | (with_reducible refine below_drewN ?_ _) | (with_reducible refine Below.setCell ?_ ?_ _) | (with_reducible refine Below.trans ?_ (Below.mono (by with_reducible assumption) ?_)) | go_size))) (Nat.le_refl _)) okh.out (by omega) (by omega) (by omega)).mono ?_; rw [← hxh.out]; rintro e w1 ⟨rfl, hB1⟩; obtain ⟨hc1, hf1⟩ := bcell (hB1.mono (show w.heap.size + 2 ≤ _ by simp)); have hz1 : w.heap.size + 1 < w1.heap.size := (by have := hB1.size; simp at this; omega); have k0 : w1.cell? ⟨w.heap.size, 0, none⟩ = some (.int .i64 s.tr) := (by rw [hc1 _ _ (by omega)]; simp); have k1 : w1.cell? ⟨w.heap.size, 1, none⟩ = some (.int .i64 s.st) := (by rw [hc1 _ _ (by omega)]; simp); have k3 : w1.cell? ⟨w.heap.size, 3, none⟩ = some (.int .i64 s.no) := (by rw [hc1 _ _ (by omega)]; simp); have k4 : w1.cell? ⟨w.heap.size + 1, 1, none⟩ = some (.int .i64 uu) := (by rw [hc1 _ _ (by omega)]; simp); clear hc1 hf1))
      go_quiet ((go_at_call 55; exact Calls.quiet_of_same (c55 _ _ (by omega))))
      go_wp2
      go_returns
      exact ⟨rfl, below_drewN (Below.trans (show Below w.heap.size w _ by (repeat' (first | (with_reducible exact Below.refl _ _) | (with_reducible assumption) | (with_reducible refine Below.alloc ?_ ?_ _) | (with_reducible refine Below.drew ?_) | (with_reducible refine below_drewN ?_ _) | (with_reducible refine Below.setCell ?_ ?_ _) | (with_reducible refine Below.trans ?_ (Below.mono (by with_reducible assumption) ?_)) | go_size))) (hB1.mono (by simp; omega))) _⟩
end Go.Proofs.Ytfpfnjdnfiihhaa
