/- Stage 4: the law of the rows, but for the examples. -/
import Derived.Test.YtljioabolacbeaaN
set_option linter.unusedSimpArgs false
set_option linter.unusedVariables false
namespace Go.Proofs.Ytljioabolacbeaa
open Go.RowKit

/-- The examples come out. -/
def Works : Prop := ∀ W : World, Calls Try.prog 14 #[] W fun e W' => e = .returned (.bool true) ∧ Below W.heap.size W W'
theorem own_ints {w : World} {b n : Nat} {v : Value} {f : Nat → Int} (h : w.ownsRow b 3 1 v n (vals n f)) : ∃ A g c, v = .slice A n c ∧ Ints w A g 0 n f := by
  have h' := h
  obtain ⟨h1, ⟨h2, h3⟩ | ⟨g, cap, cur, h3, _⟩⟩ := h
  · subst h2
    obtain rfl : n = 0 := by
      first | exact h3 | exact h3.1 | (simp at h1; omega)
    exact ⟨none, 0, 0, rfl, ⟨fun k hk => absurd hk (Nat.not_lt_zero _), fun k hk => absurd hk (Nat.not_lt_zero _), fun k hk => absurd hk (Nat.not_lt_zero _)⟩⟩
  · subst h3
    exact ⟨some ⟨g, 0, none⟩, g, cap, rfl, (RowF.of_owns h').ints⟩
set_option maxRecDepth 100000 in
set_option maxHeartbeats 4000000 in
theorem c12w (hwk : Works) (s : Int) (A : Option Addr) (b o n c : Nat) (f : Nat → Int) (w : World) (hz : Ints w A b o n f) (hnil : A = none → n = 0 ∧ c = 0) :
    Calls Try.prog 12 #[.int .i64 s, .slice A n c] w fun e w' => e = .returned (.bool true) ∧ Below w.heap.size w w' := by
  obtain ⟨i0, ie0, ie1, ie2, ie3⟩ := info_parts Try.info3
  have hnil := hid hnil
  have hwk := hid hwk
  by_cases h2 : n ≤ 200
  · by_cases hp : (1 ≤ s ∧ s ≤ 127) ∧ (n : Int) ≤ 128 ∧ allB 2 n f
    · obtain ⟨hs, hm, ha⟩ := hp
      obtain ⟨t, rfl⟩ : ∃ t : Nat, s = t := ⟨s.toNat, by omega⟩
      have hah := hid ha
      clear ha
      by_cases h0 : 0 < n
      · go_enter Try.func12, Try.ntmps12
        go_wp2_with (first | (at_builtin; go_loud (refine app_src rfl (.tmp 15) (.tmp 16) 25 rfl w.heap.size 3 i0 (.int .i64 0) 1 8 Try.underlying25 ie0 ie1 ie2 ie3 rfl (by decide) _ _ _ rfl (own_made _ 3 1 _ _ rfl (Nat.le_refl _)) A n c (vals n f) rfl hnil.out (by rw [vals_len, Nat.mul_one]) (Ints.cells (hz.below (show Below w.heap.size w _ by (repeat' (first | (with_reducible exact Below.refl _ _) | (with_reducible assumption) | (with_reducible refine Below.alloc ?_ ?_ _) | (with_reducible refine Below.drew ?_) | (with_reducible refine below_drewN ?_ _) | (with_reducible refine Below.setCell ?_ ?_ _) | (with_reducible refine Below.trans ?_ (Below.mono (by with_reducible assumption) ?_)) | go_size))) (Nat.le_refl _))) (vals_one _ _) (by unfold maxLen; omega) (by omega) (by simp) ?_); intro v1 w1 hown1 hgr1 hn1; obtain ⟨x1, cap1, rfl⟩ := own_shape hown1 (fun h => by have := hn1 h; cases this); rw [Nat.zero_add, List.nil_append] at hown1; have hR1 := hid (RowF.of_owns hown1); have hB1 : Below w.heap.size w w1 := ((Below.refl w.heap.size w).alloc (Nat.le_refl _) _).grown hgr1 (by simp) (fun k e => by cases e; simp); clear hown1 hgr1 hn1) | (go_at_call 24; refine (c24 t x1 0 n cap1 f _ hR1.out.ints (by omega) h0 (by omega) hah.out).mono ?_; rintro e w2 ⟨g2, c2, rfl, hR2, hB2⟩; have hB02 := hB1.trans (hB2.mono hB1.size); have hR2h := hid hR2; clear hR2 hB2) | (go_at_call 42; refine (c42 A t b o n c f _ (hz.below hB02 (Nat.le_refl _)) (by omega) (by omega) hah.out).mono ?_; rintro e w3 ⟨v3, rfl, hown3, hB3⟩; obtain ⟨A3, g3, c3, rfl, hz3⟩ := own_ints hown3; have hB03 := hB02.trans (hB3.mono hB02.size); have hz3h := hid hz3; have hR3 := hid ((hR2h.out.below hB3 hR2h.out.lt).ints); clear hown3 hz3 hB3) | (go_at_call 21; refine (c21y (some ⟨g2, 0, none⟩) A3 g2 g3 0 0 n c2 c3 _ _ hR3.out hz3h.out (by omega)).mono ?_; rintro e w4 ⟨rfl, hB4⟩; have hB04 := hB03.trans (hB4.mono hB03.size)) | (go_at_call 14; refine (hwk.out _).mono ?_; rintro e w5 ⟨rfl, hB5⟩; have hB05 := hB04.trans (hB5.mono hB04.size)))
        go_returns
        exact ⟨rfl, hB05⟩
      · obtain rfl : n = 0 := by omega
        go_enter Try.func12, Try.ntmps12
        go_wp2_with (first | (at_builtin; go_loud (refine app_src rfl (.tmp 15) (.tmp 16) 25 rfl w.heap.size 3 i0 (.int .i64 0) 1 8 Try.underlying25 ie0 ie1 ie2 ie3 rfl (by decide) _ _ _ rfl (own_made _ 3 1 _ _ rfl (Nat.le_refl _)) A 0 c (vals 0 f) rfl hnil.out (by rw [vals_len, Nat.mul_one]) (Ints.cells (hz.below (show Below w.heap.size w _ by (repeat' (first | (with_reducible exact Below.refl _ _) | (with_reducible assumption) | (with_reducible refine Below.alloc ?_ ?_ _) | (with_reducible refine Below.drew ?_) | (with_reducible refine below_drewN ?_ _) | (with_reducible refine Below.setCell ?_ ?_ _) | (with_reducible refine Below.trans ?_ (Below.mono (by with_reducible assumption) ?_)) | go_size))) (Nat.le_refl _))) (vals_one _ _) (by unfold maxLen; omega) (by omega) (by simp) ?_); intro v1 w1 hown1 hgr1 hn1; obtain ⟨x1, cap1, rfl⟩ := own_shape hown1 (fun h => by have := hn1 h; cases this); rw [Nat.zero_add, List.nil_append] at hown1; have hR1 := hid (RowF.of_owns hown1); have hB1 : Below w.heap.size w w1 := ((Below.refl w.heap.size w).alloc (Nat.le_refl _) _).grown hgr1 (by simp) (fun k e => by cases e; simp); clear hown1 hgr1 hn1) | (go_at_call 24; refine (c24z t (some ⟨x1, 0, none⟩) cap1 _ (by omega) (fun h => by cases h)).mono ?_; rintro e w2 ⟨A2, c2, rfl, hB2⟩; have hB02 := hB1.trans (hB2.mono hB1.size); clear hB2) | (go_at_call 42; refine (c42 A t b o 0 c f _ (hz.below hB02 (Nat.le_refl _)) (by omega) (by omega) hah.out).mono ?_; rintro e w3 ⟨v3, rfl, hown3, hB3⟩; obtain ⟨A3, g3, c3, rfl, hz3⟩ := own_ints hown3; have hB03 := hB02.trans (hB3.mono hB02.size); have hz3h := hid hz3; clear hown3 hz3 hB3) | (go_at_call 21; refine (c21y A2 A3 0 g3 0 0 0 c2 c3 _ _ ⟨fun k hk => absurd hk (Nat.not_lt_zero _), fun k hk => absurd hk (Nat.not_lt_zero _), fun k hk => absurd hk (Nat.not_lt_zero _)⟩ hz3h.out (by omega)).mono ?_; rintro e w4 ⟨rfl, hB4⟩; have hB04 := hB03.trans (hB4.mono hB03.size)) | (go_at_call 14; refine (hwk.out _).mono ?_; rintro e w5 ⟨rfl, hB5⟩; have hB05 := hB04.trans (hB5.mono hB04.size)))
        go_returns
        exact ⟨rfl, hB05⟩
    · have hph := hid hp
      clear hp
      go_enter Try.func12, Try.ntmps12
      go_wp2_with (first | (at_builtin; go_loud (refine app_src rfl (.tmp 15) (.tmp 16) 25 rfl w.heap.size 3 i0 (.int .i64 0) 1 8 Try.underlying25 ie0 ie1 ie2 ie3 rfl (by decide) _ _ _ rfl (own_made _ 3 1 _ _ rfl (Nat.le_refl _)) A n c (vals n f) rfl hnil.out (by rw [vals_len, Nat.mul_one]) (Ints.cells (hz.below (show Below w.heap.size w _ by (repeat' (first | (with_reducible exact Below.refl _ _) | (with_reducible assumption) | (with_reducible refine Below.alloc ?_ ?_ _) | (with_reducible refine Below.drew ?_) | (with_reducible refine below_drewN ?_ _) | (with_reducible refine Below.setCell ?_ ?_ _) | (with_reducible refine Below.trans ?_ (Below.mono (by with_reducible assumption) ?_)) | go_size))) (Nat.le_refl _))) (vals_one _ _) (by unfold maxLen; omega) (by omega) (by simp) ?_); intro v1 w1 hown1 hgr1 hn1; obtain ⟨x1, cap1, rfl⟩ := own_shape hown1 (fun h => by have := hn1 h; cases this); rw [Nat.zero_add, List.nil_append] at hown1; have hR1 := hid (RowF.of_owns hown1); have hB1 : Below w.heap.size w w1 := ((Below.refl w.heap.size w).alloc (Nat.le_refl _) _).grown hgr1 (by simp) (fun k e => by cases e; simp); clear hown1 hgr1 hn1) | (go_at_call 24; refine (c24n s (some ⟨x1, 0, none⟩) x1 0 n cap1 f _ hR1.out.ints (by omega) hph.out).mono ?_; rintro e w2 ⟨rfl, hB2⟩; have hB02 := hB1.trans (hB2.mono hB1.size); clear hB2) | (go_at_call 42; refine (c42n s A b o n c f _ (hz.below hB02 (Nat.le_refl _)) (by omega) hph.out).mono ?_; rintro e w3 ⟨rfl, hB3⟩; have hB03 := hB02.trans (hB3.mono hB02.size); clear hB3) | (go_at_call 21; refine (c21y none none 0 0 0 0 0 0 0 (fun _ => 0) _ ⟨fun k hk => absurd hk (Nat.not_lt_zero _), fun k hk => absurd hk (Nat.not_lt_zero _), fun k hk => absurd hk (Nat.not_lt_zero _)⟩ ⟨fun k hk => absurd hk (Nat.not_lt_zero _), fun k hk => absurd hk (Nat.not_lt_zero _), fun k hk => absurd hk (Nat.not_lt_zero _)⟩ (by omega)).mono ?_; rintro e w4 ⟨rfl, hB4⟩; have hB04 := hB03.trans (hB4.mono hB03.size)) | (go_at_call 14; refine (hwk.out _).mono ?_; rintro e w5 ⟨rfl, hB5⟩; have hB05 := hB04.trans (hB5.mono hB04.size)))
      go_returns
      exact ⟨rfl, hB05⟩
  · have hd : decide ((200 : Int) < (n : Int)) = true := decide_eq_true (by omega)
    have hd2 : decide (200 < n) = true := decide_eq_true (by omega)
    go_enter Try.func12, Try.ntmps12
    go_wp2_with (go_at_call 14; refine (hwk.out _).mono ?_; rintro e w5 ⟨rfl, hB5⟩)
    go_returns
    exact ⟨rfl, hB5⟩
end Go.Proofs.Ytljioabolacbeaa
