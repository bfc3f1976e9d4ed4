/- Stage 5: the law of one more parity symbol. -/
import Derived.Test.YtnndhibhnakdoaaDoorV
set_option linter.unusedSimpArgs false
set_option linter.unusedVariables false
namespace Go.Proofs.YtnndhibhnakdoaaDoor
open Go.RowKit Go.BigFrame Go.Sort
open Gf (S)

theorem c31z (n r : Nat) (w : World) (hT : Tab w) (h : vld (n : Nat) (r : Nat)) :
    Calls Tryd.prog 31 #[cv n r] w fun e w' => e = .returned (.tuple #[.int .i64 (acc n r : Nat), .int .i64 (off n r : Nat), .int .i64 0]) ∧ Below w.heap.size w w' :=
  (c31y n r w hT h).mono fun e w' ⟨he, hB⟩ => ⟨by
    rw [he]
    unfold acc off
    have e1 : ((ner n r : Nat) : Int) / 2 ^ tz (ner n r) = ((ner n r / 2 ^ tz (ner n r) : Nat) : Int) := by push_cast; rfl
    have e2 : ((16 ^ r : Nat) : Int) / 2 ^ tz (ner n r) = ((16 ^ r / 2 ^ tz (ner n r) : Nat) : Int) := by
      rw [Int.natCast_ediv, Int.natCast_pow]; rfl
    rw [e1, e2], hB⟩
theorem low_all : ∀ n : Fin 16, ∀ r : Fin 9, 1 ≤ r.val → r.val < n.val → (1 ≤ acc n.val r.val ∧ acc n.val r.val ≤ off n.val r.val ∧ (acc n.val r.val % 2 = 1 ∨ off n.val r.val % 2 = 1)) := by decide +kernel
/-- A code and the one with one more parity symbol, in boxes. -/
def Mo (L P Q : Int) (b : Nat) (w : World) : Prop := (w.cell? ⟨b, 0, none⟩ = some (.int .i64 L) ∧ w.cell? ⟨b, 1, none⟩ = some (.int .i64 P)) ∧ w.cell? ⟨b + 1, 0, none⟩ = some (.int .i64 L) ∧ w.cell? ⟨b + 1, 1, none⟩ = some (.int .i64 Q)
theorem Mo.below {L P Q : Int} {b B : Nat} {w w' : World} (h : Mo L P Q b w) (hb : Below B w w') (hB : b + 1 < B) : Mo L P Q b w' :=
  ⟨⟨(hb.cell (p := ⟨b, 0, none⟩) (show b < B by omega)).trans h.1.1, (hb.cell (p := ⟨b, 1, none⟩) (show b < B by omega)).trans h.1.2⟩, (hb.cell (p := ⟨b + 1, 0, none⟩) hB).trans h.2.1, (hb.cell (p := ⟨b + 1, 1, none⟩) hB).trans h.2.2⟩
/-- Two numbers in a box. -/
def Bx2 (L P : Int) (w : World) (b : Nat) : Prop := w.cell? ⟨b, 0, none⟩ = some (.int .i64 L) ∧ w.cell? ⟨b, 1, none⟩ = some (.int .i64 P)
theorem mo_new (L P Q : Int) (w : World) : Mo L P Q w.heap.size (((w.alloc (.cells #[.int .i64 L, .int .i64 P] 23)).alloc (.cells #[.int .i64 L, .int .i64 Q] 23))) := by
  have h1 : Bx2 L P (w.alloc (.cells #[.int .i64 L, .int .i64 P] 23)) w.heap.size := by unfold Bx2; simp
  have h2 : Bx2 L Q (((w.alloc (.cells #[.int .i64 L, .int .i64 P] 23)).alloc (.cells #[.int .i64 L, .int .i64 Q] 23))) (w.alloc (.cells #[.int .i64 L, .int .i64 P] 23)).heap.size := by unfold Bx2; simp
  rw [World.size_alloc] at h2
  have hb := (Below.refl (w.heap.size + 1) (w.alloc (.cells #[.int .i64 L, .int .i64 P] 23))).alloc (by rw [World.size_alloc]; exact Nat.le_refl _) (.cells #[.int .i64 L, .int .i64 Q] 23)
  exact ⟨⟨(hb.cell (p := ⟨w.heap.size, 0, none⟩) (Nat.lt_succ_self _)).trans h1.1, (hb.cell (p := ⟨w.heap.size, 1, none⟩) (Nat.lt_succ_self _)).trans h1.2⟩, h2⟩
set_option maxRecDepth 100000 in
set_option maxHeartbeats 4000000 in
theorem c13a (L P x : Int) (w : World) (hT : Tab w) (h : ¬ vld L P) : Calls Tryd.prog 13 #[.agg #[.int .i64 L, .int .i64 P], .int .i64 x] w fun e w' => e = .returned (.bool true) ∧ Below w.heap.size w w' := by
  have hh := hid h
  have hwk := hid c15
  have hTh := hid hT
  clear h hT
  go_enter Tryd.func13, Tryd.ntmps13
  go_wp2_with (first | (go_at_call 17; refine (c17n L P _ hh.out).mono ?_; rintro e w1 ⟨rfl, hB1⟩; have hB1 := hid (Below.trans (show Below w.heap.size w _ by (repeat' (first | (with_reducible exact Below.refl _ _) | (with_reducible assumption) | (with_reducible refine Below.alloc ?_ ?_ _) | (with_reducible refine Below.drew ?_) | (with_reducible refine below_drewN ?_ _) | (with_reducible refine Below.setCell ?_ ?_ _) | (with_reducible refine Below.trans ?_ (Below.mono (by with_reducible assumption) ?_)) | go_size))) (hB1.mono (by simp; omega)))) | (go_at_call 15; refine (hwk.out _ (hTh.out.below hB1.out (Nat.le_refl _))).mono ?_; rintro e w2 ⟨rfl, hB2⟩; have hB2 := hid (hB1.out.trans (hB2.mono hB1.out.size))))
  go_returns
  exact ⟨rfl, hB2.out⟩
theorem vld_of {L P : Int} (h : vld L P) : ∃ n r : Nat, L = (n : Nat) ∧ P = (r : Nat) := by
  unfold vld at h
  exact ⟨L.toNat, P.toNat, by omega, by omega⟩
set_option maxRecDepth 100000 in
set_option maxHeartbeats 4000000 in
theorem c13b (n r : Nat) (x : Int) (w : World) (hT : Tab w) (h : vld (n : Nat) (r : Nat)) (h2 : ¬ (vld (n : Nat) ((r : Int) + 1) ∧ 0 ≤ x ∧ x ≤ (n : Nat))) : Calls Tryd.prog 13 #[cv n r, .int .i64 x] w fun e w' => e = .returned (.bool true) ∧ Below w.heap.size w w' := by
  have hh := hid h
  have hn := vld_nat h
  have hwk := hid c15
  have hTh := hid hT
  have hB0 : Hid (Below w.heap.size w (((w.alloc (.cells #[.int .i64 (n : Nat), .int .i64 (r : Nat)] 23)).alloc (.cells #[.int .i64 (n : Nat), .int .i64 ((r : Int) + 1)] 23)))) := hid (by (repeat' (first | (with_reducible exact Below.refl _ _) | (with_reducible assumption) | (with_reducible refine Below.alloc ?_ ?_ _) | (with_reducible refine Below.drew ?_) | (with_reducible refine below_drewN ?_ _) | (with_reducible refine Below.setCell ?_ ?_ _) | (with_reducible refine Below.trans ?_ (Below.mono (by with_reducible assumption) ?_)) | go_size)))
  have hM0 : Hid (Mo (n : Nat) (r : Nat) ((r : Int) + 1) w.heap.size (((w.alloc (.cells #[.int .i64 (n : Nat), .int .i64 (r : Nat)] 23)).alloc (.cells #[.int .i64 (n : Nat), .int .i64 ((r : Int) + 1)] 23)))) := hid (mo_new _ _ _ w)
  clear h hT
  by_cases hv : vld (n : Nat) ((r : Int) + 1)
  · have hvh := hid hv
    have hx : x < 0 ∨ (0 ≤ x ∧ (n : Int) < x) := Classical.byContradiction fun hc => h2 ⟨hv, by omega, by omega⟩
    clear hv h2
    rcases hx with hx | ⟨hx0, hx⟩
    · have d1 : decide (x < 0) = true := decide_eq_true hx
      go_enter Tryd.func13, Tryd.ntmps13
      go_wp2_with (first | (go_at_call 17; (with_reducible refine (c17y (n : Nat) ((r : Int) + 1) _ hvh.out).mono ?_); rintro e w2 ⟨rfl, hB2⟩; have hM2 := hid (hM1.out.below hB2 (by omega)); obtain ⟨⟨p0, p1⟩, p2, p3⟩ := hM2.out; have hB2 := hid (hB1.out.trans (hB2.mono hB1.out.size))) | (go_at_call 17; (with_reducible refine (c17y (n : Nat) (r : Nat) _ hh.out).mono ?_); rintro e w1 ⟨rfl, hB1⟩; have hM1 := hid (hM0.out.below hB1 (by simp)); obtain ⟨⟨p0, p1⟩, p2, p3⟩ := hM1.out; have hs1 := hB1.size; simp at hs1; have hB1 := hid (hB0.out.trans (hB1.mono (by simp; omega)))) | (go_at_call 15; refine (hwk.out _ (hTh.out.below hB2.out (Nat.le_refl _))).mono ?_; rintro e w3 ⟨rfl, hB3⟩; have hB3 := hid (hB2.out.trans (hB3.mono hB2.out.size))))
      go_returns
      exact ⟨rfl, hB3.out⟩
    · have d1 : decide (x < 0) = false := decide_eq_false (by omega)
      have d2 : decide ((n : Int) < x) = true := decide_eq_true hx
      go_enter Tryd.func13, Tryd.ntmps13
      go_wp2_with (first | (go_at_call 17; (with_reducible refine (c17y (n : Nat) ((r : Int) + 1) _ hvh.out).mono ?_); rintro e w2 ⟨rfl, hB2⟩; have hM2 := hid (hM1.out.below hB2 (by omega)); obtain ⟨⟨p0, p1⟩, p2, p3⟩ := hM2.out; have hB2 := hid (hB1.out.trans (hB2.mono hB1.out.size))) | (go_at_call 17; (with_reducible refine (c17y (n : Nat) (r : Nat) _ hh.out).mono ?_); rintro e w1 ⟨rfl, hB1⟩; have hM1 := hid (hM0.out.below hB1 (by simp)); obtain ⟨⟨p0, p1⟩, p2, p3⟩ := hM1.out; have hs1 := hB1.size; simp at hs1; have hB1 := hid (hB0.out.trans (hB1.mono (by simp; omega)))) | (go_at_call 15; refine (hwk.out _ (hTh.out.below hB2.out (Nat.le_refl _))).mono ?_; rintro e w3 ⟨rfl, hB3⟩; have hB3 := hid (hB2.out.trans (hB3.mono hB2.out.size))))
      go_returns
      exact ⟨rfl, hB3.out⟩
  · have hvh := hid hv
    clear hv h2
    go_enter Tryd.func13, Tryd.ntmps13
    go_wp2_with (first | (go_at_call 17; (with_reducible refine (c17n (n : Nat) ((r : Int) + 1) _ hvh.out).mono ?_); rintro e w2 ⟨rfl, hB2⟩; have hB2 := hid (hB1.out.trans (hB2.mono hB1.out.size))) | (go_at_call 17; (with_reducible refine (c17y (n : Nat) (r : Nat) _ hh.out).mono ?_); rintro e w1 ⟨rfl, hB1⟩; have hM1 := hid (hM0.out.below hB1 (by simp)); obtain ⟨⟨p0, p1⟩, p2, p3⟩ := hM1.out; have hs1 := hB1.size; simp at hs1; have hB1 := hid (hB0.out.trans (hB1.mono (by simp; omega)))) | (go_at_call 15; refine (hwk.out _ (hTh.out.below hB2.out (Nat.le_refl _))).mono ?_; rintro e w3 ⟨rfl, hB3⟩; have hB3 := hid (hB2.out.trans (hB3.mono hB2.out.size))))
    go_returns
    exact ⟨rfl, hB3.out⟩
set_option maxRecDepth 100000 in
set_option maxHeartbeats 8000000 in
theorem c13_11 (n r : Nat) (x : Int) (w : World) (hT : Tab w) (h : vld (n : Nat) (r : Nat)) (hv : vld (n : Nat) ((r : Int) + 1)) (hx : 0 ≤ x ∧ x ≤ (n : Nat)) (ha : foo r x) (hb : foo (r + 1) x) : Calls Tryd.prog 13 #[cv n r, .int .i64 x] w fun e w' => e = .returned (.bool true) ∧ Below w.heap.size w w' := by
  have hh := hid h
  have hn := vld_nat h
  have hr8 : r < 8 := by unfold vld at hv; omega
  have hrn : r + 1 < n := by unfold vld at hv; omega
  have hwk := hid c15
  have hTh := hid hT
  have hB0 : Hid (Below w.heap.size w (((w.alloc (.cells #[.int .i64 (n : Nat), .int .i64 (r : Nat)] 23)).alloc (.cells #[.int .i64 (n : Nat), .int .i64 ((r : Int) + 1)] 23)))) := hid (by (repeat' (first | (with_reducible exact Below.refl _ _) | (with_reducible assumption) | (with_reducible refine Below.alloc ?_ ?_ _) | (with_reducible refine Below.drew ?_) | (with_reducible refine below_drewN ?_ _) | (with_reducible refine Below.setCell ?_ ?_ _) | (with_reducible refine Below.trans ?_ (Below.mono (by with_reducible assumption) ?_)) | go_size)))
  have hM0 : Hid (Mo (n : Nat) (r : Nat) ((r : Int) + 1) w.heap.size (((w.alloc (.cells #[.int .i64 (n : Nat), .int .i64 (r : Nat)] 23)).alloc (.cells #[.int .i64 (n : Nat), .int .i64 ((r : Int) + 1)] 23)))) := hid (mo_new _ _ _ w)
  have hvh := hid hv
  have hv2 : Hid (vld (n : Nat) ((r + 1 : Nat) : Int)) := hid (by push_cast; exact hv)
  obtain ⟨k1, k2, k3⟩ := low_all ⟨n, by omega⟩ ⟨r, by omega⟩ hn.2.2.1 hn.2.2.2.2
  have d1 : decide (x < 0) = false := decide_eq_false (by omega)
  have d2 : decide ((n : Int) < x) = false := decide_eq_false (by omega)
  have cA := fun W => c29y n r x W h hx ha
  have cB := fun W => c29y n (r + 1) x W hv2.out hx hb
  have cC := fun W => c27y n r 1 W h (by decide)
  have cD := fun W => c27y n (r + 1) 1 W hv2.out (by decide)
  have cE := fun W hW => c31z n r W hW h
  simp only [Nat.one_mul, Int.natCast_add, Int.cast_ofNat_Int, cv, wv] at cA cB cC cD
  obtain ⟨u, hu⟩ : ∃ u, u = r / 2 := ⟨_, rfl⟩
  obtain ⟨v, hvv⟩ : ∃ v, v = (r + 1) / 2 := ⟨_, rfl⟩
  obtain ⟨ac, hac⟩ : ∃ ac, ac = acc n r := ⟨_, rfl⟩
  obtain ⟨of, hof⟩ : ∃ of, of = off n r := ⟨_, rfl⟩
  have huv : u ≤ v := by omega
  rw [← hu] at cC
  rw [← hvv] at cD
  rw [← hac, ← hof] at cE
  simp only [← hac, ← hof] at k1 k2 k3
  have e1 : decide ((v : Int) < (u : Int)) = false := decide_eq_false (by omega)
  have e1' : decide (v < u) = false := decide_eq_false (by omega)
  have e2 : decide ((1 : Int) ≤ (ac : Int)) = true := decide_eq_true (by omega)
  have e3 : decide ((ac : Int) ≤ (of : Int)) = true := decide_eq_true (by omega)
  have e3' : decide (ac ≤ of) = true := decide_eq_true (by omega)
  have k3h := hid k3
  have cAh := hid cA
  have cBh := hid cB
  have cCh := hid cC
  have cDh := hid cD
  have cEh := hid cE
  clear h hT ha hb hv hu hvv hac hof cA cB cC cD cE k3 k1 k2
  have t3 : (((ac : Int) % 2 == 1) = true) ∨ (((ac : Int) % 2 == 1) = false ∧ ((of : Int) % 2 == 1) = true) := by
    rcases k3h.out with e | e
    · exact .inl (by simp; omega)
    · by_cases e2 : ac % 2 = 1
      · exact .inl (by simp; omega)
      · exact .inr ⟨by simp; omega, by simp; omega⟩
  go_enter Tryd.func13, Tryd.ntmps13
  rcases t3 with t3 | ⟨t3, t4⟩
  all_goals (
    go_wp2_with (first | (go_at_call 17; (with_reducible refine (c17y (n : Nat) ((r : Int) + 1) _ hvh.out).mono ?_); rintro e w2 ⟨rfl, hB2⟩; have hM2 := hid (hM1.out.below hB2 (by omega)); obtain ⟨⟨p0, p1⟩, p2, p3⟩ := hM2.out; have hs2 := hB2.size; have hB2 := hid (hB1.out.trans (hB2.mono hB1.out.size))) | (go_at_call 17; (with_reducible refine (c17y (n : Nat) (r : Nat) _ hh.out).mono ?_); rintro e w1 ⟨rfl, hB1⟩; have hM1 := hid (hM0.out.below hB1 (by simp)); obtain ⟨⟨p0, p1⟩, p2, p3⟩ := hM1.out; have hs1 := hB1.size; simp at hs1; have hB1 := hid (hB0.out.trans (hB1.mono (by simp; omega)))) | (go_at_call 29; (with_reducible refine (cBh.out w3).mono ?_); rintro e w4 ⟨rfl, hB4⟩; have hM4 := hid (hM3.out.below hB4 (by omega)); obtain ⟨⟨p0, p1⟩, p2, p3⟩ := hM4.out; have hs4 := hB4.size; have hB4 := hid (hB3.out.trans (hB4.mono hB3.out.size))) | (go_at_call 29; (with_reducible refine (cAh.out w2).mono ?_); rintro e w3 ⟨rfl, hB3⟩; have hM3 := hid (hM2.out.below hB3 (by omega)); obtain ⟨⟨p0, p1⟩, p2, p3⟩ := hM3.out; have hs3 := hB3.size; have hB3 := hid (hB2.out.trans (hB3.mono hB2.out.size))) | (go_at_call 27; (with_reducible refine (cDh.out w5).mono ?_); rintro e w6 ⟨rfl, hB6⟩; have hM6 := hid (hM5.out.below hB6 (by omega)); obtain ⟨⟨p0, p1⟩, p2, p3⟩ := hM6.out; have hs6 := hB6.size; have hB6 := hid (hB5.out.trans (hB6.mono hB5.out.size))) | (go_at_call 27; (with_reducible refine (cCh.out w4).mono ?_); rintro e w5 ⟨rfl, hB5⟩; have hM5 := hid (hM4.out.below hB5 (by omega)); obtain ⟨⟨p0, p1⟩, p2, p3⟩ := hM5.out; have hs5 := hB5.size; have hB5 := hid (hB4.out.trans (hB5.mono hB4.out.size))) | (go_at_call 31; (with_reducible refine (cEh.out w6 (hTh.out.below hB6.out (Nat.le_refl _))).mono ?_); rintro e w7 ⟨rfl, hB7⟩; have hB7 := hid (hB6.out.trans (hB7.mono hB6.out.size))) | (go_at_call 15; refine (hwk.out _ (hTh.out.below hB7.out (Nat.le_refl _))).mono ?_; rintro e w8 ⟨rfl, hB8⟩; have hB8 := hid (hB7.out.trans (hB8.mono hB7.out.size)))))
  all_goals (go_returns; exact ⟨rfl, hB8.out⟩)
set_option maxRecDepth 100000 in
set_option maxHeartbeats 8000000 in
theorem c13_10 (n r : Nat) (x : Int) (w : World) (hT : Tab w) (h : vld (n : Nat) (r : Nat)) (hv : vld (n : Nat) ((r : Int) + 1)) (hx : 0 ≤ x ∧ x ≤ (n : Nat)) (ha : foo r x) (hb : ¬ foo (r + 1) x) : Calls Tryd.prog 13 #[cv n r, .int .i64 x] w fun e w' => e = .returned (.bool true) ∧ Below w.heap.size w w' := by
  have hh := hid h
  have hn := vld_nat h
  have hr8 : r < 8 := by unfold vld at hv; omega
  have hrn : r + 1 < n := by unfold vld at hv; omega
  have hwk := hid c15
  have hTh := hid hT
  have hB0 : Hid (Below w.heap.size w (((w.alloc (.cells #[.int .i64 (n : Nat), .int .i64 (r : Nat)] 23)).alloc (.cells #[.int .i64 (n : Nat), .int .i64 ((r : Int) + 1)] 23)))) := hid (by (repeat' (first | (with_reducible exact Below.refl _ _) | (with_reducible assumption) | (with_reducible refine Below.alloc ?_ ?_ _) | (with_reducible refine Below.drew ?_) | (with_reducible refine below_drewN ?_ _) | (with_reducible refine Below.setCell ?_ ?_ _) | (with_reducible refine Below.trans ?_ (Below.mono (by with_reducible assumption) ?_)) | go_size)))
  have hM0 : Hid (Mo (n : Nat) (r : Nat) ((r : Int) + 1) w.heap.size (((w.alloc (.cells #[.int .i64 (n : Nat), .int .i64 (r : Nat)] 23)).alloc (.cells #[.int .i64 (n : Nat), .int .i64 ((r : Int) + 1)] 23)))) := hid (mo_new _ _ _ w)
  have hvh := hid hv
  have hv2 : Hid (vld (n : Nat) ((r + 1 : Nat) : Int)) := hid (by push_cast; exact hv)
  obtain ⟨k1, k2, k3⟩ := low_all ⟨n, by omega⟩ ⟨r, by omega⟩ hn.2.2.1 hn.2.2.2.2
  have d1 : decide (x < 0) = false := decide_eq_false (by omega)
  have d2 : decide ((n : Int) < x) = false := decide_eq_false (by omega)
  have cA := fun W => c29y n r x W h hx ha
  have cB := fun W => c29n n (r + 1) x W hv2.out hx hb
  have cC := fun W => c27y n r 1 W h (by decide)
  have cD := fun W => c27y n (r + 1) 1 W hv2.out (by decide)
  have cE := fun W hW => c31z n r W hW h
  simp only [Nat.one_mul, Int.natCast_add, Int.cast_ofNat_Int, cv, wv] at cA cB cC cD
  obtain ⟨u, hu⟩ : ∃ u, u = r / 2 := ⟨_, rfl⟩
  obtain ⟨v, hvv⟩ : ∃ v, v = (r + 1) / 2 := ⟨_, rfl⟩
  obtain ⟨ac, hac⟩ : ∃ ac, ac = acc n r := ⟨_, rfl⟩
  obtain ⟨of, hof⟩ : ∃ of, of = off n r := ⟨_, rfl⟩
  have huv : u ≤ v := by omega
  rw [← hu] at cC
  rw [← hvv] at cD
  rw [← hac, ← hof] at cE
  simp only [← hac, ← hof] at k1 k2 k3
  have e1 : decide ((v : Int) < (u : Int)) = false := decide_eq_false (by omega)
  have e1' : decide (v < u) = false := decide_eq_false (by omega)
  have e2 : decide ((1 : Int) ≤ (ac : Int)) = true := decide_eq_true (by omega)
  have e3 : decide ((ac : Int) ≤ (of : Int)) = true := decide_eq_true (by omega)
  have e3' : decide (ac ≤ of) = true := decide_eq_true (by omega)
  have k3h := hid k3
  have cAh := hid cA
  have cBh := hid cB
  have cCh := hid cC
  have cDh := hid cD
  have cEh := hid cE
  clear h hT ha hb hv hu hvv hac hof cA cB cC cD cE k3 k1 k2
  have t3 : (((ac : Int) % 2 == 1) = true) ∨ (((ac : Int) % 2 == 1) = false ∧ ((of : Int) % 2 == 1) = true) := by
    rcases k3h.out with e | e
    · exact .inl (by simp; omega)
    · by_cases e2 : ac % 2 = 1
      · exact .inl (by simp; omega)
      · exact .inr ⟨by simp; omega, by simp; omega⟩
  go_enter Tryd.func13, Tryd.ntmps13
  rcases t3 with t3 | ⟨t3, t4⟩
  all_goals (
    go_wp2_with (first | (go_at_call 17; (with_reducible refine (c17y (n : Nat) ((r : Int) + 1) _ hvh.out).mono ?_); rintro e w2 ⟨rfl, hB2⟩; have hM2 := hid (hM1.out.below hB2 (by omega)); obtain ⟨⟨p0, p1⟩, p2, p3⟩ := hM2.out; have hs2 := hB2.size; have hB2 := hid (hB1.out.trans (hB2.mono hB1.out.size))) | (go_at_call 17; (with_reducible refine (c17y (n : Nat) (r : Nat) _ hh.out).mono ?_); rintro e w1 ⟨rfl, hB1⟩; have hM1 := hid (hM0.out.below hB1 (by simp)); obtain ⟨⟨p0, p1⟩, p2, p3⟩ := hM1.out; have hs1 := hB1.size; simp at hs1; have hB1 := hid (hB0.out.trans (hB1.mono (by simp; omega)))) | (go_at_call 29; (with_reducible refine (cBh.out w3).mono ?_); rintro e w4 ⟨rfl, hB4⟩; have hM4 := hid (hM3.out.below hB4 (by omega)); obtain ⟨⟨p0, p1⟩, p2, p3⟩ := hM4.out; have hs4 := hB4.size; have hB4 := hid (hB3.out.trans (hB4.mono hB3.out.size))) | (go_at_call 29; (with_reducible refine (cAh.out w2).mono ?_); rintro e w3 ⟨rfl, hB3⟩; have hM3 := hid (hM2.out.below hB3 (by omega)); obtain ⟨⟨p0, p1⟩, p2, p3⟩ := hM3.out; have hs3 := hB3.size; have hB3 := hid (hB2.out.trans (hB3.mono hB2.out.size))) | (go_at_call 27; (with_reducible refine (cDh.out w5).mono ?_); rintro e w6 ⟨rfl, hB6⟩; have hM6 := hid (hM5.out.below hB6 (by omega)); obtain ⟨⟨p0, p1⟩, p2, p3⟩ := hM6.out; have hs6 := hB6.size; have hB6 := hid (hB5.out.trans (hB6.mono hB5.out.size))) | (go_at_call 27; (with_reducible refine (cCh.out w4).mono ?_); rintro e w5 ⟨rfl, hB5⟩; have hM5 := hid (hM4.out.below hB5 (by omega)); obtain ⟨⟨p0, p1⟩, p2, p3⟩ := hM5.out; have hs5 := hB5.size; have hB5 := hid (hB4.out.trans (hB5.mono hB4.out.size))) | (go_at_call 31; (with_reducible refine (cEh.out w6 (hTh.out.below hB6.out (Nat.le_refl _))).mono ?_); rintro e w7 ⟨rfl, hB7⟩; have hB7 := hid (hB6.out.trans (hB7.mono hB6.out.size))) | (go_at_call 15; refine (hwk.out _ (hTh.out.below hB7.out (Nat.le_refl _))).mono ?_; rintro e w8 ⟨rfl, hB8⟩; have hB8 := hid (hB7.out.trans (hB8.mono hB7.out.size)))))
  all_goals (go_returns; exact ⟨rfl, hB8.out⟩)
set_option maxRecDepth 100000 in
set_option maxHeartbeats 8000000 in
theorem c13_00 (n r : Nat) (x : Int) (w : World) (hT : Tab w) (h : vld (n : Nat) (r : Nat)) (hv : vld (n : Nat) ((r : Int) + 1)) (hx : 0 ≤ x ∧ x ≤ (n : Nat)) (ha : ¬ foo r x) (hb : ¬ foo (r + 1) x) : Calls Tryd.prog 13 #[cv n r, .int .i64 x] w fun e w' => e = .returned (.bool true) ∧ Below w.heap.size w w' := by
  have hh := hid h
  have hn := vld_nat h
  have hr8 : r < 8 := by unfold vld at hv; omega
  have hrn : r + 1 < n := by unfold vld at hv; omega
  have hwk := hid c15
  have hTh := hid hT
  have hB0 : Hid (Below w.heap.size w (((w.alloc (.cells #[.int .i64 (n : Nat), .int .i64 (r : Nat)] 23)).alloc (.cells #[.int .i64 (n : Nat), .int .i64 ((r : Int) + 1)] 23)))) := hid (by (repeat' (first | (with_reducible exact Below.refl _ _) | (with_reducible assumption) | (with_reducible refine Below.alloc ?_ ?_ _) | (with_reducible refine Below.drew ?_) | (with_reducible refine below_drewN ?_ _) | (with_reducible refine Below.setCell ?_ ?_ _) | (with_reducible refine Below.trans ?_ (Below.mono (by with_reducible assumption) ?_)) | go_size)))
  have hM0 : Hid (Mo (n : Nat) (r : Nat) ((r : Int) + 1) w.heap.size (((w.alloc (.cells #[.int .i64 (n : Nat), .int .i64 (r : Nat)] 23)).alloc (.cells #[.int .i64 (n : Nat), .int .i64 ((r : Int) + 1)] 23)))) := hid (mo_new _ _ _ w)
  have hvh := hid hv
  have hv2 : Hid (vld (n : Nat) ((r + 1 : Nat) : Int)) := hid (by push_cast; exact hv)
  obtain ⟨k1, k2, k3⟩ := low_all ⟨n, by omega⟩ ⟨r, by omega⟩ hn.2.2.1 hn.2.2.2.2
  have d1 : decide (x < 0) = false := decide_eq_false (by omega)
  have d2 : decide ((n : Int) < x) = false := decide_eq_false (by omega)
  have cA := fun W => c29n n r x W h hx ha
  have cB := fun W => c29n n (r + 1) x W hv2.out hx hb
  have cC := fun W => c27y n r 1 W h (by decide)
  have cD := fun W => c27y n (r + 1) 1 W hv2.out (by decide)
  have cE := fun W hW => c31z n r W hW h
  simp only [Nat.one_mul, Int.natCast_add, Int.cast_ofNat_Int, cv, wv] at cA cB cC cD
  obtain ⟨u, hu⟩ : ∃ u, u = r / 2 := ⟨_, rfl⟩
  obtain ⟨v, hvv⟩ : ∃ v, v = (r + 1) / 2 := ⟨_, rfl⟩
  obtain ⟨ac, hac⟩ : ∃ ac, ac = acc n r := ⟨_, rfl⟩
  obtain ⟨of, hof⟩ : ∃ of, of = off n r := ⟨_, rfl⟩
  have huv : u ≤ v := by omega
  rw [← hu] at cC
  rw [← hvv] at cD
  rw [← hac, ← hof] at cE
  simp only [← hac, ← hof] at k1 k2 k3
  have e1 : decide ((v : Int) < (u : Int)) = false := decide_eq_false (by omega)
  have e1' : decide (v < u) = false := decide_eq_false (by omega)
  have e2 : decide ((1 : Int) ≤ (ac : Int)) = true := decide_eq_true (by omega)
  have e3 : decide ((ac : Int) ≤ (of : Int)) = true := decide_eq_true (by omega)
  have e3' : decide (ac ≤ of) = true := decide_eq_true (by omega)
  have k3h := hid k3
  have cAh := hid cA
  have cBh := hid cB
  have cCh := hid cC
  have cDh := hid cD
  have cEh := hid cE
  clear h hT ha hb hv hu hvv hac hof cA cB cC cD cE k3 k1 k2
  have t3 : (((ac : Int) % 2 == 1) = true) ∨ (((ac : Int) % 2 == 1) = false ∧ ((of : Int) % 2 == 1) = true) := by
    rcases k3h.out with e | e
    · exact .inl (by simp; omega)
    · by_cases e2 : ac % 2 = 1
      · exact .inl (by simp; omega)
      · exact .inr ⟨by simp; omega, by simp; omega⟩
  go_enter Tryd.func13, Tryd.ntmps13
  rcases t3 with t3 | ⟨t3, t4⟩
  all_goals (
    go_wp2_with (first | (go_at_call 17; (with_reducible refine (c17y (n : Nat) ((r : Int) + 1) _ hvh.out).mono ?_); rintro e w2 ⟨rfl, hB2⟩; have hM2 := hid (hM1.out.below hB2 (by omega)); obtain ⟨⟨p0, p1⟩, p2, p3⟩ := hM2.out; have hs2 := hB2.size; have hB2 := hid (hB1.out.trans (hB2.mono hB1.out.size))) | (go_at_call 17; (with_reducible refine (c17y (n : Nat) (r : Nat) _ hh.out).mono ?_); rintro e w1 ⟨rfl, hB1⟩; have hM1 := hid (hM0.out.below hB1 (by simp)); obtain ⟨⟨p0, p1⟩, p2, p3⟩ := hM1.out; have hs1 := hB1.size; simp at hs1; have hB1 := hid (hB0.out.trans (hB1.mono (by simp; omega)))) | (go_at_call 29; (with_reducible refine (cBh.out w3).mono ?_); rintro e w4 ⟨rfl, hB4⟩; have hM4 := hid (hM3.out.below hB4 (by omega)); obtain ⟨⟨p0, p1⟩, p2, p3⟩ := hM4.out; have hs4 := hB4.size; have hB4 := hid (hB3.out.trans (hB4.mono hB3.out.size))) | (go_at_call 29; (with_reducible refine (cAh.out w2).mono ?_); rintro e w3 ⟨rfl, hB3⟩; have hM3 := hid (hM2.out.below hB3 (by omega)); obtain ⟨⟨p0, p1⟩, p2, p3⟩ := hM3.out; have hs3 := hB3.size; have hB3 := hid (hB2.out.trans (hB3.mono hB2.out.size))) | (go_at_call 27; (with_reducible refine (cDh.out w5).mono ?_); rintro e w6 ⟨rfl, hB6⟩; have hM6 := hid (hM5.out.below hB6 (by omega)); obtain ⟨⟨p0, p1⟩, p2, p3⟩ := hM6.out; have hs6 := hB6.size; have hB6 := hid (hB5.out.trans (hB6.mono hB5.out.size))) | (go_at_call 27; (with_reducible refine (cCh.out w4).mono ?_); rintro e w5 ⟨rfl, hB5⟩; have hM5 := hid (hM4.out.below hB5 (by omega)); obtain ⟨⟨p0, p1⟩, p2, p3⟩ := hM5.out; have hs5 := hB5.size; have hB5 := hid (hB4.out.trans (hB5.mono hB4.out.size))) | (go_at_call 31; (with_reducible refine (cEh.out w6 (hTh.out.below hB6.out (Nat.le_refl _))).mono ?_); rintro e w7 ⟨rfl, hB7⟩; have hB7 := hid (hB6.out.trans (hB7.mono hB6.out.size))) | (go_at_call 15; refine (hwk.out _ (hTh.out.below hB7.out (Nat.le_refl _))).mono ?_; rintro e w8 ⟨rfl, hB8⟩; have hB8 := hid (hB7.out.trans (hB8.mono hB7.out.size)))))
  all_goals (go_returns; exact ⟨rfl, hB8.out⟩)
theorem foo_mono {r : Nat} {x : Int} (h : foo (r + 1) x) : foo r x := by unfold foo at h ⊢; omega
theorem c13 (L P x : Int) (w : World) (hT : Tab w) : Calls Tryd.prog 13 #[.agg #[.int .i64 L, .int .i64 P], .int .i64 x] w fun e w' => e = .returned (.bool true) ∧ Below w.heap.size w w' := by
  by_cases h : vld L P
  · obtain ⟨n, r, rfl, rfl⟩ := vld_of h
    by_cases h2 : vld (n : Nat) ((r : Int) + 1) ∧ 0 ≤ x ∧ x ≤ (n : Nat)
    · by_cases ha : foo r x
      · by_cases hb : foo (r + 1) x
        · exact c13_11 n r x w hT h h2.1 h2.2 ha hb
        · exact c13_10 n r x w hT h h2.1 h2.2 ha hb
      · exact c13_00 n r x w hT h h2.1 h2.2 ha (fun hb => ha (foo_mono hb))
    · exact c13b n r x w hT h h2
  · exact c13a L P x w hT h
end Go.Proofs.YtnndhibhnakdoaaDoor
