/- Stage 5: the law of the noise. -/
import Derived.Test.YtnndhibhnakdoaaDoorW
set_option linter.unusedSimpArgs false
set_option linter.unusedVariables false
namespace Go.Proofs.YtnndhibhnakdoaaDoor
open Go.RowKit Go.BigFrame Go.Sort
open Gf (S)

set_option maxHeartbeats 1000000 in
theorem c70y (n r : Nat) (x : Int) (w : World) (hr : r ≤ 8) (hx : 0 ≤ x ∧ x ≤ 15) (hf : foo r x) : Calls Tryd.prog 70 #[cv n r, .int .i64 x] w fun e w' => e = .returned (.bool true) ∧ Below w.heap.size w w' := by
  have d1 : decide ((r : Int) < x + (r : Int) / 2) = true := decide_eq_true (by unfold foo at hf; omega)
  obtain ⟨h1, h2⟩ := hx
  go_enter Tryd.func70, Tryd.ntmps70
  go_wp2_with fail
  go_returns
  exact ⟨rfl, by (repeat' (first | (with_reducible exact Below.refl _ _) | (with_reducible assumption) | (with_reducible refine Below.alloc ?_ ?_ _) | (with_reducible refine Below.drew ?_) | (with_reducible refine below_drewN ?_ _) | (with_reducible refine Below.setCell ?_ ?_ _) | (with_reducible refine Below.trans ?_ (Below.mono (by with_reducible assumption) ?_)) | go_size))⟩
set_option maxHeartbeats 1000000 in
theorem c70n (n r : Nat) (x : Int) (w : World) (hr : r ≤ 8) (hx : 0 ≤ x ∧ x ≤ 15) (hf : ¬ foo r x) : Calls Tryd.prog 70 #[cv n r, .int .i64 x] w fun e w' => e = .returned (.bool false) ∧ Below w.heap.size w w' := by
  have d1 : decide ((r : Int) < x + (r : Int) / 2) = false := decide_eq_false (by unfold foo at hf; omega)
  obtain ⟨h1, h2⟩ := hx
  go_enter Tryd.func70, Tryd.ntmps70
  go_wp2_with fail
  go_returns
  exact ⟨rfl, by (repeat' (first | (with_reducible exact Below.refl _ _) | (with_reducible assumption) | (with_reducible refine Below.alloc ?_ ?_ _) | (with_reducible refine Below.drew ?_) | (with_reducible refine below_drewN ?_ _) | (with_reducible refine Below.setCell ?_ ?_ _) | (with_reducible refine Below.trans ?_ (Below.mono (by with_reducible assumption) ?_)) | go_size))⟩
set_option maxHeartbeats 1000000 in
theorem c30e (L P x : Int) (w : World) (h : ¬ vld L P) : Calls Tryd.prog 30 #[.agg #[.int .i64 L, .int .i64 P], .int .i64 x] w fun e w' => e = .returned (.tuple #[.bool false, .int .i64 50]) ∧ Below w.heap.size w w' := by
  have hh := hid h
  have hB0 : Hid (Below w.heap.size w ((w.alloc (.cells #[.int .i64 L, .int .i64 P] 23)))) := hid (by (repeat' (first | (with_reducible exact Below.refl _ _) | (with_reducible assumption) | (with_reducible refine Below.alloc ?_ ?_ _) | (with_reducible refine Below.drew ?_) | (with_reducible refine below_drewN ?_ _) | (with_reducible refine Below.setCell ?_ ?_ _) | (with_reducible refine Below.trans ?_ (Below.mono (by with_reducible assumption) ?_)) | go_size)))
  clear h
  go_enter Tryd.func30, Tryd.ntmps30
  go_wp2_with (go_at_call 17; refine (c17n L P _ hh.out).mono ?_; rintro e w1 ⟨rfl, hB1⟩; have hB1 := hid (hB0.out.trans (hB1.mono (by simp))))
  go_returns
  exact ⟨rfl, hB1.out⟩
set_option maxHeartbeats 1000000 in
theorem c30y (n r : Nat) (x : Int) (w : World) (h : vld (n : Nat) (r : Nat)) (hx : 0 ≤ x ∧ x ≤ (n : Nat)) (hf : foo r x) : Calls Tryd.prog 30 #[cv n r, .int .i64 x] w fun e w' => e = .returned (.tuple #[.bool true, .int .i64 0]) ∧ Below w.heap.size w w' := by
  have hh := hid h
  have hn := vld_nat h
  have hxh := hid hx
  have hfh := hid hf
  have hB0 : Hid (Below w.heap.size w ((w.alloc (.cells #[.int .i64 (n : Nat), .int .i64 (r : Nat)] 23)))) := hid (by (repeat' (first | (with_reducible exact Below.refl _ _) | (with_reducible assumption) | (with_reducible refine Below.alloc ?_ ?_ _) | (with_reducible refine Below.drew ?_) | (with_reducible refine below_drewN ?_ _) | (with_reducible refine Below.setCell ?_ ?_ _) | (with_reducible refine Below.trans ?_ (Below.mono (by with_reducible assumption) ?_)) | go_size)))
  have hX0 : Hid (Bx n r ((w.alloc (.cells #[.int .i64 (n : Nat), .int .i64 (r : Nat)] 23))) w.heap.size) := hid (Bx.new n r w 23)
  clear h hx hf
  go_enter Tryd.func30, Tryd.ntmps30
  go_wp2_with (first | (go_at_call 17; (with_reducible refine (c17y (n : Nat) (r : Nat) _ hh.out).mono ?_); rintro e w1 ⟨rfl, hB1⟩; have hX1 := hid (hX0.out.below hB1 (by simp)); obtain ⟨p0, p1⟩ := hX1.out; have hB11 := hid (hB0.out.trans (hB1.mono (by simp)))) | (go_at_call 45; refine (c45y _ hxh.out).mono ?_; rintro e w' ⟨rfl, rfl⟩) | (go_at_call 70; refine (c70y n r x _ (by omega) (by have := hxh.out; omega) hfh.out).mono ?_; rintro e w2 ⟨rfl, hB2⟩; have hB2 := hid (hB11.out.trans (hB2.mono hB11.out.size))))
  go_returns
  exact ⟨rfl, hB2.out⟩
set_option maxHeartbeats 1000000 in
theorem c30n (n r : Nat) (x : Int) (w : World) (h : vld (n : Nat) (r : Nat)) (hx : 0 ≤ x ∧ x ≤ (n : Nat)) (hf : ¬ foo r x) : Calls Tryd.prog 30 #[cv n r, .int .i64 x] w fun e w' => e = .returned (.tuple #[.bool false, .int .i64 0]) ∧ Below w.heap.size w w' := by
  have hh := hid h
  have hn := vld_nat h
  have hxh := hid hx
  have hfh := hid hf
  have hB0 : Hid (Below w.heap.size w ((w.alloc (.cells #[.int .i64 (n : Nat), .int .i64 (r : Nat)] 23)))) := hid (by (repeat' (first | (with_reducible exact Below.refl _ _) | (with_reducible assumption) | (with_reducible refine Below.alloc ?_ ?_ _) | (with_reducible refine Below.drew ?_) | (with_reducible refine below_drewN ?_ _) | (with_reducible refine Below.setCell ?_ ?_ _) | (with_reducible refine Below.trans ?_ (Below.mono (by with_reducible assumption) ?_)) | go_size)))
  have hX0 : Hid (Bx n r ((w.alloc (.cells #[.int .i64 (n : Nat), .int .i64 (r : Nat)] 23))) w.heap.size) := hid (Bx.new n r w 23)
  clear h hx hf
  go_enter Tryd.func30, Tryd.ntmps30
  go_wp2_with (first | (go_at_call 17; (with_reducible refine (c17y (n : Nat) (r : Nat) _ hh.out).mono ?_); rintro e w1 ⟨rfl, hB1⟩; have hX1 := hid (hX0.out.below hB1 (by simp)); obtain ⟨p0, p1⟩ := hX1.out; have hB11 := hid (hB0.out.trans (hB1.mono (by simp)))) | (go_at_call 45; refine (c45y _ hxh.out).mono ?_; rintro e w' ⟨rfl, rfl⟩) | (go_at_call 70; refine (c70n n r x _ (by omega) (by have := hxh.out; omega) hfh.out).mono ?_; rintro e w2 ⟨rfl, hB2⟩; have hB2 := hid (hB11.out.trans (hB2.mono hB11.out.size))))
  go_returns
  exact ⟨rfl, hB2.out⟩
set_option maxHeartbeats 1000000 in
theorem c30a (n r : Nat) (x : Int) (w : World) (h : vld (n : Nat) (r : Nat)) (hx : ¬ (0 ≤ x ∧ x ≤ (n : Nat))) : Calls Tryd.prog 30 #[cv n r, .int .i64 x] w fun e w' => e = .returned (.tuple #[.bool false, .int .i64 1]) ∧ Below w.heap.size w w' := by
  have hh := hid h
  have hn := vld_nat h
  have hxh := hid hx
  have hB0 : Hid (Below w.heap.size w ((w.alloc (.cells #[.int .i64 (n : Nat), .int .i64 (r : Nat)] 23)))) := hid (by (repeat' (first | (with_reducible exact Below.refl _ _) | (with_reducible assumption) | (with_reducible refine Below.alloc ?_ ?_ _) | (with_reducible refine Below.drew ?_) | (with_reducible refine below_drewN ?_ _) | (with_reducible refine Below.setCell ?_ ?_ _) | (with_reducible refine Below.trans ?_ (Below.mono (by with_reducible assumption) ?_)) | go_size)))
  have hX0 : Hid (Bx n r ((w.alloc (.cells #[.int .i64 (n : Nat), .int .i64 (r : Nat)] 23))) w.heap.size) := hid (Bx.new n r w 23)
  clear h hx
  go_enter Tryd.func30, Tryd.ntmps30
  go_wp2_with (first | (go_at_call 17; (with_reducible refine (c17y (n : Nat) (r : Nat) _ hh.out).mono ?_); rintro e w1 ⟨rfl, hB1⟩; have hX1 := hid (hX0.out.below hB1 (by simp)); obtain ⟨p0, p1⟩ := hX1.out; have hB11 := hid (hB0.out.trans (hB1.mono (by simp)))) | (go_at_call 45; refine (c45n _ hxh.out).mono ?_; rintro e w' ⟨rfl, rfl⟩))
  go_returns
  exact ⟨rfl, hB11.out⟩
theorem cnt_step : ∀ n : Fin 16, ∀ k : Fin 5, cnt n.val (k.val + 1) = cnt n.val k.val * (n.val - k.val) / (k.val + 1) * 15 := by decide +kernel
theorem tz_all : ∀ n : Fin 16, ∀ r : Fin 9, r.val < n.val → (tz (ner n.val r.val) ≤ 8 ∧ ∀ j : Fin 9, j.val < tz (ner n.val r.val) → (ner n.val r.val / 2 ^ j.val % 2 = 0 ∧ 16 ^ r.val / 2 ^ j.val % 2 = 0)) := by decide +kernel
set_option maxHeartbeats 1000000 in
theorem c32n (L P : Int) (w : World) (h : ¬ vld L P) : Calls Tryd.prog 32 #[.agg #[.int .i64 L, .int .i64 P]] w fun e w' => e = .returned (.tuple #[.int .i64 0, .int .i64 0, .int .i64 50]) ∧ Below w.heap.size w w' := by
  have hh := hid h
  have hB0 : Hid (Below w.heap.size w ((w.alloc (.cells #[.int .i64 L, .int .i64 P] 23)))) := hid (by (repeat' (first | (with_reducible exact Below.refl _ _) | (with_reducible assumption) | (with_reducible refine Below.alloc ?_ ?_ _) | (with_reducible refine Below.drew ?_) | (with_reducible refine below_drewN ?_ _) | (with_reducible refine Below.setCell ?_ ?_ _) | (with_reducible refine Below.trans ?_ (Below.mono (by with_reducible assumption) ?_)) | go_size)))
  clear h
  go_enter Tryd.func32, Tryd.ntmps32
  go_wp2_with (go_at_call 17; refine (c17n L P _ hh.out).mono ?_; rintro e w1 ⟨rfl, hB1⟩; have hB1 := hid (hB0.out.trans (hB1.mono (by simp))))
  go_returns
  exact ⟨rfl, hB1.out⟩
/-- The halves of a number. -/
def hlf (x j : Nat) : Nat := x / 2 ^ j
theorem hlf_succ (x j : Nat) : hlf x (j + 1) = hlf x j / 2 := by unfold hlf; rw [Nat.pow_succ, Nat.div_div_eq_div_mul]
theorem hlf_anti (x j : Nat) : ∀ d, hlf x (j + d) ≤ hlf x j
  | 0 => Nat.le_refl _
  | d + 1 => by rw [← Nat.add_assoc, hlf_succ]; exact Nat.le_trans (Nat.div_le_self _ _) (hlf_anti x j d)
theorem hlf_le (x j : Nat) : hlf x j ≤ x := Nat.div_le_self _ _
set_option maxRecDepth 100000 in
set_option maxHeartbeats 8000000 in
theorem c32y (n r x s : Nat) (w : World) (h : vld (n : Nat) (r : Nat)) (hx : x = ner n r) (hx2 : x ≤ 3000000000) (h1 : ∀ j, j < s → (hlf x j % 2 = 0 ∧ hlf (16 ^ r) j % 2 = 0)) (h2 : ¬ (hlf x s % 2 = 0 ∧ hlf (16 ^ r) s % 2 = 0)) :
    Calls Tryd.prog 32 #[cv n r] w fun e w' => e = .returned (.tuple #[.int .i64 (hlf x s : Nat), .int .i64 (hlf (16 ^ r) s : Nat), .int .i64 0]) ∧ Below w.heap.size w w' := by
  have hh := hid h
  have hn := vld_nat h
  have hB0 : Hid (Below w.heap.size w ((w.alloc (.cells #[.int .i64 (n : Nat), .int .i64 (r : Nat)] 23)))) := hid (by (repeat' (first | (with_reducible exact Below.refl _ _) | (with_reducible assumption) | (with_reducible refine Below.alloc ?_ ?_ _) | (with_reducible refine Below.drew ?_) | (with_reducible refine below_drewN ?_ _) | (with_reducible refine Below.setCell ?_ ?_ _) | (with_reducible refine Below.trans ?_ (Below.mono (by with_reducible assumption) ?_)) | go_size)))
  have hX0 : Hid (Bx n r ((w.alloc (.cells #[.int .i64 (n : Nat), .int .i64 (r : Nat)] 23))) w.heap.size) := hid (Bx.new n r w 23)
  obtain ⟨t, ht⟩ : ∃ t, t = r / 2 := ⟨_, rfl⟩
  have ht4 : t ≤ 4 := by omega
  have htn : t < n := by omega
  have etr : (r : Int) / 2 = (t : Int) := by omega
  have hxh : Hid (nea n (t + 1) = x) := hid (by rw [hx, ht]; rfl)
  have hx2h := hid hx2
  have h1h := hid h1
  have h2h := hid h2
  have hr8 : r ≤ 8 := by omega
  clear h ht hx h1 h2
  go_enter Tryd.func32, Tryd.ntmps32
  go_wp2_with (go_at_call 17; (with_reducible refine (c17y (n : Nat) (r : Nat) _ hh.out).mono ?_); rintro e w1 ⟨rfl, hB1⟩; have hX1 := hid (hX0.out.below hB1 (by simp)); obtain ⟨p0, p1⟩ := hX1.out; have hB11 := hid (hB0.out.trans (hB1.mono (by simp))))
  go_loop [2, 5, 6] (fun nv cv iv => ∃ k : Nat, k ≤ t + 1 ∧ iv = .int .i64 k ∧ nv = .int .i64 (nea n k : Nat) ∧ cv = .int .i64 (cnt n k : Nat)) (fun _ _ iv => t + 1 - (intOf iv).toNat)
  case atStart => exact ⟨0, Nat.zero_le _, rfl, rfl, rfl⟩
  case round =>
    obtain ⟨k, hk, rfl, rfl, rfl⟩ := hrel
    obtain ⟨b1, b2⟩ := cnt_le (show n ≤ 15 by omega) (show k ≤ 5 by omega)
    by_cases hlt : k < t + 1
    · have hst := cnt_step ⟨n, by omega⟩ ⟨k, by omega⟩
      simp only at hst
      obtain ⟨y, hy⟩ : ∃ y, y = cnt n k := ⟨_, rfl⟩
      obtain ⟨z, hz⟩ : ∃ z, z = nea n k := ⟨_, rfl⟩
      obtain ⟨M, hM⟩ : ∃ M : Nat, M = n - k := ⟨_, rfl⟩
      have hM15 : M ≤ 15 := by omega
      have eM : (n : Int) - (k : Int) = (M : Int) := by omega
      obtain ⟨u, hu⟩ : ∃ u : Nat, u = y * M := ⟨_, rfl⟩
      obtain ⟨v, hv⟩ : ∃ v : Nat, v = u / (k + 1) := ⟨_, rfl⟩
      rw [← hy] at b1 hst ⊢
      rw [← hz] at b2 ⊢
      rw [← hM, ← hu, ← hv] at hst
      have hu2 : u ≤ 45000000000 := by rw [hu]; calc y * M ≤ 3000000000 * 15 := Nat.mul_le_mul b1 hM15
        _ = 45000000000 := rfl
      have hv2 : v ≤ 45000000000 := by rw [hv]; exact Nat.le_trans (Nat.div_le_self _ _) hu2
      have eu : (y : Int) * (M : Int) = (u : Int) := by rw [hu]; push_cast; rfl
      have ev : (u : Int) / ((k : Int) + 1) = (v : Int) := by rw [hv]; push_cast; rfl
      have hyh := hid hy
      have hzh := hid hz
      have hsth := hid hst
      clear hy hz hu hM hv hst
      have dk : decide ((k : Int) ≤ (t : Int)) = true := decide_eq_true (by omega)
      have dk' : decide (k ≤ t) = true := decide_eq_true (by omega)
      go_wp2_with fail
      go_round
      case rel =>
        refine ⟨k + 1, by omega, by go_num, ?_, ?_⟩
        · rw [nea, ← hyh.out, ← hzh.out]; go_num
        · rw [hsth.out]; go_num
      case measure => simp [intOf]; omega
    · obtain rfl : k = t + 1 := by omega
      have dk : decide (((t + 1 : Nat) : Int) ≤ (t : Int)) = false := decide_eq_false (by omega)
      have dk' : decide (t + 1 ≤ t) = false := decide_eq_false (by omega)
      have dk2 : decide ((t : Int) + 1 ≤ (t : Int)) = false := decide_eq_false (by omega)
      rw [hxh.out]
      go_wp2_with fail
      go_loop [3, 7] (fun ov iv => ∃ k : Nat, k ≤ r ∧ iv = .int .i64 k ∧ ov = .int .i64 ((16 ^ k : Nat) : Nat)) (fun _ iv => r - (intOf iv).toNat)
      case atStart => exact ⟨0, Nat.zero_le _, rfl, rfl⟩
      case round =>
        obtain ⟨k, hk, rfl, rfl⟩ := hrel
        have hp := pow16 (show k ≤ 8 by omega)
        obtain ⟨y, hy⟩ : ∃ y, y = 16 ^ k := ⟨_, rfl⟩
        rw [← hy] at hp ⊢
        have hyh := hid hy
        clear hy
        by_cases hlt : k < r
        · go_wp2_with fail
          go_round
          case rel => exact ⟨k + 1, by omega, by go_num, by rw [Nat.pow_succ, ← hyh.out]; go_num⟩
          case measure => simp [intOf]; omega
        · obtain rfl : k = r := by omega
          have hy0 : Hid (16 ^ k = y) := hid hyh.out.symm
          have h1y := h1h.out
          have h2y := h2h.out
          rw [hy0.out] at h1y h2y
          have h1h := hid h1y
          have h2h := hid h2y
          clear h1y h2y
          go_wp2_with fail
          go_loop [2, 3] (fun av ov => ∃ j : Nat, j ≤ s ∧ av = .int .i64 (hlf x j : Nat) ∧ ov = .int .i64 (hlf y j : Nat)) (fun av ov => (intOf av).toNat + (intOf ov).toNat)
          case atStart => exact ⟨0, Nat.zero_le _, (by unfold hlf; rw [Nat.pow_zero, Nat.div_one]), (by unfold hlf; rw [Nat.pow_zero, Nat.div_one])⟩
          case round =>
            obtain ⟨j, hj, rfl, rfl⟩ := hrel
            have bx := Nat.le_trans (hlf_le x j) hx2h.out
            have byy := Nat.le_trans (hlf_le y j) hp
            by_cases hlt : j < s
            · obtain ⟨m1, m2⟩ := h1h.out j hlt
              have hpos : 0 < hlf x j + hlf y j := by
                rcases Nat.eq_zero_or_pos (hlf x j + hlf y j) with e | e
                · exfalso
                  have a1 := hlf_anti x j (s - j)
                  have a2 := hlf_anti y j (s - j)
                  rw [show j + (s - j) = s by omega] at a1 a2
                  exact h2h.out ⟨by omega, by omega⟩
                · exact e
              have n1 := hlf_succ x j
              have n2 := hlf_succ y j
              obtain ⟨a, ha⟩ : ∃ a, a = hlf x j := ⟨_, rfl⟩
              obtain ⟨b, hb⟩ : ∃ b, b = hlf y j := ⟨_, rfl⟩
              rw [← ha] at bx m1 hpos n1 ⊢
              rw [← hb] at byy m2 hpos n2 ⊢
              have n1h := hid n1
              have n2h := hid n2
              have q1 : ((a : Int) % 2 == 0) = true := by simp; omega
              have q2 : ((b : Int) % 2 == 0) = true := by simp; omega
              clear ha hb m1 m2 n1 n2
              go_wp2_with fail
              go_round
              case rel => exact ⟨j + 1, by omega, by rw [n1h.out]; go_num, by rw [n2h.out]; go_num⟩
              case measure => simp [intOf]; omega
            · obtain rfl : j = s := by omega
              obtain ⟨a, ha⟩ : ∃ a, a = hlf x j := ⟨_, rfl⟩
              obtain ⟨b, hb⟩ : ∃ b, b = hlf y j := ⟨_, rfl⟩
              have h3 := h2h.out
              rw [← ha, ← hb] at h3
              rw [← ha] at bx ⊢
              rw [← hb] at byy ⊢
              have hah := hid ha
              have hbh := hid hb
              clear ha hb
              have q : (((a : Int) % 2 == 0) = false) ∨ (((a : Int) % 2 == 0) = true ∧ ((b : Int) % 2 == 0) = false) := by
                by_cases e : a % 2 = 0
                · exact .inr ⟨by simp; omega, by simp; omega⟩
                · exact .inl (by simp; omega)
              clear h3
              rcases q with q1 | ⟨q1, q2⟩
              all_goals (
                go_wp2_with fail
                go_returns
                rw [hy0.out, ← hah.out, ← hbh.out]
                exact ⟨rfl, hB11.out⟩)
theorem Bx2.below {L P : Int} {b B : Nat} {w w' : World} (h : Bx2 L P w b) (hb : Below B w w') (hB : b < B) : Bx2 L P w' b :=
  ⟨(hb.cell (p := ⟨b, 0, none⟩) hB).trans h.1, (hb.cell (p := ⟨b, 1, none⟩) hB).trans h.2⟩
theorem c32z (n r : Nat) (w : World) (h : vld (n : Nat) (r : Nat)) :
    Calls Tryd.prog 32 #[cv n r] w fun e w' => e = .returned (.tuple #[.int .i64 (acc n r : Nat), .int .i64 (off n r : Nat), .int .i64 0]) ∧ Below w.heap.size w w' := by
  have hn := vld_nat h
  obtain ⟨k1, k2⟩ := tz_all ⟨n, by omega⟩ ⟨r, by omega⟩ hn.2.2.2.2
  obtain ⟨l1, l2, l3⟩ := low_all ⟨n, by omega⟩ ⟨r, by omega⟩ hn.2.2.1 hn.2.2.2.2
  have k3 : nea n (r / 2 + 1) ≤ 3000000000 := (cnt_le (n := n) (k := r / 2 + 1) (by omega) (by omega)).2
  refine c32y n r (ner n r) (tz (ner n r)) w h rfl k3 (fun j hj => k2 ⟨j, by simp only at k1; omega⟩ hj) (fun hc => ?_)
  have e1 : acc n r % 2 = 0 := hc.1
  have e2 : off n r % 2 = 0 := hc.2
  simp only at l3
  omega
set_option maxRecDepth 100000 in
set_option maxHeartbeats 4000000 in
theorem c5a (L P x : Int) (w : World) (hT : Tab w) (h : ¬ vld L P) : Calls Tryd.prog 5 #[.agg #[.int .i64 L, .int .i64 P], .int .i64 x] w fun e w' => e = .returned (.bool true) ∧ Below w.heap.size w w' := by
  have hh := hid h
  have hwk := hid c15
  have hTh := hid hT
  have hB0 : Hid (Below w.heap.size w ((w.alloc (.cells #[.int .i64 L, .int .i64 P] 23)))) := hid (by (repeat' (first | (with_reducible exact Below.refl _ _) | (with_reducible assumption) | (with_reducible refine Below.alloc ?_ ?_ _) | (with_reducible refine Below.drew ?_) | (with_reducible refine below_drewN ?_ _) | (with_reducible refine Below.setCell ?_ ?_ _) | (with_reducible refine Below.trans ?_ (Below.mono (by with_reducible assumption) ?_)) | go_size)))
  have hX0 : Hid (Bx2 L P ((w.alloc (.cells #[.int .i64 L, .int .i64 P] 23))) w.heap.size) := hid (by unfold Bx2; simp)
  have hs0 : Hid (((w.alloc (.cells #[.int .i64 L, .int .i64 P] 23))).heap.size = w.heap.size + 1) := hid (World.size_alloc _ _)
  clear h hT
  go_enter Tryd.func5, Tryd.ntmps5
  go_wp2_with (first | (go_at_call 29; (with_reducible refine (c29e L P x _ hh.out).mono ?_); rintro e w1 ⟨rfl, hB1⟩; have hX1 := hid (hX0.out.below hB1 (by rw [hs0.out]; omega)); obtain ⟨p0, p1⟩ := hX1.out; have hs1 := hB1.size; rw [hs0.out] at hs1; have hB1 := hid (hB0.out.trans (hB1.mono (by rw [hs0.out]; omega)))) | (go_at_call 30; (with_reducible refine (c30e L P x _ hh.out).mono ?_); rintro e w2 ⟨rfl, hB2⟩; have hX2 := hid (hX1.out.below hB2 (by omega)); obtain ⟨p0, p1⟩ := hX2.out; have hs2 := hB2.size; have hB2 := hid (hB1.out.trans (hB2.mono hB1.out.size))) | (go_at_call 31; (with_reducible refine (c31n L P _ hh.out).mono ?_); rintro e w3 ⟨rfl, hB3⟩; have hX3 := hid (hX2.out.below hB3 (by omega)); obtain ⟨p0, p1⟩ := hX3.out; have hs3 := hB3.size; have hB3 := hid (hB2.out.trans (hB3.mono hB2.out.size))) | (go_at_call 32; (with_reducible refine (c32n L P _ hh.out).mono ?_); rintro e w4 ⟨rfl, hB4⟩; have hB4 := hid (hB3.out.trans (hB4.mono hB3.out.size))) | (go_at_call 15; refine (hwk.out _ (hTh.out.below hB4.out (Nat.le_refl _))).mono ?_; rintro e w5 ⟨rfl, hB5⟩; have hB5 := hid (hB4.out.trans (hB5.mono hB4.out.size))))
  go_returns
  exact ⟨rfl, hB5.out⟩
set_option maxRecDepth 100000 in
set_option maxHeartbeats 4000000 in
theorem c5y (n r : Nat) (x : Int) (w : World) (hT : Tab w) (h : vld (n : Nat) (r : Nat)) (hx : 0 ≤ x ∧ x ≤ (n : Nat)) (hf : foo r x) : Calls Tryd.prog 5 #[cv n r, .int .i64 x] w fun e w' => e = .returned (.bool true) ∧ Below w.heap.size w w' := by
  have hh := hid h
  have hwk := hid c15
  have hTh := hid hT
  have cA := fun W => c29y n r x W h hx hf
  have cB := fun W => c30y n r x W h hx hf
  have cC := fun W hW => c31z n r W hW h
  have cD := fun W => c32z n r W h
  obtain ⟨ac, hac⟩ : ∃ ac, ac = acc n r := ⟨_, rfl⟩
  obtain ⟨of, hof⟩ : ∃ of, of = off n r := ⟨_, rfl⟩
  rw [← hac, ← hof] at cC cD
  have cAh := hid cA
  have cBh := hid cB
  have cCh := hid cC
  have cDh := hid cD
  have hB0 : Hid (Below w.heap.size w ((w.alloc (.cells #[.int .i64 (n : Nat), .int .i64 (r : Nat)] 23)))) := hid (by (repeat' (first | (with_reducible exact Below.refl _ _) | (with_reducible assumption) | (with_reducible refine Below.alloc ?_ ?_ _) | (with_reducible refine Below.drew ?_) | (with_reducible refine below_drewN ?_ _) | (with_reducible refine Below.setCell ?_ ?_ _) | (with_reducible refine Below.trans ?_ (Below.mono (by with_reducible assumption) ?_)) | go_size)))
  have hX0 : Hid (Bx n r ((w.alloc (.cells #[.int .i64 (n : Nat), .int .i64 (r : Nat)] 23))) w.heap.size) := hid (Bx.new n r w 23)
  have hs0 : Hid (((w.alloc (.cells #[.int .i64 (n : Nat), .int .i64 (r : Nat)] 23))).heap.size = w.heap.size + 1) := hid (World.size_alloc _ _)
  clear h hT hx hf cA cB cC cD hac hof
  go_enter Tryd.func5, Tryd.ntmps5
  go_wp2_with (first | (go_at_call 29; (with_reducible refine (cAh.out _).mono ?_); rintro e w1 ⟨rfl, hB1⟩; have hX1 := hid (hX0.out.below hB1 (by rw [hs0.out]; omega)); obtain ⟨p0, p1⟩ := hX1.out; have hs1 := hB1.size; rw [hs0.out] at hs1; have hB1 := hid (hB0.out.trans (hB1.mono (by rw [hs0.out]; omega)))) | (go_at_call 30; (with_reducible refine (cBh.out _).mono ?_); rintro e w2 ⟨rfl, hB2⟩; have hX2 := hid (hX1.out.below hB2 (by omega)); obtain ⟨p0, p1⟩ := hX2.out; have hs2 := hB2.size; have hB2 := hid (hB1.out.trans (hB2.mono hB1.out.size))) | (go_at_call 31; (with_reducible refine (cCh.out _ (hTh.out.below hB2.out (Nat.le_refl _))).mono ?_); rintro e w3 ⟨rfl, hB3⟩; have hX3 := hid (hX2.out.below hB3 (by omega)); obtain ⟨p0, p1⟩ := hX3.out; have hs3 := hB3.size; have hB3 := hid (hB2.out.trans (hB3.mono hB2.out.size))) | (go_at_call 32; (with_reducible refine (cDh.out _).mono ?_); rintro e w4 ⟨rfl, hB4⟩; have hB4 := hid (hB3.out.trans (hB4.mono hB3.out.size))) | (go_at_call 15; refine (hwk.out _ (hTh.out.below hB4.out (Nat.le_refl _))).mono ?_; rintro e w5 ⟨rfl, hB5⟩; have hB5 := hid (hB4.out.trans (hB5.mono hB4.out.size))))
  go_returns
  exact ⟨rfl, hB5.out⟩
set_option maxRecDepth 100000 in
set_option maxHeartbeats 4000000 in
theorem c5n (n r : Nat) (x : Int) (w : World) (hT : Tab w) (h : vld (n : Nat) (r : Nat)) (hx : 0 ≤ x ∧ x ≤ (n : Nat)) (hf : ¬ foo r x) : Calls Tryd.prog 5 #[cv n r, .int .i64 x] w fun e w' => e = .returned (.bool true) ∧ Below w.heap.size w w' := by
  have hh := hid h
  have hwk := hid c15
  have hTh := hid hT
  have cA := fun W => c29n n r x W h hx hf
  have cB := fun W => c30n n r x W h hx hf
  have cC := fun W hW => c31z n r W hW h
  have cD := fun W => c32z n r W h
  obtain ⟨ac, hac⟩ : ∃ ac, ac = acc n r := ⟨_, rfl⟩
  obtain ⟨of, hof⟩ : ∃ of, of = off n r := ⟨_, rfl⟩
  rw [← hac, ← hof] at cC cD
  have cAh := hid cA
  have cBh := hid cB
  have cCh := hid cC
  have cDh := hid cD
  have hB0 : Hid (Below w.heap.size w ((w.alloc (.cells #[.int .i64 (n : Nat), .int .i64 (r : Nat)] 23)))) := hid (by (repeat' (first | (with_reducible exact Below.refl _ _) | (with_reducible assumption) | (with_reducible refine Below.alloc ?_ ?_ _) | (with_reducible refine Below.drew ?_) | (with_reducible refine below_drewN ?_ _) | (with_reducible refine Below.setCell ?_ ?_ _) | (with_reducible refine Below.trans ?_ (Below.mono (by with_reducible assumption) ?_)) | go_size)))
  have hX0 : Hid (Bx n r ((w.alloc (.cells #[.int .i64 (n : Nat), .int .i64 (r : Nat)] 23))) w.heap.size) := hid (Bx.new n r w 23)
  have hs0 : Hid (((w.alloc (.cells #[.int .i64 (n : Nat), .int .i64 (r : Nat)] 23))).heap.size = w.heap.size + 1) := hid (World.size_alloc _ _)
  clear h hT hx hf cA cB cC cD hac hof
  go_enter Tryd.func5, Tryd.ntmps5
  go_wp2_with (first | (go_at_call 29; (with_reducible refine (cAh.out _).mono ?_); rintro e w1 ⟨rfl, hB1⟩; have hX1 := hid (hX0.out.below hB1 (by rw [hs0.out]; omega)); obtain ⟨p0, p1⟩ := hX1.out; have hs1 := hB1.size; rw [hs0.out] at hs1; have hB1 := hid (hB0.out.trans (hB1.mono (by rw [hs0.out]; omega)))) | (go_at_call 30; (with_reducible refine (cBh.out _).mono ?_); rintro e w2 ⟨rfl, hB2⟩; have hX2 := hid (hX1.out.below hB2 (by omega)); obtain ⟨p0, p1⟩ := hX2.out; have hs2 := hB2.size; have hB2 := hid (hB1.out.trans (hB2.mono hB1.out.size))) | (go_at_call 31; (with_reducible refine (cCh.out _ (hTh.out.below hB2.out (Nat.le_refl _))).mono ?_); rintro e w3 ⟨rfl, hB3⟩; have hX3 := hid (hX2.out.below hB3 (by omega)); obtain ⟨p0, p1⟩ := hX3.out; have hs3 := hB3.size; have hB3 := hid (hB2.out.trans (hB3.mono hB2.out.size))) | (go_at_call 32; (with_reducible refine (cDh.out _).mono ?_); rintro e w4 ⟨rfl, hB4⟩; have hB4 := hid (hB3.out.trans (hB4.mono hB3.out.size))) | (go_at_call 15; refine (hwk.out _ (hTh.out.below hB4.out (Nat.le_refl _))).mono ?_; rintro e w5 ⟨rfl, hB5⟩; have hB5 := hid (hB4.out.trans (hB5.mono hB4.out.size))))
  go_returns
  exact ⟨rfl, hB5.out⟩
set_option maxRecDepth 100000 in
set_option maxHeartbeats 4000000 in
theorem c5b (n r : Nat) (x : Int) (w : World) (hT : Tab w) (h : vld (n : Nat) (r : Nat)) (hx : ¬ (0 ≤ x ∧ x ≤ (n : Nat))) : Calls Tryd.prog 5 #[cv n r, .int .i64 x] w fun e w' => e = .returned (.bool true) ∧ Below w.heap.size w w' := by
  have hh := hid h
  have hwk := hid c15
  have hTh := hid hT
  have cA := fun W => c29a n r x W h hx
  have cB := fun W => c30a n r x W h hx
  have cC := fun W hW => c31z n r W hW h
  have cD := fun W => c32z n r W h
  obtain ⟨ac, hac⟩ : ∃ ac, ac = acc n r := ⟨_, rfl⟩
  obtain ⟨of, hof⟩ : ∃ of, of = off n r := ⟨_, rfl⟩
  rw [← hac, ← hof] at cC cD
  have cAh := hid cA
  have cBh := hid cB
  have cCh := hid cC
  have cDh := hid cD
  have hB0 : Hid (Below w.heap.size w ((w.alloc (.cells #[.int .i64 (n : Nat), .int .i64 (r : Nat)] 23)))) := hid (by (repeat' (first | (with_reducible exact Below.refl _ _) | (with_reducible assumption) | (with_reducible refine Below.alloc ?_ ?_ _) | (with_reducible refine Below.drew ?_) | (with_reducible refine below_drewN ?_ _) | (with_reducible refine Below.setCell ?_ ?_ _) | (with_reducible refine Below.trans ?_ (Below.mono (by with_reducible assumption) ?_)) | go_size)))
  have hX0 : Hid (Bx n r ((w.alloc (.cells #[.int .i64 (n : Nat), .int .i64 (r : Nat)] 23))) w.heap.size) := hid (Bx.new n r w 23)
  have hs0 : Hid (((w.alloc (.cells #[.int .i64 (n : Nat), .int .i64 (r : Nat)] 23))).heap.size = w.heap.size + 1) := hid (World.size_alloc _ _)
  clear h hT hx cA cB cC cD hac hof
  go_enter Tryd.func5, Tryd.ntmps5
  go_wp2_with (first | (go_at_call 29; (with_reducible refine (cAh.out _).mono ?_); rintro e w1 ⟨rfl, hB1⟩; have hX1 := hid (hX0.out.below hB1 (by rw [hs0.out]; omega)); obtain ⟨p0, p1⟩ := hX1.out; have hs1 := hB1.size; rw [hs0.out] at hs1; have hB1 := hid (hB0.out.trans (hB1.mono (by rw [hs0.out]; omega)))) | (go_at_call 30; (with_reducible refine (cBh.out _).mono ?_); rintro e w2 ⟨rfl, hB2⟩; have hX2 := hid (hX1.out.below hB2 (by omega)); obtain ⟨p0, p1⟩ := hX2.out; have hs2 := hB2.size; have hB2 := hid (hB1.out.trans (hB2.mono hB1.out.size))) | (go_at_call 31; (with_reducible refine (cCh.out _ (hTh.out.below hB2.out (Nat.le_refl _))).mono ?_); rintro e w3 ⟨rfl, hB3⟩; have hX3 := hid (hX2.out.below hB3 (by omega)); obtain ⟨p0, p1⟩ := hX3.out; have hs3 := hB3.size; have hB3 := hid (hB2.out.trans (hB3.mono hB2.out.size))) | (go_at_call 32; (with_reducible refine (cDh.out _).mono ?_); rintro e w4 ⟨rfl, hB4⟩; have hB4 := hid (hB3.out.trans (hB4.mono hB3.out.size))) | (go_at_call 15; refine (hwk.out _ (hTh.out.below hB4.out (Nat.le_refl _))).mono ?_; rintro e w5 ⟨rfl, hB5⟩; have hB5 := hid (hB4.out.trans (hB5.mono hB4.out.size))))
  go_returns
  exact ⟨rfl, hB5.out⟩
theorem c5 (L P x : Int) (w : World) (hT : Tab w) : Calls Tryd.prog 5 #[.agg #[.int .i64 L, .int .i64 P], .int .i64 x] w fun e w' => e = .returned (.bool true) ∧ Below w.heap.size w w' := by
  by_cases h : vld L P
  · obtain ⟨n, r, rfl, rfl⟩ := vld_of h
    by_cases hx : 0 ≤ x ∧ x ≤ (n : Nat)
    · by_cases hf : foo r x
      · exact c5y n r x w hT h hx hf
      · exact c5n n r x w hT h hx hf
    · exact c5b n r x w hT h hx
  · exact c5a L P x w hT h
end Go.Proofs.YtnndhibhnakdoaaDoor
