/- Stage 5: products, powers, symbols and distances, as the specification computes them. -/
import Derived.Test.YtnndhibhnakdoaaDoorX
set_option linter.unusedSimpArgs false
set_option linter.unusedVariables false
namespace Go.Proofs.YtnndhibhnakdoaaDoor
open Go.RowKit Go.BigFrame Go.Sort
open Gf (S)

theorem tw_lo : ∀ a : S, a.val < 8 → (Gf.mu a 2).val = 2 * a.val := by decide +kernel
theorem tw_hi : ∀ a : S, ¬ a.val < 8 → bits .xor .i64 (2 * ((a.val : Nat) : Int) - 16) 3 = (((Gf.mu a 2).val : Nat) : Int) := by decide +kernel
set_option maxHeartbeats 400000 in
theorem c79 (a : S) (w : World) : Calls Tryd.prog 79 #[.int .i64 (a.val : Nat)] w fun e w' => e = .returned (.int .i64 ((Gf.mu a 2).val : Nat)) ∧ w = w' := by
  have h1 := tw_lo a
  have h2 := tw_hi a
  have ha := a.isLt
  obtain ⟨y, hy⟩ : ∃ y, y = (Gf.mu a 2).val := ⟨_, rfl⟩
  rw [← hy] at h1 h2 ⊢
  obtain ⟨x, hx⟩ : ∃ x, x = a.val := ⟨_, rfl⟩
  rw [← hx] at h1 h2 ha ⊢
  clear hx hy
  by_cases h : x < 8
  · have h3 := hid (h1 h)
    clear h1 h2
    go_enter Tryd.func79, Tryd.ntmps79
    go_wp2
    go_ret
    rw [h3.out]
    exact ⟨by go_num, rfl⟩
  · have h3 := h2 h
    clear h1 h2
    go_enter Tryd.func79, Tryd.ntmps79
    go_wp2
    go_ret
    exact ⟨rfl, rfl⟩
/-- What Times holds behind k rounds. -/
def tma (a : S) : Nat → S
  | 0 => a
  | k + 1 => Gf.mu (tma a k) 2
def tmn (a b : S) : Nat → S
  | 0 => 0
  | k + 1 => if b.val / 2 ^ k % 2 = 1 then Gf.ad (tmn a b k) (tma a k) else tmn a b k
theorem tm_all : ∀ a b : S, tmn a b 4 = Gf.mu a b := by decide +kernel
theorem bt_all : ∀ b : S, ∀ k : Fin 4, bits .and .i64 (((b.val : Nat) : Int) / 2 ^ k.val) 1 = ((b.val / 2 ^ k.val % 2 : Nat) : Int) := by decide +kernel
theorem xi_all : ∀ a b : S, bits .xor .i64 ((a.val : Nat) : Int) ((b.val : Nat) : Int) = (((Gf.ad a b).val : Nat) : Int) := by decide +kernel
set_option maxHeartbeats 1000000 in
theorem c42 (a b : S) (w : World) : Calls Tryd.prog 42 #[.int .i64 (a.val : Nat), .int .i64 (b.val : Nat)] w fun e w' => e = .returned (.int .i64 ((Gf.mu a b).val : Nat)) ∧ w = w' := by
  rw [← tm_all a b]
  obtain ⟨bv, hb⟩ : ∃ bv, bv = b.val := ⟨_, rfl⟩
  have hbv : bv < 16 := by rw [hb]; exact b.isLt
  have hbh := hid hb
  have e0 : (a.val : Nat) = (tma a 0).val := rfl
  rw [e0, ← hb]
  obtain ⟨a0, ha0⟩ : ∃ a0, a0 = (tma a 0).val := ⟨_, rfl⟩
  rw [← ha0]
  have ha0h := hid ha0
  clear hb e0 ha0
  go_enter Tryd.func42, Tryd.ntmps42
  go_wp2_with fail
  go_loop [0, 5, 6] (fun av nv iv => ∃ k : Nat, k ≤ 4 ∧ iv = .int .i64 k ∧ av = .int .i64 ((tma a k).val : Nat) ∧ nv = .int .i64 ((tmn a b k).val : Nat)) (fun _ _ iv => 4 - (intOf iv).toNat)
  case atStart => exact ⟨0, Nat.zero_le _, rfl, by rw [ha0h.out], rfl⟩
  case round =>
    obtain ⟨k, hk, rfl, rfl, rfl⟩ := hrel
    by_cases hlt : k < 4
    · have hbt := bt_all b ⟨k, hlt⟩
      simp only at hbt
      have hx := xi_all (tmn a b k) (tma a k)
      have hm : Hid (tma a (k + 1) = Gf.mu (tma a k) 2) := hid rfl
      have cn := fun W => c79 (tma a k) W
      rw [← hbh.out] at hbt
      have hn : Hid (tmn a b (k + 1) = if bv / 2 ^ k % 2 = 1 then Gf.ad (tmn a b k) (tma a k) else tmn a b k) := hid (by rw [hbh.out]; rfl)
      obtain ⟨bit, hbit⟩ : ∃ bit, bit = bv / 2 ^ k % 2 := ⟨_, rfl⟩
      have hbit2 : bit < 2 := by omega
      rw [← hbit] at hbt
      have hbith := hid hbit
      obtain ⟨x, hxx⟩ : ∃ x, x = (tma a k).val := ⟨_, rfl⟩
      obtain ⟨y, hyy⟩ : ∃ y, y = (tmn a b k).val := ⟨_, rfl⟩
      obtain ⟨z, hzz⟩ : ∃ z, z = (Gf.ad (tmn a b k) (tma a k)).val := ⟨_, rfl⟩
      obtain ⟨v, hvv⟩ : ∃ v, v = (Gf.mu (tma a k) 2).val := ⟨_, rfl⟩
      have lx : x < 16 := by rw [hxx]; exact (tma a k).isLt
      have ly : y < 16 := by rw [hyy]; exact (tmn a b k).isLt
      rw [← hyy, ← hxx, ← hzz] at hx
      rw [← hxx, ← hvv] at cn
      rw [← hxx, ← hyy]
      have cnh := hid cn
      have hyyh := hid hyy
      have hzzh := hid hzz
      have hvvh := hid hvv
      clear hbit hxx hyy hzz hvv cn
      by_cases hb1 : bit = 1
      · have hb1h := hid hb1
        have q1 : ((bit : Int) == 1) = true := by simp; omega
        clear hb1
        go_wp2_with (go_at_call 79; refine (cnh.out _).mono ?_; rintro e w' ⟨rfl, rfl⟩)
        go_round
        case rel => exact ⟨k + 1, by omega, by go_num, by rw [hm.out, ← hvvh.out], by rw [hn.out, ← hbith.out, if_pos hb1h.out, ← hzzh.out]⟩
        case measure => simp [intOf]; omega
      · have hb1h := hid hb1
        have q1 : ((bit : Int) == 1) = false := by simp; omega
        clear hb1
        go_wp2_with (go_at_call 79; refine (cnh.out _).mono ?_; rintro e w' ⟨rfl, rfl⟩)
        go_round
        case rel => exact ⟨k + 1, by omega, by go_num, by rw [hm.out, ← hvvh.out], by rw [hn.out, ← hbith.out, if_neg hb1h.out, ← hyyh.out]⟩
        case measure => simp [intOf]; omega
    · obtain rfl : k = 4 := by omega
      go_wp2_with fail
      go_returns
      exact ⟨rfl, rfl⟩
theorem pw_all2 : ∀ i : Fin 15, Gf.pw (i.val + 1) = Gf.mu (Gf.pw i.val) 2 := by decide +kernel
theorem pw_succ (k : Nat) : Gf.pw (k + 1) = Gf.mu (Gf.pw k) 2 := by
  have h := pw_all2 ⟨k % 15, Nat.mod_lt _ (by decide)⟩
  simp only at h
  have e1 : Gf.pw (k % 15) = Gf.pw k := by unfold Gf.pw; rw [Nat.mod_mod]
  have e2 : Gf.pw (k % 15 + 1) = Gf.pw (k + 1) := by unfold Gf.pw; rw [show (k % 15 + 1) % 15 = (k + 1) % 15 by omega]
  rw [← e1, ← e2, h]
set_option maxHeartbeats 1000000 in
theorem c77 (i : Nat) (w : World) (hi : i ≤ 1000) : Calls Tryd.prog 77 #[.int .i64 (i : Nat)] w fun e w' => e = .returned (.int .i64 ((Gf.pw i).val : Nat)) ∧ w = w' := by
  go_enter Tryd.func77, Tryd.ntmps77
  go_wp2_with fail
  go_loop [3, 4] (fun nv kv => ∃ k : Nat, k ≤ i ∧ kv = .int .i64 k ∧ nv = .int .i64 ((Gf.pw k).val : Nat)) (fun _ kv => i - (intOf kv).toNat)
  case atStart => exact ⟨0, Nat.zero_le _, rfl, rfl⟩
  case round =>
    obtain ⟨k, hk, rfl, rfl⟩ := hrel
    by_cases hlt : k < i
    · have cn := hid (fun W => c79 (Gf.pw k) W)
      go_wp2_with (go_at_call 79; refine (cn.out _).mono ?_; rintro e w' ⟨rfl, rfl⟩)
      go_round
      case rel => exact ⟨k + 1, by omega, by go_num, by rw [pw_succ]⟩
      case measure => simp [intOf]; omega
    · obtain rfl : k = i := by omega
      go_wp2_with fail
      go_returns
      exact ⟨rfl, rfl⟩
set_option maxHeartbeats 1000000 in
theorem c37 (A : Option Addr) (b o n c : Nat) (f : Nat → Int) (M : Int) (w : World) (hz : Ints w A b o n f) (hn : n ≤ 9223372036854775807) :
    Calls Tryd.prog 37 #[.slice A n c, .int .i64 M] w (RetB (allS n f ∧ (n : Int) = M) w) := by
  go_enter Tryd.func37, Tryd.ntmps37
  go_wp2
  go_loop [5] (fun i => ∃ k : Nat, k ≤ n ∧ i = .int .i64 k ∧ Hid (∀ j, j < k → isym (f j))) (fun i => n - (intOf i).toNat)
  case atStart => exact ⟨0, Nat.zero_le _, rfl, fun j hj => absurd hj (Nat.not_lt_zero _)⟩
  case round =>
    obtain ⟨k, hk, rfl, hall⟩ := hrel
    by_cases hlt : k < n
    · have h1 := hz.ce k hlt; have h3 := hz.lt k hlt; have h4 := @Ints.ix _ _ _ _ _ c _ hz _ hlt
      by_cases hp : isym (f k)
      · have hph := hid hp
        clear hp
        go_wp2_with (go_at_call 45; refine (c45y _ hph.out).mono ?_; rintro e w' ⟨rfl, rfl⟩)
        go_round
        case rel =>
          refine ⟨k + 1, by omega, by go_num, fun j hj => ?_⟩
          by_cases e : j = k
          · subst e; exact hph.out
          · exact hall.out j (by omega)
        case measure => simp [intOf]; omega
      · have hph := hid hp
        clear hp
        go_wp2_with (go_at_call 45; refine (c45n _ hph.out).mono ?_; rintro e w' ⟨rfl, rfl⟩)
        go_returns
        exact RetB.no (fun h => hph.out (h.1 k hlt))
    · obtain rfl : k = n := by omega
      by_cases hm : (k : Int) = M
      · have q : ((k : Int) == M) = true := by simpa using hm
        have hmh := hid hm
        clear hm
        go_wp2_with fail
        go_returns
        exact RetB.yes ⟨hall.out, hmh.out⟩
      · have q : ((k : Int) == M) = false := by simpa using hm
        have hmh := hid hm
        clear hm
        go_wp2_with fail
        go_returns
        exact RetB.no (fun h => hmh.out h.2)
set_option maxHeartbeats 1000000 in
theorem c78 (A : Option Addr) (b o n c : Nat) (x : Int) (f : Nat → Int) (w : World) (hz : Ints w A b o n f) (hn : n ≤ 1000000) :
    Calls Tryd.prog 78 #[.slice A n c, .int .i64 x] w (RetB (has n f x) w) := by
  go_enter Tryd.func78, Tryd.ntmps78
  go_wp2
  go_loop [5] (fun i => ∃ k : Nat, k ≤ n ∧ i = .int .i64 k ∧ Hid (∀ j, j < k → ¬ x = f j)) (fun i => n - (intOf i).toNat)
  case atStart => exact ⟨0, Nat.zero_le _, rfl, fun j hj => absurd hj (Nat.not_lt_zero _)⟩
  case round =>
    obtain ⟨k, hk, rfl, hall⟩ := hrel
    by_cases hlt : k < n
    · have h1 := hz.ce k hlt; have h3 := hz.lt k hlt; have h4 := @Ints.ix _ _ _ _ _ c _ hz _ hlt
      by_cases hp : x = f k
      · have hph := hid hp
        have e1 : (f k == x) = true := by simpa using hp.symm
        clear hp
        go_wp2
        go_returns
        exact RetB.yes ⟨k, hlt, hph.out⟩
      · have hph := hid hp
        have e1 : (f k == x) = false := by simpa using fun h => hp h.symm
        clear hp
        go_wp2
        go_round
        case rel =>
          refine ⟨k + 1, by omega, by go_num, fun j hj => ?_⟩
          by_cases e : j = k
          · subst e; exact hph.out
          · exact hall.out j (by omega)
        case measure => simp [intOf]; omega
    · go_wp2_with fail
      go_returns
      exact RetB.no (fun ⟨j, hj, e⟩ => hall.out j (by omega) e)
end Go.Proofs.YtnndhibhnakdoaaDoor
