/- Stage 5: products and quotients of symbols; the small methods of a code. -/
import Derived.Test.YtnndhibhnakdoaaDoorA
set_option linter.unusedSimpArgs false
set_option linter.unusedVariables false
namespace Go.Proofs.YtnndhibhnakdoaaDoor
open Go.RowKit Go.BigFrame
open Gf (S)

theorem nm_lt : ∀ a : S, Gf.nm a < 15 := by decide +kernel
theorem val_zero (a : S) : a.val = 0 ↔ a = 0 := by
  constructor
  · intro h; exact Fin.ext h
  · rintro rfl; rfl
theorem xor_all : ∀ a b : S, bits .xor .u8 ((a.val : Nat) : Int) ((b.val : Nat) : Int) = (((Gf.ad a b).val : Nat) : Int) := by decide +kernel
theorem c116i {i : Int} {k : Nat} (h : i = (k : Nat)) (w : World) (hT : Tab w) (hi : k ≤ 1000000) : Calls Tryd.prog 116 #[.int .i64 i] w fun e w' => e = .returned (sv (Gf.pw k)) ∧ w' = w := by
  subst h
  exact (c116 k w hT hi).mono fun _ _ h => ⟨h.1, h.2.symm⟩
theorem nm_at {w : World} (hT : Tab w) (a : S) : w.cell? ⟨2, a.val, none⟩ = some (.int .i64 (Gf.nm a : Nat)) := hT.nu a
set_option maxHeartbeats 400000 in
theorem c112n (a b x y : Nat) (w : World) (hT : Tab w) (ha : 0 < a) (hb : 0 < b) (ha2 : a < 16) (hb2 : b < 16) (h1 : w.cell? ⟨2, a, none⟩ = some (.int .i64 (x : Nat))) (h2 : w.cell? ⟨2, b, none⟩ = some (.int .i64 (y : Nat))) (hx : x < 15) (hy : y < 15) :
    Calls Tryd.prog 112 #[.int .u8 (a : Nat), .int .u8 (b : Nat)] w fun e w' => e = .returned (sv (Gf.pw (x + y))) ∧ ∃ q, w' = w.drewN q := by
  have e1 : ((a : Int) == 0) = false := by simp; omega
  have e2 : ((b : Int) == 0) = false := by simp; omega
  have hTh := hid hT
  clear hT
  go_enter Tryd.func112, Tryd.ntmps112
  go_wp2_with fail
  have la : (a : Int) < 16 := by omega
  have lb : (b : Int) < 16 := by omega
  have es : IntKind.i64.wrap ((x : Int) + (y : Int)) = (x : Int) + (y : Int) := IntWalk.i64_in _ (by omega)
  go_quiet ((go_at_call 116; exact Calls.quiet_of_same (c116i (k := x + y) (by omega) _ (hTh.out.drewN _) (by omega))))
  go_wp2_with fail
  go_ret
  exact ⟨rfl, _, rfl⟩
set_option maxHeartbeats 400000 in
theorem c112 (a b : S) (w : World) (hT : Tab w) : Calls Tryd.prog 112 #[sv a, sv b] w fun e w' => e = .returned (sv (Gf.mu a b)) ∧ ∃ q, w' = w.drewN q := by
  by_cases ha : a = 0
  · subst ha
    rw [Gf.zero_mu]
    go_enter Tryd.func112, Tryd.ntmps112
    go_wp2_with fail
    go_ret
    exact ⟨rfl, 0, rfl⟩
  have na : a.val ≠ 0 := fun h => ha ((val_zero a).1 h)
  by_cases hb : b = 0
  · subst hb
    rw [Gf.mu_zero]
    obtain ⟨v, hv⟩ : ∃ v, v = a.val := ⟨_, rfl⟩
    show Calls Tryd.prog 112 #[.int .u8 (a.val : Nat), .int .u8 0] w _
    rw [← hv] at na ⊢
    clear hv ha
    have e1 : ((v : Int) == 0) = false := by simp; omega
    go_enter Tryd.func112, Tryd.ntmps112
    go_wp2_with fail
    go_ret
    exact ⟨rfl, 0, rfl⟩
  have nb : b.val ≠ 0 := fun h => hb ((val_zero b).1 h)
  have hm : Gf.mu a b = Gf.pw (Gf.nm a + Gf.nm b) := by unfold Gf.mu; rw [if_neg (by simp [ha, hb])]
  rw [hm]
  exact c112n a.val b.val _ _ w hT (by omega) (by omega) a.isLt b.isLt (hT.nu a) (hT.nu b) (nm_lt a) (nm_lt b)
set_option maxHeartbeats 400000 in
theorem c106n (a b x y : Nat) (w : World) (hT : Tab w) (ha : 0 < a) (ha2 : a < 16) (hb2 : b < 16) (h1 : w.cell? ⟨2, a, none⟩ = some (.int .i64 (x : Nat))) (h2 : w.cell? ⟨2, b, none⟩ = some (.int .i64 (y : Nat))) (hx : x < 15) (hy : y < 15) :
    Calls Tryd.prog 106 #[.int .u8 (a : Nat), .int .u8 (b : Nat)] w fun e w' => e = .returned (sv (Gf.pw (x + 15 - y))) ∧ ∃ q, w' = w.drewN q := by
  have e1 : ((a : Int) == 0) = false := by simp; omega
  have hTh := hid hT
  clear hT
  go_enter Tryd.func106, Tryd.ntmps106
  go_wp2_with fail
  have la : (a : Int) < 16 := by omega
  have lb : (b : Int) < 16 := by omega
  have es : IntKind.i64.wrap ((x : Int) - (y : Int)) = (x : Int) - (y : Int) := IntWalk.i64_in _ (by omega)
  have es2 : IntKind.i64.wrap ((x : Int) - (y : Int) + 15) = (x : Int) - (y : Int) + 15 := IntWalk.i64_in _ (by omega)
  go_quiet ((go_at_call 116; exact Calls.quiet_of_same (c116i (k := x + 15 - y) (by omega) _ (hTh.out.drewN _) (by omega))))
  go_wp2_with fail
  go_ret
  exact ⟨rfl, _, rfl⟩
set_option maxHeartbeats 400000 in
theorem c106 (a b : S) (w : World) (hT : Tab w) : Calls Tryd.prog 106 #[sv a, sv b] w fun e w' => e = .returned (sv (Gf.qu a b)) ∧ ∃ q, w' = w.drewN q := by
  by_cases ha : a = 0
  · subst ha
    have : Gf.qu 0 b = 0 := rfl
    rw [this]
    go_enter Tryd.func106, Tryd.ntmps106
    go_wp2_with fail
    go_ret
    exact ⟨rfl, 0, rfl⟩
  have na : a.val ≠ 0 := fun h => ha ((val_zero a).1 h)
  have hm : Gf.qu a b = Gf.pw (Gf.nm a + 15 - Gf.nm b) := by unfold Gf.qu; rw [if_neg ha]
  rw [hm]
  exact c106n a.val b.val _ _ w hT (by omega) a.isLt b.isLt (hT.nu a) (hT.nu b) (nm_lt a) (nm_lt b)
/-- The value of a code. -/
@[reducible] def cv (n r : Nat) : Value := .agg #[.int .i64 (n : Nat), .int .i64 (r : Nat)]
set_option maxHeartbeats 400000 in
theorem c115 (n r j : Nat) (w : World) (hT : Tab w) (hj : j < n) (hn : n ≤ 15) : Calls Tryd.prog 115 #[cv n r, .int .i64 (j : Nat)] w fun e w' => e = .returned (sv (Gf.ba n j)) ∧ Below w.heap.size w w' := by
  have hB0 : Below w.heap.size w (w.alloc (.cells #[.int .i64 (n : Nat), .int .i64 (r : Nat)] 66)) := by (repeat' (first | (with_reducible exact Below.refl _ _) | (with_reducible assumption) | (with_reducible refine Below.alloc ?_ ?_ _) | (with_reducible refine Below.drew ?_) | (with_reducible refine below_drewN ?_ _) | (with_reducible refine Below.setCell ?_ ?_ _) | (with_reducible refine Below.trans ?_ (Below.mono (by with_reducible assumption) ?_)) | go_size))
  have hT2 := hid (hT.below hB0 (Nat.le_refl _))
  have hc := c116 (n - 1 - j) _ hT2.out (by omega)
  have ec : ((n - 1 - j : Nat) : Int) = (n : Int) - 1 - (j : Int) := by omega
  rw [ec] at hc
  clear ec hT
  go_enter Tryd.func115, Tryd.ntmps115
  go_wp2_with (go_at_call 116; refine hc.mono ?_; rintro e w' ⟨rfl, rfl⟩)
  go_returns
  exact ⟨rfl, hB0⟩
set_option maxHeartbeats 400000 in
theorem c68 (n l h : Int) (w : World) : Calls Tryd.prog 68 #[.int .i64 n, .int .i64 l, .int .i64 h] w (RetB (l ≤ n ∧ n ≤ h) w) := by
  by_cases h1 : l ≤ n <;> by_cases h2 : n ≤ h <;> (go_enter Tryd.func68, Tryd.ntmps68; go_wp2; go_ret) <;> first | exact RetB.yes (by omega) | exact RetB.no (by omega)
theorem c68y {n l h : Int} (w : World) (p : l ≤ n ∧ n ≤ h) : Calls Tryd.prog 68 #[.int .i64 n, .int .i64 l, .int .i64 h] w fun e w' => e = .returned (.bool true) ∧ w = w' :=
  (c68 n l h w).mono fun _ _ hr => hr.un.1 p
theorem c68n {n l h : Int} (w : World) (p : ¬ (l ≤ n ∧ n ≤ h)) : Calls Tryd.prog 68 #[.int .i64 n, .int .i64 l, .int .i64 h] w fun e w' => e = .returned (.bool false) ∧ w = w' :=
  (c68 n l h w).mono fun _ _ hr => hr.un.2 p
set_option maxHeartbeats 400000 in
theorem c45 (n l h : Int) (w : World) : Calls Tryd.prog 45 #[.int .i64 n, .int .i64 l, .int .i64 h] w (RetB (l ≤ n ∧ n ≤ h) w) := by
  by_cases h1 : l ≤ n <;> by_cases h2 : n ≤ h <;> (go_enter Tryd.func45, Tryd.ntmps45; go_wp2; go_ret) <;> first | exact RetB.yes (by omega) | exact RetB.no (by omega)
theorem c45y {n l h : Int} (w : World) (p : l ≤ n ∧ n ≤ h) : Calls Tryd.prog 45 #[.int .i64 n, .int .i64 l, .int .i64 h] w fun e w' => e = .returned (.bool true) ∧ w = w' :=
  (c45 n l h w).mono fun _ _ hr => hr.un.1 p
theorem c45n {n l h : Int} (w : World) (p : ¬ (l ≤ n ∧ n ≤ h)) : Calls Tryd.prog 45 #[.int .i64 n, .int .i64 l, .int .i64 h] w fun e w' => e = .returned (.bool false) ∧ w = w' :=
  (c45 n l h w).mono fun _ _ hr => hr.un.2 p
set_option maxHeartbeats 400000 in
theorem c67 (n r k : Nat) (w : World) (hk : k ≤ r) (hr : r ≤ 1000) : Calls Tryd.prog 67 #[cv n r, .int .i64 (k : Nat)] w fun e w' => e = .returned (.int .i64 (((r - k) / 2 : Nat) : Nat)) ∧ Below w.heap.size w w' := by
  have ec : (((r - k) / 2 : Nat) : Int) = ((r : Int) - (k : Int)) / 2 := by omega
  have h0 : 0 ≤ (r : Int) - (k : Int) := by omega
  rw [ec]
  clear ec
  go_enter Tryd.func67, Tryd.ntmps67
  go_wp2_with fail
  go_returns
  exact ⟨rfl, by (repeat' (first | (with_reducible exact Below.refl _ _) | (with_reducible assumption) | (with_reducible refine Below.alloc ?_ ?_ _) | (with_reducible refine Below.drew ?_) | (with_reducible refine below_drewN ?_ _) | (with_reducible refine Below.setCell ?_ ?_ _) | (with_reducible refine Below.trans ?_ (Below.mono (by with_reducible assumption) ?_)) | go_size))⟩
set_option maxHeartbeats 400000 in
theorem c47 (n r : Nat) (w : World) (hr : r ≤ n) (hn : n ≤ 1000) : Calls Tryd.prog 47 #[cv n r] w fun e w' => e = .returned (.int .i64 ((n - r : Nat) : Nat)) ∧ Below w.heap.size w w' := by
  have ec : ((n - r : Nat) : Int) = (n : Int) - (r : Int) := by omega
  rw [ec]
  clear ec
  go_enter Tryd.func47, Tryd.ntmps47
  go_wp2_with fail
  go_returns
  exact ⟨rfl, by (repeat' (first | (with_reducible exact Below.refl _ _) | (with_reducible assumption) | (with_reducible refine Below.alloc ?_ ?_ _) | (with_reducible refine Below.drew ?_) | (with_reducible refine below_drewN ?_ _) | (with_reducible refine Below.setCell ?_ ?_ _) | (with_reducible refine Below.trans ?_ (Below.mono (by with_reducible assumption) ?_)) | go_size))⟩
set_option maxHeartbeats 400000 in
theorem c52 (n r : Nat) (w : World) : Calls Tryd.prog 52 #[cv n r] w fun e w' => e = .returned (.int .i64 (n : Nat)) ∧ Below w.heap.size w w' := by
  go_enter Tryd.func52, Tryd.ntmps52
  go_wp2_with fail
  go_returns
  exact ⟨rfl, by (repeat' (first | (with_reducible exact Below.refl _ _) | (with_reducible assumption) | (with_reducible refine Below.alloc ?_ ?_ _) | (with_reducible refine Below.drew ?_) | (with_reducible refine below_drewN ?_ _) | (with_reducible refine Below.setCell ?_ ?_ _) | (with_reducible refine Below.trans ?_ (Below.mono (by with_reducible assumption) ?_)) | go_size))⟩
end Go.Proofs.YtnndhibhnakdoaaDoor
