/- Stage 2: which servos and wedges are valid. -/
import Derived.Test.YtfpfnjdnfiihhaaB
set_option linter.unusedSimpArgs false
set_option linter.unusedVariables false
namespace Go.Proofs.Ytfpfnjdnfiihhaa
open Go.RowKit

/-- A bool is handed back, and it says whether p holds; new memory may have been laid. -/
def RetBB (p : Prop) (w : World) (e : Ending) (w' : World) : Prop := (p ∧ e = .returned (.bool true) ∧ Below w.heap.size w w') ∨ (¬ p ∧ e = .returned (.bool false) ∧ Below w.heap.size w w')
theorem RetBB.yes {p : Prop} {w w' : World} (h : p) (hb : Below w.heap.size w w') : RetBB p w (.returned (.bool true)) w' := .inl ⟨h, rfl, hb⟩
theorem RetBB.no {p : Prop} {w w' : World} (h : ¬ p) (hb : Below w.heap.size w w') : RetBB p w (.returned (.bool false)) w' := .inr ⟨h, rfl, hb⟩
/-- An index is handed back: that of a k for which p does not hold, or -1 if there is none. -/
def RetIx (n : Nat) (p : Nat → Prop) (w : World) (e : Ending) (w' : World) : Prop := ((∀ k, k < n → p k) ∧ e = .returned (.int .i64 (-1)) ∧ Below w.heap.size w w') ∨ (∃ k : Nat, k < n ∧ ¬ p k ∧ e = .returned (.int .i64 k) ∧ Below w.heap.size w w')
theorem RetIx.no {n : Nat} {p : Nat → Prop} {w w' : World} (h : ∀ k, k < n → p k) (hb : Below w.heap.size w w') : RetIx n p w (.returned (.int .i64 (-1))) w' := .inl ⟨h, rfl, hb⟩
theorem RetIx.at_ {n : Nat} {p : Nat → Prop} {w w' : World} {k : Nat} (hk : k < n) (h : ¬ p k) (hb : Below w.heap.size w w') : RetIx n p w (.returned (.int .i64 k)) w' := .inr ⟨k, hk, h, rfl, hb⟩

set_option maxHeartbeats 400000 in
theorem c79y {x : Int} (w : World) (p : -16 ≤ x ∧ x ≤ 16) : Calls Try.prog 79 #[.int .i64 x] w fun e w' => e = .returned (.bool false) ∧ w = w' := by
  go_enter Try.func79, Try.ntmps79
  go_wp2_with (go_at_call 46; refine (c46y _ (by omega)).mono ?_; rintro e w' ⟨rfl, rfl⟩)
  go_ret
  exact ⟨rfl, rfl⟩
set_option maxHeartbeats 400000 in
theorem c79n {x : Int} (w : World) (p : ¬ (-16 ≤ x ∧ x ≤ 16)) : Calls Try.prog 79 #[.int .i64 x] w fun e w' => e = .returned (.bool true) ∧ w = w' := by
  have hp := hid p
  clear p
  go_enter Try.func79, Try.ntmps79
  go_wp2_with (go_at_call 46; refine (c46n _ hp.out).mono ?_; rintro e w' ⟨rfl, rfl⟩)
  go_ret
  exact ⟨rfl, rfl⟩

set_option maxHeartbeats 400000 in
theorem c85 (A : Option Addr) (b o n c : Nat) (f : Nat → Int) (w : World) (hz : Ints w A b o n f) (hm : n ≤ 1000000) :
    Calls Try.prog 85 #[.slice A n c, .func (.func 79) #[] #[]] w (RetIx n (fun k => -16 ≤ f k ∧ f k ≤ 16) w) := by
  go_enter Try.func85, Try.ntmps85
  go_wp2
  go_loop [5, 8] (fun _ i => ∃ k : Nat, k ≤ n ∧ i = .int .i64 k ∧ Hid (∀ j, j < k → -16 ≤ f j ∧ f j ≤ 16)) (fun _ i => n - (intOf i).toNat)
  case atStart => exact ⟨0, Nat.zero_le _, rfl, fun j hj => absurd hj (Nat.not_lt_zero _)⟩
  case round =>
    obtain ⟨k, hk, rfl, hall⟩ := hrel
    by_cases hlt : k < n
    · have h1 := hz.ce k hlt; have h3 := hz.lt k hlt; have h4 := @Ints.ix _ _ _ _ _ c _ hz _ hlt
      by_cases hp : -16 ≤ f k ∧ f k ≤ 16
      · go_wp2_with (go_at_call 79; refine (c79y _ (by omega)).mono ?_; rintro e w' ⟨rfl, rfl⟩)
        go_round
        case rel =>
          refine ⟨k + 1, by omega, by go_num, fun j hj => ?_⟩
          by_cases e : j = k
          · subst e; exact hp
          · exact hall.out j (by omega)
        case measure => simp [intOf]; omega
      · have hph := hid hp
        clear hp
        go_wp2_with (go_at_call 79; refine (c79n _ hph.out).mono ?_; rintro e w' ⟨rfl, rfl⟩)
        go_returns
        exact RetIx.at_ hlt hph.out (Below.refl _ _)
    · go_wp2_with fail
      go_returns
      exact RetIx.no (fun j hj => hall.out j (by omega)) (Below.refl _ _)
set_option maxHeartbeats 400000 in
theorem c80 (A : Option Addr) (b o n c : Nat) (f : Nat → Int) (w : World) (hz : Ints w A b o n f) (hm : n ≤ 1000000) :
    Calls Try.prog 80 #[.slice A n c, .func (.func 79) #[] #[]] w (RetBB (¬ ∀ k, k < n → -16 ≤ f k ∧ f k ≤ 16) w) := by
  go_enter Try.func80, Try.ntmps80
  go_wp2_with (go_at_call 85; refine (c85 A b o n c f _ hz hm).mono ?_; rintro e w' (⟨h1, rfl, hb⟩ | ⟨k, hk, h1, rfl, hb⟩) <;> replace h1 := hid h1)
  · go_returns
    exact RetBB.no (fun h => h h1.out) hb
  · go_returns
    exact RetBB.yes (fun h => h1.out (h k hk)) hb
set_option maxHeartbeats 400000 in
theorem c69 {a b : Int} (w : World) : Calls Try.prog 69 #[.agg #[.int .i64 a, .int .i64 b]] w (RetBB (¬ ((-1 ≤ a ∧ a ≤ 127) ∧ (-100 ≤ b ∧ b ≤ 100))) w) := by
  by_cases h1 : -1 ≤ a ∧ a ≤ 127
  · by_cases h2 : -100 ≤ b ∧ b ≤ 100
    · go_enter Try.func69, Try.ntmps69
      go_wp2_with (go_at_call 46; refine (c46y _ (by omega)).mono ?_; rintro e w' ⟨rfl, rfl⟩)
      go_returns
      exact RetBB.no (fun h => h ⟨h1, h2⟩) (by (repeat' (first | (with_reducible exact Below.refl _ _) | (with_reducible assumption) | (with_reducible refine Below.alloc ?_ ?_ _) | (with_reducible refine Below.drew ?_) | (with_reducible refine below_drewN ?_ _) | (with_reducible refine Below.setCell ?_ ?_ _) | (with_reducible refine Below.trans ?_ (Below.mono (by with_reducible assumption) ?_)) | go_size)))
    · have h2h := hid h2
      clear h2
      go_enter Try.func69, Try.ntmps69
      go_wp2_with (first | (go_at_call 46; refine (c46y _ (by omega)).mono ?_; rintro e w' ⟨rfl, rfl⟩) | (go_at_call 46; refine (c46n _ h2h.out).mono ?_; rintro e w' ⟨rfl, rfl⟩))
      go_returns
      exact RetBB.yes (fun h => h2h.out h.2) (by (repeat' (first | (with_reducible exact Below.refl _ _) | (with_reducible assumption) | (with_reducible refine Below.alloc ?_ ?_ _) | (with_reducible refine Below.drew ?_) | (with_reducible refine below_drewN ?_ _) | (with_reducible refine Below.setCell ?_ ?_ _) | (with_reducible refine Below.trans ?_ (Below.mono (by with_reducible assumption) ?_)) | go_size)))
  · have h1h := hid h1
    clear h1
    go_enter Try.func69, Try.ntmps69
    go_wp2_with (go_at_call 46; refine (c46n _ h1h.out).mono ?_; rintro e w' ⟨rfl, rfl⟩)
    go_returns
    exact RetBB.yes (fun h => h1h.out h.1) (by (repeat' (first | (with_reducible exact Below.refl _ _) | (with_reducible assumption) | (with_reducible refine Below.alloc ?_ ?_ _) | (with_reducible refine Below.drew ?_) | (with_reducible refine below_drewN ?_ _) | (with_reducible refine Below.setCell ?_ ?_ _) | (with_reducible refine Below.trans ?_ (Below.mono (by with_reducible assumption) ?_)) | go_size)))
end Go.Proofs.Ytfpfnjdnfiihhaa
