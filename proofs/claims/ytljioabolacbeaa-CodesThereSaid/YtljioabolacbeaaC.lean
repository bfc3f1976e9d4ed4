/- Stage 4: the same numbers, bits, and data that a row of bits changed. -/
import Derived.Test.YtljioabolacbeaaB
set_option linter.unusedSimpArgs false
set_option linter.unusedVariables false
namespace Go.Proofs.Ytljioabolacbeaa
open Go.RowKit

theorem Ints.ixh {w : World} {A : Option Addr} {b o n c : Nat} {f : Nat → Int} (h : Ints w A b o n f) : ∀ k, k < n → ∀ w', (Instr.indexAt 25 (.slice A n c) (.int .i64 (k : Nat))).run Try.prog w' = .ok (.pointer (some ⟨b, o + k, none⟩)) w' := fun _ hk w' => h.ix hk w'
set_option maxRecDepth 100000 in
set_option maxHeartbeats 2000000 in
theorem c21y (A B : Option Addr) (a b ao bo n c d : Nat) (f : Nat → Int) (w : World) (h1 : Ints w A a ao n f) (h2 : Ints w B b bo n f) (hl : n ≤ 10000) :
    Calls Try.prog 21 #[.slice A n c, .slice B n d] w fun e w' => e = .returned (.bool true) ∧ Below w.heap.size w w' := by
  have ix1h := hid (h1.ixh (c := c))
  have ix2h := hid (h2.ixh (c := d))
  go_enter Try.func21, Try.ntmps21
  go_wp2_with fail
  go_loopw [5] (fun iv wr => ∃ k : Nat, k ≤ n ∧ iv = .int .i64 k ∧ Below w.heap.size w wr) (fun iv _ => n - (intOf iv).toNat)
  case atStart => exact ⟨0, Nat.zero_le _, rfl, Below.refl _ _⟩
  case round =>
    obtain ⟨k, hk, rfl, hB⟩ := hrel
    by_cases hlt : k < n
    · have k1 := (h1.below hB (Nat.le_refl _)).ce k hlt
      have k3 := (h2.below hB (Nat.le_refl _)).ce k hlt
      have j1 := ix1h.out k hlt
      have j2 := ix2h.out k hlt
      go_wp2_with fail
      go_quiet (fail)
      go_wp2
      go_roundw
      case rel => exact ⟨k + 1, by omega, by go_num, below_drewN hB _⟩
      case measure => simp [intOf]; omega
    · go_wp2_with fail
      go_returns
      exact ⟨rfl, hB⟩
set_option maxRecDepth 100000 in
set_option maxHeartbeats 2000000 in
theorem c23 (A : Option Addr) (b o n c : Nat) (f : Nat → Int) (w : World) (hz : Ints w A b o n f) (hl : n ≤ 1000000) :
    Calls Try.prog 23 #[.slice A n c] w (RetB (allB 2 n f) w) := by
  go_enter Try.func23, Try.ntmps23
  go_wp2_with fail
  go_loop [3] (fun i => ∃ k : Nat, k ≤ n ∧ i = .int .i64 k ∧ Hid (∀ j, j < k → bel 2 (f j))) (fun i => n - (intOf i).toNat)
  case atStart => exact ⟨0, Nat.zero_le _, rfl, fun j hj => absurd hj (Nat.not_lt_zero _)⟩
  case round =>
    obtain ⟨k, hk, rfl, hall⟩ := hrel
    by_cases hlt : k < n
    · have h1 := hz.ce k hlt; have h3 := hz.lt k hlt; have h4 := @Ints.ix _ _ _ _ _ c _ hz _ hlt
      by_cases hp : bel 2 (f k)
      · have hph := hid hp
        clear hp
        go_wp2_with (go_at_call 49; refine (c49y _ (by have := hph.out; unfold bel at this; omega)).mono ?_; rintro e w' ⟨rfl, rfl⟩)
        go_round
        case rel =>
          refine ⟨k + 1, by omega, by go_num, fun j hj => ?_⟩
          by_cases e : j = k
          · subst e; exact hph.out
          · exact hall.out j (by omega)
        case measure => simp [intOf]; omega
      · have hph := hid hp
        clear hp
        go_wp2_with (go_at_call 49; refine (c49n _ (by have := hph.out; unfold bel at this; omega)).mono ?_; rintro e w' ⟨rfl, rfl⟩)
        go_returns
        exact RetB.no (fun h => hph.out (h k hlt))
    · go_wp2_with fail
      go_returns
      exact RetB.yes (fun j hj => hall.out j (by omega))
end Go.Proofs.Ytljioabolacbeaa
