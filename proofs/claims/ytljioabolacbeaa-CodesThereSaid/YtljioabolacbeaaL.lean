/- Stage 4: distances, Find. -/
import Derived.Test.YtljioabolacbeaaK
set_option linter.unusedSimpArgs false
set_option linter.unusedVariables false
namespace Go.Proofs.Ytljioabolacbeaa
open Go.RowKit

/-- In how many of the first k bits a mark differs from a stream. -/
def dst (f g : Nat → Int) : Nat → Nat
  | 0 => 0
  | k + 1 => dst f g k + if g k = f k then 0 else 1
theorem dst_le (f g : Nat → Int) : ∀ k, dst f g k ≤ k
  | 0 => Nat.le_refl _
  | k + 1 => by have := dst_le f g k; simp only [dst]; split <;> omega
theorem dst_congr {f g g' : Nat → Int} {n : Nat} (h : ∀ i, i < n → g i = g' i) : dst f g n = dst f g' n := by
  induction n with
  | zero => rfl
  | succ n ih => simp only [dst]; rw [ih (fun i hi => h i (by omega)), h n (by omega)]
set_option maxRecDepth 100000 in
set_option maxHeartbeats 2000000 in
theorem c56 (A A2 : Option Addr) (b o n c b2 o2 n2 c2 : Nat) (f g : Nat → Int) (w : World) (hf : Ints w A b o n f) (hg : Ints w A2 b2 o2 n2 g) (h12 : n ≤ n2) (hn : n ≤ 16) (h2 : n2 ≤ 1000) :
    Calls Try.prog 56 #[.slice A n c, .slice A2 n2 c2] w fun e w' => e = .returned (.int .i64 (dst f g n : Nat)) ∧ w = w' := by
  go_enter Try.func56, Try.ntmps56
  go_wp2_with fail
  go_loop [5, 10] (fun m iv => ∃ k : Nat, k ≤ n ∧ iv = .int .i64 k ∧ m = .int .i64 (dst f g k : Nat)) (fun _ iv => n - (intOf iv).toNat)
  case atStart => exact ⟨0, Nat.zero_le _, rfl, rfl⟩
  case round =>
    obtain ⟨k, hk, rfl, rfl⟩ := hrel
    by_cases hlt : k < n
    · have p1 := hf.ce k hlt
      have p2 := @Ints.ix _ _ _ _ _ c _ hf _ hlt
      have p3 := hg.ce k (by omega)
      have p4 := @Ints.ix _ _ _ _ _ c2 _ hg _ (show k < n2 by omega)
      have hd := dst_le f g k
      obtain ⟨m, hm⟩ : ∃ m, m = dst f g k := ⟨_, rfl⟩
      rw [← hm] at hd ⊢
      have hmh := hid hm
      clear hm
      by_cases he : g k = f k
      · have hb : (g k != f k) = false := by simpa using he
        have heh := hid he
        clear he
        go_wp2_with fail
        go_round
        case rel => exact ⟨k + 1, by omega, by go_num, by simp only [dst]; rw [if_pos heh.out, ← hmh.out]; rfl⟩
        case measure => simp [intOf]; omega
      · have hb : (g k != f k) = true := by simpa using he
        have heh := hid he
        clear he
        go_wp2_with fail
        go_round
        case rel => exact ⟨k + 1, by omega, by go_num, by simp only [dst]; rw [if_neg heh.out, ← hmh.out]; go_num⟩
        case measure => simp [intOf]; omega
    · go_wp2_with fail
      go_returns
      obtain rfl : k = n := by omega
      exact ⟨rfl, rfl⟩
end Go.Proofs.Ytljioabolacbeaa
