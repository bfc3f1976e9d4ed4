/- Stage 2: wedges checked one after the other; what is known of a head. -/
import Derived.Test.YtfpfnjdnfiihhaaC
set_option linter.unusedSimpArgs false
set_option linter.unusedVariables false
namespace Go.Proofs.Ytfpfnjdnfiihhaa
open Go.RowKit

def okW (a b : Int) : Prop := (-1 ≤ a ∧ a ≤ 127) ∧ (-100 ≤ b ∧ b ≤ 100)
theorem c69y {a b : Int} (w : World) (p : okW a b) : Calls Try.prog 69 #[.agg #[.int .i64 a, .int .i64 b]] w fun e w' => e = .returned (.bool false) ∧ Below w.heap.size w w' :=
  (c69 w).mono fun _ _ hr => by
    rcases hr with ⟨h1, _⟩ | ⟨_, h1⟩
    · exact absurd p h1
    · exact h1
theorem c69n {a b : Int} (w : World) (p : ¬ okW a b) : Calls Try.prog 69 #[.agg #[.int .i64 a, .int .i64 b]] w fun e w' => e = .returned (.bool true) ∧ Below w.heap.size w w' :=
  (c69 w).mono fun _ _ hr => by
    rcases hr with ⟨_, h1⟩ | ⟨h1, _⟩
    · exact h1
    · exact absurd h1 (fun h => h p)

set_option maxHeartbeats 400000 in
theorem c81 (g : Wg) (w : World) (hz : g.In w) (hm : g.wn ≤ 1000000) :
    Calls Try.prog 81 #[g.v, .func (.func 69) #[] #[]] w (RetIx g.wn (fun k => okW (g.wc k) (g.wu k)) w) := by
  go_enter Try.func81, Try.ntmps81
  go_wp2
  go_loopw [5, 8] (fun _ i wr => ∃ k : Nat, k ≤ g.wn ∧ i = .int .i64 k ∧ Hid (∀ j, j < k → okW (g.wc j) (g.wu j)) ∧ Below w.heap.size w wr) (fun _ i _ => g.wn - (intOf i).toNat)
  case atStart => exact ⟨0, Nat.zero_le _, rfl, fun j hj => absurd hj (Nat.not_lt_zero _), Below.refl _ _⟩
  case round =>
    obtain ⟨k, hk, rfl, hall, hB⟩ := hrel
    obtain ⟨hc, hf⟩ := bcell hB
    by_cases hlt : k < g.wn
    · have h1 := hz.c1 k hlt; have h2 := hz.c2 k hlt; have h3 := hz.lt k hlt; have h4 := @Weds.ix _ _ _ _ _ g.wk _ _ hz _ hlt
      by_cases hp : okW (g.wc k) (g.wu k)
      · have hph := hid hp
        clear hp
        go_wp2_with (go_at_call 69; refine (c69y _ hph.out).mono ?_; rintro e w1 ⟨rfl, hB1⟩)
        go_roundw
        case rel =>
          refine ⟨k + 1, by omega, by go_num, fun j hj => ?_, hB.trans (hB1.mono hB.size)⟩
          by_cases e : j = k
          · subst e; exact hph.out
          · exact hall.out j (by omega)
        case measure => simp [intOf]; omega
      · have hph := hid hp
        clear hp
        go_wp2_with (go_at_call 69; refine (c69n _ hph.out).mono ?_; rintro e w1 ⟨rfl, hB1⟩)
        go_returns
        exact RetIx.at_ hlt hph.out (hB.trans (hB1.mono hB.size))
    · go_wp2_with fail
      go_returns
      exact RetIx.no (fun j hj => hall.out j (by omega)) hB
set_option maxHeartbeats 400000 in
theorem c70 (g : Wg) (w : World) (hz : g.In w) (hm : g.wn ≤ 1000000) :
    Calls Try.prog 70 #[g.v, .func (.func 69) #[] #[]] w (RetBB (¬ ∀ k, k < g.wn → okW (g.wc k) (g.wu k)) w) := by
  go_enter Try.func70, Try.ntmps70
  go_wp2_with (go_at_call 81; refine (c81 g _ hz hm).mono ?_; rintro e w' (⟨h1, rfl, hb⟩ | ⟨k, hk, h1, rfl, hb⟩) <;> replace h1 := hid h1)
  · go_returns
    exact RetBB.no (fun h => h h1.out) hb
  · go_returns
    exact RetBB.yes (fun h => h1.out (h k hk)) hb

theorem Sv.Ok.mk' {s : Sv} (a : (1 ≤ s.tr ∧ s.tr ≤ 64) ∧ (1 ≤ s.st ∧ s.st ≤ 16) ∧ (0 ≤ s.mv ∧ s.mv ≤ 64) ∧ (0 ≤ s.no ∧ s.no ≤ 16) ∧ (0 ≤ s.wr ∧ s.wr ≤ 3) ∧ (1 ≤ s.rn ∧ s.rn ≤ 16)) (h : ∀ k, k < s.rn → -16 ≤ s.rf k ∧ s.rf k ≤ 16) : s.Ok := by
  obtain ⟨⟨a1, a2⟩, ⟨a3, a4⟩, ⟨a5, a6⟩, ⟨a7, a8⟩, ⟨a9, a10⟩, ⟨a11, a12⟩⟩ := a
  exact ⟨a1, a2, a3, a4, a5, a6, a7, a8, a9, a10, a11, a12, h⟩
theorem Sv.Ok.un {s : Sv} (h : s.Ok) : (1 ≤ s.tr ∧ s.tr ≤ 64) ∧ (1 ≤ s.st ∧ s.st ≤ 16) ∧ (0 ≤ s.mv ∧ s.mv ≤ 64) ∧ (0 ≤ s.no ∧ s.no ≤ 16) ∧ (0 ≤ s.wr ∧ s.wr ≤ 3) ∧ (1 ≤ s.rn ∧ s.rn ≤ 16) :=
  ⟨⟨h.t1, h.t2⟩, ⟨h.s1, h.s2⟩, ⟨h.m0, h.m1⟩, ⟨h.n0, h.n1⟩, ⟨h.w0, h.w1⟩, ⟨h.r1, h.r2⟩⟩

set_option maxHeartbeats 1000000 in
theorem c68 (s : Sv) (w : World) (hz : s.In w) (hm : s.rn ≤ 1000000) : Calls Try.prog 68 #[s.v] w (RetBB s.Ok w) := by
  go_enter Try.func68, Try.ntmps68
  go_wp2_with (first | (go_at_call 46; refine (c46 _ _ _ _).mono ?_; rintro e w' (⟨g, rfl, rfl⟩ | ⟨g, rfl, rfl⟩)) | (go_at_call 80; refine (c80 s.ra s.rb s.ro s.rn s.rc s.rf _ (hz.below ((Below.refl _ _).alloc (Nat.le_refl _) _) (Nat.le_refl _)) hm).mono ?_; rintro e w' (⟨h1, rfl, hb⟩ | ⟨h1, rfl, hb⟩) <;> replace h1 := hid h1))
  all_goals go_returns
  all_goals have hB0 : Below w.heap.size w (w.alloc (.cells #[.int .i64 s.tr, .int .i64 s.st, .int .i64 s.mv, .int .i64 s.no, .int .i64 s.wr, .slice s.ra s.rn s.rc] 30)) := (Below.refl _ _).alloc (Nat.le_refl _) _
  all_goals first | exact RetBB.yes (Sv.Ok.mk' (by omega) (Classical.not_not.1 h1.out)) (hB0.trans (hb.mono (by simp))) | exact RetBB.no (fun h => h1.out h.ro) (hB0.trans (hb.mono (by simp))) | exact RetBB.no (fun h => by have := h.un; omega) hB0
end Go.Proofs.Ytfpfnjdnfiihhaa
