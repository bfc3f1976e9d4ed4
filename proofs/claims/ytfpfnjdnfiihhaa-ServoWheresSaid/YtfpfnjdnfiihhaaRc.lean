/- Stage 2: what is valid, as the reference says it; what statements look at. -/
import Derived.Test.YtfpfnjdnfiihhaaRb
set_option linter.unusedSimpArgs false
set_option linter.unusedVariables false
namespace Go.Proofs.Ytfpfnjdnfiihhaa
open Go.RowKit

set_option maxRecDepth 100000 in
set_option maxHeartbeats 2000000 in
theorem c63 (s : Sv) (w : World) (hz : s.In w) (hm : s.rn ≤ 1000000) : Calls Try.prog 63 #[s.v] w (RetBB s.Ok w) := by
  have ixh := hid (Ints.ixh (c := s.rc) hz)
  have hB0 : Below w.heap.size w (w.alloc (.cells #[.int .i64 s.tr, .int .i64 s.st, .int .i64 s.mv, .int .i64 s.no, .int .i64 s.wr, .slice s.ra s.rn s.rc] 30)) := (Below.refl _ _).alloc (Nat.le_refl _) _
  go_enter Try.func63, Try.ntmps63
  go_wp2_with fail
  go_loop [3] (fun iv => ∃ k : Nat, k ≤ s.rn ∧ iv = .int .i64 k ∧ Hid (∀ j, j < k → -16 ≤ s.rf j ∧ s.rf j ≤ 16)) (fun iv => s.rn - (intOf iv).toNat)
  case atStart => exact ⟨0, Nat.zero_le _, rfl, fun j hj => absurd hj (Nat.not_lt_zero _)⟩
  case round =>
    obtain ⟨k, hk, rfl, hall⟩ := hrel
    by_cases hlt : k < s.rn
    · have h1 := hz.ce k hlt; have h3 := hz.lt k hlt; have h4 := ixh.out k hlt
      by_cases hp : -16 ≤ s.rf k ∧ s.rf k ≤ 16
      · go_wp2_with (go_at_call 61; refine (c61y _ (by omega)).mono ?_; rintro e w' ⟨rfl, rfl⟩)
        go_round
        case rel =>
          refine ⟨k + 1, by omega, by go_num, fun j hj => ?_⟩
          by_cases e : j = k
          · subst e; exact hp
          · exact hall.out j (by omega)
        case measure => simp [intOf]; omega
      · have hph := hid hp
        clear hp
        go_wp2_with (go_at_call 61; refine (c61n _ (by have := hph.out; omega)).mono ?_; rintro e w' ⟨rfl, rfl⟩)
        go_returns
        exact RetBB.no (fun h => hph.out (h.ro k hlt)) hB0
    · go_wp2_with (go_at_call 61; refine (c61 _ _ _ _).mono ?_; rintro e w' (⟨g, rfl, rfl⟩ | ⟨g, rfl, rfl⟩))
      all_goals go_returns
      all_goals first | exact RetBB.yes (Sv.Ok.mk' (by omega) (fun j hj => hall.out j (by omega))) hB0 | exact RetBB.no (fun h => by have := h.un; omega) hB0
theorem c63y (s : Sv) (w : World) (hz : s.In w) (hm : s.rn ≤ 1000000) (p : s.Ok) : Calls Try.prog 63 #[s.v] w fun e w' => e = .returned (.bool true) ∧ Below w.heap.size w w' :=
  (c63 s w hz hm).mono fun _ _ hr => by
    rcases hr with ⟨_, h1⟩ | ⟨h1, _⟩
    · exact h1
    · exact absurd p h1
theorem c63n (s : Sv) (w : World) (hz : s.In w) (hm : s.rn ≤ 1000000) (p : ¬ s.Ok) : Calls Try.prog 63 #[s.v] w fun e w' => e = .returned (.bool false) ∧ Below w.heap.size w w' :=
  (c63 s w hz hm).mono fun _ _ hr => by
    rcases hr with ⟨h1, _⟩ | ⟨_, h1⟩
    · exact absurd h1 p
    · exact h1

theorem Weds.ixh {w : World} {A : Option Addr} {b o n c : Nat} {f g : Nat → Int} (h : Weds w A b o n f g) : ∀ k, k < n → ∀ w', (Instr.indexAt 31 (.slice A n c) (.int .i64 (k : Nat))).run Try.prog w' = .ok (.pointer (some ⟨b, o + k * 2, none⟩)) w' := fun _ hk w' => h.ix hk w'
set_option maxRecDepth 100000 in
set_option maxHeartbeats 2000000 in
theorem c37 (s : Sv) (g : Wg) (w : World) (hz : s.In w) (hg : g.In w) (hm : s.rn ≤ 1000000) (hm2 : g.wn ≤ 1000000) :
    Calls Try.prog 37 #[s.v, g.v] w fun e w' => e = .returned (.int .i64 (ckE s g)) ∧ Below w.heap.size w w' := by
  by_cases ok : s.Ok
  · have okh := hid ok
    have hB0 : Below w.heap.size w (w.alloc (.cells #[.int .i64 s.tr, .int .i64 s.st, .int .i64 s.mv, .int .i64 s.no, .int .i64 s.wr, .slice s.ra s.rn s.rc] 30)) := (Below.refl _ _).alloc (Nat.le_refl _) _
    by_cases hn : g.wn ≤ 24
    · have ixh := hid (Weds.ixh (c := g.wk) hg)
      clear ok
      go_enter Try.func37, Try.ntmps37
      go_wp2_with (go_at_call 63; refine (c63y s _ (hz.below hB0 (Nat.le_refl _)) hm okh.out).mono ?_; rintro e w1 ⟨rfl, hB1⟩)
      have hBx : Below w.heap.size w w1 := hB0.trans (hB1.mono (by simp))
      go_loop [5] (fun iv => ∃ k : Nat, k ≤ g.wn ∧ iv = .int .i64 k ∧ Hid (∀ j, j < k → okW (g.wc j) (g.wu j))) (fun iv => g.wn - (intOf iv).toNat)
      case atStart => exact ⟨0, Nat.zero_le _, rfl, fun j hj => absurd hj (Nat.not_lt_zero _)⟩
      case round =>
        obtain ⟨k, hk, rfl, hall⟩ := hrel
        by_cases hlt : k < g.wn
        · have h1 := (hg.below hBx (Nat.le_refl _)).c1 k hlt; have h2 := (hg.below hBx (Nat.le_refl _)).c2 k hlt; have h4 := ixh.out k hlt
          by_cases hp : -1 ≤ g.wc k ∧ g.wc k ≤ 127
          · by_cases hq : -100 ≤ g.wu k ∧ g.wu k ≤ 100
            · go_wp2_with (go_at_call 61; refine (c61y _ (by omega)).mono ?_; rintro e w' ⟨rfl, rfl⟩)
              go_round
              case rel =>
                refine ⟨k + 1, by omega, by go_num, fun j hj => ?_⟩
                by_cases e : j = k
                · subst e; exact ⟨hp, hq⟩
                · exact hall.out j (by omega)
              case measure => simp [intOf]; omega
            · have hqh := hid hq
              have he := hid (ckE_wg okh.out (fun h : g.Ok => hq (h.u k hlt)))
              clear hq
              go_wp2_with (first | (go_at_call 61; refine (c61y _ (by omega)).mono ?_; rintro e w' ⟨rfl, rfl⟩) | (go_at_call 61; refine (c61n _ (by have := hqh.out; omega)).mono ?_; rintro e w' ⟨rfl, rfl⟩))
              go_returns
              exact ⟨ret_eq he.out.symm, hBx⟩
          · have hph := hid hp
            have he := hid (ckE_wg okh.out (fun h : g.Ok => hp (h.c k hlt)))
            clear hp
            go_wp2_with (go_at_call 61; refine (c61n _ (by have := hph.out; omega)).mono ?_; rintro e w' ⟨rfl, rfl⟩)
            go_returns
            exact ⟨ret_eq he.out.symm, hBx⟩
        · have he := hid (ckE_ok okh.out (Wg.Ok.of hn (fun j hj => hall.out j (by omega))))
          go_wp2_with fail
          go_returns
          exact ⟨ret_eq he.out.symm, hBx⟩
    · have he := hid (ckE_wg okh.out (fun h : g.Ok => hn h.n2))
      clear ok
      go_enter Try.func37, Try.ntmps37
      go_wp2_with (go_at_call 63; refine (c63y s _ (hz.below hB0 (Nat.le_refl _)) hm okh.out).mono ?_; rintro e w1 ⟨rfl, hB1⟩)
      go_returns
      exact ⟨ret_eq he.out.symm, hB0.trans (hB1.mono (by simp))⟩
  · have okh := hid ok
    have he := hid (ckE_sv (g := g) ok)
    have hB0 : Below w.heap.size w (w.alloc (.cells #[.int .i64 s.tr, .int .i64 s.st, .int .i64 s.mv, .int .i64 s.no, .int .i64 s.wr, .slice s.ra s.rn s.rc] 30)) := (Below.refl _ _).alloc (Nat.le_refl _) _
    clear ok
    go_enter Try.func37, Try.ntmps37
    go_wp2_with (go_at_call 63; refine (c63n s _ (hz.below hB0 (Nat.le_refl _)) hm okh.out).mono ?_; rintro e w1 ⟨rfl, hB1⟩)
    go_returns
    exact ⟨ret_eq he.out.symm, hB0.trans (hB1.mono (by simp))⟩

/-- What a statement does not look at. -/
def FarP (s : Sv) (g : Wg) : Prop := 40 < s.rn ∨ 40 < g.wn ∨ (8 < g.wn ∧ g.wn ≤ 24) ∨ (s.Ok ∧ (8 < s.tr ∨ 6 < s.st))
set_option maxRecDepth 100000 in
set_option maxHeartbeats 2000000 in
theorem c34 (s : Sv) (g : Wg) (w : World) (hz : s.In w) : Calls Try.prog 34 #[s.v, g.v] w (RetBB (FarP s g) w) := by
  have hB0 : Below w.heap.size w (w.alloc (.cells #[.int .i64 s.tr, .int .i64 s.st, .int .i64 s.mv, .int .i64 s.no, .int .i64 s.wr, .slice s.ra s.rn s.rc] 30)) := (Below.refl _ _).alloc (Nat.le_refl _) _
  by_cases h1 : 40 < s.rn
  · go_enter Try.func34, Try.ntmps34
    go_wp2_with fail
    go_returns
    exact RetBB.yes (.inl h1) hB0
  · by_cases h2 : 40 < g.wn
    · go_enter Try.func34, Try.ntmps34
      go_wp2_with fail
      go_returns
      exact RetBB.yes (.inr (.inl h2)) hB0
    · by_cases h3 : 8 < g.wn
      · by_cases h4 : g.wn ≤ 24
        · go_enter Try.func34, Try.ntmps34
          go_wp2_with fail
          go_returns
          exact RetBB.yes (.inr (.inr (.inl ⟨h3, h4⟩))) hB0
        · by_cases ok : s.Ok
          · have okh := hid ok
            clear ok
            by_cases h5 : 8 < s.tr <;> by_cases h6 : 6 < s.st
            all_goals
              (try have d5 : decide (8 < s.tr) = false := by simpa using h5)
              (try have d6 : decide (6 < s.st) = false := by simpa using h6)
              go_enter Try.func34, Try.ntmps34
              go_wp2_with (go_at_call 63; refine (c63y s _ (hz.below hB0 (Nat.le_refl _)) (by omega) okh.out).mono ?_; rintro e w1 ⟨rfl, hB1⟩; obtain ⟨k0, k1, _, _, _, _⟩ := ((Svb.new s w).below hB1 (by simp)).all)
              go_returns
              first | exact RetBB.yes (p := FarP s g) (.inr (.inr (.inr ⟨okh.out, by omega⟩))) (hB0.trans (hB1.mono (by simp))) | exact RetBB.no (p := FarP s g) (by rintro (h | h | h | ⟨_, h⟩) <;> omega) (hB0.trans (hB1.mono (by simp)))
          · have okh := hid ok
            clear ok
            go_enter Try.func34, Try.ntmps34
            go_wp2_with (go_at_call 63; refine (c63n s _ (hz.below hB0 (Nat.le_refl _)) (by omega) okh.out).mono ?_; rintro e w1 ⟨rfl, hB1⟩)
            go_returns
            exact RetBB.no (p := FarP s g) (by rintro (h | h | h | ⟨h, _⟩) <;> first | omega | exact okh.out h) (hB0.trans (hB1.mono (by simp)))
      · by_cases ok : s.Ok
        · have okh := hid ok
          clear ok
          by_cases h5 : 8 < s.tr <;> by_cases h6 : 6 < s.st
          all_goals
            (try have d5 : decide (8 < s.tr) = false := by simpa using h5)
            (try have d6 : decide (6 < s.st) = false := by simpa using h6)
            go_enter Try.func34, Try.ntmps34
            go_wp2_with (go_at_call 63; refine (c63y s _ (hz.below hB0 (Nat.le_refl _)) (by omega) okh.out).mono ?_; rintro e w1 ⟨rfl, hB1⟩; obtain ⟨k0, k1, _, _, _, _⟩ := ((Svb.new s w).below hB1 (by simp)).all)
            go_returns
            first | exact RetBB.yes (p := FarP s g) (.inr (.inr (.inr ⟨okh.out, by omega⟩))) (hB0.trans (hB1.mono (by simp))) | exact RetBB.no (p := FarP s g) (by rintro (h | h | h | ⟨_, h⟩) <;> omega) (hB0.trans (hB1.mono (by simp)))
        · have okh := hid ok
          clear ok
          go_enter Try.func34, Try.ntmps34
          go_wp2_with (go_at_call 63; refine (c63n s _ (hz.below hB0 (Nat.le_refl _)) (by omega) okh.out).mono ?_; rintro e w1 ⟨rfl, hB1⟩)
          go_returns
          exact RetBB.no (p := FarP s g) (by rintro (h | h | h | ⟨h, _⟩) <;> first | omega | exact okh.out h) (hB0.trans (hB1.mono (by simp)))
end Go.Proofs.Ytfpfnjdnfiihhaa
