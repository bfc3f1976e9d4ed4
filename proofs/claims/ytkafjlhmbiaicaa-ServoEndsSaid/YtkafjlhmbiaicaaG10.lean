/- Texts put together: Rc, Rd, Re, Rf. -/
import Derived.Test.YtkafjlhmbiaicaaG09
import Derived.Lib.QuietBelow
/- Stage 2: what is valid, as the reference says it; what statements look at. -/
set_option linter.unusedSimpArgs false
set_option linter.unusedVariables false
namespace Go.Proofs.Ytkafjlhmbiaicaa
open Go.RowKit

set_option maxRecDepth 100000 in
set_option maxHeartbeats 2000000 in
theorem c63 (s : Sv) (w : World) (hz : s.In w) (hm : s.rn ≤ 1000000) : Calls Try.prog 63 #[s.v] w (RetBB s.Ok w) := by
  have ixh := hid (Ints.ixh (c := s.rc) hz)
  have hB0 : Below w.heap.size w (w.alloc (.cells #[.int .i64 s.tr, .int .i64 s.st, .int .i64 s.mv, .int .i64 s.no, .int .i64 s.wr, .slice s.ra s.rn s.rc] 30)) := (Below.refl _ _).alloc (Nat.le_refl _) _
  go_enter Try.func63, Try.ntmps63
  go_wp2_with fail
  go_loop [3] (fun iv => ∃ k : Nat, k ≤ s.rn ∧ iv = .int .i64 k ∧ Hid (∀ j, j < k → -16 ≤ s.rf j ∧ s.rf j ≤ 16)) (fun iv => s.rn - (intOf iv).toNat)
  case atStart => exact ⟨0, Nat.zero_le _, rfl, fun j hj => absurd hj (Nat.not_lt_zero _)⟩
  case round =>
    obtain ⟨k, hk, rfl, hall⟩ := hrel
    by_cases hlt : k < s.rn
    · have h1 := hz.ce k hlt; have h3 := hz.lt k hlt; have h4 := ixh.out k hlt
      by_cases hp : -16 ≤ s.rf k ∧ s.rf k ≤ 16
      · go_wp2_with (go_at_call 61; refine (c61y _ (by omega)).mono ?_; rintro e w' ⟨rfl, rfl⟩)
        go_round
        case rel =>
          refine ⟨k + 1, by omega, by go_num, fun j hj => ?_⟩
          by_cases e : j = k
          · subst e; exact hp
          · exact hall.out j (by omega)
        case measure => simp [intOf]; omega
      · have hph := hid hp
        clear hp
        go_wp2_with (go_at_call 61; refine (c61n _ (by have := hph.out; omega)).mono ?_; rintro e w' ⟨rfl, rfl⟩)
        go_returns
        exact RetBB.no (fun h => hph.out (h.ro k hlt)) hB0
    · go_wp2_with (go_at_call 61; refine (c61 _ _ _ _).mono ?_; rintro e w' (⟨g, rfl, rfl⟩ | ⟨g, rfl, rfl⟩))
      all_goals go_returns
      all_goals first | exact RetBB.yes (Sv.Ok.mk' (by omega) (fun j hj => hall.out j (by omega))) hB0 | exact RetBB.no (fun h => by have := h.un; omega) hB0
theorem c63y (s : Sv) (w : World) (hz : s.In w) (hm : s.rn ≤ 1000000) (p : s.Ok) : Calls Try.prog 63 #[s.v] w fun e w' => e = .returned (.bool true) ∧ Below w.heap.size w w' :=
  (c63 s w hz hm).mono fun _ _ hr => by
    rcases hr with ⟨_, h1⟩ | ⟨h1, _⟩
    · exact h1
    · exact absurd p h1
theorem c63n (s : Sv) (w : World) (hz : s.In w) (hm : s.rn ≤ 1000000) (p : ¬ s.Ok) : Calls Try.prog 63 #[s.v] w fun e w' => e = .returned (.bool false) ∧ Below w.heap.size w w' :=
  (c63 s w hz hm).mono fun _ _ hr => by
    rcases hr with ⟨h1, _⟩ | ⟨_, h1⟩
    · exact absurd h1 p
    · exact h1

theorem Weds.ixh {w : World} {A : Option Addr} {b o n c : Nat} {f g : Nat → Int} (h : Weds w A b o n f g) : ∀ k, k < n → ∀ w', (Instr.indexAt 31 (.slice A n c) (.int .i64 (k : Nat))).run Try.prog w' = .ok (.pointer (some ⟨b, o + k * 2, none⟩)) w' := fun _ hk w' => h.ix hk w'
set_option maxRecDepth 100000 in
set_option maxHeartbeats 2000000 in
theorem c37 (s : Sv) (g : Wg) (w : World) (hz : s.In w) (hg : g.In w) (hm : s.rn ≤ 1000000) (hm2 : g.wn ≤ 1000000) :
    Calls Try.prog 37 #[s.v, g.v] w fun e w' => e = .returned (.int .i64 (ckE s g)) ∧ Below w.heap.size w w' := by
  by_cases ok : s.Ok
  · have okh := hid ok
    have hB0 : Below w.heap.size w (w.alloc (.cells #[.int .i64 s.tr, .int .i64 s.st, .int .i64 s.mv, .int .i64 s.no, .int .i64 s.wr, .slice s.ra s.rn s.rc] 30)) := (Below.refl _ _).alloc (Nat.le_refl _) _
    by_cases hn : g.wn ≤ 24
    · have ixh := hid (Weds.ixh (c := g.wk) hg)
      clear ok
      go_enter Try.func37, Try.ntmps37
      go_wp2_with (go_at_call 63; refine (c63y s _ (hz.below hB0 (Nat.le_refl _)) hm okh.out).mono ?_; rintro e w1 ⟨rfl, hB1⟩)
      have hBx : Below w.heap.size w w1 := hB0.trans (hB1.mono (by simp))
      go_loop [5] (fun iv => ∃ k : Nat, k ≤ g.wn ∧ iv = .int .i64 k ∧ Hid (∀ j, j < k → okW (g.wc j) (g.wu j))) (fun iv => g.wn - (intOf iv).toNat)
      case atStart => exact ⟨0, Nat.zero_le _, rfl, fun j hj => absurd hj (Nat.not_lt_zero _)⟩
      case round =>
        obtain ⟨k, hk, rfl, hall⟩ := hrel
        by_cases hlt : k < g.wn
        · have h1 := (hg.below hBx (Nat.le_refl _)).c1 k hlt; have h2 := (hg.below hBx (Nat.le_refl _)).c2 k hlt; have h4 := ixh.out k hlt
          by_cases hp : -1 ≤ g.wc k ∧ g.wc k ≤ 127
          · by_cases hq : -100 ≤ g.wu k ∧ g.wu k ≤ 100
            · go_wp2_with (go_at_call 61; refine (c61y _ (by omega)).mono ?_; rintro e w' ⟨rfl, rfl⟩)
              go_round
              case rel =>
                refine ⟨k + 1, by omega, by go_num, fun j hj => ?_⟩
                by_cases e : j = k
                · subst e; exact ⟨hp, hq⟩
                · exact hall.out j (by omega)
              case measure => simp [intOf]; omega
            · have hqh := hid hq
              have he := hid (ckE_wg okh.out (fun h : g.Ok => hq (h.u k hlt)))
              clear hq
              go_wp2_with (first | (go_at_call 61; refine (c61y _ (by omega)).mono ?_; rintro e w' ⟨rfl, rfl⟩) | (go_at_call 61; refine (c61n _ (by have := hqh.out; omega)).mono ?_; rintro e w' ⟨rfl, rfl⟩))
              go_returns
              exact ⟨ret_eq he.out.symm, hBx⟩
          · have hph := hid hp
            have he := hid (ckE_wg okh.out (fun h : g.Ok => hp (h.c k hlt)))
            clear hp
            go_wp2_with (go_at_call 61; refine (c61n _ (by have := hph.out; omega)).mono ?_; rintro e w' ⟨rfl, rfl⟩)
            go_returns
            exact ⟨ret_eq he.out.symm, hBx⟩
        · have he := hid (ckE_ok okh.out (Wg.Ok.of hn (fun j hj => hall.out j (by omega))))
          go_wp2_with fail
          go_returns
          exact ⟨ret_eq he.out.symm, hBx⟩
    · have he := hid (ckE_wg okh.out (fun h : g.Ok => hn h.n2))
      clear ok
      go_enter Try.func37, Try.ntmps37
      go_wp2_with (go_at_call 63; refine (c63y s _ (hz.below hB0 (Nat.le_refl _)) hm okh.out).mono ?_; rintro e w1 ⟨rfl, hB1⟩)
      go_returns
      exact ⟨ret_eq he.out.symm, hB0.trans (hB1.mono (by simp))⟩
  · have okh := hid ok
    have he := hid (ckE_sv (g := g) ok)
    have hB0 : Below w.heap.size w (w.alloc (.cells #[.int .i64 s.tr, .int .i64 s.st, .int .i64 s.mv, .int .i64 s.no, .int .i64 s.wr, .slice s.ra s.rn s.rc] 30)) := (Below.refl _ _).alloc (Nat.le_refl _) _
    clear ok
    go_enter Try.func37, Try.ntmps37
    go_wp2_with (go_at_call 63; refine (c63n s _ (hz.below hB0 (Nat.le_refl _)) hm okh.out).mono ?_; rintro e w1 ⟨rfl, hB1⟩)
    go_returns
    exact ⟨ret_eq he.out.symm, hB0.trans (hB1.mono (by simp))⟩

/-- What a statement does not look at. -/
def FarP (s : Sv) (g : Wg) : Prop := 40 < s.rn ∨ 40 < g.wn ∨ (8 < g.wn ∧ g.wn ≤ 24) ∨ (s.Ok ∧ (8 < s.tr ∨ 6 < s.st))
set_option maxRecDepth 100000 in
set_option maxHeartbeats 2000000 in
theorem c34 (s : Sv) (g : Wg) (w : World) (hz : s.In w) : Calls Try.prog 34 #[s.v, g.v] w (RetBB (FarP s g) w) := by
  have hB0 : Below w.heap.size w (w.alloc (.cells #[.int .i64 s.tr, .int .i64 s.st, .int .i64 s.mv, .int .i64 s.no, .int .i64 s.wr, .slice s.ra s.rn s.rc] 30)) := (Below.refl _ _).alloc (Nat.le_refl _) _
  by_cases h1 : 40 < s.rn
  · go_enter Try.func34, Try.ntmps34
    go_wp2_with fail
    go_returns
    exact RetBB.yes (.inl h1) hB0
  · by_cases h2 : 40 < g.wn
    · go_enter Try.func34, Try.ntmps34
      go_wp2_with fail
      go_returns
      exact RetBB.yes (.inr (.inl h2)) hB0
    · by_cases h3 : 8 < g.wn
      · by_cases h4 : g.wn ≤ 24
        · go_enter Try.func34, Try.ntmps34
          go_wp2_with fail
          go_returns
          exact RetBB.yes (.inr (.inr (.inl ⟨h3, h4⟩))) hB0
        · by_cases ok : s.Ok
          · have okh := hid ok
            clear ok
            by_cases h5 : 8 < s.tr <;> by_cases h6 : 6 < s.st
            all_goals
              (try have d5 : decide (8 < s.tr) = false := by simpa using h5)
              (try have d6 : decide (6 < s.st) = false := by simpa using h6)
              go_enter Try.func34, Try.ntmps34
              go_wp2_with (go_at_call 63; refine (c63y s _ (hz.below hB0 (Nat.le_refl _)) (by omega) okh.out).mono ?_; rintro e w1 ⟨rfl, hB1⟩; obtain ⟨k0, k1, _, _, _, _⟩ := ((Svb.new s w).below hB1 (by simp)).all)
              go_returns
              first | exact RetBB.yes (p := FarP s g) (.inr (.inr (.inr ⟨okh.out, by omega⟩))) (hB0.trans (hB1.mono (by simp))) | exact RetBB.no (p := FarP s g) (by rintro (h | h | h | ⟨_, h⟩) <;> omega) (hB0.trans (hB1.mono (by simp)))
          · have okh := hid ok
            clear ok
            go_enter Try.func34, Try.ntmps34
            go_wp2_with (go_at_call 63; refine (c63n s _ (hz.below hB0 (Nat.le_refl _)) (by omega) okh.out).mono ?_; rintro e w1 ⟨rfl, hB1⟩)
            go_returns
            exact RetBB.no (p := FarP s g) (by rintro (h | h | h | ⟨h, _⟩) <;> first | omega | exact okh.out h) (hB0.trans (hB1.mono (by simp)))
      · by_cases ok : s.Ok
        · have okh := hid ok
          clear ok
          by_cases h5 : 8 < s.tr <;> by_cases h6 : 6 < s.st
          all_goals
            (try have d5 : decide (8 < s.tr) = false := by simpa using h5)
            (try have d6 : decide (6 < s.st) = false := by simpa using h6)
            go_enter Try.func34, Try.ntmps34
            go_wp2_with (go_at_call 63; refine (c63y s _ (hz.below hB0 (Nat.le_refl _)) (by omega) okh.out).mono ?_; rintro e w1 ⟨rfl, hB1⟩; obtain ⟨k0, k1, _, _, _, _⟩ := ((Svb.new s w).below hB1 (by simp)).all)
            go_returns
            first | exact RetBB.yes (p := FarP s g) (.inr (.inr (.inr ⟨okh.out, by omega⟩))) (hB0.trans (hB1.mono (by simp))) | exact RetBB.no (p := FarP s g) (by rintro (h | h | h | ⟨_, h⟩) <;> omega) (hB0.trans (hB1.mono (by simp)))
        · have okh := hid ok
          clear ok
          go_enter Try.func34, Try.ntmps34
          go_wp2_with (go_at_call 63; refine (c63n s _ (hz.below hB0 (Nat.le_refl _)) (by omega) okh.out).mono ?_; rintro e w1 ⟨rfl, hB1⟩)
          go_returns
          exact RetBB.no (p := FarP s g) (by rintro (h | h | h | ⟨h, _⟩) <;> first | omega | exact okh.out h) (hB0.trans (hB1.mono (by simp)))
end Go.Proofs.Ytkafjlhmbiaicaa

/- Stage 2: paths, and how many wedges do not agree with them, as the reference says it. -/
set_option linter.unusedSimpArgs false
set_option linter.unusedVariables false
namespace Go.Proofs.Ytkafjlhmbiaicaa
open Go.RowKit Go.Sort Go.BigFrame

theorem c61yb {n l h : Int} (w : World) (p : l ≤ n ∧ n ≤ h) : Calls Try.prog 61 #[.int .i64 n, .int .i64 l, .int .i64 h] w fun e w' => e = .returned (.bool true) ∧ Below w.heap.size w w' :=
  (c61y w p).mono fun _ _ ⟨h1, h2⟩ => ⟨h1, by subst h2; exact Below.refl _ _⟩
theorem c61nb {n l h : Int} (w : World) (p : ¬ (l ≤ n ∧ n ≤ h)) : Calls Try.prog 61 #[.int .i64 n, .int .i64 l, .int .i64 h] w fun e w' => e = .returned (.bool false) ∧ Below w.heap.size w w' :=
  (c61n w p).mono fun _ _ ⟨h1, h2⟩ => ⟨h1, by subst h2; exact Below.refl _ _⟩
theorem c55b (n : Int) (w : World) (h : -1000000 ≤ n ∧ n ≤ 1000000) : Calls Try.prog 55 #[.int .i64 n] w fun e w' => e = .returned (.int .i64 (absI n)) ∧ Below w.heap.size w w' :=
  (c55 n w h).mono fun _ _ ⟨h1, h2⟩ => ⟨h1, by subst h2; exact Below.refl _ _⟩
/-- A path of n positions, as numbers. -/
def inP (s : Sv) (f : Nat → Int) (k : Nat) : Prop := 0 ≤ f k ∧ f k ≤ (s.N : Int) - 1
def nxP (s : Sv) (f : Nat → Int) (k : Nat) : Prop := 0 < k → absI (f k - f (k - 1)) ≤ s.mv
def PathP (s : Sv) (f : Nat → Int) (n : Nat) : Prop := ∀ k, k < n → inP s f k ∧ nxP s f k
theorem Svb.grow {s : Sv} {w : World} {b : Nat} (h : Svb s w b) : ∀ dd os, Svb s (grow (redrawn w dd) os) b := fun dd os => by
  obtain ⟨b0, b1, b2, b3, b4, b5⟩ := h
  exact ⟨cell_regrown b0 dd os, cell_regrown b1 dd os, cell_regrown b2 dd os, cell_regrown b3 dd os, cell_regrown b4 dd os, cell_regrown b5 dd os⟩

set_option maxRecDepth 100000 in
set_option maxHeartbeats 4000000 in
theorem c29 (s : Sv) (g : Wg) (A : Option Addr) (b o n c : Nat) (f : Nat → Int) (w : World) (ok : s.Ok) (hp : Ints w A b o n f) (hn : n ≤ 1000) :
    Calls Try.prog 29 #[s.v, g.v, .slice A n c] w (RetBB (PathP s f n ∧ n = g.wn) w) := by
  have hN := ok.Nb
  have hN1 := hN.1; have hN2 := hN.2.1
  have m0 := ok.m0; have m1 := ok.m1
  have okh := hid ok
  have ixh := hid (Ints.ixh (c := c) hp)
  obtain ⟨W0, hW0⟩ : ∃ W0 : World, W0 = w.alloc (.cells #[.int .i64 s.tr, .int .i64 s.st, .int .i64 s.mv, .int .i64 s.no, .int .i64 s.wr, .slice s.ra s.rn s.rc] 30) := ⟨_, rfl⟩
  have hB0 : Below w.heap.size w W0 := by rw [hW0]; exact (Below.refl _ _).alloc (Nat.le_refl _) _
  have hsv : Svb s W0 w.heap.size := by rw [hW0]; exact Svb.new s w
  have hs0 : W0.heap.size = w.heap.size + 1 := by rw [hW0]; simp
  have hp0 := hp.below hB0 (Nat.le_refl _)
  clear ok hN
  go_enter Try.func29, Try.ntmps29
  go_wp2_with fail
  rw [← hW0]
  clear hW0
  go_loopw [7] (fun iv wr => ∃ k : Nat, k ≤ n ∧ iv = .int .i64 k ∧ Hid (∀ j, j < k → inP s f j ∧ nxP s f j) ∧ Below W0.heap.size W0 wr) (fun iv _ => n - (intOf iv).toNat)
  case atStart => exact ⟨0, Nat.zero_le _, rfl, fun j hj => absurd hj (Nat.not_lt_zero _), Below.refl _ _⟩
  case round =>
    obtain ⟨k, hk, rfl, hall, hB⟩ := hrel
    have hBw : Below w.heap.size w wr := hB0.trans (hB.mono (by omega))
    by_cases hlt : k < n
    · have pk := hp0.below hB (Nat.le_refl _)
      have c1 := pk.ce k hlt
      have x1 := cell_regrown c1
      obtain ⟨q0, q1, q2, q3, q4, q5⟩ := (hsv.below hB (by omega)).all
      have y0 := cell_regrown q0; have y1 := cell_regrown q1; have y2 := cell_regrown q2; have y3 := cell_regrown q3; have y4 := cell_regrown q4; have y5 := cell_regrown q5
      have h4 := ixh.out k hlt
      by_cases hin : inP s f k
      · have hinh := hid hin
        have hin1 := hin.1
        have hin2 := hin.2
        by_cases hk0 : 0 < k
        · have hprev := (hall.out (k - 1) (by omega)).1
          have hpv1 := hprev.1
          have hpv2 := hprev.2
          have c2 := pk.ce (k - 1) (by omega)
          have x2 := cell_regrown c2
          have h5 := ixh.out (k - 1) (by omega)
          rw [show ((k - 1 : Nat) : Int) = (k : Int) - 1 by omega] at h5
          have e1 : IntKind.i64.wrap ((k : Int) - 1) = (k : Int) - 1 := IntWalk.i64_in _ (by omega)
          have e2 : IntKind.i64.wrap (f k - f (k - 1)) = f k - f (k - 1) := IntWalk.i64_in _ (by omega)
          clear hprev c2
          by_cases hnx : absI (f k - f (k - 1)) ≤ s.mv
          · have hnxh : Hid (nxP s f k) := fun _ => hnx
            have hnd : decide (s.mv < absI (f k - f (k - 1))) = false := by simpa using hnx
            clear hin
            clear q0 q1 q2 q3 q4 q5 c1 pk
            go_wp2_with fail
            refine wp_region_quiet_below (by kernel_rfl) (by kernel_rfl) ?_; (repeat (go_big_quiet_step ((first | (go_at_call 27; exact Calls.regrown_of (c27 s _ okh.out)) | (go_at_call 61; exact Calls.regrown_of (c61yb _ (by omega))) | (go_at_call 55; exact Calls.regrown_of (c55b _ _ (by omega))))))); refine wpQuiet_nil ?_; intro _ hw; obtain ⟨q, hwq⟩ := hw; subst hwq
            have hBq := below_regrown wr q.d q.os
            generalize grow (redrawn wr q.d) q.os = w5 at hBq ⊢
            clear y0 y1 y2 y3 y4 y5 x1
            go_wp2
            go_roundw
            case rel =>
              refine ⟨k + 1, by omega, by go_num, fun j hj => ?_, hB.trans (hBq.mono hB.size)⟩
              by_cases e : j = k
              · subst e; exact ⟨hinh.out, hnxh.out⟩
              · exact hall.out j (by omega)
            case measure => simp [intOf]; omega
          · have hbad : Hid (¬ (inP s f k ∧ nxP s f k)) := fun h => hnx (h.2 hk0)
            have hnx' : s.mv < absI (f k - f (k - 1)) := by omega
            clear hnx hin
            clear q0 q1 q2 q3 q4 q5 c1 pk
            go_wp2_with fail
            refine wp_region_quiet_below (by kernel_rfl) (by kernel_rfl) ?_; (repeat (go_big_quiet_step ((first | (go_at_call 27; exact Calls.regrown_of (c27 s _ okh.out)) | (go_at_call 61; exact Calls.regrown_of (c61yb _ (by omega))) | (go_at_call 55; exact Calls.regrown_of (c55b _ _ (by omega))))))); refine wpQuiet_nil ?_; intro _ hw; obtain ⟨q, hwq⟩ := hw; subst hwq
            have hBq := below_regrown wr q.d q.os
            generalize grow (redrawn wr q.d) q.os = w5 at hBq ⊢
            clear y0 y1 y2 y3 y4 y5 x1
            go_wp2
            go_returns
            exact RetBB.no (p := PathP s f n ∧ n = g.wn) (fun h => hbad.out (h.1 k hlt)) (hBw.trans (hBq.mono hBw.size))
        · have hnxh : Hid (nxP s f k) := fun h => absurd h hk0
          have hk0' : k ≤ 0 := by omega
          have hkd : decide (0 < k) = false := by simpa using hk0
          have hkd2 : decide ((0 : Int) < (k : Int)) = false := by simpa using hk0
          clear hk0
          clear hin
          clear q0 q1 q2 q3 q4 q5 c1 pk
          go_wp2_with fail
          refine wp_region_quiet_below (by kernel_rfl) (by kernel_rfl) ?_; (repeat (go_big_quiet_step ((first | (go_at_call 27; exact Calls.regrown_of (c27 s _ okh.out)) | (go_at_call 61; exact Calls.regrown_of (c61yb _ (by omega))) | (go_at_call 55; exact Calls.regrown_of (c55b _ _ (by omega))))))); refine wpQuiet_nil ?_; intro _ hw; obtain ⟨q, hwq⟩ := hw; subst hwq
          have hBq := below_regrown wr q.d q.os
          generalize grow (redrawn wr q.d) q.os = w5 at hBq ⊢
          clear y0 y1 y2 y3 y4 y5 x1
          go_wp2
          go_roundw
          case rel =>
            refine ⟨k + 1, by omega, by go_num, fun j hj => ?_, hB.trans (hBq.mono hB.size)⟩
            by_cases e : j = k
            · subst e; exact ⟨hinh.out, hnxh.out⟩
            · exact hall.out j (by omega)
          case measure => simp [intOf]; omega
      · have hbad : Hid (¬ (inP s f k ∧ nxP s f k)) := fun h => hin h.1
        have hinh := hid hin
        clear hin
        clear q0 q1 q2 q3 q4 q5 c1 pk
        go_wp2_with fail
        refine wp_region_quiet_below (by kernel_rfl) (by kernel_rfl) ?_; (repeat (go_big_quiet_step ((first | (go_at_call 27; exact Calls.regrown_of (c27 s _ okh.out)) | (go_at_call 61; exact Calls.regrown_of (c61nb _ (fun h => hinh.out h))) | (go_at_call 55; exact Calls.regrown_of (c55b _ _ (by omega))))))); refine wpQuiet_nil ?_; intro _ hw; obtain ⟨q, hwq⟩ := hw; subst hwq
        have hBq := below_regrown wr q.d q.os
        generalize grow (redrawn wr q.d) q.os = w5 at hBq ⊢
        clear y0 y1 y2 y3 y4 y5 x1
        go_wp2
        go_returns
        exact RetBB.no (p := PathP s f n ∧ n = g.wn) (fun h => hbad.out (h.1 k hlt)) (hBw.trans (hBq.mono hBw.size))
    · obtain rfl : k = n := by omega
      by_cases hw : k = g.wn
      · have hwh := hid hw
        have hwb : ((k : Int) == (g.wn : Int)) = true := by rw [hw]; simp
        clear hw
        go_wp2_with fail
        go_returns
        exact RetBB.yes (p := PathP s f k ∧ k = g.wn) ⟨fun j hj => hall.out j hj, hwh.out⟩ hBw
      · have hwh := hid hw
        have hwb : ((k : Int) == (g.wn : Int)) = false := by simp; omega
        clear hw
        go_wp2_with fail
        go_returns
        exact RetBB.no (p := PathP s f k ∧ k = g.wn) (fun h => hwh.out h.2) hBw
end Go.Proofs.Ytkafjlhmbiaicaa

/- Stage 2: how many wedges do not agree with a path; whether a position is in some of the spans. -/
set_option linter.unusedSimpArgs false
set_option linter.unusedVariables false
namespace Go.Proofs.Ytkafjlhmbiaicaa
open Go.RowKit Go.Sort Go.BigFrame

/-- The positions of a path. -/
def pos (f : Nat → Int) (k : Nat) : Nat := (f k).toNat
theorem inP.pos {s : Sv} {f : Nat → Int} {k : Nat} (h : inP s f k) : f k = ((pos f k : Nat) : Int) ∧ pos f k < s.N := by
  have h1 := h.1; have h2 := h.2
  unfold Go.Proofs.Ytkafjlhmbiaicaa.pos
  omega
set_option maxRecDepth 100000 in
set_option maxHeartbeats 4000000 in
theorem c22 (s : Sv) (g : Wg) (A : Option Addr) (b o n c : Nat) (f : Nat → Int) (w : World) (hz : s.In w) (hg : g.In w) (ok : s.Ok) (okg : g.Ok) (hp : Ints w A b o n f) (hn : n ≤ g.wn) (hin : ∀ k, k < n → inP s f k) :
    Calls Try.prog 22 #[s.v, g.v, .slice A n c] w fun e w' => e = .returned (.int .i64 (cst (agr s g) (pos f) n)) ∧ Below w.heap.size w w' := by
  have hN := ok.Nb
  have hN2 := hN.2.1
  have hn2 := okg.n2
  have okh := hid ok
  have okgh := hid okg
  have ixh := hid (Ints.ixh (c := c) hp)
  have ixw := hid (Weds.ixh (c := g.wk) hg)
  have hinh := hid hin
  obtain ⟨W0, hW0⟩ : ∃ W0 : World, W0 = w.alloc (.cells #[.int .i64 s.tr, .int .i64 s.st, .int .i64 s.mv, .int .i64 s.no, .int .i64 s.wr, .slice s.ra s.rn s.rc] 30) := ⟨_, rfl⟩
  have hB0 : Below w.heap.size w W0 := by rw [hW0]; exact (Below.refl _ _).alloc (Nat.le_refl _) _
  have hsv : Svb s W0 w.heap.size := by rw [hW0]; exact Svb.new s w
  have hs0 : W0.heap.size = w.heap.size + 1 := by rw [hW0]; simp
  clear ok okg hN hin
  go_enter Try.func22, Try.ntmps22
  go_wp2_with fail
  rw [← hW0]
  clear hW0
  go_loopw [7, 8] (fun cv iv wr => ∃ k : Nat, k ≤ n ∧ iv = .int .i64 k ∧ cv = .int .i64 (cst (agr s g) (pos f) k) ∧ cst (agr s g) (pos f) k ≤ k ∧ Below W0.heap.size W0 wr) (fun _ iv _ => n - (intOf iv).toNat)
  case atStart => exact ⟨0, Nat.zero_le _, rfl, rfl, Int.le_refl _, Below.refl _ _⟩
  case round =>
    obtain ⟨k, hk, rfl, rfl, hck, hB⟩ := hrel
    have hBw : Below w.heap.size w wr := hB0.trans (hB.mono (by omega))
    have hcn := cst_nn (ag := agr s g) (p := pos f) k
    by_cases hlt : k < n
    · have hkp := (hinh.out k hlt).pos
      have hkw : k < g.wn := by omega
      have x1 := cell_regrown ((hp.below hBw (Nat.le_refl _)).ce k hlt)
      have x2 := cell_regrown ((hg.below hBw (Nat.le_refl _)).c1 k hkw)
      have x3 := cell_regrown ((hg.below hBw (Nat.le_refl _)).c2 k hkw)
      rw [hkp.1] at x1
      obtain ⟨q0, q1, q2, q3, q4, q5⟩ := (hsv.below hB (by omega)).all
      have y0 := cell_regrown q0; have y1 := cell_regrown q1; have y2 := cell_regrown q2; have y3 := cell_regrown q3; have y4 := cell_regrown q4; have y5 := cell_regrown q5
      have h4 := ixh.out k hlt
      have h5 := ixw.out k hkw
      obtain ⟨C, hC⟩ : ∃ C, C = cst (agr s g) (pos f) k := ⟨_, rfl⟩
      rw [← hC] at hcn hck ⊢
      have hCh := hid hC
      have hpp := hkp.2
      have hst : Hid (cst (agr s g) (pos f) (k + 1) = C + (if agr s g k (pos f k) = true then 0 else 1)) := by rw [hC]; rfl
      obtain ⟨pp, hpe⟩ : ∃ pp, pp = pos f k := ⟨_, rfl⟩
      rw [← hpe] at x1 hpp hst
      clear q0 q1 q2 q3 q4 q5 hC hkp hpe
      cases hag : agr s g k pp with
      | true =>
        have hagh := hid hag
        rw [hag] at hst
        clear hag
        go_wp2_with fail
        refine wp_region_quiet_below (by kernel_rfl) (by kernel_rfl) ?_; (repeat (go_big_quiet_step ((first | (go_at_call 23; exact Calls.regrown_of (c23y s g k pp _ (hz.below (hBw.trans (Below.mono (below_regrown _ _ _) hBw.size)) (Nat.le_refl _)) okh.out okgh.out hkw (by omega) hagh.out)))))); refine wpQuiet_nil ?_; intro _ hw; obtain ⟨q, hwq⟩ := hw; subst hwq
        have hBq := below_regrown wr q.d q.os
        generalize grow (redrawn wr q.d) q.os = w5 at hBq ⊢
        clear y0 y1 y2 y3 y4 y5 x1 x2 x3
        go_wp2
        go_roundw
        case rel => exact ⟨k + 1, by omega, by go_num, by rw [hst.out]; simp, by rw [hst.out]; simp; omega, hB.trans (hBq.mono hB.size)⟩
        case measure => simp [intOf]; omega
      | false =>
        have hagh := hid hag
        rw [hag] at hst
        clear hag
        go_wp2_with fail
        refine wp_region_quiet_below (by kernel_rfl) (by kernel_rfl) ?_; (repeat (go_big_quiet_step ((first | (go_at_call 23; exact Calls.regrown_of (c23n s g k pp _ (hz.below (hBw.trans (Below.mono (below_regrown _ _ _) hBw.size)) (Nat.le_refl _)) okh.out okgh.out hkw (by omega) hagh.out)))))); refine wpQuiet_nil ?_; intro _ hw; obtain ⟨q, hwq⟩ := hw; subst hwq
        have hBq := below_regrown wr q.d q.os
        generalize grow (redrawn wr q.d) q.os = w5 at hBq ⊢
        clear y0 y1 y2 y3 y4 y5 x1 x2 x3
        go_wp2
        go_roundw
        case rel => exact ⟨k + 1, by omega, by go_num, by rw [hst.out]; simp, by rw [hst.out]; simp; omega, hB.trans (hBq.mono hB.size)⟩
        case measure => simp [intOf]; omega
    · obtain rfl : k = n := by omega
      go_wp2_with fail
      go_returns
      exact ⟨rfl, hBw⟩

/-- A position is in some of the spans. -/
def inSp (l : List (Nat × Nat)) (x : Int) : Prop := ∃ k, k < l.length ∧ (lo l k : Int) ≤ x ∧ x ≤ (hi l k : Int)
set_option maxRecDepth 100000 in
set_option maxHeartbeats 2000000 in
theorem c21 (A : Option Addr) (a c : Nat) (l : List (Nat × Nat)) (x : Int) (w : World) (h1 : SpIn w A a l) (hl : l.length ≤ 10000) :
    Calls Try.prog 21 #[.slice A l.length c, .int .i64 x] w (RetBB (inSp l x) w) := by
  obtain ⟨n, hn⟩ : ∃ n, n = l.length := ⟨_, rfl⟩
  have hnh := hid hn
  have ix1h := hid (fun k hk => @SpIn.ix _ _ _ c _ h1 k hk)
  rw [← hn] at hl ix1h ⊢
  clear hn
  go_enter Try.func21, Try.ntmps21
  go_wp2_with fail
  go_loop [5] (fun iv => ∃ k : Nat, k ≤ n ∧ iv = .int .i64 k ∧ Hid (∀ j, j < k → ¬ ((lo l j : Int) ≤ x ∧ x ≤ (hi l j : Int)))) (fun iv => n - (intOf iv).toNat)
  case atStart => exact ⟨0, Nat.zero_le _, rfl, fun j hj => absurd hj (Nat.not_lt_zero _)⟩
  case round =>
    obtain ⟨k, hk, rfl, hall⟩ := hrel
    by_cases hlt : k < n
    · have hlt' : k < l.length := by rw [← hnh.out]; exact hlt
      have k1 := h1.c1 k hlt'
      have k2 := h1.c2 k hlt'
      have j1 := ix1h.out k hlt
      by_cases hy1 : (lo l k : Int) ≤ x
      · by_cases hy2 : x ≤ (hi l k : Int)
        · clear hlt'
          go_wp2_with fail
          go_returns
          exact RetBB.yes (p := inSp l x) ⟨k, by rw [← hnh.out]; exact hlt, hy1, hy2⟩ (Below.refl _ _)
        · have hy3 : (hi l k : Int) < x := by omega
          clear hlt'
          go_wp2_with fail
          go_round
          case rel =>
            refine ⟨k + 1, by omega, by go_num, fun j hj => ?_⟩
            by_cases e : j = k
            · subst e; exact fun h => hy2 h.2
            · exact hall.out j (by omega)
          case measure => simp [intOf]; omega
      · have hy3 : x < (lo l k : Int) := by omega
        clear hlt'
        go_wp2_with fail
        go_round
        case rel =>
          refine ⟨k + 1, by omega, by go_num, fun j hj => ?_⟩
          by_cases e : j = k
          · subst e; exact fun h => hy1 h.1
          · exact hall.out j (by omega)
        case measure => simp [intOf]; omega
    · go_wp2_with fail
      go_returns
      exact RetBB.no (p := inSp l x) (by rintro ⟨j, h2, h3⟩; exact hall.out j (by rw [← hnh.out] at h2; omega) h3) (Below.refl _ _)
theorem c21y {A : Option Addr} {a c : Nat} {l : List (Nat × Nat)} {x : Int} {w : World} (h1 : SpIn w A a l) (hl : l.length ≤ 10000) (p : inSp l x) :
    Calls Try.prog 21 #[.slice A l.length c, .int .i64 x] w fun e w' => e = .returned (.bool true) ∧ Below w.heap.size w w' :=
  (c21 A a c l x w h1 hl).mono fun _ _ hr => by
    rcases hr with ⟨_, h1⟩ | ⟨h1, _⟩
    · exact h1
    · exact absurd p h1
theorem c21n {A : Option Addr} {a c : Nat} {l : List (Nat × Nat)} {x : Int} {w : World} (h1 : SpIn w A a l) (hl : l.length ≤ 10000) (p : ¬ inSp l x) :
    Calls Try.prog 21 #[.slice A l.length c, .int .i64 x] w fun e w' => e = .returned (.bool false) ∧ Below w.heap.size w w' :=
  (c21 A a c l x w h1 hl).mono fun _ _ hr => by
    rcases hr with ⟨h1, _⟩ | ⟨_, h1⟩
    · exact absurd h1 p
    · exact h1
end Go.Proofs.Ytkafjlhmbiaicaa

/- Stage 2: what statements look at. -/
set_option linter.unusedSimpArgs false
set_option linter.unusedVariables false
namespace Go.Proofs.Ytkafjlhmbiaicaa
open Go.RowKit Go.Sort Go.BigFrame

theorem c34y (s : Sv) (g : Wg) (w : World) (hz : s.In w) (p : FarP s g) : Calls Try.prog 34 #[s.v, g.v] w fun e w' => e = .returned (.bool true) ∧ Below w.heap.size w w' :=
  (c34 s g w hz).mono fun _ _ hr => by
    rcases hr with ⟨_, h1⟩ | ⟨h1, _⟩
    · exact h1
    · exact absurd p h1
theorem c34n (s : Sv) (g : Wg) (w : World) (hz : s.In w) (p : ¬ FarP s g) : Calls Try.prog 34 #[s.v, g.v] w fun e w' => e = .returned (.bool false) ∧ Below w.heap.size w w' :=
  (c34 s g w hz).mono fun _ _ hr => by
    rcases hr with ⟨h1, _⟩ | ⟨_, h1⟩
    · exact absurd h1 p
    · exact h1
theorem FarP.le {s : Sv} {g : Wg} (h : ¬ FarP s g) : s.rn ≤ 40 ∧ g.wn ≤ 40 := by
  unfold FarP at h
  constructor <;> (rcases Nat.lt_or_ge 40 s.rn with h1 | h1 <;> rcases Nat.lt_or_ge 40 g.wn with h2 | h2 <;> first | omega | exact absurd (.inl h1) h | exact absurd (.inr (.inl h2)) h)
/-- A servo and wedges that statements look at. -/
def ValP (s : Sv) (g : Wg) : Prop := ¬ FarP s g ∧ ckE s g = 0
theorem ValP.ok {s : Sv} {g : Wg} (h : ValP s g) : s.Ok ∧ g.Ok ∧ g.wn ≤ 8 ∧ s.rn ≤ 40 := by
  obtain ⟨h1, h2⟩ := h
  have ⟨ok, okg⟩ := ckE_inv h2
  have := FarP.le h1
  refine ⟨ok, okg, ?_, this.1⟩
  rcases Nat.lt_or_ge 8 g.wn with h3 | h3
  · exact absurd (.inr (.inr (.inl ⟨h3, okg.n2⟩))) h1
  · exact h3
set_option maxRecDepth 100000 in
set_option maxHeartbeats 1000000 in
theorem c16y (s : Sv) (g : Wg) (w : World) (hz : s.In w) (hg : g.In w) (h : ValP s g) : Calls Try.prog 16 #[s.v, g.v] w fun e w' => e = .returned (.bool true) ∧ Below w.heap.size w w' := by
  have hf := hid h.1
  have hc := hid h.2
  have hl := FarP.le h.1
  have hB0 : Below w.heap.size w (w.alloc (.cells #[.int .i64 s.tr, .int .i64 s.st, .int .i64 s.mv, .int .i64 s.no, .int .i64 s.wr, .slice s.ra s.rn s.rc] 30)) := (Below.refl _ _).alloc (Nat.le_refl _) _
  clear h
  go_enter Try.func16, Try.ntmps16
  go_wp2_with (first | (go_at_call 34; refine (c34n s g _ (hz.below hB0 (Nat.le_refl _)) hf.out).mono ?_; rintro e w1 ⟨rfl, hB1⟩; have hBx : Below w.heap.size w w1 := hB0.trans (hB1.mono (by simp)); obtain ⟨k0, k1, k2, k3, k4, k5⟩ := ((Svb.new s w).below hB1 (by simp)).all) | (go_at_call 37; refine (c37 s g _ (hz.below hBx (Nat.le_refl _)) (hg.below hBx (Nat.le_refl _)) (by omega) (by omega)).mono ?_; rw [hc.out]; rintro e w2 ⟨rfl, hB2⟩))
  go_returns
  exact ⟨rfl, hBx.trans (hB2.mono hBx.size)⟩
set_option maxRecDepth 100000 in
set_option maxHeartbeats 1000000 in
theorem c16n (s : Sv) (g : Wg) (w : World) (hz : s.In w) (hg : g.In w) (h : ¬ ValP s g) : Calls Try.prog 16 #[s.v, g.v] w fun e w' => e = .returned (.bool false) ∧ Below w.heap.size w w' := by
  have hB0 : Below w.heap.size w (w.alloc (.cells #[.int .i64 s.tr, .int .i64 s.st, .int .i64 s.mv, .int .i64 s.no, .int .i64 s.wr, .slice s.ra s.rn s.rc] 30)) := (Below.refl _ _).alloc (Nat.le_refl _) _
  by_cases hf0 : FarP s g
  · have hf := hid hf0
    clear h hf0
    go_enter Try.func16, Try.ntmps16
    go_wp2_with (go_at_call 34; refine (c34y s g _ (hz.below hB0 (Nat.le_refl _)) hf.out).mono ?_; rintro e w1 ⟨rfl, hB1⟩)
    go_returns
    exact ⟨rfl, hB0.trans (hB1.mono (by simp))⟩
  · have hf := hid hf0
    have hl := FarP.le hf0
    have hc0 : ckE s g ≠ 0 := fun e => h ⟨hf0, e⟩
    obtain ⟨er, her⟩ : ∃ er, er = ckE s g := ⟨_, rfl⟩
    have herh := hid her
    rw [← her] at hc0
    have hne : (er == 0) = false := by simpa using hc0
    clear h hf0 her
    go_enter Try.func16, Try.ntmps16
    go_wp2_with (first | (go_at_call 34; refine (c34n s g _ (hz.below hB0 (Nat.le_refl _)) hf.out).mono ?_; rintro e w1 ⟨rfl, hB1⟩; have hBx : Below w.heap.size w w1 := hB0.trans (hB1.mono (by simp)); obtain ⟨k0, k1, k2, k3, k4, k5⟩ := ((Svb.new s w).below hB1 (by simp)).all) | (go_at_call 37; refine (c37 s g _ (hz.below hBx (Nat.le_refl _)) (hg.below hBx (Nat.le_refl _)) (by omega) (by omega)).mono ?_; rw [← herh.out]; rintro e w2 ⟨rfl, hB2⟩))
    go_returns
    exact ⟨rfl, hBx.trans (hB2.mono hBx.size)⟩
theorem c29y {s : Sv} {g : Wg} {A : Option Addr} {b o n c : Nat} {f : Nat → Int} {w : World} (ok : s.Ok) (hp : Ints w A b o n f) (hn : n ≤ 1000) (p : PathP s f n ∧ n = g.wn) :
    Calls Try.prog 29 #[s.v, g.v, .slice A n c] w fun e w' => e = .returned (.bool true) ∧ Below w.heap.size w w' :=
  (c29 s g A b o n c f w ok hp hn).mono fun _ _ hr => by
    rcases hr with ⟨_, h1⟩ | ⟨h1, _⟩
    · exact h1
    · exact absurd p h1
theorem c29n {s : Sv} {g : Wg} {A : Option Addr} {b o n c : Nat} {f : Nat → Int} {w : World} (ok : s.Ok) (hp : Ints w A b o n f) (hn : n ≤ 1000) (p : ¬ (PathP s f n ∧ n = g.wn)) :
    Calls Try.prog 29 #[s.v, g.v, .slice A n c] w fun e w' => e = .returned (.bool false) ∧ Below w.heap.size w w' :=
  (c29 s g A b o n c f w ok hp hn).mono fun _ _ hr => by
    rcases hr with ⟨h1, _⟩ | ⟨_, h1⟩
    · exact absurd h1 p
    · exact h1
theorem PathP.pth {s : Sv} {f : Nat → Int} {n : Nat} (ok : s.Ok) (h : PathP s f n) : Pth s.N s.m (pos f) n := by
  intro i hi
  obtain ⟨h1, h2⟩ := h i hi
  refine ⟨h1.pos.2, fun h0 => ?_⟩
  have h3 := absI_le.1 (h2 h0)
  have h4 := h1.pos.1
  have h5 := (h (i - 1) (by omega)).1.pos.1
  have h6 := ok.mb.1
  omega
end Go.Proofs.Ytkafjlhmbiaicaa
