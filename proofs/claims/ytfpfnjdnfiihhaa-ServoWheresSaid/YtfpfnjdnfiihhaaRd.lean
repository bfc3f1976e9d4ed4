/- Stage 2: paths, and how many wedges do not agree with them, as the reference says it. -/
import Derived.Test.YtfpfnjdnfiihhaaRc
import Derived.Lib.QuietBelow
set_option linter.unusedSimpArgs false
set_option linter.unusedVariables false
namespace Go.Proofs.Ytfpfnjdnfiihhaa
open Go.RowKit Go.Sort Go.BigFrame

theorem c61yb {n l h : Int} (w : World) (p : l ≤ n ∧ n ≤ h) : Calls Try.prog 61 #[.int .i64 n, .int .i64 l, .int .i64 h] w fun e w' => e = .returned (.bool true) ∧ Below w.heap.size w w' :=
  (c61y w p).mono fun _ _ ⟨h1, h2⟩ => ⟨h1, by subst h2; exact Below.refl _ _⟩
theorem c61nb {n l h : Int} (w : World) (p : ¬ (l ≤ n ∧ n ≤ h)) : Calls Try.prog 61 #[.int .i64 n, .int .i64 l, .int .i64 h] w fun e w' => e = .returned (.bool false) ∧ Below w.heap.size w w' :=
  (c61n w p).mono fun _ _ ⟨h1, h2⟩ => ⟨h1, by subst h2; exact Below.refl _ _⟩
theorem c55b (n : Int) (w : World) (h : -1000000 ≤ n ∧ n ≤ 1000000) : Calls Try.prog 55 #[.int .i64 n] w fun e w' => e = .returned (.int .i64 (absI n)) ∧ Below w.heap.size w w' :=
  (c55 n w h).mono fun _ _ ⟨h1, h2⟩ => ⟨h1, by subst h2; exact Below.refl _ _⟩
/-- A path of n positions, as numbers. -/
def inP (s : Sv) (f : Nat → Int) (k : Nat) : Prop := 0 ≤ f k ∧ f k ≤ (s.N : Int) - 1
def nxP (s : Sv) (f : Nat → Int) (k : Nat) : Prop := 0 < k → absI (f k - f (k - 1)) ≤ s.mv
def PathP (s : Sv) (f : Nat → Int) (n : Nat) : Prop := ∀ k, k < n → inP s f k ∧ nxP s f k
theorem Svb.grow {s : Sv} {w : World} {b : Nat} (h : Svb s w b) : ∀ dd os, Svb s (grow (redrawn w dd) os) b := fun dd os => by
  obtain ⟨b0, b1, b2, b3, b4, b5⟩ := h
  exact ⟨cell_regrown b0 dd os, cell_regrown b1 dd os, cell_regrown b2 dd os, cell_regrown b3 dd os, cell_regrown b4 dd os, cell_regrown b5 dd os⟩

set_option maxRecDepth 100000 in
set_option maxHeartbeats 4000000 in
theorem c29 (s : Sv) (g : Wg) (A : Option Addr) (b o n c : Nat) (f : Nat → Int) (w : World) (ok : s.Ok) (hp : Ints w A b o n f) (hn : n ≤ 1000) :
    Calls Try.prog 29 #[s.v, g.v, .slice A n c] w (RetBB (PathP s f n ∧ n = g.wn) w) := by
  have hN := ok.Nb
  have hN1 := hN.1; have hN2 := hN.2.1
  have m0 := ok.m0; have m1 := ok.m1
  have okh := hid ok
  have ixh := hid (Ints.ixh (c := c) hp)
  obtain ⟨W0, hW0⟩ : ∃ W0 : World, W0 = w.alloc (.cells #[.int .i64 s.tr, .int .i64 s.st, .int .i64 s.mv, .int .i64 s.no, .int .i64 s.wr, .slice s.ra s.rn s.rc] 30) := ⟨_, rfl⟩
  have hB0 : Below w.heap.size w W0 := by rw [hW0]; exact (Below.refl _ _).alloc (Nat.le_refl _) _
  have hsv : Svb s W0 w.heap.size := by rw [hW0]; exact Svb.new s w
  have hs0 : W0.heap.size = w.heap.size + 1 := by rw [hW0]; simp
  have hp0 := hp.below hB0 (Nat.le_refl _)
  clear ok hN
  go_enter Try.func29, Try.ntmps29
  go_wp2_with fail
  rw [← hW0]
  clear hW0
  go_loopw [7] (fun iv wr => ∃ k : Nat, k ≤ n ∧ iv = .int .i64 k ∧ Hid (∀ j, j < k → inP s f j ∧ nxP s f j) ∧ Below W0.heap.size W0 wr) (fun iv _ => n - (intOf iv).toNat)
  case atStart => exact ⟨0, Nat.zero_le _, rfl, fun j hj => absurd hj (Nat.not_lt_zero _), Below.refl _ _⟩
  case round =>
    obtain ⟨k, hk, rfl, hall, hB⟩ := hrel
    have hBw : Below w.heap.size w wr := hB0.trans (hB.mono (by omega))
    by_cases hlt : k < n
    · have pk := hp0.below hB (Nat.le_refl _)
      have c1 := pk.ce k hlt
      have x1 := cell_regrown c1
      obtain ⟨q0, q1, q2, q3, q4, q5⟩ := (hsv.below hB (by omega)).all
      have y0 := cell_regrown q0; have y1 := cell_regrown q1; have y2 := cell_regrown q2; have y3 := cell_regrown q3; have y4 := cell_regrown q4; have y5 := cell_regrown q5
      have h4 := ixh.out k hlt
      by_cases hin : inP s f k
      · have hinh := hid hin
        have hin1 := hin.1
        have hin2 := hin.2
        by_cases hk0 : 0 < k
        · have hprev := (hall.out (k - 1) (by omega)).1
          have hpv1 := hprev.1
          have hpv2 := hprev.2
          have c2 := pk.ce (k - 1) (by omega)
          have x2 := cell_regrown c2
          have h5 := ixh.out (k - 1) (by omega)
          rw [show ((k - 1 : Nat) : Int) = (k : Int) - 1 by omega] at h5
          have e1 : IntKind.i64.wrap ((k : Int) - 1) = (k : Int) - 1 := IntWalk.i64_in _ (by omega)
          have e2 : IntKind.i64.wrap (f k - f (k - 1)) = f k - f (k - 1) := IntWalk.i64_in _ (by omega)
          clear hprev c2
          by_cases hnx : absI (f k - f (k - 1)) ≤ s.mv
          · have hnxh : Hid (nxP s f k) := fun _ => hnx
            have hnd : decide (s.mv < absI (f k - f (k - 1))) = false := by simpa using hnx
            clear hin
            clear q0 q1 q2 q3 q4 q5 c1 pk
            go_wp2_with fail
            refine wp_region_quiet_below (by kernel_rfl) (by kernel_rfl) ?_; (repeat (go_big_quiet_step ((first | (go_at_call 27; exact Calls.regrown_of (c27 s _ okh.out)) | (go_at_call 61; exact Calls.regrown_of (c61yb _ (by omega))) | (go_at_call 55; exact Calls.regrown_of (c55b _ _ (by omega))))))); refine wpQuiet_nil ?_; intro _ hw; obtain ⟨q, hwq⟩ := hw; subst hwq
            have hBq := below_regrown wr q.d q.os
            generalize grow (redrawn wr q.d) q.os = w5 at hBq ⊢
            clear y0 y1 y2 y3 y4 y5 x1
            go_wp2
            go_roundw
            case rel =>
              refine ⟨k + 1, by omega, by go_num, fun j hj => ?_, hB.trans (hBq.mono hB.size)⟩
              by_cases e : j = k
              · subst e; exact ⟨hinh.out, hnxh.out⟩
              · exact hall.out j (by omega)
            case measure => simp [intOf]; omega
          · have hbad : Hid (¬ (inP s f k ∧ nxP s f k)) := fun h => hnx (h.2 hk0)
            have hnx' : s.mv < absI (f k - f (k - 1)) := by omega
            clear hnx hin
            clear q0 q1 q2 q3 q4 q5 c1 pk
            go_wp2_with fail
            refine wp_region_quiet_below (by kernel_rfl) (by kernel_rfl) ?_; (repeat (go_big_quiet_step ((first | (go_at_call 27; exact Calls.regrown_of (c27 s _ okh.out)) | (go_at_call 61; exact Calls.regrown_of (c61yb _ (by omega))) | (go_at_call 55; exact Calls.regrown_of (c55b _ _ (by omega))))))); refine wpQuiet_nil ?_; intro _ hw; obtain ⟨q, hwq⟩ := hw; subst hwq
            have hBq := below_regrown wr q.d q.os
            generalize grow (redrawn wr q.d) q.os = w5 at hBq ⊢
            clear y0 y1 y2 y3 y4 y5 x1
            go_wp2
            go_returns
            exact RetBB.no (p := PathP s f n ∧ n = g.wn) (fun h => hbad.out (h.1 k hlt)) (hBw.trans (hBq.mono hBw.size))
        · have hnxh : Hid (nxP s f k) := fun h => absurd h hk0
          have hk0' : k ≤ 0 := by omega
          have hkd : decide (0 < k) = false := by simpa using hk0
          have hkd2 : decide ((0 : Int) < (k : Int)) = false := by simpa using hk0
          clear hk0
          clear hin
          clear q0 q1 q2 q3 q4 q5 c1 pk
          go_wp2_with fail
          refine wp_region_quiet_below (by kernel_rfl) (by kernel_rfl) ?_; (repeat (go_big_quiet_step ((first | (go_at_call 27; exact Calls.regrown_of (c27 s _ okh.out)) | (go_at_call 61; exact Calls.regrown_of (c61yb _ (by omega))) | (go_at_call 55; exact Calls.regrown_of (c55b _ _ (by omega))))))); refine wpQuiet_nil ?_; intro _ hw; obtain ⟨q, hwq⟩ := hw; subst hwq
          have hBq := below_regrown wr q.d q.os
          generalize grow (redrawn wr q.d) q.os = w5 at hBq ⊢
          clear y0 y1 y2 y3 y4 y5 x1
          go_wp2
          go_roundw
          case rel =>
            refine ⟨k + 1, by omega, by go_num, fun j hj => ?_, hB.trans (hBq.mono hB.size)⟩
            by_cases e : j = k
            · subst e; exact ⟨hinh.out, hnxh.out⟩
            · exact hall.out j (by omega)
          case measure => simp [intOf]; omega
      · have hbad : Hid (¬ (inP s f k ∧ nxP s f k)) := fun h => hin h.1
        have hinh := hid hin
        clear hin
        clear q0 q1 q2 q3 q4 q5 c1 pk
        go_wp2_with fail
        refine wp_region_quiet_below (by kernel_rfl) (by kernel_rfl) ?_; (repeat (go_big_quiet_step ((first | (go_at_call 27; exact Calls.regrown_of (c27 s _ okh.out)) | (go_at_call 61; exact Calls.regrown_of (c61nb _ (fun h => hinh.out h))) | (go_at_call 55; exact Calls.regrown_of (c55b _ _ (by omega))))))); refine wpQuiet_nil ?_; intro _ hw; obtain ⟨q, hwq⟩ := hw; subst hwq
        have hBq := below_regrown wr q.d q.os
        generalize grow (redrawn wr q.d) q.os = w5 at hBq ⊢
        clear y0 y1 y2 y3 y4 y5 x1
        go_wp2
        go_returns
        exact RetBB.no (p := PathP s f n ∧ n = g.wn) (fun h => hbad.out (h.1 k hlt)) (hBw.trans (hBq.mono hBw.size))
    · obtain rfl : k = n := by omega
      by_cases hw : k = g.wn
      · have hwh := hid hw
        have hwb : ((k : Int) == (g.wn : Int)) = true := by rw [hw]; simp
        clear hw
        go_wp2_with fail
        go_returns
        exact RetBB.yes (p := PathP s f k ∧ k = g.wn) ⟨fun j hj => hall.out j hj, hwh.out⟩ hBw
      · have hwh := hid hw
        have hwb : ((k : Int) == (g.wn : Int)) = false := by simp; omega
        clear hw
        go_wp2_with fail
        go_returns
        exact RetBB.no (p := PathP s f k ∧ k = g.wn) (fun h => hwh.out h.2) hBw
end Go.Proofs.Ytfpfnjdnfiihhaa
