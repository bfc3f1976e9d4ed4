/- Stage 2: how many wedges do not agree with a path; whether a position is in some of the spans. -/
import Derived.Test.YtfpfnjdnfiihhaaRd
set_option linter.unusedSimpArgs false
set_option linter.unusedVariables false
namespace Go.Proofs.Ytfpfnjdnfiihhaa
open Go.RowKit Go.Sort Go.BigFrame

/-- The positions of a path. -/
def pos (f : Nat → Int) (k : Nat) : Nat := (f k).toNat
theorem inP.pos {s : Sv} {f : Nat → Int} {k : Nat} (h : inP s f k) : f k = ((pos f k : Nat) : Int) ∧ pos f k < s.N := by
  have h1 := h.1; have h2 := h.2
  unfold Go.Proofs.Ytfpfnjdnfiihhaa.pos
  omega
set_option maxRecDepth 100000 in
set_option maxHeartbeats 4000000 in
theorem c22 (s : Sv) (g : Wg) (A : Option Addr) (b o n c : Nat) (f : Nat → Int) (w : World) (hz : s.In w) (hg : g.In w) (ok : s.Ok) (okg : g.Ok) (hp : Ints w A b o n f) (hn : n ≤ g.wn) (hin : ∀ k, k < n → inP s f k) :
    Calls Try.prog 22 #[s.v, g.v, .slice A n c] w fun e w' => e = .returned (.int .i64 (cst (agr s g) (pos f) n)) ∧ Below w.heap.size w w' := by
  have hN := ok.Nb
  have hN2 := hN.2.1
  have hn2 := okg.n2
  have okh := hid ok
  have okgh := hid okg
  have ixh := hid (Ints.ixh (c := c) hp)
  have ixw := hid (Weds.ixh (c := g.wk) hg)
  have hinh := hid hin
  obtain ⟨W0, hW0⟩ : ∃ W0 : World, W0 = w.alloc (.cells #[.int .i64 s.tr, .int .i64 s.st, .int .i64 s.mv, .int .i64 s.no, .int .i64 s.wr, .slice s.ra s.rn s.rc] 30) := ⟨_, rfl⟩
  have hB0 : Below w.heap.size w W0 := by rw [hW0]; exact (Below.refl _ _).alloc (Nat.le_refl _) _
  have hsv : Svb s W0 w.heap.size := by rw [hW0]; exact Svb.new s w
  have hs0 : W0.heap.size = w.heap.size + 1 := by rw [hW0]; simp
  clear ok okg hN hin
  go_enter Try.func22, Try.ntmps22
  go_wp2_with fail
  rw [← hW0]
  clear hW0
  go_loopw [7, 8] (fun cv iv wr => ∃ k : Nat, k ≤ n ∧ iv = .int .i64 k ∧ cv = .int .i64 (cst (agr s g) (pos f) k) ∧ cst (agr s g) (pos f) k ≤ k ∧ Below W0.heap.size W0 wr) (fun _ iv _ => n - (intOf iv).toNat)
  case atStart => exact ⟨0, Nat.zero_le _, rfl, rfl, Int.le_refl _, Below.refl _ _⟩
  case round =>
    obtain ⟨k, hk, rfl, rfl, hck, hB⟩ := hrel
    have hBw : Below w.heap.size w wr := hB0.trans (hB.mono (by omega))
    have hcn := cst_nn (ag := agr s g) (p := pos f) k
    by_cases hlt : k < n
    · have hkp := (hinh.out k hlt).pos
      have hkw : k < g.wn := by omega
      have x1 := cell_regrown ((hp.below hBw (Nat.le_refl _)).ce k hlt)
      have x2 := cell_regrown ((hg.below hBw (Nat.le_refl _)).c1 k hkw)
      have x3 := cell_regrown ((hg.below hBw (Nat.le_refl _)).c2 k hkw)
      rw [hkp.1] at x1
      obtain ⟨q0, q1, q2, q3, q4, q5⟩ := (hsv.below hB (by omega)).all
      have y0 := cell_regrown q0; have y1 := cell_regrown q1; have y2 := cell_regrown q2; have y3 := cell_regrown q3; have y4 := cell_regrown q4; have y5 := cell_regrown q5
      have h4 := ixh.out k hlt
      have h5 := ixw.out k hkw
      obtain ⟨C, hC⟩ : ∃ C, C = cst (agr s g) (pos f) k := ⟨_, rfl⟩
      rw [← hC] at hcn hck ⊢
      have hCh := hid hC
      have hpp := hkp.2
      have hst : Hid (cst (agr s g) (pos f) (k + 1) = C + (if agr s g k (pos f k) = true then 0 else 1)) := by rw [hC]; rfl
      obtain ⟨pp, hpe⟩ : ∃ pp, pp = pos f k := ⟨_, rfl⟩
      rw [← hpe] at x1 hpp hst
      clear q0 q1 q2 q3 q4 q5 hC hkp hpe
      cases hag : agr s g k pp with
      | true =>
        have hagh := hid hag
        rw [hag] at hst
        clear hag
        go_wp2_with fail
        refine wp_region_quiet_below (by kernel_rfl) (by kernel_rfl) ?_; (repeat (go_big_quiet_step ((first | (go_at_call 23; exact Calls.regrown_of (c23y s g k pp _ (hz.below (hBw.trans (Below.mono (below_regrown _ _ _) hBw.size)) (Nat.le_refl _)) okh.out okgh.out hkw (by omega) hagh.out)))))); refine wpQuiet_nil ?_; intro _ hw; obtain ⟨q, hwq⟩ := hw; subst hwq
        have hBq := below_regrown wr q.d q.os
        generalize grow (redrawn wr q.d) q.os = w5 at hBq ⊢
        clear y0 y1 y2 y3 y4 y5 x1 x2 x3
        go_wp2
        go_roundw
        case rel => exact ⟨k + 1, by omega, by go_num, by rw [hst.out]; simp, by rw [hst.out]; simp; omega, hB.trans (hBq.mono hB.size)⟩
        case measure => simp [intOf]; omega
      | false =>
        have hagh := hid hag
        rw [hag] at hst
        clear hag
        go_wp2_with fail
        refine wp_region_quiet_below (by kernel_rfl) (by kernel_rfl) ?_; (repeat (go_big_quiet_step ((first | (go_at_call 23; exact Calls.regrown_of (c23n s g k pp _ (hz.below (hBw.trans (Below.mono (below_regrown _ _ _) hBw.size)) (Nat.le_refl _)) okh.out okgh.out hkw (by omega) hagh.out)))))); refine wpQuiet_nil ?_; intro _ hw; obtain ⟨q, hwq⟩ := hw; subst hwq
        have hBq := below_regrown wr q.d q.os
        generalize grow (redrawn wr q.d) q.os = w5 at hBq ⊢
        clear y0 y1 y2 y3 y4 y5 x1 x2 x3
        go_wp2
        go_roundw
        case rel => exact ⟨k + 1, by omega, by go_num, by rw [hst.out]; simp, by rw [hst.out]; simp; omega, hB.trans (hBq.mono hB.size)⟩
        case measure => simp [intOf]; omega
    · obtain rfl : k = n := by omega
      go_wp2_with fail
      go_returns
      exact ⟨rfl, hBw⟩

/-- A position is in some of the spans. -/
def inSp (l : List (Nat × Nat)) (x : Int) : Prop := ∃ k, k < l.length ∧ (lo l k : Int) ≤ x ∧ x ≤ (hi l k : Int)
set_option maxRecDepth 100000 in
set_option maxHeartbeats 2000000 in
theorem c21 (A : Option Addr) (a c : Nat) (l : List (Nat × Nat)) (x : Int) (w : World) (h1 : SpIn w A a l) (hl : l.length ≤ 10000) :
    Calls Try.prog 21 #[.slice A l.length c, .int .i64 x] w (RetBB (inSp l x) w) := by
  obtain ⟨n, hn⟩ : ∃ n, n = l.length := ⟨_, rfl⟩
  have hnh := hid hn
  have ix1h := hid (fun k hk => @SpIn.ix _ _ _ c _ h1 k hk)
  rw [← hn] at hl ix1h ⊢
  clear hn
  go_enter Try.func21, Try.ntmps21
  go_wp2_with fail
  go_loop [5] (fun iv => ∃ k : Nat, k ≤ n ∧ iv = .int .i64 k ∧ Hid (∀ j, j < k → ¬ ((lo l j : Int) ≤ x ∧ x ≤ (hi l j : Int)))) (fun iv => n - (intOf iv).toNat)
  case atStart => exact ⟨0, Nat.zero_le _, rfl, fun j hj => absurd hj (Nat.not_lt_zero _)⟩
  case round =>
    obtain ⟨k, hk, rfl, hall⟩ := hrel
    by_cases hlt : k < n
    · have hlt' : k < l.length := by rw [← hnh.out]; exact hlt
      have k1 := h1.c1 k hlt'
      have k2 := h1.c2 k hlt'
      have j1 := ix1h.out k hlt
      by_cases hy1 : (lo l k : Int) ≤ x
      · by_cases hy2 : x ≤ (hi l k : Int)
        · clear hlt'
          go_wp2_with fail
          go_returns
          exact RetBB.yes (p := inSp l x) ⟨k, by rw [← hnh.out]; exact hlt, hy1, hy2⟩ (Below.refl _ _)
        · have hy3 : (hi l k : Int) < x := by omega
          clear hlt'
          go_wp2_with fail
          go_round
          case rel =>
            refine ⟨k + 1, by omega, by go_num, fun j hj => ?_⟩
            by_cases e : j = k
            · subst e; exact fun h => hy2 h.2
            · exact hall.out j (by omega)
          case measure => simp [intOf]; omega
      · have hy3 : x < (lo l k : Int) := by omega
        clear hlt'
        go_wp2_with fail
        go_round
        case rel =>
          refine ⟨k + 1, by omega, by go_num, fun j hj => ?_⟩
          by_cases e : j = k
          · subst e; exact fun h => hy1 h.1
          · exact hall.out j (by omega)
        case measure => simp [intOf]; omega
    · go_wp2_with fail
      go_returns
      exact RetBB.no (p := inSp l x) (by rintro ⟨j, h2, h3⟩; exact hall.out j (by rw [← hnh.out] at h2; omega) h3) (Below.refl _ _)
theorem c21y {A : Option Addr} {a c : Nat} {l : List (Nat × Nat)} {x : Int} {w : World} (h1 : SpIn w A a l) (hl : l.length ≤ 10000) (p : inSp l x) :
    Calls Try.prog 21 #[.slice A l.length c, .int .i64 x] w fun e w' => e = .returned (.bool true) ∧ Below w.heap.size w w' :=
  (c21 A a c l x w h1 hl).mono fun _ _ hr => by
    rcases hr with ⟨_, h1⟩ | ⟨h1, _⟩
    · exact h1
    · exact absurd p h1
theorem c21n {A : Option Addr} {a c : Nat} {l : List (Nat × Nat)} {x : Int} {w : World} (h1 : SpIn w A a l) (hl : l.length ≤ 10000) (p : ¬ inSp l x) :
    Calls Try.prog 21 #[.slice A l.length c, .int .i64 x] w fun e w' => e = .returned (.bool false) ∧ Below w.heap.size w w' :=
  (c21 A a c l x w h1 hl).mono fun _ _ hr => by
    rcases hr with ⟨h1, _⟩ | ⟨_, h1⟩
    · exact absurd h1 p
    · exact h1
end Go.Proofs.Ytfpfnjdnfiihhaa
