/- Stage 2: what statements look at. -/
import Derived.Test.YtfpfnjdnfiihhaaRe
set_option linter.unusedSimpArgs false
set_option linter.unusedVariables false
namespace Go.Proofs.Ytfpfnjdnfiihhaa
open Go.RowKit Go.Sort Go.BigFrame

theorem c34y (s : Sv) (g : Wg) (w : World) (hz : s.In w) (p : FarP s g) : Calls Try.prog 34 #[s.v, g.v] w fun e w' => e = .returned (.bool true) ∧ Below w.heap.size w w' :=
  (c34 s g w hz).mono fun _ _ hr => by
    rcases hr with ⟨_, h1⟩ | ⟨h1, _⟩
    · exact h1
    · exact absurd p h1
theorem c34n (s : Sv) (g : Wg) (w : World) (hz : s.In w) (p : ¬ FarP s g) : Calls Try.prog 34 #[s.v, g.v] w fun e w' => e = .returned (.bool false) ∧ Below w.heap.size w w' :=
  (c34 s g w hz).mono fun _ _ hr => by
    rcases hr with ⟨h1, _⟩ | ⟨_, h1⟩
    · exact absurd h1 p
    · exact h1
theorem FarP.le {s : Sv} {g : Wg} (h : ¬ FarP s g) : s.rn ≤ 40 ∧ g.wn ≤ 40 := by
  unfold FarP at h
  constructor <;> (rcases Nat.lt_or_ge 40 s.rn with h1 | h1 <;> rcases Nat.lt_or_ge 40 g.wn with h2 | h2 <;> first | omega | exact absurd (.inl h1) h | exact absurd (.inr (.inl h2)) h)
/-- A servo and wedges that statements look at. -/
def ValP (s : Sv) (g : Wg) : Prop := ¬ FarP s g ∧ ckE s g = 0
theorem ValP.ok {s : Sv} {g : Wg} (h : ValP s g) : s.Ok ∧ g.Ok ∧ g.wn ≤ 8 ∧ s.rn ≤ 40 := by
  obtain ⟨h1, h2⟩ := h
  have ⟨ok, okg⟩ := ckE_inv h2
  have := FarP.le h1
  refine ⟨ok, okg, ?_, this.1⟩
  rcases Nat.lt_or_ge 8 g.wn with h3 | h3
  · exact absurd (.inr (.inr (.inl ⟨h3, okg.n2⟩))) h1
  · exact h3
set_option maxRecDepth 100000 in
set_option maxHeartbeats 1000000 in
theorem c16y (s : Sv) (g : Wg) (w : World) (hz : s.In w) (hg : g.In w) (h : ValP s g) : Calls Try.prog 16 #[s.v, g.v] w fun e w' => e = .returned (.bool true) ∧ Below w.heap.size w w' := by
  have hf := hid h.1
  have hc := hid h.2
  have hl := FarP.le h.1
  have hB0 : Below w.heap.size w (w.alloc (.cells #[.int .i64 s.tr, .int .i64 s.st, .int .i64 s.mv, .int .i64 s.no, .int .i64 s.wr, .slice s.ra s.rn s.rc] 30)) := (Below.refl _ _).alloc (Nat.le_refl _) _
  clear h
  go_enter Try.func16, Try.ntmps16
  go_wp2_with (first | (go_at_call 34; refine (c34n s g _ (hz.below hB0 (Nat.le_refl _)) hf.out).mono ?_; rintro e w1 ⟨rfl, hB1⟩; have hBx : Below w.heap.size w w1 := hB0.trans (hB1.mono (by simp)); obtain ⟨k0, k1, k2, k3, k4, k5⟩ := ((Svb.new s w).below hB1 (by simp)).all) | (go_at_call 37; refine (c37 s g _ (hz.below hBx (Nat.le_refl _)) (hg.below hBx (Nat.le_refl _)) (by omega) (by omega)).mono ?_; rw [hc.out]; rintro e w2 ⟨rfl, hB2⟩))
  go_returns
  exact ⟨rfl, hBx.trans (hB2.mono hBx.size)⟩
set_option maxRecDepth 100000 in
set_option maxHeartbeats 1000000 in
theorem c16n (s : Sv) (g : Wg) (w : World) (hz : s.In w) (hg : g.In w) (h : ¬ ValP s g) : Calls Try.prog 16 #[s.v, g.v] w fun e w' => e = .returned (.bool false) ∧ Below w.heap.size w w' := by
  have hB0 : Below w.heap.size w (w.alloc (.cells #[.int .i64 s.tr, .int .i64 s.st, .int .i64 s.mv, .int .i64 s.no, .int .i64 s.wr, .slice s.ra s.rn s.rc] 30)) := (Below.refl _ _).alloc (Nat.le_refl _) _
  by_cases hf0 : FarP s g
  · have hf := hid hf0
    clear h hf0
    go_enter Try.func16, Try.ntmps16
    go_wp2_with (go_at_call 34; refine (c34y s g _ (hz.below hB0 (Nat.le_refl _)) hf.out).mono ?_; rintro e w1 ⟨rfl, hB1⟩)
    go_returns
    exact ⟨rfl, hB0.trans (hB1.mono (by simp))⟩
  · have hf := hid hf0
    have hl := FarP.le hf0
    have hc0 : ckE s g ≠ 0 := fun e => h ⟨hf0, e⟩
    obtain ⟨er, her⟩ : ∃ er, er = ckE s g := ⟨_, rfl⟩
    have herh := hid her
    rw [← her] at hc0
    have hne : (er == 0) = false := by simpa using hc0
    clear h hf0 her
    go_enter Try.func16, Try.ntmps16
    go_wp2_with (first | (go_at_call 34; refine (c34n s g _ (hz.below hB0 (Nat.le_refl _)) hf.out).mono ?_; rintro e w1 ⟨rfl, hB1⟩; have hBx : Below w.heap.size w w1 := hB0.trans (hB1.mono (by simp)); obtain ⟨k0, k1, k2, k3, k4, k5⟩ := ((Svb.new s w).below hB1 (by simp)).all) | (go_at_call 37; refine (c37 s g _ (hz.below hBx (Nat.le_refl _)) (hg.below hBx (Nat.le_refl _)) (by omega) (by omega)).mono ?_; rw [← herh.out]; rintro e w2 ⟨rfl, hB2⟩))
    go_returns
    exact ⟨rfl, hBx.trans (hB2.mono hBx.size)⟩
theorem c29y {s : Sv} {g : Wg} {A : Option Addr} {b o n c : Nat} {f : Nat → Int} {w : World} (ok : s.Ok) (hp : Ints w A b o n f) (hn : n ≤ 1000) (p : PathP s f n ∧ n = g.wn) :
    Calls Try.prog 29 #[s.v, g.v, .slice A n c] w fun e w' => e = .returned (.bool true) ∧ Below w.heap.size w w' :=
  (c29 s g A b o n c f w ok hp hn).mono fun _ _ hr => by
    rcases hr with ⟨_, h1⟩ | ⟨h1, _⟩
    · exact h1
    · exact absurd p h1
theorem c29n {s : Sv} {g : Wg} {A : Option Addr} {b o n c : Nat} {f : Nat → Int} {w : World} (ok : s.Ok) (hp : Ints w A b o n f) (hn : n ≤ 1000) (p : ¬ (PathP s f n ∧ n = g.wn)) :
    Calls Try.prog 29 #[s.v, g.v, .slice A n c] w fun e w' => e = .returned (.bool false) ∧ Below w.heap.size w w' :=
  (c29 s g A b o n c f w ok hp hn).mono fun _ _ hr => by
    rcases hr with ⟨h1, _⟩ | ⟨_, h1⟩
    · exact absurd h1 p
    · exact h1
theorem PathP.pth {s : Sv} {f : Nat → Int} {n : Nat} (ok : s.Ok) (h : PathP s f n) : Pth s.N s.m (pos f) n := by
  intro i hi
  obtain ⟨h1, h2⟩ := h i hi
  refine ⟨h1.pos.2, fun h0 => ?_⟩
  have h3 := absI_le.1 (h2 h0)
  have h4 := h1.pos.1
  have h5 := (h (i - 1) (by omega)).1.pos.1
  have h6 := ok.mb.1
  omega
end Go.Proofs.Ytfpfnjdnfiihhaa
