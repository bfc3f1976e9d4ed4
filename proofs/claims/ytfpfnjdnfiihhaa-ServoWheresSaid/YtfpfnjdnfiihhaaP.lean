/- Stage 2: the faults of now, if some path is possible. -/
import Derived.Test.YtfpfnjdnfiihhaaO
set_option linter.unusedSimpArgs false
set_option linter.unusedVariables false
namespace Go.Proofs.Ytfpfnjdnfiihhaa
open Go.RowKit

/-- The least of n numbers. -/
def mn (n : Nat) (f : Nat → Int) : Int := wmin f 0 (n - 1)
theorem mn_le {n : Nat} {f : Nat → Int} {c : Int} (hn : 0 < n) : mn n f ≤ c ↔ ∃ p, p < n ∧ f p ≤ c := by
  unfold mn
  rw [wmin_le]
  constructor
  · rintro ⟨q, _, h2, h3⟩; exact ⟨q, by omega, h3⟩
  · rintro ⟨q, h1, h2⟩; exact ⟨q, by omega, by omega, h2⟩
theorem mn_bd {n : Nat} {f : Nat → Int} {lo hi : Int} (hn : 0 < n) (h : ∀ p, p < n → lo ≤ f p ∧ f p ≤ hi) : lo ≤ mn n f ∧ mn n f ≤ hi := wmin_bd fun q _ h2 => h q (by omega)
theorem c53s {b n c : Nat} {f : Nat → Int} {w : World} (hR : RowF w b n f) (h0 : 0 < n) (hm : n ≤ 1000000) :
    Calls Try.prog 53 #[.slice (some ⟨b, 0, none⟩) n c] w fun e w' => e = .returned (.int .i64 (mn n f)) ∧ w' = w :=
  (c53 _ b 0 n c f w hR.ints h0 hm).mono fun _ _ ⟨h1, h2⟩ => ⟨h1, h2.symm⟩
/-- A new slice of numbers and OK are handed back. -/
def IRet2 (n : Nat) (f : Nat → Int) (w : World) (e : Ending) (w' : World) : Prop :=
  ∃ g c : Nat, e = .returned (.tuple #[.slice (some ⟨g, 0, none⟩) n c, .int .i64 0]) ∧ w.heap.size ≤ g ∧ n ≤ c ∧ RowF w' g n f ∧ Below w.heap.size w w'

set_option maxRecDepth 100000 in
set_option maxHeartbeats 2000000 in
theorem c48 (s : Sv) (g : Wg) (w : World) (hz : s.In w) (hg : g.In w) (ok : s.Ok) (okg : g.Ok) (hp : mn s.N (fl s g) ≤ s.wr) :
    Calls Try.prog 48 #[hdv s g] w (IRet2 s.N (fl s g) w) := by
  have hN := ok.Nb
  have hN1 := hN.1; have hN2 := hN.2.1
  have okh := hid ok
  have okgh := hid okg
  obtain ⟨W0, hW0⟩ : ∃ W0 : World, W0 = w.alloc (.cells #[.int .i64 s.tr, .int .i64 s.st, .int .i64 s.mv, .int .i64 s.no, .int .i64 s.wr, .slice s.ra s.rn s.rc, .slice g.wa g.wn g.wk] 75) := ⟨_, rfl⟩
  have hB0 : Below w.heap.size w W0 := by rw [hW0]; (repeat' (first | (with_reducible exact Below.refl _ _) | (with_reducible assumption) | (with_reducible refine Below.alloc ?_ ?_ _) | (with_reducible refine Below.drew ?_) | (with_reducible refine below_drewN ?_ _) | (with_reducible refine Below.setCell ?_ ?_ _) | (with_reducible refine Below.trans ?_ (Below.mono (by with_reducible assumption) ?_)) | go_size))
  have hbx : Hbx s g W0 w.heap.size := by rw [hW0]; exact Hbx.new s g w
  have hs0 : W0.heap.size = w.heap.size + 1 := by rw [hW0]; simp
  clear hN ok okg
  go_enter Try.func48, Try.ntmps48
  go_wp2_with (go_at_call 54; rw [← hW0]; refine (c54 s g _ (hz.below hB0 (Nat.le_refl _)) (hg.below hB0 (Nat.le_refl _)) okh.out okgh.out).mono ?_; rintro e w1 ⟨x, c, rfl, hx, hc, hR, hB1⟩; obtain ⟨_, _, _, _, k4, _, _⟩ := (hbx.below hB1 (show w.heap.size < W0.heap.size by omega)).all; have hRh := hid hR; clear hR)
  go_quiet ((go_at_call 53; exact Calls.quiet_of_same (c53s (hRh.out.of_block rfl) (by omega) (by omega))))
  go_wp2
  go_ret2
  exact ⟨x, c, rfl, by omega, hc, hRh.out.of_block rfl, below_drewN (hB0.trans (hB1.mono (by omega))) _⟩
set_option maxRecDepth 100000 in
set_option maxHeartbeats 2000000 in
theorem c48n (s : Sv) (g : Wg) (w : World) (hz : s.In w) (hg : g.In w) (ok : s.Ok) (okg : g.Ok) (hp : ¬ mn s.N (fl s g) ≤ s.wr) :
    Calls Try.prog 48 #[hdv s g] w fun e w' => e = .returned (.tuple #[.slice none 0 0, .int .i64 3]) ∧ Below w.heap.size w w' := by
  have hN := ok.Nb
  have hN1 := hN.1; have hN2 := hN.2.1
  have okh := hid ok
  have okgh := hid okg
  have hp' : s.wr < mn s.N (fl s g) := by omega
  obtain ⟨W0, hW0⟩ : ∃ W0 : World, W0 = w.alloc (.cells #[.int .i64 s.tr, .int .i64 s.st, .int .i64 s.mv, .int .i64 s.no, .int .i64 s.wr, .slice s.ra s.rn s.rc, .slice g.wa g.wn g.wk] 75) := ⟨_, rfl⟩
  have hB0 : Below w.heap.size w W0 := by rw [hW0]; (repeat' (first | (with_reducible exact Below.refl _ _) | (with_reducible assumption) | (with_reducible refine Below.alloc ?_ ?_ _) | (with_reducible refine Below.drew ?_) | (with_reducible refine below_drewN ?_ _) | (with_reducible refine Below.setCell ?_ ?_ _) | (with_reducible refine Below.trans ?_ (Below.mono (by with_reducible assumption) ?_)) | go_size))
  have hbx : Hbx s g W0 w.heap.size := by rw [hW0]; exact Hbx.new s g w
  have hs0 : W0.heap.size = w.heap.size + 1 := by rw [hW0]; simp
  clear hN ok okg hp
  go_enter Try.func48, Try.ntmps48
  go_wp2_with (go_at_call 54; rw [← hW0]; refine (c54 s g _ (hz.below hB0 (Nat.le_refl _)) (hg.below hB0 (Nat.le_refl _)) okh.out okgh.out).mono ?_; rintro e w1 ⟨x, c, rfl, hx, hc, hR, hB1⟩; obtain ⟨_, _, _, _, k4, _, _⟩ := (hbx.below hB1 (show w.heap.size < W0.heap.size by omega)).all; have hRh := hid hR; clear hR)
  go_quiet ((go_at_call 53; exact Calls.quiet_of_same (c53s (hRh.out.of_block rfl) (by omega) (by omega))))
  go_wp2
  go_ret2
  exact ⟨rfl, below_drewN (hB0.trans (hB1.mono (by omega))) _⟩
end Go.Proofs.Ytfpfnjdnfiihhaa
