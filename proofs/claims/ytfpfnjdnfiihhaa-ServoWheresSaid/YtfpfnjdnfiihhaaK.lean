/- Stage 2: the faults one wedge further. -/
import Derived.Test.YtfpfnjdnfiihhaaJ
set_option linter.unusedSimpArgs false
set_option linter.unusedVariables false
namespace Go.Proofs.Ytfpfnjdnfiihhaa
open Go.RowKit

theorem wmin_mvd {N m k lo hi : Nat} {f : Nat → Int} (h1 : lo = k - m) (h2 : hi = min (k + m + 1) N) (hk : k < N) : wmin (fun q => f (lo + q)) 0 (hi - lo - 1) = mvd N m f k := by
  unfold mvd
  rw [wmin_shift f lo, show hi - lo - 1 = min (k + m) (N - 1) - (k - m) by omega, h1]
theorem RowF.part {w : World} {b n : Nat} {f : Nat → Int} (h : RowF w b n f) {lo k : Nat} (hk : lo + k ≤ n) : Ints w (some ⟨b, lo, none⟩) b lo k (fun q => f (lo + q)) :=
  ⟨fun _ _ => rfl, fun _ _ => h.lt, fun q hq => h.cell (by omega)⟩
theorem RowF.grown {w w' : World} {b n x : Nat} {f : Nat → Int} (h : RowF w b n f) (hg : w.grownBy w' (some x)) (hb : b ≠ x) : RowF w' b n f := h.of_block (hg.block b h.lt (by intro e; injection e with e; exact hb e))
theorem c53w (b n lo L c k m : Nat) (f : Nat → Int) (w : World) (hR : RowF w b n f) (h1 : lo = k - m) (h2 : L = min (k + m + 1) n - lo) (hk : k < n) (hn : n ≤ 1009) :
    Calls Try.prog 53 #[.slice (some ⟨b, lo, none⟩) L c] w fun e w' => e = .returned (.int .i64 (mvd n m f k)) ∧ w = w' := by
  have h := c53 (some ⟨b, lo, none⟩) b lo L c (fun q => f (lo + q)) w (hR.part (by omega)) (by omega) (by omega)
  have e : wmin (fun q => f (lo + q)) 0 (L - 1) = mvd n m f k := by rw [h2]; exact wmin_mvd h1 rfl hk
  rwa [e] at h

set_option maxRecDepth 100000 in
set_option maxHeartbeats 2000000 in
theorem c56 (s : Sv) (g : Wg) (b c : Nat) (f : Nat → Int) (w : World) (ok : s.Ok) (hR : RowF w b s.N f) (hcp : s.N ≤ c) (hf : ∀ p, p < s.N → 0 ≤ f p ∧ f p ≤ 100) :
    Calls Try.prog 56 #[hdv s g, .slice (some ⟨b, 0, none⟩) s.N c] w (IRet s.N (mvd s.N s.m f) w) := by
  have hN := ok.Nb
  have hN1 := hN.1; have hN2 := hN.2.1
  obtain ⟨n, hn⟩ : ∃ n, n = s.N := ⟨_, rfl⟩
  rw [← hn] at hR hf hN1 hN2 hcp ⊢
  have hm0 := ok.m0; have hm1 := ok.m1; have hmh := hid ok.mb.1
  have hfh := hid hf
  have hmk := fun W => run_make_row' (P := Try.prog) 28 3 (.int .i64 0) 8 Try.underlying28 Try.info3 rfl .i64 .i64 n (by omega) (by omega) W
  have hB0 : Below w.heap.size w ((w.alloc (.cells #[.int .i64 s.tr, .int .i64 s.st, .int .i64 s.mv, .int .i64 s.no, .int .i64 s.wr, .slice s.ra s.rn s.rc, .slice g.wa g.wn g.wk] 75)).alloc (.cells (madeCells #[.int .i64 0] n) 3)) := by (repeat' (first | (with_reducible exact Below.refl _ _) | (with_reducible assumption) | (with_reducible refine Below.alloc ?_ ?_ _) | (with_reducible refine Below.drew ?_) | (with_reducible refine below_drewN ?_ _) | (with_reducible refine Below.setCell ?_ ?_ _) | (with_reducible refine Below.trans ?_ (Below.mono (by with_reducible assumption) ?_)) | go_size))
  have hRh := hid (hR.below hB0 hR.lt)
  have hbl := hR.lt
  have hM : RowF ((w.alloc (.cells #[.int .i64 s.tr, .int .i64 s.st, .int .i64 s.mv, .int .i64 s.no, .int .i64 s.wr, .slice s.ra s.rn s.rc, .slice g.wa g.wn g.wk] 75)).alloc (.cells (madeCells #[.int .i64 0] n) 3)) (w.heap.size + 1) n (fun _ => 0) := by
    have := RowF.made (w.alloc (.cells #[.int .i64 s.tr, .int .i64 s.st, .int .i64 s.mv, .int .i64 s.no, .int .i64 s.wr, .slice s.ra s.rn s.rc, .slice g.wa g.wn g.wk] 75)) n
    simpa using this
  have hMh := hid hM
  clear hN ok hn hR hf hM
  go_enter Try.func56, Try.ntmps56
  go_wp2_with fail
  obtain ⟨W0, hW0⟩ : ∃ W0 : World, W0 = ((w.alloc (.cells #[.int .i64 s.tr, .int .i64 s.st, .int .i64 s.mv, .int .i64 s.no, .int .i64 s.wr, .slice s.ra s.rn s.rc, .slice g.wa g.wn g.wk] 75)).alloc (.cells (madeCells #[.int .i64 0] n) 3)) := ⟨_, rfl⟩
  rw [← hW0] at hB0 hRh hMh
  rw [← hW0]
  have hs0 : W0.heap.size = w.heap.size + 2 := by rw [hW0]; simp
  have k2 : W0.cell? ⟨w.heap.size, 2, none⟩ = some (.int .i64 s.mv) := by rw [hW0]; simp
  clear hmk
  go_loopw [6, 12] (fun _ iv wr => ∃ k : Nat, k ≤ n ∧ iv = .int .i64 k ∧ RowF wr (w.heap.size + 1) n (mix k (mvd n s.m f) (fun _ => 0)) ∧ W0.grownBy wr (some (w.heap.size + 1))) (fun _ iv _ => n - (intOf iv).toNat)
  case atStart => exact ⟨0, Nat.zero_le _, rfl, hMh.out.congr (fun q _ => (mix_zero (mvd n s.m f) (fun _ => 0) q).symm), World.grownBy.refl _ _⟩
  case round =>
    obtain ⟨k, hk, rfl, hRk, hgr⟩ := hrel
    have hBwr : Below w.heap.size w wr := below_grown hB0 hgr hB0.size (by omega)
    by_cases hlt : k < n
    · have k2' : wr.cell? ⟨w.heap.size, 2, none⟩ = some (.int .i64 s.mv) := hgr.cell k2 (by simp)
      have h0 := hRk.cell hlt
      have h2 := hRk.frozen k
      have h3 := hRk.lt
      have h4 := @RowF.ix _ _ _ n _ hRk _ hlt
      rw [mix_at] at h0
      have hRkh := hid hRk
      have hRb := hid (hRh.out.grown hgr (by omega))
      clear hRk hBwr
      by_cases ha : s.mv ≤ k <;> by_cases hb : (k : Int) + s.mv + 1 < n
      all_goals
        go_wp2_with (go_at_call 53; refine (c53w b n _ _ _ k s.m f _ hRb.out (by have := hmh.out; omega) (by have := hmh.out; omega) hlt (by omega)).mono ?_; rintro e w' ⟨rfl, rfl⟩)
        go_roundw
        case rel => exact ⟨k + 1, by omega, by go_num, (hRkh.out.set k (mvd n s.m f k)).congr (fun q _ => by rw [← mix_step]), grown_set hgr _ _⟩
        case measure => simp [intOf]; omega
    · have hRkh := hid hRk
      clear hRk
      go_wp2_with fail
      go_returns
      obtain rfl : k = n := by omega
      exact ⟨w.heap.size + 1, k, rfl, by omega, Nat.le_refl _, hRkh.out.congr (fun q hq => mix_all hq), hBwr⟩
end Go.Proofs.Ytfpfnjdnfiihhaa
