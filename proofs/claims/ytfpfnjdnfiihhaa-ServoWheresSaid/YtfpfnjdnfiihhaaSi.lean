/- Stage 2: the reference's Fewest. -/
import Derived.Test.YtfpfnjdnfiihhaaSh
import Derived.Test.YtfpfnjdnfiihhaaM5
set_option linter.unusedSimpArgs false
set_option linter.unusedVariables false
namespace Go.Proofs.Ytfpfnjdnfiihhaa
open Go.RowKit Go.Sort Go.BigFrame

set_option maxRecDepth 100000 in
set_option maxHeartbeats 4000000 in
theorem c40 (s : Sv) (g : Wg) (w : World) (hz : s.In w) (hg : g.In w) (hm : s.rn ≤ 1000000) (hm2 : g.wn ≤ 1000000) :
    Calls Try.prog 40 #[s.v, g.v] w fun e w' => e = .returned (.tuple #[.int .i64 (fwA s g), .int .i64 (ckE s g)]) ∧ Below w.heap.size w w' := by
  by_cases h1 : ckE s g = 0
  · obtain ⟨ok, okg⟩ := ckE_inv h1
    have hN := ok.Nb
    have hN1 := hN.1; have hN2 := hN.2.1
    obtain ⟨R, hR⟩ : ∃ R, R = rfq s.N s.m (agr s g) (-1) g.wn := ⟨_, rfl⟩
    have hRh := hid hR
    have e1 : Hid (fwA s g = mn s.N R) := hid (by rw [fwA, if_pos h1, hR]; exact (mn_congr hN1 (fun p hp => rfq_fl okg hp)).symm)
    have hck := hid h1
    rw [h1]
    have okh := hid ok
    have okgh := hid okg
    clear ok okg h1 hN hR
    go_enter Try.func40, Try.ntmps40
    go_wp2_with (first
      | (go_at_call 37; refine (c37 s g _ (hz.below (by (repeat' (first | (with_reducible exact Below.refl _ _) | (with_reducible assumption) | (with_reducible refine Below.alloc ?_ ?_ _) | (with_reducible refine Below.drew ?_) | (with_reducible refine below_drewN ?_ _) | (with_reducible refine Below.setCell ?_ ?_ _) | (with_reducible refine Below.trans ?_ (Below.mono (by with_reducible assumption) ?_)) | go_size))) (Nat.le_refl _)) (hg.below (by (repeat' (first | (with_reducible exact Below.refl _ _) | (with_reducible assumption) | (with_reducible refine Below.alloc ?_ ?_ _) | (with_reducible refine Below.drew ?_) | (with_reducible refine below_drewN ?_ _) | (with_reducible refine Below.setCell ?_ ?_ _) | (with_reducible refine Below.trans ?_ (Below.mono (by with_reducible assumption) ?_)) | go_size))) (Nat.le_refl _)) hm hm2).mono ?_; rw [hck.out]; rintro e w1 ⟨rfl, hB1⟩; have hz1 : w.heap.size + 1 ≤ w1.heap.size := (by have := hB1.size; simp at this; omega); have hBx : Below w.heap.size w w1 := Below.trans (by (repeat' (first | (with_reducible exact Below.refl _ _) | (with_reducible assumption) | (with_reducible refine Below.alloc ?_ ?_ _) | (with_reducible refine Below.drew ?_) | (with_reducible refine below_drewN ?_ _) | (with_reducible refine Below.setCell ?_ ?_ _) | (with_reducible refine Below.trans ?_ (Below.mono (by with_reducible assumption) ?_)) | go_size))) (hB1.mono (by simp)); obtain ⟨k0, k1, k2, k3, k4, k5⟩ := ((Svb.new s w).below hB1 (by simp)).all) | (go_at_call 67; refine (c67 s g (-1) _ (hz.below hBx (Nat.le_refl _)) (hg.below hBx (Nat.le_refl _)) okh.out okgh.out).mono ?_; rw [← hRh.out]; rintro e w2 ⟨b, c, rfl, hb, hc, hRow, hB2⟩; have hBy : Below w.heap.size w w2 := hBx.trans (hB2.mono hBx.size); have hl := hRow.lt; have x0 := hRow.cell hN1; have i0 := @RowF.ix _ _ _ c _ hRow 0 hN1; have hRowh := hid hRow; clear hRow))
    go_loop [8, 9] (fun mv iv => ∃ k : Nat, k ≤ s.N ∧ iv = .int .i64 k ∧ mv = .int .i64 (wmin R 0 (k - 1))) (fun _ iv => s.N - (intOf iv).toNat)
    case atStart => exact ⟨0, Nat.zero_le _, rfl, rfl⟩
    case round =>
      obtain ⟨k, hk, rfl, rfl⟩ := hrel
      by_cases hlt : k < s.N
      · have c1 := hRowh.out.cell hlt
        have c4 := @RowF.ix _ _ _ c _ hRowh.out _ hlt
        have hnx : Hid (wmin R 0 (k + 1 - 1) = if R k < wmin R 0 (k - 1) then R k else wmin R 0 (k - 1)) := hid (by
          rcases Nat.eq_zero_or_pos k with h0 | h0
          · subst h0; simp [wmin]
          · rw [wmin_pred R h0]; split <;> omega)
        go_wp2_with fail
        go_round
        case rel => exact ⟨k + 1, by omega, by go_num, by rw [hnx.out]⟩
        case measure => simp [intOf]; omega
      · obtain rfl : k = s.N := by omega
        go_wp2_with fail
        go_returns
        exact ⟨by rw [e1.out]; rfl, hBy⟩
  · have e1 : fwA s g = 0 := if_neg h1
    rw [e1]
    obtain ⟨er, her⟩ : ∃ er, er = ckE s g := ⟨_, rfl⟩
    have hck := hid her.symm
    rw [← her] at h1 ⊢
    have hne : (er == 0) = false := by simpa using h1
    clear her e1
    go_enter Try.func40, Try.ntmps40
    go_wp2_with (go_at_call 37; refine (c37 s g _ (hz.below (by (repeat' (first | (with_reducible exact Below.refl _ _) | (with_reducible assumption) | (with_reducible refine Below.alloc ?_ ?_ _) | (with_reducible refine Below.drew ?_) | (with_reducible refine below_drewN ?_ _) | (with_reducible refine Below.setCell ?_ ?_ _) | (with_reducible refine Below.trans ?_ (Below.mono (by with_reducible assumption) ?_)) | go_size))) (Nat.le_refl _)) (hg.below (by (repeat' (first | (with_reducible exact Below.refl _ _) | (with_reducible assumption) | (with_reducible refine Below.alloc ?_ ?_ _) | (with_reducible refine Below.drew ?_) | (with_reducible refine below_drewN ?_ _) | (with_reducible refine Below.setCell ?_ ?_ _) | (with_reducible refine Below.trans ?_ (Below.mono (by with_reducible assumption) ?_)) | go_size))) (Nat.le_refl _)) hm hm2).mono ?_; rw [hck.out]; rintro e w1 ⟨rfl, hB1⟩; have hz1 : w.heap.size + 1 ≤ w1.heap.size := (by have := hB1.size; simp at this; omega); have hBx : Below w.heap.size w w1 := Below.trans (by (repeat' (first | (with_reducible exact Below.refl _ _) | (with_reducible assumption) | (with_reducible refine Below.alloc ?_ ?_ _) | (with_reducible refine Below.drew ?_) | (with_reducible refine below_drewN ?_ _) | (with_reducible refine Below.setCell ?_ ?_ _) | (with_reducible refine Below.trans ?_ (Below.mono (by with_reducible assumption) ?_)) | go_size))) (hB1.mono (by simp)); obtain ⟨k0, k1, k2, k3, k4, k5⟩ := ((Svb.new s w).below hB1 (by simp)).all)
    go_ret2
    exact ⟨rfl, hBx⟩
end Go.Proofs.Ytfpfnjdnfiihhaa
