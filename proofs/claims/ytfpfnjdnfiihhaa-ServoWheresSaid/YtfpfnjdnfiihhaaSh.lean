/- Stage 2: the reference's Ahead. -/
import Derived.Test.YtfpfnjdnfiihhaaSg
set_option linter.unusedSimpArgs false
set_option linter.unusedVariables false
namespace Go.Proofs.Ytfpfnjdnfiihhaa
open Go.RowKit Go.Sort Go.BigFrame

set_option maxRecDepth 100000 in
set_option maxHeartbeats 4000000 in
theorem c39_ok (s : Sv) (g : Wg) (d : Nat) (w : World) (hz : s.In w) (hg : g.In w) (hm : s.rn ≤ 1000000) (hm2 : g.wn ≤ 1000000) (ok : s.Ok) (okg : g.Ok) (hd : d ≤ 24) (hmn : mn s.N (fl s g) ≤ s.wr) :
    Calls Try.prog 39 #[s.v, g.v, .int .i64 d] w (SpRet2 (aheadL s g d) 0 w) := by
  obtain ⟨W0, hW0⟩ : ∃ W0 : World, W0 = w.alloc (.cells #[.int .i64 s.tr, .int .i64 s.st, .int .i64 s.mv, .int .i64 s.no, .int .i64 s.wr, .slice s.ra s.rn s.rc] 30) := ⟨_, rfl⟩
  have hB0 : Below w.heap.size w W0 := by rw [hW0]; exact (Below.refl _ _).alloc (Nat.le_refl _) _
  have hsv : Svb s W0 w.heap.size := by rw [hW0]; exact Svb.new s w
  have hs0 : W0.heap.size = w.heap.size + 1 := by rw [hW0]; simp
  have hdec : Hid (decide (0 ≤ (d : Int) ∧ (d : Int) ≤ 24) = true) := hid (by simp; omega)
  have okh := hid ok
  have okgh := hid okg
  have hmnh := hid hmn
  have hN2 := ok.Nb.2.1
  have hL := hid (spn_ltN (s := s) okg d)
  clear ok okg hmn
  go_enter Try.func39, Try.ntmps39
  go_wp2_with fail
  rw [← hW0]
  clear hW0
  go_region_held3 (fun w' => w'.cell? ⟨w.heap.size, 0, none⟩ = some (.int .i64 s.tr) ∧ w'.cell? ⟨w.heap.size, 1, none⟩ = some (.int .i64 s.st) ∧ w'.cell? ⟨w.heap.size, 2, none⟩ = some (.int .i64 s.mv) ∧ w'.cell? ⟨w.heap.size, 3, none⟩ = some (.int .i64 s.no) ∧ w'.cell? ⟨w.heap.size, 4, none⟩ = some (.int .i64 s.wr) ∧ w'.cell? ⟨w.heap.size, 5, none⟩ = some (.slice s.ra s.rn s.rc)) (first | exact hsv.all | exact hk4.all) (first | (go_at_call 61; refine (c61b _ _ _ _).mono ?_; rw [hdec.out]; rintro e w3 ⟨rfl, rfl⟩) | (go_at_call 64; refine (c64_ok s g _ (hz.below (by first | exact hB0 | exact hB0.drew | (repeat' (first | (with_reducible exact Below.refl _ _) | (with_reducible assumption) | (with_reducible refine Below.alloc ?_ ?_ _) | (with_reducible refine Below.drew ?_) | (with_reducible refine below_drewN ?_ _) | (with_reducible refine Below.setCell ?_ ?_ _) | (with_reducible refine Below.trans ?_ (Below.mono (by with_reducible assumption) ?_)) | go_size))) (Nat.le_refl _)) (hg.below (by first | exact hB0 | exact hB0.drew | (repeat' (first | (with_reducible exact Below.refl _ _) | (with_reducible assumption) | (with_reducible refine Below.alloc ?_ ?_ _) | (with_reducible refine Below.drew ?_) | (with_reducible refine below_drewN ?_ _) | (with_reducible refine Below.setCell ?_ ?_ _) | (with_reducible refine Below.trans ?_ (Below.mono (by with_reducible assumption) ?_)) | go_size))) (Nat.le_refl _)) hm hm2 okh.out okgh.out hmnh.out).mono ?_; rintro e w4 ⟨b, c, rfl, hb, hBl, hB4⟩; have hBlh := hid hBl; clear hBl; have hk4 : Svb s w4 w.heap.size := Svb.below (w := W0.drew) hsv hB4 (show w.heap.size < W0.heap.size by omega)))
  have hB5 : Below w.heap.size w w4 := hB0.trans (Below.mono (Below.trans (Below.refl W0.heap.size W0).drew hB4) (by omega))
  have hw4 : w.heap.size < w4.heap.size := by have : W0.heap.size ≤ w4.heap.size := hB4.size; omega
  clear hB4 hsv
  go_wp2_with fail
  go_loopw [8, 10] (fun kv iv wr => ∃ i : Nat, i ≤ d ∧ iv = .int .i64 i ∧ (∃ b c : Nat, kv = .slice (some ⟨b, 0, none⟩) s.N c ∧ Hid (Bls wr b s.N (ltN s.N s.m (endsB s g) i))) ∧ Svb s wr w.heap.size ∧ w.heap.size < wr.heap.size ∧ Below w.heap.size w wr) (fun _ iv _ => d - (intOf iv).toNat)
  case atStart => exact ⟨0, Nat.zero_le _, rfl, ⟨b, c, rfl, hBlh⟩, hk4, hw4, hB5⟩
  case round =>
    obtain ⟨i, hi, rfl, ⟨b', c', rfl, hbl⟩, hsw, hwr, hB⟩ := hrel
    by_cases hid' : i < d
    · obtain ⟨_, _, k2, _, _, _⟩ := hsw.all
      go_wp2_with (go_at_call 66; refine (c66 s b' c' _ _ okh.out hbl.out).mono ?_; rintro e w6 ⟨b6, c6, rfl, hb6, hBl6, hB6⟩; have hbl6 := hid hBl6; clear hBl6)
      go_roundw
      case rel => exact ⟨i + 1, by omega, by go_num, ⟨b6, c6, rfl, hbl6⟩, hsw.below hB6 hwr, Nat.lt_of_lt_of_le hwr hB6.size, hB.trans (hB6.mono (by omega))⟩
      case measure => simp [intOf]; omega
    · obtain rfl : i = d := by omega
      go_wp2_with (go_at_call 65; refine (c65 b' s.N c' (ltN s.N s.m (endsB s g) i) _ hbl.out hN2).mono ?_; rw [hL.out]; rintro e w3 ⟨v3, rfl, hown3, hB3⟩; have hown3h := hid hown3; clear hown3)
      go_returns
      exact SpRet2.of (owns_base hown3h.out hB.size) (hB.trans (hB3.mono hB.size))
theorem c39 (s : Sv) (g : Wg) (x : Int) (w : World) (hz : s.In w) (hg : g.In w) (hm : s.rn ≤ 1000000) (hm2 : g.wn ≤ 1000000) :
    Calls Try.prog 39 #[s.v, g.v, .int .i64 x] w (SpRet2 (ahL s g (0 ≤ x ∧ x ≤ 24) x.toNat) (ahE s g (0 ≤ x ∧ x ≤ 24)) w) := by
  by_cases h : ahE s g (0 ≤ x ∧ x ≤ 24) = 0
  · obtain ⟨ok, okg, hx, hmn⟩ := ahE_inv h
    rw [ahL_ok h, h]
    obtain ⟨d, rfl⟩ := Int.eq_ofNat_of_zero_le hx.1
    exact c39_ok s g d w hz hg hm hm2 ok okg (by omega) hmn
  · rw [ahL_no h]; exact c39_err s g x w hz hg hm hm2 h
end Go.Proofs.Ytfpfnjdnfiihhaa
