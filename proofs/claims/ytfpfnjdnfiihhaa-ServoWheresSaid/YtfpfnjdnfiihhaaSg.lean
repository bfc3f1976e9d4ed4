/- Stage 2: the reference's Where, Ahead and Fewest. -/
import Derived.Test.YtfpfnjdnfiihhaaSf
set_option linter.unusedSimpArgs false
set_option linter.unusedVariables false
namespace Go.Proofs.Ytfpfnjdnfiihhaa
open Go.RowKit Go.Sort Go.BigFrame

theorem SpRet2.of {l : List (Nat × Nat)} {er : Int} {w w' : World} {v : Value} (h1 : w'.ownsRow w.heap.size 56 2 v l.length (enc l)) (h2 : Below w.heap.size w w') : SpRet2 l er w (.returned (.tuple #[v, .int .i64 er])) w' := ⟨v, rfl, h1, h2⟩
set_option maxRecDepth 100000 in
set_option maxHeartbeats 2000000 in
theorem c38 (s : Sv) (g : Wg) (w : World) (hz : s.In w) (hg : g.In w) (hm : s.rn ≤ 1000000) (hm2 : g.wn ≤ 1000000) :
    Calls Try.prog 38 #[s.v, g.v] w (SpRet2 (ahL s g True 0) (ahE s g True) w) := by
  have hB0 : Below w.heap.size w (w.alloc (.cells #[.int .i64 s.tr, .int .i64 s.st, .int .i64 s.mv, .int .i64 s.no, .int .i64 s.wr, .slice s.ra s.rn s.rc] 30)) := (Below.refl _ _).alloc (Nat.le_refl _) _
  by_cases h : ahE s g True = 0
  · obtain ⟨ok, okg, _, hmn⟩ := ahE_inv h
    rw [ahL_ok h, h]
    have okh := hid ok
    have okgh := hid okg
    have hmnh := hid hmn
    have hN2 := ok.Nb.2.1
    have hL := hid (spn_ltN (s := s) okg 0)
    clear ok okg hmn h
    go_enter Try.func38, Try.ntmps38
    go_wp2_with (first | (go_at_call 64; refine (c64_ok s g _ (hz.below hB0 (Nat.le_refl _)) (hg.below hB0 (Nat.le_refl _)) hm hm2 okh.out okgh.out hmnh.out).mono ?_; rintro e w1 ⟨b, c, rfl, hb, hBl, hB1⟩; have hBlh := hid hBl; clear hBl; have hBx : Below w.heap.size w w1 := hB0.trans (hB1.mono (by simp))) | (go_at_call 65; refine (c65 b s.N c (endsB s g) _ hBlh.out hN2).mono ?_; rw [show spn (endsB s g) s.N = aheadL s g 0 from hL.out]; rintro e w3 ⟨v3, rfl, hown3, hB3⟩; have hown3h := hid hown3; clear hown3))
    go_ret2
    exact SpRet2.of (owns_base hown3h.out hBx.size) (hBx.trans (hB3.mono hBx.size))
  · rw [ahL_no h]
    have hh : Hid (ahE s g (true = true) ≠ 0) := hid (by simpa using h)
    obtain ⟨er, her⟩ : ∃ er, er = ahE s g True := ⟨_, rfl⟩
    have herh : Hid (ahE s g (true = true) = er) := hid (by rw [her]; simp)
    rw [← her] at h ⊢
    have hne : (er == 0) = false := by simpa using h
    clear her
    go_enter Try.func38, Try.ntmps38
    go_wp2_with (go_at_call 64; refine (c64_err s g true _ (hz.below hB0 (Nat.le_refl _)) (hg.below hB0 (Nat.le_refl _)) hm hm2 hh.out).mono ?_; rw [herh.out]; rintro e w1 ⟨rfl, hB1⟩)
    go_ret2
    exact SpRet2.err (hB0.trans (hB1.mono (by simp)))

theorem c61b (n l h : Int) (w : World) : Calls Try.prog 61 #[.int .i64 n, .int .i64 l, .int .i64 h] w fun e w' => e = .returned (.bool (decide (l ≤ n ∧ n ≤ h))) ∧ w = w' := by
  by_cases p : l ≤ n ∧ n ≤ h
  · rw [decide_eq_true p]; exact c61y w p
  · rw [decide_eq_false p]; exact c61n w p
set_option maxRecDepth 100000 in
set_option maxHeartbeats 4000000 in
theorem c39_err (s : Sv) (g : Wg) (x : Int) (w : World) (hz : s.In w) (hg : g.In w) (hm : s.rn ≤ 1000000) (hm2 : g.wn ≤ 1000000) (h : ahE s g (0 ≤ x ∧ x ≤ 24) ≠ 0) :
    Calls Try.prog 39 #[s.v, g.v, .int .i64 x] w (SpRet2 [] (ahE s g (0 ≤ x ∧ x ≤ 24)) w) := by
  obtain ⟨W0, hW0⟩ : ∃ W0 : World, W0 = w.alloc (.cells #[.int .i64 s.tr, .int .i64 s.st, .int .i64 s.mv, .int .i64 s.no, .int .i64 s.wr, .slice s.ra s.rn s.rc] 30) := ⟨_, rfl⟩
  have hB0 : Below w.heap.size w W0 := by rw [hW0]; exact (Below.refl _ _).alloc (Nat.le_refl _) _
  have hsv : Svb s W0 w.heap.size := by rw [hW0]; exact Svb.new s w
  have hs0 : W0.heap.size = w.heap.size + 1 := by rw [hW0]; simp
  obtain ⟨told, htold⟩ : ∃ told : Bool, told = decide (0 ≤ x ∧ x ≤ 24) := ⟨_, rfl⟩
  have htoldh := hid htold
  have hiff : (told = true) = (0 ≤ x ∧ x ≤ 24) := by rw [htold]; simp
  have hh : Hid (ahE s g (told = true) ≠ 0) := hid (by rw [hiff]; exact h)
  obtain ⟨er, her⟩ : ∃ er, er = ahE s g (0 ≤ x ∧ x ≤ 24) := ⟨_, rfl⟩
  have herh : Hid (ahE s g (told = true) = er) := hid (by rw [her, hiff])
  rw [← her] at h ⊢
  have hne : (er == 0) = false := by simpa using h
  clear her htold hiff
  go_enter Try.func39, Try.ntmps39
  go_wp2_with fail
  rw [← hW0]
  clear hW0
  go_region_held3 (fun w' => w'.cell? ⟨w.heap.size, 0, none⟩ = some (.int .i64 s.tr) ∧ w'.cell? ⟨w.heap.size, 1, none⟩ = some (.int .i64 s.st) ∧ w'.cell? ⟨w.heap.size, 2, none⟩ = some (.int .i64 s.mv) ∧ w'.cell? ⟨w.heap.size, 3, none⟩ = some (.int .i64 s.no) ∧ w'.cell? ⟨w.heap.size, 4, none⟩ = some (.int .i64 s.wr) ∧ w'.cell? ⟨w.heap.size, 5, none⟩ = some (.slice s.ra s.rn s.rc)) (first | exact hsv.all | exact hk4.all) (first | (go_at_call 61; refine (c61b _ _ _ _).mono ?_; rw [← htoldh.out]; rintro e w3 ⟨rfl, rfl⟩) | (go_at_call 64; refine (c64_err s g told _ (hz.below (by first | exact hB0 | exact hB0.drew | (repeat' (first | (with_reducible exact Below.refl _ _) | (with_reducible assumption) | (with_reducible refine Below.alloc ?_ ?_ _) | (with_reducible refine Below.drew ?_) | (with_reducible refine below_drewN ?_ _) | (with_reducible refine Below.setCell ?_ ?_ _) | (with_reducible refine Below.trans ?_ (Below.mono (by with_reducible assumption) ?_)) | go_size))) (Nat.le_refl _)) (hg.below (by first | exact hB0 | exact hB0.drew | (repeat' (first | (with_reducible exact Below.refl _ _) | (with_reducible assumption) | (with_reducible refine Below.alloc ?_ ?_ _) | (with_reducible refine Below.drew ?_) | (with_reducible refine below_drewN ?_ _) | (with_reducible refine Below.setCell ?_ ?_ _) | (with_reducible refine Below.trans ?_ (Below.mono (by with_reducible assumption) ?_)) | go_size))) (Nat.le_refl _)) hm hm2 hh.out).mono ?_; rw [herh.out]; rintro e w4 ⟨rfl, hB4⟩; have hk4 : Svb s w4 w.heap.size := Svb.below (w := W0.drew) hsv hB4 (show w.heap.size < W0.heap.size by omega)))
  go_wp2
  go_ret2
  exact SpRet2.err (hB0.trans (Below.mono (Below.trans (Below.refl W0.heap.size W0).drew hB4) (by omega)))
end Go.Proofs.Ytfpfnjdnfiihhaa
