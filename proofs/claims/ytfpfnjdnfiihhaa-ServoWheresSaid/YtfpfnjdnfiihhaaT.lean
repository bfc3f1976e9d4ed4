/- Stage 2: Where, Ahead and Fewest, whatever comes in. -/
import Derived.Test.YtfpfnjdnfiihhaaS
set_option linter.unusedSimpArgs false
set_option linter.unusedVariables false
namespace Go.Proofs.Ytfpfnjdnfiihhaa
open Go.RowKit

open Classical in
noncomputable def ahE (s : Sv) (g : Wg) (told : Prop) : Int := if ckE s g ≠ 0 then ckE s g else if ¬ told then 1 else if mn s.N (fl s g) ≤ s.wr then 0 else 3
open Classical in
noncomputable def ahL (s : Sv) (g : Wg) (told : Prop) (d : Nat) : List (Nat × Nat) := if ahE s g told = 0 then aheadL s g d else []
theorem ahE_ck {s : Sv} {g : Wg} {told : Prop} (h : ckE s g ≠ 0) : ahE s g told = ckE s g := by unfold ahE; rw [if_pos h]
theorem ahE_arg {s : Sv} {g : Wg} {told : Prop} (h : ckE s g = 0) (h2 : ¬ told) : ahE s g told = 1 := by unfold ahE; rw [if_neg (by simp [h]), if_pos h2]
theorem ahE_none {s : Sv} {g : Wg} {told : Prop} (h : ckE s g = 0) (h2 : told) (h3 : ¬ mn s.N (fl s g) ≤ s.wr) : ahE s g told = 3 := by unfold ahE; rw [if_neg (by simp [h]), if_neg (by simp [h2]), if_neg h3]
theorem ahE_ok {s : Sv} {g : Wg} {told : Prop} (h : ckE s g = 0) (h2 : told) (h3 : mn s.N (fl s g) ≤ s.wr) : ahE s g told = 0 := by unfold ahE; rw [if_neg (by simp [h]), if_neg (by simp [h2]), if_pos h3]
theorem ahL_no {s : Sv} {g : Wg} {told : Prop} {d : Nat} (h : ahE s g told ≠ 0) : ahL s g told d = [] := if_neg h
theorem ahL_ok {s : Sv} {g : Wg} {told : Prop} {d : Nat} (h : ahE s g told = 0) : ahL s g told d = aheadL s g d := if_pos h
theorem ahE_inv {s : Sv} {g : Wg} {told : Prop} (h : ahE s g told = 0) : s.Ok ∧ g.Ok ∧ told ∧ mn s.N (fl s g) ≤ s.wr := by
  by_cases h1 : ckE s g = 0
  · by_cases h2 : told
    · by_cases h3 : mn s.N (fl s g) ≤ s.wr
      · exact ⟨(ckE_inv h1).1, (ckE_inv h1).2, h2, h3⟩
      · rw [ahE_none h1 h2 h3] at h; omega
    · rw [ahE_arg h1 h2] at h; omega
  · rw [ahE_ck h1] at h; exact absurd h h1

theorem c24 (s : Sv) (g : Wg) (x : Int) (w : World) (hz : s.In w) (hg : g.In w) (hm : s.rn ≤ 1000000) (hm2 : g.wn ≤ 1000000) :
    Calls Try.prog 24 #[s.v, g.v, .int .i64 x] w (SpRet2 (ahL s g (0 ≤ x ∧ x ≤ 24) x.toNat) (ahE s g (0 ≤ x ∧ x ≤ 24)) w) := by
  by_cases h1 : ckE s g = 0
  · obtain ⟨ok, okg⟩ := ckE_inv h1
    by_cases h2 : 0 ≤ x ∧ x ≤ 24
    · by_cases h3 : mn s.N (fl s g) ≤ s.wr
      · have e := ahE_ok h1 h2 h3
        rw [ahL_ok e, e]
        have := c24_ok s g x.toNat w hz hg hm hm2 ok okg (by omega) h3
        rwa [show ((x.toNat : Nat) : Int) = x by omega] at this
      · have e := ahE_none h1 h2 h3
        rw [ahL_no (by omega), e]
        exact c24_none s g x w hz hg hm hm2 ok okg h2 h3
    · have e := ahE_arg h1 h2
      rw [ahL_no (by omega), e]
      exact c24_arg s g x w hz hg hm hm2 ok okg h2
  · have e := ahE_ck (told := 0 ≤ x ∧ x ≤ 24) h1
    rw [ahL_no (by omega), e]
    exact c24_ck s g x w hz hg hm hm2 h1

set_option maxRecDepth 100000 in
set_option maxHeartbeats 1000000 in
theorem c18 (s : Sv) (g : Wg) (w : World) (hz : s.In w) (hg : g.In w) (hm : s.rn ≤ 1000000) (hm2 : g.wn ≤ 1000000) :
    Calls Try.prog 18 #[s.v, g.v] w (SpRet2 (ahL s g True 0) (ahE s g True) w) := by
  have e1 := hid (show (ahL s g (0 ≤ (0 : Int) ∧ (0 : Int) ≤ 24) (0 : Int).toNat) = ahL s g True 0 by simp)
  have e2 := hid (show (ahE s g (0 ≤ (0 : Int) ∧ (0 : Int) ≤ 24)) = ahE s g True by simp)
  go_enter Try.func18, Try.ntmps18
  go_wp2_with (go_at_call 24; refine (c24 s g 0 _ (hz.below (by (repeat' (first | (with_reducible exact Below.refl _ _) | (with_reducible assumption) | (with_reducible refine Below.alloc ?_ ?_ _) | (with_reducible refine Below.drew ?_) | (with_reducible refine below_drewN ?_ _) | (with_reducible refine Below.setCell ?_ ?_ _) | (with_reducible refine Below.trans ?_ (Below.mono (by with_reducible assumption) ?_)) | go_size))) (Nat.le_refl _)) (hg.below (by (repeat' (first | (with_reducible exact Below.refl _ _) | (with_reducible assumption) | (with_reducible refine Below.alloc ?_ ?_ _) | (with_reducible refine Below.drew ?_) | (with_reducible refine below_drewN ?_ _) | (with_reducible refine Below.setCell ?_ ?_ _) | (with_reducible refine Below.trans ?_ (Below.mono (by with_reducible assumption) ?_)) | go_size))) (Nat.le_refl _)) hm hm2).mono ?_; rw [e1.out, e2.out]; rintro e w1 ⟨v, rfl, hown, hB1⟩; have hownh := hid hown; clear hown)
  go_ret2
  exact ⟨v, rfl, owns_base hownh.out (by simp), Below.trans (by (repeat' (first | (with_reducible exact Below.refl _ _) | (with_reducible assumption) | (with_reducible refine Below.alloc ?_ ?_ _) | (with_reducible refine Below.drew ?_) | (with_reducible refine below_drewN ?_ _) | (with_reducible refine Below.setCell ?_ ?_ _) | (with_reducible refine Below.trans ?_ (Below.mono (by with_reducible assumption) ?_)) | go_size))) (hB1.mono (by simp))⟩

open Classical in
noncomputable def fwA (s : Sv) (g : Wg) : Int := if ckE s g = 0 then mn s.N (fl s g) else 0
set_option maxRecDepth 100000 in
set_option maxHeartbeats 1000000 in
theorem c20 (s : Sv) (g : Wg) (w : World) (hz : s.In w) (hg : g.In w) (hm : s.rn ≤ 1000000) (hm2 : g.wn ≤ 1000000) :
    Calls Try.prog 20 #[s.v, g.v] w fun e w' => e = .returned (.tuple #[.int .i64 (fwA s g), .int .i64 (ckE s g)]) ∧ Below w.heap.size w w' := by
  by_cases h1 : ckE s g = 0
  · obtain ⟨ok, okg⟩ := ckE_inv h1
    have hN := ok.Nb
    have hN1 := hN.1; have hN2 := hN.2.1
    have e1 : fwA s g = mn s.N (fl s g) := if_pos h1
    rw [h1, e1]
    have okh := hid ok
    have okgh := hid okg
    clear ok okg h1 e1 hN
    go_enter Try.func20, Try.ntmps20
    go_wp2_with (first | (go_at_call 47; refine (c47 s g _ (hz.below (by (repeat' (first | (with_reducible exact Below.refl _ _) | (with_reducible assumption) | (with_reducible refine Below.alloc ?_ ?_ _) | (with_reducible refine Below.drew ?_) | (with_reducible refine below_drewN ?_ _) | (with_reducible refine Below.setCell ?_ ?_ _) | (with_reducible refine Below.trans ?_ (Below.mono (by with_reducible assumption) ?_)) | go_size))) (Nat.le_refl _)) (hg.below (by (repeat' (first | (with_reducible exact Below.refl _ _) | (with_reducible assumption) | (with_reducible refine Below.alloc ?_ ?_ _) | (with_reducible refine Below.drew ?_) | (with_reducible refine below_drewN ?_ _) | (with_reducible refine Below.setCell ?_ ?_ _) | (with_reducible refine Below.trans ?_ (Below.mono (by with_reducible assumption) ?_)) | go_size))) (Nat.le_refl _)) hm hm2 okh.out okgh.out).mono ?_; rintro e w1 ⟨rfl, hB1⟩; have hz1 : w.heap.size + 1 ≤ w1.heap.size := (by have := hB1.size; simp at this; omega); have hBx : Below w.heap.size w w1 := Below.trans (by (repeat' (first | (with_reducible exact Below.refl _ _) | (with_reducible assumption) | (with_reducible refine Below.alloc ?_ ?_ _) | (with_reducible refine Below.drew ?_) | (with_reducible refine below_drewN ?_ _) | (with_reducible refine Below.setCell ?_ ?_ _) | (with_reducible refine Below.trans ?_ (Below.mono (by with_reducible assumption) ?_)) | go_size))) (hB1.mono (by simp))) | (go_at_call 54; refine (c54 s g _ (hz.below (by (repeat' (first | (with_reducible exact Below.refl _ _) | (with_reducible assumption) | (with_reducible refine Below.alloc ?_ ?_ _) | (with_reducible refine Below.drew ?_) | (with_reducible refine below_drewN ?_ _) | (with_reducible refine Below.setCell ?_ ?_ _) | (with_reducible refine Below.trans ?_ (Below.mono (by with_reducible assumption) ?_)) | go_size))) (Nat.le_refl _)) (hg.below (by (repeat' (first | (with_reducible exact Below.refl _ _) | (with_reducible assumption) | (with_reducible refine Below.alloc ?_ ?_ _) | (with_reducible refine Below.drew ?_) | (with_reducible refine below_drewN ?_ _) | (with_reducible refine Below.setCell ?_ ?_ _) | (with_reducible refine Below.trans ?_ (Below.mono (by with_reducible assumption) ?_)) | go_size))) (Nat.le_refl _)) okh.out okgh.out).mono ?_; rintro e w2 ⟨y, c, rfl, hy, hc, hR, hB2⟩; have hBy : Below w.heap.size w w2 := Below.trans (show Below w.heap.size w _ by (repeat' (first | (with_reducible exact Below.refl _ _) | (with_reducible assumption) | (with_reducible refine Below.alloc ?_ ?_ _) | (with_reducible refine Below.drew ?_) | (with_reducible refine below_drewN ?_ _) | (with_reducible refine Below.setCell ?_ ?_ _) | (with_reducible refine Below.trans ?_ (Below.mono (by with_reducible assumption) ?_)) | go_size))) (hB2.mono (by simp; omega)); have hRh := hid hR; clear hR) | (go_at_call 53; refine (c53s hRh.out (by omega) (by omega)).mono ?_; rintro e w3 ⟨rfl, rfl⟩))
    go_ret2
    exact ⟨rfl, by assumption⟩
  · have e1 : fwA s g = 0 := if_neg h1
    rw [e1]
    have hh := hid h1
    have hne : ((ckE s g) == 0) = false := by simpa using h1
    obtain ⟨er, her⟩ : ∃ er, er = ckE s g := ⟨_, rfl⟩
    have herh := hid her
    rw [← her] at hne ⊢
    clear h1 her e1
    go_enter Try.func20, Try.ntmps20
    go_wp2_with (go_at_call 47; refine (c47_err s g _ (hz.below (by (repeat' (first | (with_reducible exact Below.refl _ _) | (with_reducible assumption) | (with_reducible refine Below.alloc ?_ ?_ _) | (with_reducible refine Below.drew ?_) | (with_reducible refine below_drewN ?_ _) | (with_reducible refine Below.setCell ?_ ?_ _) | (with_reducible refine Below.trans ?_ (Below.mono (by with_reducible assumption) ?_)) | go_size))) (Nat.le_refl _)) (hg.below (by (repeat' (first | (with_reducible exact Below.refl _ _) | (with_reducible assumption) | (with_reducible refine Below.alloc ?_ ?_ _) | (with_reducible refine Below.drew ?_) | (with_reducible refine below_drewN ?_ _) | (with_reducible refine Below.setCell ?_ ?_ _) | (with_reducible refine Below.trans ?_ (Below.mono (by with_reducible assumption) ?_)) | go_size))) (Nat.le_refl _)) hm hm2 hh.out).mono ?_; rw [← herh.out]; rintro e w1 ⟨rfl, hB1⟩; have hz1 : w.heap.size + 1 ≤ w1.heap.size := (by have := hB1.size; simp at this; omega); have hBx : Below w.heap.size w w1 := Below.trans (by (repeat' (first | (with_reducible exact Below.refl _ _) | (with_reducible assumption) | (with_reducible refine Below.alloc ?_ ?_ _) | (with_reducible refine Below.drew ?_) | (with_reducible refine below_drewN ?_ _) | (with_reducible refine Below.setCell ?_ ?_ _) | (with_reducible refine Below.trans ?_ (Below.mono (by with_reducible assumption) ?_)) | go_size))) (hB1.mono (by simp)))
    go_ret2
    exact ⟨rfl, by (repeat' (first | (with_reducible exact Below.refl _ _) | (with_reducible assumption) | (with_reducible refine Below.alloc ?_ ?_ _) | (with_reducible refine Below.drew ?_) | (with_reducible refine below_drewN ?_ _) | (with_reducible refine Below.setCell ?_ ?_ _) | (with_reducible refine Below.trans ?_ (Below.mono (by with_reducible assumption) ?_)) | go_size))⟩
end Go.Proofs.Ytfpfnjdnfiihhaa
