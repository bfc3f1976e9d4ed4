/- Stage 2: what the reference knows; its Where. -/
import Derived.Test.YtfpfnjdnfiihhaaM6
set_option linter.unusedSimpArgs false
set_option linter.unusedVariables false
namespace Go.Proofs.Ytfpfnjdnfiihhaa
open Go.RowKit Go.Sort Go.BigFrame

def KRet (n : Nat) (p : Nat → Bool) (w : World) (e : Ending) (w' : World) : Prop := ∃ g c : Nat, e = .returned (.tuple #[.slice (some ⟨g, 0, none⟩) n c, .int .i64 0]) ∧ w.heap.size ≤ g ∧ Bls w' g n p ∧ Below w.heap.size w w'
theorem sp_of {l : List (Nat × Nat)} {w : World} {e : Ending} {w' : World} (h : SpRet l w e w') : ∃ A g c, e = .returned (.slice A l.length c) ∧ SpIn w' A g l ∧ Below w.heap.size w w' := by
  obtain ⟨v, rfl, hown, hB⟩ := h
  obtain ⟨A, g, c, rfl, hsp⟩ := SpIn.of_owns hown
  exact ⟨A, g, c, rfl, hsp, hB⟩

set_option maxRecDepth 100000 in
set_option maxHeartbeats 2000000 in
theorem c64_ok (s : Sv) (g : Wg) (w : World) (hz : s.In w) (hg : g.In w) (hm : s.rn ≤ 1000000) (hm2 : g.wn ≤ 1000000) (ok : s.Ok) (okg : g.Ok) (hmn : mn s.N (fl s g) ≤ s.wr) :
    Calls Try.prog 64 #[s.v, g.v, .bool true] w (KRet s.N (endsB s g) w) := by
  have hck := hid (ckE_ok ok okg)
  have okh := hid ok
  have okgh := hid okg
  have hN2 := ok.Nb.2.1
  have hL := hid (spn_ltN (s := s) okg 0)
  have hpos := ahead_pos ok hmn
  obtain ⟨L, hLe⟩ : ∃ L, L = (aheadL s g 0).length := ⟨_, rfl⟩
  rw [← hLe] at hpos
  have hLh := hid hLe
  have hL0 : ¬ L = 0 := by omega
  clear ok okg hmn hLe
  go_enter Try.func64, Try.ntmps64
  go_wp2_with (first | (go_at_call 37; refine (c37 s g _ (hz.below (by (repeat' (first | (with_reducible exact Below.refl _ _) | (with_reducible assumption) | (with_reducible refine Below.alloc ?_ ?_ _) | (with_reducible refine Below.drew ?_) | (with_reducible refine below_drewN ?_ _) | (with_reducible refine Below.setCell ?_ ?_ _) | (with_reducible refine Below.trans ?_ (Below.mono (by with_reducible assumption) ?_)) | go_size))) (Nat.le_refl _)) (hg.below (by (repeat' (first | (with_reducible exact Below.refl _ _) | (with_reducible assumption) | (with_reducible refine Below.alloc ?_ ?_ _) | (with_reducible refine Below.drew ?_) | (with_reducible refine below_drewN ?_ _) | (with_reducible refine Below.setCell ?_ ?_ _) | (with_reducible refine Below.trans ?_ (Below.mono (by with_reducible assumption) ?_)) | go_size))) (Nat.le_refl _)) hm hm2).mono ?_; rw [hck.out]; rintro e w1 ⟨rfl, hB1⟩; have hz1 : w.heap.size + 1 ≤ w1.heap.size := (by have := hB1.size; simp at this; omega); have hBx : Below w.heap.size w w1 := Below.trans (by (repeat' (first | (with_reducible exact Below.refl _ _) | (with_reducible assumption) | (with_reducible refine Below.alloc ?_ ?_ _) | (with_reducible refine Below.drew ?_) | (with_reducible refine below_drewN ?_ _) | (with_reducible refine Below.setCell ?_ ?_ _) | (with_reducible refine Below.trans ?_ (Below.mono (by with_reducible assumption) ?_)) | go_size))) (hB1.mono (by simp)); obtain ⟨k0, k1, k2, k3, k4, k5⟩ := ((Svb.new s w).below hB1 (by simp)).all) | (go_at_call 78; refine (c78 s g _ (hz.below hBx (Nat.le_refl _)) (hg.below hBx (Nat.le_refl _)) okh.out okgh.out).mono ?_; rintro e w2 ⟨b, c, rfl, hb, hBl, hB2⟩; have hBlh := hid hBl; clear hBl; have hBy : Below w.heap.size w w2 := hBx.trans (hB2.mono hBx.size)) | (go_at_call 65; refine (c65 b s.N c (endsB s g) _ hBlh.out hN2).mono ?_; intro e w3 hr; obtain ⟨A', g', c', rfl, hsp, hB3⟩ := sp_of hr; rw [show spn (endsB s g) s.N = aheadL s g 0 from hL.out, ← hLh.out]))
  go_ret2
  exact ⟨b, c, rfl, by omega, hBlh.out.below hB3 hBlh.out.lt, hBy.trans (hB3.mono hBy.size)⟩
set_option maxRecDepth 100000 in
set_option maxHeartbeats 2000000 in
theorem c64_none (s : Sv) (g : Wg) (w : World) (hz : s.In w) (hg : g.In w) (hm : s.rn ≤ 1000000) (hm2 : g.wn ≤ 1000000) (ok : s.Ok) (okg : g.Ok) (hmn : ¬ mn s.N (fl s g) ≤ s.wr) :
    Calls Try.prog 64 #[s.v, g.v, .bool true] w fun e w' => e = .returned (.tuple #[.slice none 0 0, .int .i64 3]) ∧ Below w.heap.size w w' := by
  have hck := hid (ckE_ok ok okg)
  have okh := hid ok
  have okgh := hid okg
  have hN2 := ok.Nb.2.1
  have hL := hid (spn_ltN (s := s) okg 0)
  have hL0 := hid ((ahead_none (s := s) (g := g) ok).2 hmn)
  clear ok okg hmn
  go_enter Try.func64, Try.ntmps64
  go_wp2_with (first | (go_at_call 37; refine (c37 s g _ (hz.below (by (repeat' (first | (with_reducible exact Below.refl _ _) | (with_reducible assumption) | (with_reducible refine Below.alloc ?_ ?_ _) | (with_reducible refine Below.drew ?_) | (with_reducible refine below_drewN ?_ _) | (with_reducible refine Below.setCell ?_ ?_ _) | (with_reducible refine Below.trans ?_ (Below.mono (by with_reducible assumption) ?_)) | go_size))) (Nat.le_refl _)) (hg.below (by (repeat' (first | (with_reducible exact Below.refl _ _) | (with_reducible assumption) | (with_reducible refine Below.alloc ?_ ?_ _) | (with_reducible refine Below.drew ?_) | (with_reducible refine below_drewN ?_ _) | (with_reducible refine Below.setCell ?_ ?_ _) | (with_reducible refine Below.trans ?_ (Below.mono (by with_reducible assumption) ?_)) | go_size))) (Nat.le_refl _)) hm hm2).mono ?_; rw [hck.out]; rintro e w1 ⟨rfl, hB1⟩; have hz1 : w.heap.size + 1 ≤ w1.heap.size := (by have := hB1.size; simp at this; omega); have hBx : Below w.heap.size w w1 := Below.trans (by (repeat' (first | (with_reducible exact Below.refl _ _) | (with_reducible assumption) | (with_reducible refine Below.alloc ?_ ?_ _) | (with_reducible refine Below.drew ?_) | (with_reducible refine below_drewN ?_ _) | (with_reducible refine Below.setCell ?_ ?_ _) | (with_reducible refine Below.trans ?_ (Below.mono (by with_reducible assumption) ?_)) | go_size))) (hB1.mono (by simp)); obtain ⟨k0, k1, k2, k3, k4, k5⟩ := ((Svb.new s w).below hB1 (by simp)).all) | (go_at_call 78; refine (c78 s g _ (hz.below hBx (Nat.le_refl _)) (hg.below hBx (Nat.le_refl _)) okh.out okgh.out).mono ?_; rintro e w2 ⟨b, c, rfl, hb, hBl, hB2⟩; have hBlh := hid hBl; clear hBl; have hBy : Below w.heap.size w w2 := hBx.trans (hB2.mono hBx.size)) | (go_at_call 65; refine (c65 b s.N c (endsB s g) _ hBlh.out hN2).mono ?_; intro e w3 hr; obtain ⟨A', g', c', rfl, hsp, hB3⟩ := sp_of hr; rw [show spn (endsB s g) s.N = aheadL s g 0 from hL.out, hL0.out]))
  go_ret2
  exact ⟨rfl, hBy.trans (hB3.mono hBy.size)⟩
set_option maxRecDepth 100000 in
set_option maxHeartbeats 2000000 in
theorem c64_arg (s : Sv) (g : Wg) (w : World) (hz : s.In w) (hg : g.In w) (hm : s.rn ≤ 1000000) (hm2 : g.wn ≤ 1000000) (hck0 : ckE s g = 0) :
    Calls Try.prog 64 #[s.v, g.v, .bool false] w fun e w' => e = .returned (.tuple #[.slice none 0 0, .int .i64 1]) ∧ Below w.heap.size w w' := by
  have hck := hid hck0
  clear hck0
  go_enter Try.func64, Try.ntmps64
  go_wp2_with (go_at_call 37; refine (c37 s g _ (hz.below (by (repeat' (first | (with_reducible exact Below.refl _ _) | (with_reducible assumption) | (with_reducible refine Below.alloc ?_ ?_ _) | (with_reducible refine Below.drew ?_) | (with_reducible refine below_drewN ?_ _) | (with_reducible refine Below.setCell ?_ ?_ _) | (with_reducible refine Below.trans ?_ (Below.mono (by with_reducible assumption) ?_)) | go_size))) (Nat.le_refl _)) (hg.below (by (repeat' (first | (with_reducible exact Below.refl _ _) | (with_reducible assumption) | (with_reducible refine Below.alloc ?_ ?_ _) | (with_reducible refine Below.drew ?_) | (with_reducible refine below_drewN ?_ _) | (with_reducible refine Below.setCell ?_ ?_ _) | (with_reducible refine Below.trans ?_ (Below.mono (by with_reducible assumption) ?_)) | go_size))) (Nat.le_refl _)) hm hm2).mono ?_; rw [hck.out]; rintro e w1 ⟨rfl, hB1⟩; have hz1 : w.heap.size + 1 ≤ w1.heap.size := (by have := hB1.size; simp at this; omega); have hBx : Below w.heap.size w w1 := Below.trans (by (repeat' (first | (with_reducible exact Below.refl _ _) | (with_reducible assumption) | (with_reducible refine Below.alloc ?_ ?_ _) | (with_reducible refine Below.drew ?_) | (with_reducible refine below_drewN ?_ _) | (with_reducible refine Below.setCell ?_ ?_ _) | (with_reducible refine Below.trans ?_ (Below.mono (by with_reducible assumption) ?_)) | go_size))) (hB1.mono (by simp)); obtain ⟨k0, k1, k2, k3, k4, k5⟩ := ((Svb.new s w).below hB1 (by simp)).all)
  go_ret2
  exact ⟨rfl, hBx⟩
set_option maxRecDepth 100000 in
set_option maxHeartbeats 2000000 in
theorem c64_ck (s : Sv) (g : Wg) (told : Bool) (w : World) (hz : s.In w) (hg : g.In w) (hm : s.rn ≤ 1000000) (hm2 : g.wn ≤ 1000000) (h : ckE s g ≠ 0) :
    Calls Try.prog 64 #[s.v, g.v, .bool told] w fun e w' => e = .returned (.tuple #[.slice none 0 0, .int .i64 (ckE s g)]) ∧ Below w.heap.size w w' := by
  obtain ⟨er, her⟩ : ∃ er, er = ckE s g := ⟨_, rfl⟩
  have hck := hid her.symm
  rw [← her] at h ⊢
  have hne : (er == 0) = false := by simpa using h
  clear her
  go_enter Try.func64, Try.ntmps64
  go_wp2_with (go_at_call 37; refine (c37 s g _ (hz.below (by (repeat' (first | (with_reducible exact Below.refl _ _) | (with_reducible assumption) | (with_reducible refine Below.alloc ?_ ?_ _) | (with_reducible refine Below.drew ?_) | (with_reducible refine below_drewN ?_ _) | (with_reducible refine Below.setCell ?_ ?_ _) | (with_reducible refine Below.trans ?_ (Below.mono (by with_reducible assumption) ?_)) | go_size))) (Nat.le_refl _)) (hg.below (by (repeat' (first | (with_reducible exact Below.refl _ _) | (with_reducible assumption) | (with_reducible refine Below.alloc ?_ ?_ _) | (with_reducible refine Below.drew ?_) | (with_reducible refine below_drewN ?_ _) | (with_reducible refine Below.setCell ?_ ?_ _) | (with_reducible refine Below.trans ?_ (Below.mono (by with_reducible assumption) ?_)) | go_size))) (Nat.le_refl _)) hm hm2).mono ?_; rw [hck.out]; rintro e w1 ⟨rfl, hB1⟩; have hz1 : w.heap.size + 1 ≤ w1.heap.size := (by have := hB1.size; simp at this; omega); have hBx : Below w.heap.size w w1 := Below.trans (by (repeat' (first | (with_reducible exact Below.refl _ _) | (with_reducible assumption) | (with_reducible refine Below.alloc ?_ ?_ _) | (with_reducible refine Below.drew ?_) | (with_reducible refine below_drewN ?_ _) | (with_reducible refine Below.setCell ?_ ?_ _) | (with_reducible refine Below.trans ?_ (Below.mono (by with_reducible assumption) ?_)) | go_size))) (hB1.mono (by simp)); obtain ⟨k0, k1, k2, k3, k4, k5⟩ := ((Svb.new s w).below hB1 (by simp)).all)
  go_ret2
  exact ⟨rfl, hBx⟩
theorem c64_err (s : Sv) (g : Wg) (told : Bool) (w : World) (hz : s.In w) (hg : g.In w) (hm : s.rn ≤ 1000000) (hm2 : g.wn ≤ 1000000) (h : ahE s g (told = true) ≠ 0) :
    Calls Try.prog 64 #[s.v, g.v, .bool told] w fun e w' => e = .returned (.tuple #[.slice none 0 0, .int .i64 (ahE s g (told = true))]) ∧ Below w.heap.size w w' := by
  by_cases h1 : ckE s g = 0
  · obtain ⟨ok, okg⟩ := ckE_inv h1
    cases told with
    | false => rw [ahE_arg h1 (by simp)]; exact c64_arg s g w hz hg hm hm2 h1
    | true =>
      have h3 : ¬ mn s.N (fl s g) ≤ s.wr := fun h3 => h (ahE_ok h1 rfl h3)
      rw [ahE_none h1 rfl h3]; exact c64_none s g w hz hg hm hm2 ok okg h3
  · rw [ahE_ck h1]; exact c64_ck s g told w hz hg hm hm2 h1
end Go.Proofs.Ytfpfnjdnfiihhaa
