/- Texts put together: Ti. -/
import Derived.Test.YtkafjlhmbiaicaaG22
import Derived.Test.YtkafjlhmbiaicaaG20
/- Stage 2: the path that is traced, whatever comes in. -/
set_option linter.unusedSimpArgs false
set_option linter.unusedVariables false
namespace Go.Proofs.Ytkafjlhmbiaicaa
open Go.RowKit Go.Sort Go.BigFrame

/-- Whether the arguments of Trace are as described. -/
def trT (s : Sv) (g : Wg) (x : Int) : Prop := (0 ≤ x ∧ x ≤ (s.N : Int) - 1) ∧ 0 < g.wn
open Classical in
noncomputable def trE (s : Sv) (g : Wg) (x : Int) : Int := if ckE s g ≠ 0 then ckE s g else if ¬ trT s g x then 1 else if fl s g x.toNat ≤ s.wr then 0 else 3
theorem trE_ck {s : Sv} {g : Wg} {x : Int} (h : ckE s g ≠ 0) : trE s g x = ckE s g := by unfold trE; rw [if_pos h]
theorem trE_arg {s : Sv} {g : Wg} {x : Int} (h : ckE s g = 0) (h2 : ¬ trT s g x) : trE s g x = 1 := by unfold trE; rw [if_neg (by simp [h]), if_pos h2]
theorem trE_none {s : Sv} {g : Wg} {x : Int} (h : ckE s g = 0) (h2 : trT s g x) (h3 : ¬ fl s g x.toNat ≤ s.wr) : trE s g x = 3 := by unfold trE; rw [if_neg (by simp [h]), if_neg (by simp [h2]), if_neg h3]
theorem trE_ok {s : Sv} {g : Wg} {x : Int} (h : ckE s g = 0) (h2 : trT s g x) (h3 : fl s g x.toNat ≤ s.wr) : trE s g x = 0 := by unfold trE; rw [if_neg (by simp [h]), if_neg (by simp [h2]), if_pos h3]
theorem trE_inv {s : Sv} {g : Wg} {x : Int} (h : trE s g x = 0) : s.Ok ∧ g.Ok ∧ trT s g x ∧ fl s g x.toNat ≤ s.wr := by
  by_cases h1 : ckE s g = 0
  · by_cases h2 : trT s g x
    · by_cases h3 : fl s g x.toNat ≤ s.wr
      · exact ⟨(ckE_inv h1).1, (ckE_inv h1).2, h2, h3⟩
      · rw [trE_none h1 h2 h3] at h; omega
    · rw [trE_arg h1 h2] at h; omega
  · rw [trE_ck h1] at h; exact absurd h h1
set_option maxRecDepth 100000 in
set_option maxHeartbeats 2000000 in
theorem c28_ck (s : Sv) (g : Wg) (x : Int) (w : World) (hz : s.In w) (hg : g.In w) (hm : s.rn ≤ 1000000) (hm2 : g.wn ≤ 1000000) (h : ckE s g ≠ 0) :
    Calls Try.prog 28 #[s.v, g.v, .int .i64 x] w fun e w' => e = .returned (.tuple #[.slice none 0 0, .int .i64 (ckE s g)]) ∧ Below w.heap.size w w' := by
  have hh := hid h
  have hne : ((ckE s g) == 0) = false := by simpa using h
  obtain ⟨er, her⟩ : ∃ er, er = ckE s g := ⟨_, rfl⟩
  have herh := hid her
  rw [← her] at hne ⊢
  clear h her
  go_enter Try.func28, Try.ntmps28
  go_wp2_with (go_at_call 47; refine (c47_err s g _ (hz.below (by (repeat' (first | (with_reducible exact Below.refl _ _) | (with_reducible assumption) | (with_reducible refine Below.alloc ?_ ?_ _) | (with_reducible refine Below.drew ?_) | (with_reducible refine below_drewN ?_ _) | (with_reducible refine Below.setCell ?_ ?_ _) | (with_reducible refine Below.trans ?_ (Below.mono (by with_reducible assumption) ?_)) | go_size))) (Nat.le_refl _)) (hg.below (by (repeat' (first | (with_reducible exact Below.refl _ _) | (with_reducible assumption) | (with_reducible refine Below.alloc ?_ ?_ _) | (with_reducible refine Below.drew ?_) | (with_reducible refine below_drewN ?_ _) | (with_reducible refine Below.setCell ?_ ?_ _) | (with_reducible refine Below.trans ?_ (Below.mono (by with_reducible assumption) ?_)) | go_size))) (Nat.le_refl _)) hm hm2 hh.out).mono ?_; rw [← herh.out]; rintro e w1 ⟨rfl, hB1⟩; have hz1 : w.heap.size + 1 ≤ w1.heap.size := (by have := hB1.size; simp at this; omega); have hBx : Below w.heap.size w w1 := Below.trans (by (repeat' (first | (with_reducible exact Below.refl _ _) | (with_reducible assumption) | (with_reducible refine Below.alloc ?_ ?_ _) | (with_reducible refine Below.drew ?_) | (with_reducible refine below_drewN ?_ _) | (with_reducible refine Below.setCell ?_ ?_ _) | (with_reducible refine Below.trans ?_ (Below.mono (by with_reducible assumption) ?_)) | go_size))) (hB1.mono (by simp)))
  go_ret2
  exact ⟨rfl, by (repeat' (first | (with_reducible exact Below.refl _ _) | (with_reducible assumption) | (with_reducible refine Below.alloc ?_ ?_ _) | (with_reducible refine Below.drew ?_) | (with_reducible refine below_drewN ?_ _) | (with_reducible refine Below.setCell ?_ ?_ _) | (with_reducible refine Below.trans ?_ (Below.mono (by with_reducible assumption) ?_)) | go_size))⟩
set_option maxRecDepth 100000 in
set_option maxHeartbeats 2000000 in
theorem c28_arg (s : Sv) (g : Wg) (x : Int) (w : World) (hz : s.In w) (hg : g.In w) (hm : s.rn ≤ 1000000) (hm2 : g.wn ≤ 1000000) (ok : s.Ok) (okg : g.Ok) (h : ¬ trT s g x) :
    Calls Try.prog 28 #[s.v, g.v, .int .i64 x] w fun e w' => e = .returned (.tuple #[.slice none 0 0, .int .i64 1]) ∧ Below w.heap.size w w' := by
  have hN := ok.Nb
  have hN1 := hN.1; have hN2 := hN.2.1
  have okh := hid ok
  have okgh := hid okg
  have ew : IntKind.i64.wrap ((s.N : Int) - 1) = (s.N : Int) - 1 := IntWalk.i64_in _ (by omega)
  by_cases hx : 0 ≤ x ∧ x ≤ (s.N : Int) - 1
  · have hn0 : ((g.wn : Int) == 0) = true := by unfold trT at h; simp; omega
    have hxh := hid hx
    clear h hN ok okg hx
    go_enter Try.func28, Try.ntmps28
    go_wp2_with (first | (go_at_call 47; refine (c47 s g _ (hz.below (by (repeat' (first | (with_reducible exact Below.refl _ _) | (with_reducible assumption) | (with_reducible refine Below.alloc ?_ ?_ _) | (with_reducible refine Below.drew ?_) | (with_reducible refine below_drewN ?_ _) | (with_reducible refine Below.setCell ?_ ?_ _) | (with_reducible refine Below.trans ?_ (Below.mono (by with_reducible assumption) ?_)) | go_size))) (Nat.le_refl _)) (hg.below (by (repeat' (first | (with_reducible exact Below.refl _ _) | (with_reducible assumption) | (with_reducible refine Below.alloc ?_ ?_ _) | (with_reducible refine Below.drew ?_) | (with_reducible refine below_drewN ?_ _) | (with_reducible refine Below.setCell ?_ ?_ _) | (with_reducible refine Below.trans ?_ (Below.mono (by with_reducible assumption) ?_)) | go_size))) (Nat.le_refl _)) hm hm2 okh.out okgh.out).mono ?_; rintro e w1 ⟨rfl, hB1⟩; have hz1 : w.heap.size + 1 ≤ w1.heap.size := (by have := hB1.size; simp at this; omega); have hBx : Below w.heap.size w w1 := Below.trans (by (repeat' (first | (with_reducible exact Below.refl _ _) | (with_reducible assumption) | (with_reducible refine Below.alloc ?_ ?_ _) | (with_reducible refine Below.drew ?_) | (with_reducible refine below_drewN ?_ _) | (with_reducible refine Below.setCell ?_ ?_ _) | (with_reducible refine Below.trans ?_ (Below.mono (by with_reducible assumption) ?_)) | go_size))) (hB1.mono (by simp))) | (go_at_call 52; refine (c52 s g _ okh.out).mono ?_; rintro e w2 ⟨rfl, hB2⟩; have hBy : Below w.heap.size w w2 := Below.trans (show Below w.heap.size w _ by (repeat' (first | (with_reducible exact Below.refl _ _) | (with_reducible assumption) | (with_reducible refine Below.alloc ?_ ?_ _) | (with_reducible refine Below.drew ?_) | (with_reducible refine below_drewN ?_ _) | (with_reducible refine Below.setCell ?_ ?_ _) | (with_reducible refine Below.trans ?_ (Below.mono (by with_reducible assumption) ?_)) | go_size))) (hB2.mono (by simp; omega)); have hbx := Hbx.below (Hbx.new s g w1) hB2 (by simp); have hz2 : w1.heap.size + 1 ≤ w2.heap.size := (by have := hB2.size; simp at this; omega); obtain ⟨k0, k1, k2, k3, k4, k5, k6⟩ := hbx.all) | (go_at_call 46; refine (c46y _ (by have := hxh.out; omega)).mono ?_; rintro e w' ⟨rfl, rfl⟩))
    go_ret2
    exact ⟨rfl, hBy⟩
  · have hxh := hid hx
    clear h hx hN ok okg
    go_enter Try.func28, Try.ntmps28
    go_wp2_with (first | (go_at_call 47; refine (c47 s g _ (hz.below (by (repeat' (first | (with_reducible exact Below.refl _ _) | (with_reducible assumption) | (with_reducible refine Below.alloc ?_ ?_ _) | (with_reducible refine Below.drew ?_) | (with_reducible refine below_drewN ?_ _) | (with_reducible refine Below.setCell ?_ ?_ _) | (with_reducible refine Below.trans ?_ (Below.mono (by with_reducible assumption) ?_)) | go_size))) (Nat.le_refl _)) (hg.below (by (repeat' (first | (with_reducible exact Below.refl _ _) | (with_reducible assumption) | (with_reducible refine Below.alloc ?_ ?_ _) | (with_reducible refine Below.drew ?_) | (with_reducible refine below_drewN ?_ _) | (with_reducible refine Below.setCell ?_ ?_ _) | (with_reducible refine Below.trans ?_ (Below.mono (by with_reducible assumption) ?_)) | go_size))) (Nat.le_refl _)) hm hm2 okh.out okgh.out).mono ?_; rintro e w1 ⟨rfl, hB1⟩; have hz1 : w.heap.size + 1 ≤ w1.heap.size := (by have := hB1.size; simp at this; omega); have hBx : Below w.heap.size w w1 := Below.trans (by (repeat' (first | (with_reducible exact Below.refl _ _) | (with_reducible assumption) | (with_reducible refine Below.alloc ?_ ?_ _) | (with_reducible refine Below.drew ?_) | (with_reducible refine below_drewN ?_ _) | (with_reducible refine Below.setCell ?_ ?_ _) | (with_reducible refine Below.trans ?_ (Below.mono (by with_reducible assumption) ?_)) | go_size))) (hB1.mono (by simp))) | (go_at_call 52; refine (c52 s g _ okh.out).mono ?_; rintro e w2 ⟨rfl, hB2⟩; have hBy : Below w.heap.size w w2 := Below.trans (show Below w.heap.size w _ by (repeat' (first | (with_reducible exact Below.refl _ _) | (with_reducible assumption) | (with_reducible refine Below.alloc ?_ ?_ _) | (with_reducible refine Below.drew ?_) | (with_reducible refine below_drewN ?_ _) | (with_reducible refine Below.setCell ?_ ?_ _) | (with_reducible refine Below.trans ?_ (Below.mono (by with_reducible assumption) ?_)) | go_size))) (hB2.mono (by simp; omega)); have hbx := Hbx.below (Hbx.new s g w1) hB2 (by simp); have hz2 : w1.heap.size + 1 ≤ w2.heap.size := (by have := hB2.size; simp at this; omega); obtain ⟨k0, k1, k2, k3, k4, k5, k6⟩ := hbx.all) | (go_at_call 46; refine (c46n _ (by have := hxh.out; omega)).mono ?_; rintro e w' ⟨rfl, rfl⟩))
    go_ret2
    exact ⟨rfl, hBy⟩
set_option maxRecDepth 100000 in
set_option maxHeartbeats 4000000 in
theorem c28_in (s : Sv) (g : Wg) (x : Nat) (w : World) (hz : s.In w) (hg : g.In w) (hm : s.rn ≤ 1000000) (hm2 : g.wn ≤ 1000000) (ok : s.Ok) (okg : g.Ok) (hx : x < s.N) (hn0 : 0 < g.wn) (h : fl s g x ≤ s.wr) :
    Calls Try.prog 28 #[s.v, g.v, .int .i64 (x : Nat)] w fun e w' => ∃ (b : Nat) (P : Nat → Nat), e = .returned (.tuple #[.slice (some ⟨b, 0, none⟩) g.wn g.wn, .int .i64 0]) ∧ w.heap.size ≤ b ∧ RowF w' b g.wn (fun k => ((P k : Nat) : Int)) ∧ Pth s.N s.m P g.wn ∧ P (g.wn - 1) = x ∧ cst (agr s g) P g.wn = fl s g x ∧ Below w.heap.size w w' := by
  have hN := ok.Nb
  have hN1 := hN.1; have hN2 := hN.2.1
  have okh := hid ok
  have okgh := hid okg
  have ew : IntKind.i64.wrap ((s.N : Int) - 1) = (s.N : Int) - 1 := IntWalk.i64_in _ (by omega)
  obtain ⟨fx, hfx⟩ : ∃ fx, fx = fl s g x := ⟨_, rfl⟩
  have hfxh := hid hfx
  have hn1 : ((g.wn : Int) == 0) = false := by simp; omega
  rw [← hfx] at h ⊢
  clear hN ok okg hfx
  go_enter Try.func28, Try.ntmps28
  go_wp2_with (first | (go_at_call 47; refine (c47 s g _ (hz.below (by (repeat' (first | (with_reducible exact Below.refl _ _) | (with_reducible assumption) | (with_reducible refine Below.alloc ?_ ?_ _) | (with_reducible refine Below.drew ?_) | (with_reducible refine below_drewN ?_ _) | (with_reducible refine Below.setCell ?_ ?_ _) | (with_reducible refine Below.trans ?_ (Below.mono (by with_reducible assumption) ?_)) | go_size))) (Nat.le_refl _)) (hg.below (by (repeat' (first | (with_reducible exact Below.refl _ _) | (with_reducible assumption) | (with_reducible refine Below.alloc ?_ ?_ _) | (with_reducible refine Below.drew ?_) | (with_reducible refine below_drewN ?_ _) | (with_reducible refine Below.setCell ?_ ?_ _) | (with_reducible refine Below.trans ?_ (Below.mono (by with_reducible assumption) ?_)) | go_size))) (Nat.le_refl _)) hm hm2 okh.out okgh.out).mono ?_; rintro e w1 ⟨rfl, hB1⟩; have hz1 : w.heap.size + 1 ≤ w1.heap.size := (by have := hB1.size; simp at this; omega); have hBx : Below w.heap.size w w1 := Below.trans (by (repeat' (first | (with_reducible exact Below.refl _ _) | (with_reducible assumption) | (with_reducible refine Below.alloc ?_ ?_ _) | (with_reducible refine Below.drew ?_) | (with_reducible refine below_drewN ?_ _) | (with_reducible refine Below.setCell ?_ ?_ _) | (with_reducible refine Below.trans ?_ (Below.mono (by with_reducible assumption) ?_)) | go_size))) (hB1.mono (by simp))) | (go_at_call 52; refine (c52 s g _ okh.out).mono ?_; rintro e w2 ⟨rfl, hB2⟩; have hBy : Below w.heap.size w w2 := Below.trans (show Below w.heap.size w _ by (repeat' (first | (with_reducible exact Below.refl _ _) | (with_reducible assumption) | (with_reducible refine Below.alloc ?_ ?_ _) | (with_reducible refine Below.drew ?_) | (with_reducible refine below_drewN ?_ _) | (with_reducible refine Below.setCell ?_ ?_ _) | (with_reducible refine Below.trans ?_ (Below.mono (by with_reducible assumption) ?_)) | go_size))) (hB2.mono (by simp; omega)); have hbx := Hbx.below (Hbx.new s g w1) hB2 (by simp); have hz2 : w1.heap.size + 1 ≤ w2.heap.size := (by have := hB2.size; simp at this; omega); obtain ⟨k0, k1, k2, k3, k4, k5, k6⟩ := hbx.all) | (go_at_call 46; refine (c46y _ (by omega)).mono ?_; rintro e w' ⟨rfl, rfl⟩))
  clear k0 k1 k2 k3 k4 k5 k6
  refine wpIn_wide.1 (wild_region (F := Fence.wide) (n := 0) (C := fun w' => Below w2.heap.size w2 w') (R := fun A B => Below A.heap.size A B) (G := fun i' us w' => match i' with
    | 0 => us 0 = hdv s g
    | 1 => RowV w' w2.heap.size s.N (fl s g) (us 1)
    | 2 => us 2 = .int .i64 (x : Nat)
    | 3 => ∃ y : Nat, us 3 = .pointer (some ⟨y, x, none⟩) ∧ RowF w' y s.N (fl s g)
    | 4 => us 4 = .int .i64 fx
    | 5 => us 5 = .pointer (some ⟨w1.heap.size, 0, none⟩)
    | 6 => us 6 = .pointer (some ⟨w1.heap.size, 4, none⟩)
    | 7 => us 7 = .int .i64 s.wr
    | 8 => us 8 = .bool false
    | _ => True) (by kernel_rfl) (by kernel_rfl) (by kernel_rfl) ?loc (Below.refl _ _).drew ?stab ?steps ?fin)
  case loc =>
    intro j us i' v w' hij hdp hG
    rcases j with _ | _ | _ | _ | _ | _ | _ | _ | _ | j
    all_goals first | trivial | ((try dsimp only at hG ⊢); rw [upd_ne _ _ (Ne.symm hij)]; exact hG) | skip
  case stab =>
    intro j us C D hCD hG
    rcases j with _ | _ | _ | _ | _ | _ | _ | _ | _ | j <;> try exact hG
    · exact RowV.below hG hCD (Nat.le_refl _)
    · obtain ⟨y, h1, h2⟩ := hG
      exact ⟨y, h1, h2.below hCD h2.lt⟩
  case steps =>
    dsimp only [StepsW, StepW]
    refine ⟨?_, ?_, ?_, ?_, ?_, ?_, ?_, ?_, ?_, trivial⟩
    all_goals (intro A us W5 hA hC hG K hK; obtain ⟨k0, k1, k2, k3, k4, k5, k6⟩ := (hbx.below hC (show w1.heap.size < w2.heap.size by omega)).all; have hzw0 := hz.below (hBy.trans (hC.mono hBy.size)) (Nat.le_refl _); have hzw1 := hg.below (hBy.trans (hC.mono hBy.size)) (Nat.le_refl _); have hCs := hC.size; simp only [AfterW, Region.binds, true_implies, and_true, forall_const] at hG)
    · have h8 : A.tmps[8]?.getD undef = .pointer (some ⟨w1.heap.size, 0, none⟩) := slot_none hA rfl rfl
      clear hA
      gi_wp2
      exact hK _ W5 hC (Below.refl _ _) (upd_same _ _ _)
    · have h30 := slot_some (t := 30) (v := hdv s g) hA (by kernel_rfl) rfl (by simp) (by first | exact hG | exact hG.1 | exact hG.2 | exact hG.2.1 | exact hG.2.2 | exact hG.2.2.1 | exact hG.2.2.2 | exact hG.2.2.2.1 | exact hG.2.2.2.2 | exact hG.2.2.2.2.1)
      clear hA
      gi_wp2_with (refine ⟨trivial, rfl, ?_⟩; gi_at_call 54; refine (callsIn_wide.2 (c54 s g _ hzw0 hzw1 okh.out okgh.out)).mono ?_; rintro e w9 ⟨x9, c9, rfl, hx9, hc9, hR9, hB9⟩)
      exact hK _ w9 (hC.trans (hB9.mono hC.size)) hB9 (by rw [upd_same]; exact ⟨x9, c9, rfl, by omega, hc9, hR9⟩)
    · have h2 : A.tmps[2]?.getD undef = .int .i64 (x : Nat) := slot_none hA rfl rfl
      clear hA
      gi_wp2
      exact hK _ W5 hC (Below.refl _ _) (upd_same _ _ _)
    · obtain ⟨⟨y, c, hG1, hy, hc, hR⟩, hG2⟩ := hG
      have h31 := slot_some (t := 31) hA (by kernel_rfl) rfl (by simp) hG1
      have h32 := slot_some (t := 32) (v := .int .i64 (x : Nat)) hA (by kernel_rfl) rfl (by simp) (by first | exact hG2 | exact hG2.1)
      have hix := @ixInt y s.N c x hx
      have hRh := hid hR
      clear hA hR
      gi_wp2
      exact hK _ W5 hC (Below.refl _ _) ⟨y, upd_same _ _ _, hRh.out⟩
    · obtain ⟨y, hG3, hR⟩ : ∃ y : Nat, us 3 = .pointer (some ⟨y, x, none⟩) ∧ RowF W5 y s.N (fl s g) := (by first | exact hG | exact hG.1 | exact hG.2 | exact hG.2.1 | exact hG.2.2 | exact hG.2.2.1 | exact hG.2.2.2 | exact hG.2.2.2.1 | exact hG.2.2.2.2 | exact hG.2.2.2.2.1)
      have h33 := slot_some (t := 33) hA (by kernel_rfl) rfl (by simp) hG3
      have hcx := hR.cell hx
      rw [← hfxh.out] at hcx
      clear hA hR
      gi_wp2
      exact hK _ W5 hC (Below.refl _ _) (upd_same _ _ _)
    · have h8 : A.tmps[8]?.getD undef = .pointer (some ⟨w1.heap.size, 0, none⟩) := slot_none hA rfl rfl
      clear hA
      gi_wp2
      exact hK _ W5 hC (Below.refl _ _) (upd_same _ _ _)
    · have h35 := slot_some (t := 35) (v := .pointer (some ⟨w1.heap.size, 0, none⟩)) hA (by kernel_rfl) rfl (by simp) (by first | exact hG | exact hG.1 | exact hG.2 | exact hG.2.1 | exact hG.2.2 | exact hG.2.2.1 | exact hG.2.2.2 | exact hG.2.2.2.1 | exact hG.2.2.2.2 | exact hG.2.2.2.2.1)
      clear hA
      gi_wp2
      exact hK _ W5 hC (Below.refl _ _) (upd_same _ _ _)
    · have h36 := slot_some (t := 36) (v := .pointer (some ⟨w1.heap.size, 4, none⟩)) hA (by kernel_rfl) rfl (by simp) (by first | exact hG | exact hG.1 | exact hG.2 | exact hG.2.1 | exact hG.2.2 | exact hG.2.2.1 | exact hG.2.2.2 | exact hG.2.2.2.1 | exact hG.2.2.2.2 | exact hG.2.2.2.2.1)
      clear hA
      gi_wp2
      exact hK _ W5 hC (Below.refl _ _) (upd_same _ _ _)
    · have h34 := slot_some (t := 34) (v := .int .i64 fx) hA (by kernel_rfl) rfl (by simp) (by first | exact hG | exact hG.1 | exact hG.2 | exact hG.2.1 | exact hG.2.2 | exact hG.2.2.1 | exact hG.2.2.2 | exact hG.2.2.2.1 | exact hG.2.2.2.2 | exact hG.2.2.2.2.1)
      have h37 := slot_some (t := 37) (v := .int .i64 s.wr) hA (by kernel_rfl) rfl (by simp) (by first | exact hG | exact hG.1 | exact hG.2 | exact hG.2.1 | exact hG.2.2 | exact hG.2.2.1 | exact hG.2.2.2 | exact hG.2.2.2.1 | exact hG.2.2.2.2 | exact hG.2.2.2.2.1)
      have hdl : decide (s.wr < fx) = false := decide_eq_false (by omega)
      clear hA
      gi_wp2
      exact hK _ W5 hC (Below.refl _ _) (upd_same _ _ _)
  case fin =>
    intro us W5 hC hG
    have hCs := hC.size
    have e8 : us 8 = .bool false := hG 8 (by decide)
    simp only [frW, Nat.reduceAdd, Nat.zero_add, e8, Act.put, List.setIfInBounds_toArray, List.set_cons_succ, List.set_cons_zero]
    obtain ⟨k0, k1, k2, k3, k4, k5, k6⟩ := (hbx.below hC (show w1.heap.size < w2.heap.size by omega)).all
    have hBz : Below w.heap.size w W5 := hBy.trans (hC.mono hBy.size)
    clear hG e8
    go_wp2_with (go_at_call 60; refine (c60 s g x _ (hz.below hBz (Nat.le_refl _)) (hg.below hBz (Nat.le_refl _)) okh.out okgh.out hn0 hx).mono ?_; rintro e w6 ⟨b, P, rfl, hb, hR, p1, p2, p3, hB6⟩; have hRh := hid hR; clear hR)
    go_ret2
    exact ⟨b, P, rfl, by omega, hRh.out, p1, p2, by rw [hfxh.out]; exact p3, hBz.trans (hB6.mono hBz.size)⟩
set_option maxRecDepth 100000 in
set_option maxHeartbeats 4000000 in
theorem c28_none (s : Sv) (g : Wg) (x : Nat) (w : World) (hz : s.In w) (hg : g.In w) (hm : s.rn ≤ 1000000) (hm2 : g.wn ≤ 1000000) (ok : s.Ok) (okg : g.Ok) (hx : x < s.N) (hn0 : 0 < g.wn) (h : ¬ fl s g x ≤ s.wr) :
    Calls Try.prog 28 #[s.v, g.v, .int .i64 (x : Nat)] w fun e w' => e = .returned (.tuple #[.slice none 0 0, .int .i64 3]) ∧ Below w.heap.size w w' := by
  have hN := ok.Nb
  have hN1 := hN.1; have hN2 := hN.2.1
  have okh := hid ok
  have okgh := hid okg
  have ew : IntKind.i64.wrap ((s.N : Int) - 1) = (s.N : Int) - 1 := IntWalk.i64_in _ (by omega)
  obtain ⟨fx, hfx⟩ : ∃ fx, fx = fl s g x := ⟨_, rfl⟩
  have hfxh := hid hfx
  have hn1 : ((g.wn : Int) == 0) = false := by simp; omega
  rw [← hfx] at h
  have h' : s.wr < fx := by omega
  clear hN ok okg hfx h
  go_enter Try.func28, Try.ntmps28
  go_wp2_with (first | (go_at_call 47; refine (c47 s g _ (hz.below (by (repeat' (first | (with_reducible exact Below.refl _ _) | (with_reducible assumption) | (with_reducible refine Below.alloc ?_ ?_ _) | (with_reducible refine Below.drew ?_) | (with_reducible refine below_drewN ?_ _) | (with_reducible refine Below.setCell ?_ ?_ _) | (with_reducible refine Below.trans ?_ (Below.mono (by with_reducible assumption) ?_)) | go_size))) (Nat.le_refl _)) (hg.below (by (repeat' (first | (with_reducible exact Below.refl _ _) | (with_reducible assumption) | (with_reducible refine Below.alloc ?_ ?_ _) | (with_reducible refine Below.drew ?_) | (with_reducible refine below_drewN ?_ _) | (with_reducible refine Below.setCell ?_ ?_ _) | (with_reducible refine Below.trans ?_ (Below.mono (by with_reducible assumption) ?_)) | go_size))) (Nat.le_refl _)) hm hm2 okh.out okgh.out).mono ?_; rintro e w1 ⟨rfl, hB1⟩; have hz1 : w.heap.size + 1 ≤ w1.heap.size := (by have := hB1.size; simp at this; omega); have hBx : Below w.heap.size w w1 := Below.trans (by (repeat' (first | (with_reducible exact Below.refl _ _) | (with_reducible assumption) | (with_reducible refine Below.alloc ?_ ?_ _) | (with_reducible refine Below.drew ?_) | (with_reducible refine below_drewN ?_ _) | (with_reducible refine Below.setCell ?_ ?_ _) | (with_reducible refine Below.trans ?_ (Below.mono (by with_reducible assumption) ?_)) | go_size))) (hB1.mono (by simp))) | (go_at_call 52; refine (c52 s g _ okh.out).mono ?_; rintro e w2 ⟨rfl, hB2⟩; have hBy : Below w.heap.size w w2 := Below.trans (show Below w.heap.size w _ by (repeat' (first | (with_reducible exact Below.refl _ _) | (with_reducible assumption) | (with_reducible refine Below.alloc ?_ ?_ _) | (with_reducible refine Below.drew ?_) | (with_reducible refine below_drewN ?_ _) | (with_reducible refine Below.setCell ?_ ?_ _) | (with_reducible refine Below.trans ?_ (Below.mono (by with_reducible assumption) ?_)) | go_size))) (hB2.mono (by simp; omega)); have hbx := Hbx.below (Hbx.new s g w1) hB2 (by simp); have hz2 : w1.heap.size + 1 ≤ w2.heap.size := (by have := hB2.size; simp at this; omega); obtain ⟨k0, k1, k2, k3, k4, k5, k6⟩ := hbx.all) | (go_at_call 46; refine (c46y _ (by omega)).mono ?_; rintro e w' ⟨rfl, rfl⟩))
  clear k0 k1 k2 k3 k4 k5 k6
  refine wpIn_wide.1 (wild_region (F := Fence.wide) (n := 0) (C := fun w' => Below w2.heap.size w2 w') (R := fun A B => Below A.heap.size A B) (G := fun i' us w' => match i' with
    | 0 => us 0 = hdv s g
    | 1 => RowV w' w2.heap.size s.N (fl s g) (us 1)
    | 2 => us 2 = .int .i64 (x : Nat)
    | 3 => ∃ y : Nat, us 3 = .pointer (some ⟨y, x, none⟩) ∧ RowF w' y s.N (fl s g)
    | 4 => us 4 = .int .i64 fx
    | 5 => us 5 = .pointer (some ⟨w1.heap.size, 0, none⟩)
    | 6 => us 6 = .pointer (some ⟨w1.heap.size, 4, none⟩)
    | 7 => us 7 = .int .i64 s.wr
    | 8 => us 8 = .bool true
    | _ => True) (by kernel_rfl) (by kernel_rfl) (by kernel_rfl) ?loc (Below.refl _ _).drew ?stab ?steps ?fin)
  case loc =>
    intro j us i' v w' hij hdp hG
    rcases j with _ | _ | _ | _ | _ | _ | _ | _ | _ | j
    all_goals first | trivial | ((try dsimp only at hG ⊢); rw [upd_ne _ _ (Ne.symm hij)]; exact hG) | skip
  case stab =>
    intro j us C D hCD hG
    rcases j with _ | _ | _ | _ | _ | _ | _ | _ | _ | j <;> try exact hG
    · exact RowV.below hG hCD (Nat.le_refl _)
    · obtain ⟨y, h1, h2⟩ := hG
      exact ⟨y, h1, h2.below hCD h2.lt⟩
  case steps =>
    dsimp only [StepsW, StepW]
    refine ⟨?_, ?_, ?_, ?_, ?_, ?_, ?_, ?_, ?_, trivial⟩
    all_goals (intro A us W5 hA hC hG K hK; obtain ⟨k0, k1, k2, k3, k4, k5, k6⟩ := (hbx.below hC (show w1.heap.size < w2.heap.size by omega)).all; have hzw0 := hz.below (hBy.trans (hC.mono hBy.size)) (Nat.le_refl _); have hzw1 := hg.below (hBy.trans (hC.mono hBy.size)) (Nat.le_refl _); have hCs := hC.size; simp only [AfterW, Region.binds, true_implies, and_true, forall_const] at hG)
    · have h8 : A.tmps[8]?.getD undef = .pointer (some ⟨w1.heap.size, 0, none⟩) := slot_none hA rfl rfl
      clear hA
      gi_wp2
      exact hK _ W5 hC (Below.refl _ _) (upd_same _ _ _)
    · have h30 := slot_some (t := 30) (v := hdv s g) hA (by kernel_rfl) rfl (by simp) (by first | exact hG | exact hG.1 | exact hG.2 | exact hG.2.1 | exact hG.2.2 | exact hG.2.2.1 | exact hG.2.2.2 | exact hG.2.2.2.1 | exact hG.2.2.2.2 | exact hG.2.2.2.2.1)
      clear hA
      gi_wp2_with (refine ⟨trivial, rfl, ?_⟩; gi_at_call 54; refine (callsIn_wide.2 (c54 s g _ hzw0 hzw1 okh.out okgh.out)).mono ?_; rintro e w9 ⟨x9, c9, rfl, hx9, hc9, hR9, hB9⟩)
      exact hK _ w9 (hC.trans (hB9.mono hC.size)) hB9 (by rw [upd_same]; exact ⟨x9, c9, rfl, by omega, hc9, hR9⟩)
    · have h2 : A.tmps[2]?.getD undef = .int .i64 (x : Nat) := slot_none hA rfl rfl
      clear hA
      gi_wp2
      exact hK _ W5 hC (Below.refl _ _) (upd_same _ _ _)
    · obtain ⟨⟨y, c, hG1, hy, hc, hR⟩, hG2⟩ := hG
      have h31 := slot_some (t := 31) hA (by kernel_rfl) rfl (by simp) hG1
      have h32 := slot_some (t := 32) (v := .int .i64 (x : Nat)) hA (by kernel_rfl) rfl (by simp) (by first | exact hG2 | exact hG2.1)
      have hix := @ixInt y s.N c x hx
      have hRh := hid hR
      clear hA hR
      gi_wp2
      exact hK _ W5 hC (Below.refl _ _) ⟨y, upd_same _ _ _, hRh.out⟩
    · obtain ⟨y, hG3, hR⟩ : ∃ y : Nat, us 3 = .pointer (some ⟨y, x, none⟩) ∧ RowF W5 y s.N (fl s g) := (by first | exact hG | exact hG.1 | exact hG.2 | exact hG.2.1 | exact hG.2.2 | exact hG.2.2.1 | exact hG.2.2.2 | exact hG.2.2.2.1 | exact hG.2.2.2.2 | exact hG.2.2.2.2.1)
      have h33 := slot_some (t := 33) hA (by kernel_rfl) rfl (by simp) hG3
      have hcx := hR.cell hx
      rw [← hfxh.out] at hcx
      clear hA hR
      gi_wp2
      exact hK _ W5 hC (Below.refl _ _) (upd_same _ _ _)
    · have h8 : A.tmps[8]?.getD undef = .pointer (some ⟨w1.heap.size, 0, none⟩) := slot_none hA rfl rfl
      clear hA
      gi_wp2
      exact hK _ W5 hC (Below.refl _ _) (upd_same _ _ _)
    · have h35 := slot_some (t := 35) (v := .pointer (some ⟨w1.heap.size, 0, none⟩)) hA (by kernel_rfl) rfl (by simp) (by first | exact hG | exact hG.1 | exact hG.2 | exact hG.2.1 | exact hG.2.2 | exact hG.2.2.1 | exact hG.2.2.2 | exact hG.2.2.2.1 | exact hG.2.2.2.2 | exact hG.2.2.2.2.1)
      clear hA
      gi_wp2
      exact hK _ W5 hC (Below.refl _ _) (upd_same _ _ _)
    · have h36 := slot_some (t := 36) (v := .pointer (some ⟨w1.heap.size, 4, none⟩)) hA (by kernel_rfl) rfl (by simp) (by first | exact hG | exact hG.1 | exact hG.2 | exact hG.2.1 | exact hG.2.2 | exact hG.2.2.1 | exact hG.2.2.2 | exact hG.2.2.2.1 | exact hG.2.2.2.2 | exact hG.2.2.2.2.1)
      clear hA
      gi_wp2
      exact hK _ W5 hC (Below.refl _ _) (upd_same _ _ _)
    · have h34 := slot_some (t := 34) (v := .int .i64 fx) hA (by kernel_rfl) rfl (by simp) (by first | exact hG | exact hG.1 | exact hG.2 | exact hG.2.1 | exact hG.2.2 | exact hG.2.2.1 | exact hG.2.2.2 | exact hG.2.2.2.1 | exact hG.2.2.2.2 | exact hG.2.2.2.2.1)
      have h37 := slot_some (t := 37) (v := .int .i64 s.wr) hA (by kernel_rfl) rfl (by simp) (by first | exact hG | exact hG.1 | exact hG.2 | exact hG.2.1 | exact hG.2.2 | exact hG.2.2.1 | exact hG.2.2.2 | exact hG.2.2.2.1 | exact hG.2.2.2.2 | exact hG.2.2.2.2.1)
      have hdl : decide (s.wr < fx) = true := decide_eq_true (by omega)
      clear hA
      gi_wp2
      exact hK _ W5 hC (Below.refl _ _) (upd_same _ _ _)
  case fin =>
    intro us W5 hC hG
    have hCs := hC.size
    have e8 : us 8 = .bool true := hG 8 (by decide)
    simp only [frW, Nat.reduceAdd, Nat.zero_add, e8, Act.put, List.setIfInBounds_toArray, List.set_cons_succ, List.set_cons_zero]
    obtain ⟨k0, k1, k2, k3, k4, k5, k6⟩ := (hbx.below hC (show w1.heap.size < w2.heap.size by omega)).all
    have hBz : Below w.heap.size w W5 := hBy.trans (hC.mono hBy.size)
    clear hG e8
    go_wp2_with fail
    go_ret2
    exact ⟨rfl, hBz⟩
/-- What Trace hands back. -/
def TcRet (s : Sv) (g : Wg) (x : Int) (w : World) (e : Ending) (w' : World) : Prop :=
  ((trE s g x = 0 ∧ ∃ (b : Nat) (P : Nat → Nat), e = .returned (.tuple #[.slice (some ⟨b, 0, none⟩) g.wn g.wn, .int .i64 0]) ∧ w.heap.size ≤ b ∧ RowF w' b g.wn (fun k => ((P k : Nat) : Int)) ∧ Pth s.N s.m P g.wn ∧ P (g.wn - 1) = x.toNat ∧ cst (agr s g) P g.wn ≤ s.wr) ∨
   (trE s g x ≠ 0 ∧ e = .returned (.tuple #[.slice none 0 0, .int .i64 (trE s g x)]))) ∧ Below w.heap.size w w'
theorem c28 (s : Sv) (g : Wg) (x : Int) (w : World) (hz : s.In w) (hg : g.In w) (hm : s.rn ≤ 1000000) (hm2 : g.wn ≤ 1000000) :
    Calls Try.prog 28 #[s.v, g.v, .int .i64 x] w (TcRet s g x w) := by
  by_cases h1 : ckE s g = 0
  · obtain ⟨ok, okg⟩ := ckE_inv h1
    by_cases h2 : trT s g x
    · obtain ⟨k, rfl⟩ : ∃ k : Nat, x = k := ⟨x.toNat, by have := h2.1.1; omega⟩
      have hk : k < s.N := by have := h2.1.2; have := ok.Nb; omega
      have ek : ((k : Int)).toNat = k := by omega
      by_cases h3 : fl s g k ≤ s.wr
      · have e := trE_ok h1 h2 (by rw [ek]; exact h3)
        refine (c28_in s g k w hz hg hm hm2 ok okg hk h2.2 h3).mono fun en w' hr => ?_
        obtain ⟨b, P, rfl, hb, hR, p1, p2, p3, hB⟩ := hr
        exact ⟨.inl ⟨e, b, P, rfl, hb, hR, p1, by rw [ek]; exact p2, by omega⟩, hB⟩
      · have e := trE_none h1 h2 (by rw [ek]; exact h3)
        refine (c28_none s g k w hz hg hm hm2 ok okg hk h2.2 h3).mono fun en w' hr => ?_
        obtain ⟨rfl, hB⟩ := hr
        exact ⟨.inr ⟨by omega, by rw [e]⟩, hB⟩
    · have e := trE_arg h1 h2
      refine (c28_arg s g x w hz hg hm hm2 ok okg h2).mono fun en w' hr => ?_
      obtain ⟨rfl, hB⟩ := hr
      exact ⟨.inr ⟨by omega, by rw [e]⟩, hB⟩
  · have e := trE_ck (x := x) h1
    refine (c28_ck s g x w hz hg hm hm2 h1).mono fun en w' hr => ?_
    obtain ⟨rfl, hB⟩ := hr
    exact ⟨.inr ⟨by omega, by rw [e]⟩, hB⟩
end Go.Proofs.Ytkafjlhmbiaicaa
