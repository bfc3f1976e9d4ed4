/- Stage 2: a copy of a servo; Check. -/
import Derived.Test.YtfpfnjdnfiihhaaRk
set_option linter.unusedSimpArgs false
set_option linter.unusedVariables false
namespace Go.Proofs.Ytfpfnjdnfiihhaa
open Go.RowKit Go.Sort

set_option maxRecDepth 100000 in
set_option maxHeartbeats 1000000 in
theorem c36 (s : Sv) (g : Wg) (w : World) (hz : s.In w) (hg : g.In w) (hm : s.rn ≤ 1000000) (hm2 : g.wn ≤ 1000000) :
    Calls Try.prog 36 #[s.v, g.v] w fun e w' => e = .returned (.int .i64 (ckE s g)) ∧ Below w.heap.size w w' := by
  by_cases h1 : ckE s g = 0
  · obtain ⟨ok, okg⟩ := ckE_inv h1
    rw [h1]
    have okh := hid ok
    have okgh := hid okg
    clear ok okg h1
    go_enter Try.func36, Try.ntmps36
    go_wp2_with (go_at_call 47; refine (c47 s g _ (hz.below (by (repeat' (first | (with_reducible exact Below.refl _ _) | (with_reducible assumption) | (with_reducible refine Below.alloc ?_ ?_ _) | (with_reducible refine Below.drew ?_) | (with_reducible refine below_drewN ?_ _) | (with_reducible refine Below.setCell ?_ ?_ _) | (with_reducible refine Below.trans ?_ (Below.mono (by with_reducible assumption) ?_)) | go_size))) (Nat.le_refl _)) (hg.below (by (repeat' (first | (with_reducible exact Below.refl _ _) | (with_reducible assumption) | (with_reducible refine Below.alloc ?_ ?_ _) | (with_reducible refine Below.drew ?_) | (with_reducible refine below_drewN ?_ _) | (with_reducible refine Below.setCell ?_ ?_ _) | (with_reducible refine Below.trans ?_ (Below.mono (by with_reducible assumption) ?_)) | go_size))) (Nat.le_refl _)) hm hm2 okh.out okgh.out).mono ?_; rintro e w1 ⟨rfl, hB1⟩; have hz1 : w.heap.size + 1 ≤ w1.heap.size := (by have := hB1.size; simp at this; omega); have hBx : Below w.heap.size w w1 := Below.trans (by (repeat' (first | (with_reducible exact Below.refl _ _) | (with_reducible assumption) | (with_reducible refine Below.alloc ?_ ?_ _) | (with_reducible refine Below.drew ?_) | (with_reducible refine below_drewN ?_ _) | (with_reducible refine Below.setCell ?_ ?_ _) | (with_reducible refine Below.trans ?_ (Below.mono (by with_reducible assumption) ?_)) | go_size))) (hB1.mono (by simp)))
    go_returns
    exact ⟨rfl, by (repeat' (first | (with_reducible exact Below.refl _ _) | (with_reducible assumption) | (with_reducible refine Below.alloc ?_ ?_ _) | (with_reducible refine Below.drew ?_) | (with_reducible refine below_drewN ?_ _) | (with_reducible refine Below.setCell ?_ ?_ _) | (with_reducible refine Below.trans ?_ (Below.mono (by with_reducible assumption) ?_)) | go_size))⟩
  · have hh := hid h1
    obtain ⟨er, her⟩ : ∃ er, er = ckE s g := ⟨_, rfl⟩
    have herh := hid her
    rw [← her]
    clear h1 her
    go_enter Try.func36, Try.ntmps36
    go_wp2_with (go_at_call 47; refine (c47_err s g _ (hz.below (by (repeat' (first | (with_reducible exact Below.refl _ _) | (with_reducible assumption) | (with_reducible refine Below.alloc ?_ ?_ _) | (with_reducible refine Below.drew ?_) | (with_reducible refine below_drewN ?_ _) | (with_reducible refine Below.setCell ?_ ?_ _) | (with_reducible refine Below.trans ?_ (Below.mono (by with_reducible assumption) ?_)) | go_size))) (Nat.le_refl _)) (hg.below (by (repeat' (first | (with_reducible exact Below.refl _ _) | (with_reducible assumption) | (with_reducible refine Below.alloc ?_ ?_ _) | (with_reducible refine Below.drew ?_) | (with_reducible refine below_drewN ?_ _) | (with_reducible refine Below.setCell ?_ ?_ _) | (with_reducible refine Below.trans ?_ (Below.mono (by with_reducible assumption) ?_)) | go_size))) (Nat.le_refl _)) hm hm2 hh.out).mono ?_; rw [← herh.out]; rintro e w1 ⟨rfl, hB1⟩; have hz1 : w.heap.size + 1 ≤ w1.heap.size := (by have := hB1.size; simp at this; omega); have hBx : Below w.heap.size w w1 := Below.trans (by (repeat' (first | (with_reducible exact Below.refl _ _) | (with_reducible assumption) | (with_reducible refine Below.alloc ?_ ?_ _) | (with_reducible refine Below.drew ?_) | (with_reducible refine below_drewN ?_ _) | (with_reducible refine Below.setCell ?_ ?_ _) | (with_reducible refine Below.trans ?_ (Below.mono (by with_reducible assumption) ?_)) | go_size))) (hB1.mono (by simp)))
    go_returns
    exact ⟨rfl, by (repeat' (first | (with_reducible exact Below.refl _ _) | (with_reducible assumption) | (with_reducible refine Below.alloc ?_ ?_ _) | (with_reducible refine Below.drew ?_) | (with_reducible refine below_drewN ?_ _) | (with_reducible refine Below.setCell ?_ ?_ _) | (with_reducible refine Below.trans ?_ (Below.mono (by with_reducible assumption) ?_)) | go_size))⟩

theorem Ints.nil_ {w : World} {A : Option Addr} {b o n : Nat} {f : Nat → Int} (hz : Ints w A b o n f) (h : A = none) : n = 0 := by
  rcases Nat.eq_zero_or_pos n with h0 | h0
  · exact h0
  · have := hz.ad 0 h0; rw [h] at this; cases this
theorem Ints.cells {w : World} {A : Option Addr} {b o n : Nat} {f : Nat → Int} (hz : Ints w A b o n f) : ∀ ad, A = some ad → ∀ j u, (vals n f)[j]? = some u → w.cell? (ad.add j) = some u := by
  intro ad had j u hj
  have hlt : j < n := by
    have := (List.getElem?_eq_some_iff.1 hj).1
    rwa [vals_len] at this
  have e := hz.ad _ hlt
  rw [had] at e
  cases e
  have ha : (⟨b, o, none⟩ : Addr).add j = ⟨b, o + j, none⟩ := by unfold Addr.add; split <;> simp_all
  rw [ha, hz.ce j hlt]
  rw [vals_get hlt] at hj
  exact hj
/-- An equal servo, whose Runout lies elsewhere. -/
@[reducible] def cpS (s : Sv) (x c : Nat) : Sv := { s with ra := some ⟨x, 0, none⟩, rb := x, ro := 0, rc := c }
def CopyRet (s : Sv) (w : World) (e : Ending) (w' : World) : Prop := ∃ x c : Nat, e = .returned (cpS s x c).v ∧ (cpS s x c).In w' ∧ Below w.heap.size w w'
set_option maxRecDepth 100000 in
set_option maxHeartbeats 1000000 in
theorem c35 (s : Sv) (w : World) (hz : s.In w) (hm : s.rn ≤ 1000000) (hnk : s.ra = none → s.rc = 0) : Calls Try.prog 35 #[s.v] w (CopyRet s w) := by
  obtain ⟨i0, ie0, ie1, ie2, ie3⟩ := info_parts Try.info3
  have hnil : Hid (s.ra = none → s.rn = 0 ∧ s.rc = 0) := hid (fun h => ⟨hz.nil_ h, hnk h⟩)
  clear hnk
  go_enter Try.func35, Try.ntmps35
  go_wp2_with (at_builtin; refine app_src rfl (.tmp 5) (.tmp 7) 28 rfl (w.heap.size + 3) 3 i0 (.int .i64 0) 1 8 Try.underlying28 ie0 ie1 ie2 ie3 rfl (by decide) _ _ _ rfl (own_made _ 3 1 (w.heap.size + 3) (w.heap.size + 3) (by simp) (by omega)) s.ra s.rn s.rc (vals s.rn s.rf) rfl hnil.out (by rw [vals_len, Nat.mul_one]) (Ints.cells (hz.below (show Below w.heap.size w _ by (repeat' (first | (with_reducible exact Below.refl _ _) | (with_reducible assumption) | (with_reducible refine Below.alloc ?_ ?_ _) | (with_reducible refine Below.drew ?_) | (with_reducible refine below_drewN ?_ _) | (with_reducible refine Below.setCell ?_ ?_ _) | (with_reducible refine Below.trans ?_ (Below.mono (by with_reducible assumption) ?_)) | go_size))) (Nat.le_refl _))) (vals_one _ _) (by unfold maxLen; omega) (by omega) (by simp) ?_; intro v8 w8 hown8 hgr8 hn8'; obtain ⟨x8, c8, rfl⟩ := own_shape hown8 (fun h => by have := hn8' h; cases this); rw [Nat.zero_add, List.nil_append] at hown8; have hB8 : Below (w.heap.size + 3) (((w.alloc (.cells #[.int .i64 s.tr, .int .i64 s.st, .int .i64 s.mv, .int .i64 s.no, .int .i64 s.wr, .slice s.ra s.rn s.rc] 30)).alloc (.cells #[.int .i64 0, .int .i64 0, .int .i64 0, .int .i64 0, .int .i64 0, .slice none 0 0] 30)).alloc (.cells #[.int .i64 s.tr, .int .i64 s.st, .int .i64 s.mv, .int .i64 s.no, .int .i64 s.wr, .slice s.ra s.rn s.rc] 30)) w8 := ((Below.refl _ _).alloc (by simp) _).grown hgr8 (by simp) (fun q e => by cases e; simp); have hx8 := (hown8.lt x8 rfl).1; have hx9 := (hown8.lt x8 rfl).2; have hR8 := hid (RowF.of_owns hown8); clear hown8 hgr8 hn8'; obtain ⟨hc8, hf8⟩ := bcell hB8; have hz8 : w.heap.size + 3 ≤ w8.heap.size := (by have := hB8.size; simp at this; omega))
  refine bodyPost_ret (v := (cpS s x8 c8).v) (by simp [results, Try.results35, go_sem, hc8, hf8, hz8]) rfl ?_
  have hBw8 : Below w.heap.size w w8 := Below.trans (show Below w.heap.size w _ by (repeat' (first | (with_reducible exact Below.refl _ _) | (with_reducible assumption) | (with_reducible refine Below.alloc ?_ ?_ _) | (with_reducible refine Below.drew ?_) | (with_reducible refine below_drewN ?_ _) | (with_reducible refine Below.setCell ?_ ?_ _) | (with_reducible refine Below.trans ?_ (Below.mono (by with_reducible assumption) ?_)) | go_size))) (hB8.mono (by omega))
  refine ⟨x8, c8, rfl, RowF.ints (g := x8) ?_, by (repeat' (first | (with_reducible exact Below.refl _ _) | (with_reducible assumption) | (with_reducible refine Below.alloc ?_ ?_ _) | (with_reducible refine Below.drew ?_) | (with_reducible refine below_drewN ?_ _) | (with_reducible refine Below.setCell ?_ ?_ _) | (with_reducible refine Below.trans ?_ (Below.mono (by with_reducible assumption) ?_)) | go_size))⟩
  repeat' (first | (with_reducible exact hR8.out) | (with_reducible refine RowF.setOther ?_ ?_ _) | (dsimp only; omega))
end Go.Proofs.Ytfpfnjdnfiihhaa
