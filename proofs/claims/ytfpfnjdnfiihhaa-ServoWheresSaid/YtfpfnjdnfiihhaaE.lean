/- Stage 2: what is known of a head, or which error. -/
import Derived.Test.YtfpfnjdnfiihhaaD
set_option linter.unusedSimpArgs false
set_option linter.unusedVariables false
namespace Go.Proofs.Ytfpfnjdnfiihhaa
open Go.RowKit

theorem Wg.Ok.of {g : Wg} (h : g.wn ≤ 24) (h2 : ∀ k, k < g.wn → okW (g.wc k) (g.wu k)) : g.Ok := ⟨h, fun k hk => (h2 k hk).1, fun k hk => (h2 k hk).2⟩
theorem Wg.Ok.all {g : Wg} (h : g.Ok) : ∀ k, k < g.wn → okW (g.wc k) (g.wu k) := fun k hk => ⟨h.c k hk, h.u k hk⟩
@[reducible] def hd0 : Value := .agg #[.int .i64 0, .int .i64 0, .int .i64 0, .int .i64 0, .int .i64 0, .slice none 0 0, .slice none 0 0]

theorem c68y (s : Sv) (w : World) (hz : s.In w) (hm : s.rn ≤ 1000000) (p : s.Ok) : Calls Try.prog 68 #[s.v] w fun e w' => e = .returned (.bool true) ∧ Below w.heap.size w w' :=
  (c68 s w hz hm).mono fun _ _ hr => by
    rcases hr with ⟨_, h1⟩ | ⟨h1, _⟩
    · exact h1
    · exact absurd p h1
theorem c68n (s : Sv) (w : World) (hz : s.In w) (hm : s.rn ≤ 1000000) (p : ¬ s.Ok) : Calls Try.prog 68 #[s.v] w fun e w' => e = .returned (.bool false) ∧ Below w.heap.size w w' :=
  (c68 s w hz hm).mono fun _ _ hr => by
    rcases hr with ⟨h1, _⟩ | ⟨_, h1⟩
    · exact absurd h1 p
    · exact h1
theorem c70y (g : Wg) (w : World) (hz : g.In w) (hm : g.wn ≤ 1000000) (p : ∀ k, k < g.wn → okW (g.wc k) (g.wu k)) : Calls Try.prog 70 #[g.v, .func (.func 69) #[] #[]] w fun e w' => e = .returned (.bool false) ∧ Below w.heap.size w w' :=
  (c70 g w hz hm).mono fun _ _ hr => by
    rcases hr with ⟨h1, _⟩ | ⟨_, h1⟩
    · exact absurd p h1
    · exact h1
theorem c70n (g : Wg) (w : World) (hz : g.In w) (hm : g.wn ≤ 1000000) (p : ¬ ∀ k, k < g.wn → okW (g.wc k) (g.wu k)) : Calls Try.prog 70 #[g.v, .func (.func 69) #[] #[]] w fun e w' => e = .returned (.bool true) ∧ Below w.heap.size w w' :=
  (c70 g w hz hm).mono fun _ _ hr => by
    rcases hr with ⟨_, h1⟩ | ⟨h1, _⟩
    · exact h1
    · exact absurd h1 (fun h => h p)

set_option maxHeartbeats 1000000 in
theorem c47 (s : Sv) (g : Wg) (w : World) (hz : s.In w) (hg : g.In w) (hm : s.rn ≤ 1000000) (hm2 : g.wn ≤ 1000000) (ok : s.Ok) (okg : g.Ok) :
    Calls Try.prog 47 #[s.v, g.v] w fun e w' => e = .returned (.tuple #[hdv s g, .int .i64 0]) ∧ Below w.heap.size w w' := by
  have hn := okg.n2
  have okh := hid ok
  have okgh := hid okg
  clear ok okg
  obtain ⟨W0, hW0⟩ : ∃ W0 : World, W0 = (w.alloc (.cells #[.int .i64 s.tr, .int .i64 s.st, .int .i64 s.mv, .int .i64 s.no, .int .i64 s.wr, .slice s.ra s.rn s.rc] 30)).alloc (.cells #[.int .i64 0, .int .i64 0, .int .i64 0, .int .i64 0, .int .i64 0, .slice none 0 0, .slice none 0 0] 75) := ⟨_, rfl⟩
  have hB0 : Below w.heap.size w W0 := by rw [hW0]; (repeat' (first | (with_reducible exact Below.refl _ _) | (with_reducible assumption) | (with_reducible refine Below.alloc ?_ ?_ _) | (with_reducible refine Below.drew ?_) | (with_reducible refine below_drewN ?_ _) | (with_reducible refine Below.setCell ?_ ?_ _) | (with_reducible refine Below.trans ?_ (Below.mono (by with_reducible assumption) ?_)) | go_size))
  have hs0 : W0.heap.size = w.heap.size + 2 := by rw [hW0]; simp
  go_enter Try.func47, Try.ntmps47
  go_wp2_with (first | (go_at_call 68; refine (c68y s _ (hz.below (by rw [← hW0]; exact hB0) (Nat.le_refl _)) hm okh.out).mono ?_; rintro e w1 ⟨rfl, hB1⟩; rw [← hW0] at hB1; obtain ⟨hc1, hf1⟩ := bcell (hB1.mono (show w.heap.size + 2 ≤ _ by omega)); have hz1 : w.heap.size + 1 < w1.heap.size := (by have := hB1.size; omega); rw [hW0] at hc1 hf1) | (go_at_call 70; refine (c70y g _ (hg.below (hB0.trans (hB1.mono (by omega))) (Nat.le_refl _)) hm2 okgh.out.all).mono ?_; rintro e w2 ⟨rfl, hB2⟩; obtain ⟨hc2, hf2⟩ := bcell (hB2.mono (show w.heap.size + 2 ≤ _ by omega)); have hz2 : w.heap.size + 1 < w2.heap.size := (by have := hB2.size; omega)))
  refine bodyPost_ret (v := .tuple #[hdv s g, .int .i64 0]) (by simp [results, Try.results47, go_sem, hc1, hf1, hz1, hc2, hf2, hz2]) rfl ⟨rfl, ?_⟩
  have hBx : Below w.heap.size w w2 := (hB0.trans (hB1.mono (by omega))).trans (hB2.mono (by omega))
  (repeat' (first | (with_reducible exact Below.refl _ _) | (with_reducible assumption) | (with_reducible refine Below.alloc ?_ ?_ _) | (with_reducible refine Below.drew ?_) | (with_reducible refine below_drewN ?_ _) | (with_reducible refine Below.setCell ?_ ?_ _) | (with_reducible refine Below.trans ?_ (Below.mono (by with_reducible assumption) ?_)) | go_size))

set_option maxHeartbeats 1000000 in
theorem c47_sv (s : Sv) (g : Wg) (w : World) (hz : s.In w) (hm : s.rn ≤ 1000000) (ok : ¬ s.Ok) :
    Calls Try.prog 47 #[s.v, g.v] w fun e w' => e = .returned (.tuple #[hd0, .int .i64 20]) ∧ Below w.heap.size w w' := by
  have okh := hid ok
  clear ok
  obtain ⟨W0, hW0⟩ : ∃ W0 : World, W0 = (w.alloc (.cells #[.int .i64 s.tr, .int .i64 s.st, .int .i64 s.mv, .int .i64 s.no, .int .i64 s.wr, .slice s.ra s.rn s.rc] 30)).alloc (.cells #[.int .i64 0, .int .i64 0, .int .i64 0, .int .i64 0, .int .i64 0, .slice none 0 0, .slice none 0 0] 75) := ⟨_, rfl⟩
  have hB0 : Below w.heap.size w W0 := by rw [hW0]; (repeat' (first | (with_reducible exact Below.refl _ _) | (with_reducible assumption) | (with_reducible refine Below.alloc ?_ ?_ _) | (with_reducible refine Below.drew ?_) | (with_reducible refine below_drewN ?_ _) | (with_reducible refine Below.setCell ?_ ?_ _) | (with_reducible refine Below.trans ?_ (Below.mono (by with_reducible assumption) ?_)) | go_size))
  have hs0 : W0.heap.size = w.heap.size + 2 := by rw [hW0]; simp
  go_enter Try.func47, Try.ntmps47
  go_wp2_with (go_at_call 68; refine (c68n s _ (hz.below (by rw [← hW0]; exact hB0) (Nat.le_refl _)) hm okh.out).mono ?_; rintro e w1 ⟨rfl, hB1⟩; rw [← hW0] at hB1; obtain ⟨hc1, hf1⟩ := bcell (hB1.mono (show w.heap.size + 2 ≤ _ by omega)); have hz1 : w.heap.size + 1 < w1.heap.size := (by have := hB1.size; omega); rw [hW0] at hc1 hf1)
  refine bodyPost_ret (v := .tuple #[hd0, .int .i64 20]) (by simp [results, Try.results47, go_sem, hc1, hf1, hz1]) rfl ⟨rfl, ?_⟩
  have hBx : Below w.heap.size w w1 := hB0.trans (hB1.mono (by omega))
  (repeat' (first | (with_reducible exact Below.refl _ _) | (with_reducible assumption) | (with_reducible refine Below.alloc ?_ ?_ _) | (with_reducible refine Below.drew ?_) | (with_reducible refine below_drewN ?_ _) | (with_reducible refine Below.setCell ?_ ?_ _) | (with_reducible refine Below.trans ?_ (Below.mono (by with_reducible assumption) ?_)) | go_size))
set_option maxHeartbeats 1000000 in
theorem c47_wg (s : Sv) (g : Wg) (w : World) (hz : s.In w) (hg : g.In w) (hm : s.rn ≤ 1000000) (hm2 : g.wn ≤ 1000000) (ok : s.Ok) (okg : ¬ g.Ok) :
    Calls Try.prog 47 #[s.v, g.v] w fun e w' => e = .returned (.tuple #[hd0, .int .i64 21]) ∧ Below w.heap.size w w' := by
  have okh := hid ok
  have okgh := hid okg
  clear ok okg
  obtain ⟨W0, hW0⟩ : ∃ W0 : World, W0 = (w.alloc (.cells #[.int .i64 s.tr, .int .i64 s.st, .int .i64 s.mv, .int .i64 s.no, .int .i64 s.wr, .slice s.ra s.rn s.rc] 30)).alloc (.cells #[.int .i64 0, .int .i64 0, .int .i64 0, .int .i64 0, .int .i64 0, .slice none 0 0, .slice none 0 0] 75) := ⟨_, rfl⟩
  have hB0 : Below w.heap.size w W0 := by rw [hW0]; (repeat' (first | (with_reducible exact Below.refl _ _) | (with_reducible assumption) | (with_reducible refine Below.alloc ?_ ?_ _) | (with_reducible refine Below.drew ?_) | (with_reducible refine below_drewN ?_ _) | (with_reducible refine Below.setCell ?_ ?_ _) | (with_reducible refine Below.trans ?_ (Below.mono (by with_reducible assumption) ?_)) | go_size))
  have hs0 : W0.heap.size = w.heap.size + 2 := by rw [hW0]; simp
  by_cases hn : g.wn ≤ 24
  · have hno : ¬ ∀ k, k < g.wn → okW (g.wc k) (g.wu k) := fun h => okgh.out (Wg.Ok.of hn h)
    have hnh := hid hno
    clear hno
    go_enter Try.func47, Try.ntmps47
    go_wp2_with (first | (go_at_call 68; refine (c68y s _ (hz.below (by rw [← hW0]; exact hB0) (Nat.le_refl _)) hm okh.out).mono ?_; rintro e w1 ⟨rfl, hB1⟩; rw [← hW0] at hB1; obtain ⟨hc1, hf1⟩ := bcell (hB1.mono (show w.heap.size + 2 ≤ _ by omega)); have hz1 : w.heap.size + 1 < w1.heap.size := (by have := hB1.size; omega); rw [hW0] at hc1 hf1) | (go_at_call 70; refine (c70n g _ (hg.below (hB0.trans (hB1.mono (by omega))) (Nat.le_refl _)) hm2 hnh.out).mono ?_; rintro e w2 ⟨rfl, hB2⟩; obtain ⟨hc2, hf2⟩ := bcell (hB2.mono (show w.heap.size + 2 ≤ _ by omega)); have hz2 : w.heap.size + 1 < w2.heap.size := (by have := hB2.size; omega)))
    refine bodyPost_ret (v := .tuple #[hd0, .int .i64 21]) (by simp [results, Try.results47, go_sem, hc1, hf1, hz1, hc2, hf2, hz2]) rfl ⟨rfl, ?_⟩
    have hBx : Below w.heap.size w w2 := (hB0.trans (hB1.mono (by omega))).trans (hB2.mono (by omega))
    (repeat' (first | (with_reducible exact Below.refl _ _) | (with_reducible assumption) | (with_reducible refine Below.alloc ?_ ?_ _) | (with_reducible refine Below.drew ?_) | (with_reducible refine below_drewN ?_ _) | (with_reducible refine Below.setCell ?_ ?_ _) | (with_reducible refine Below.trans ?_ (Below.mono (by with_reducible assumption) ?_)) | go_size))
  · go_enter Try.func47, Try.ntmps47
    go_wp2_with (go_at_call 68; refine (c68y s _ (hz.below (by rw [← hW0]; exact hB0) (Nat.le_refl _)) hm okh.out).mono ?_; rintro e w1 ⟨rfl, hB1⟩; rw [← hW0] at hB1; obtain ⟨hc1, hf1⟩ := bcell (hB1.mono (show w.heap.size + 2 ≤ _ by omega)); have hz1 : w.heap.size + 1 < w1.heap.size := (by have := hB1.size; omega); rw [hW0] at hc1 hf1)
    refine bodyPost_ret (v := .tuple #[hd0, .int .i64 21]) (by simp [results, Try.results47, go_sem, hc1, hf1, hz1]) rfl ⟨rfl, ?_⟩
    have hBx : Below w.heap.size w w1 := hB0.trans (hB1.mono (by omega))
    (repeat' (first | (with_reducible exact Below.refl _ _) | (with_reducible assumption) | (with_reducible refine Below.alloc ?_ ?_ _) | (with_reducible refine Below.drew ?_) | (with_reducible refine below_drewN ?_ _) | (with_reducible refine Below.setCell ?_ ?_ _) | (with_reducible refine Below.trans ?_ (Below.mono (by with_reducible assumption) ?_)) | go_size))
/-- Both errors at once. -/
theorem c47_err (s : Sv) (g : Wg) (w : World) (hz : s.In w) (hg : g.In w) (hm : s.rn ≤ 1000000) (hm2 : g.wn ≤ 1000000) (h : ckE s g ≠ 0) :
    Calls Try.prog 47 #[s.v, g.v] w fun e w' => e = .returned (.tuple #[hd0, .int .i64 (ckE s g)]) ∧ Below w.heap.size w w' := by
  by_cases ok : s.Ok
  · by_cases okg : g.Ok
    · exact absurd (ckE_ok ok okg) h
    · rw [ckE_wg ok okg]; exact c47_wg s g w hz hg hm hm2 ok okg
  · rw [ckE_sv ok]; exact c47_sv s g w hz hm ok
end Go.Proofs.Ytfpfnjdnfiihhaa
