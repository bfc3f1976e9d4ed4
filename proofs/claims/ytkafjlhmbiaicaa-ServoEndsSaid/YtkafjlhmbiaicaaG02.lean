/- Texts put together: D, E, F, G, H. -/
import Derived.Test.YtkafjlhmbiaicaaG01
import Derived.Laws.AppendOwnNone
import Derived.Deep.OwnRows
import Derived.IntWalk
/- Stage 2: wedges checked one after the other; what is known of a head. -/
set_option linter.unusedSimpArgs false
set_option linter.unusedVariables false
namespace Go.Proofs.Ytkafjlhmbiaicaa
open Go.RowKit

def okW (a b : Int) : Prop := (-1 ≤ a ∧ a ≤ 127) ∧ (-100 ≤ b ∧ b ≤ 100)
theorem c69y {a b : Int} (w : World) (p : okW a b) : Calls Try.prog 69 #[.agg #[.int .i64 a, .int .i64 b]] w fun e w' => e = .returned (.bool false) ∧ Below w.heap.size w w' :=
  (c69 w).mono fun _ _ hr => by
    rcases hr with ⟨h1, _⟩ | ⟨_, h1⟩
    · exact absurd p h1
    · exact h1
theorem c69n {a b : Int} (w : World) (p : ¬ okW a b) : Calls Try.prog 69 #[.agg #[.int .i64 a, .int .i64 b]] w fun e w' => e = .returned (.bool true) ∧ Below w.heap.size w w' :=
  (c69 w).mono fun _ _ hr => by
    rcases hr with ⟨_, h1⟩ | ⟨h1, _⟩
    · exact h1
    · exact absurd h1 (fun h => h p)

set_option maxHeartbeats 400000 in
theorem c81 (g : Wg) (w : World) (hz : g.In w) (hm : g.wn ≤ 1000000) :
    Calls Try.prog 81 #[g.v, .func (.func 69) #[] #[]] w (RetIx g.wn (fun k => okW (g.wc k) (g.wu k)) w) := by
  go_enter Try.func81, Try.ntmps81
  go_wp2
  go_loopw [5, 8] (fun _ i wr => ∃ k : Nat, k ≤ g.wn ∧ i = .int .i64 k ∧ Hid (∀ j, j < k → okW (g.wc j) (g.wu j)) ∧ Below w.heap.size w wr) (fun _ i _ => g.wn - (intOf i).toNat)
  case atStart => exact ⟨0, Nat.zero_le _, rfl, fun j hj => absurd hj (Nat.not_lt_zero _), Below.refl _ _⟩
  case round =>
    obtain ⟨k, hk, rfl, hall, hB⟩ := hrel
    obtain ⟨hc, hf⟩ := bcell hB
    by_cases hlt : k < g.wn
    · have h1 := hz.c1 k hlt; have h2 := hz.c2 k hlt; have h3 := hz.lt k hlt; have h4 := @Weds.ix _ _ _ _ _ g.wk _ _ hz _ hlt
      by_cases hp : okW (g.wc k) (g.wu k)
      · have hph := hid hp
        clear hp
        go_wp2_with (go_at_call 69; refine (c69y _ hph.out).mono ?_; rintro e w1 ⟨rfl, hB1⟩)
        go_roundw
        case rel =>
          refine ⟨k + 1, by omega, by go_num, fun j hj => ?_, hB.trans (hB1.mono hB.size)⟩
          by_cases e : j = k
          · subst e; exact hph.out
          · exact hall.out j (by omega)
        case measure => simp [intOf]; omega
      · have hph := hid hp
        clear hp
        go_wp2_with (go_at_call 69; refine (c69n _ hph.out).mono ?_; rintro e w1 ⟨rfl, hB1⟩)
        go_returns
        exact RetIx.at_ hlt hph.out (hB.trans (hB1.mono hB.size))
    · go_wp2_with fail
      go_returns
      exact RetIx.no (fun j hj => hall.out j (by omega)) hB
set_option maxHeartbeats 400000 in
theorem c70 (g : Wg) (w : World) (hz : g.In w) (hm : g.wn ≤ 1000000) :
    Calls Try.prog 70 #[g.v, .func (.func 69) #[] #[]] w (RetBB (¬ ∀ k, k < g.wn → okW (g.wc k) (g.wu k)) w) := by
  go_enter Try.func70, Try.ntmps70
  go_wp2_with (go_at_call 81; refine (c81 g _ hz hm).mono ?_; rintro e w' (⟨h1, rfl, hb⟩ | ⟨k, hk, h1, rfl, hb⟩) <;> replace h1 := hid h1)
  · go_returns
    exact RetBB.no (fun h => h h1.out) hb
  · go_returns
    exact RetBB.yes (fun h => h1.out (h k hk)) hb

theorem Sv.Ok.mk' {s : Sv} (a : (1 ≤ s.tr ∧ s.tr ≤ 64) ∧ (1 ≤ s.st ∧ s.st ≤ 16) ∧ (0 ≤ s.mv ∧ s.mv ≤ 64) ∧ (0 ≤ s.no ∧ s.no ≤ 16) ∧ (0 ≤ s.wr ∧ s.wr ≤ 3) ∧ (1 ≤ s.rn ∧ s.rn ≤ 16)) (h : ∀ k, k < s.rn → -16 ≤ s.rf k ∧ s.rf k ≤ 16) : s.Ok := by
  obtain ⟨⟨a1, a2⟩, ⟨a3, a4⟩, ⟨a5, a6⟩, ⟨a7, a8⟩, ⟨a9, a10⟩, ⟨a11, a12⟩⟩ := a
  exact ⟨a1, a2, a3, a4, a5, a6, a7, a8, a9, a10, a11, a12, h⟩
theorem Sv.Ok.un {s : Sv} (h : s.Ok) : (1 ≤ s.tr ∧ s.tr ≤ 64) ∧ (1 ≤ s.st ∧ s.st ≤ 16) ∧ (0 ≤ s.mv ∧ s.mv ≤ 64) ∧ (0 ≤ s.no ∧ s.no ≤ 16) ∧ (0 ≤ s.wr ∧ s.wr ≤ 3) ∧ (1 ≤ s.rn ∧ s.rn ≤ 16) :=
  ⟨⟨h.t1, h.t2⟩, ⟨h.s1, h.s2⟩, ⟨h.m0, h.m1⟩, ⟨h.n0, h.n1⟩, ⟨h.w0, h.w1⟩, ⟨h.r1, h.r2⟩⟩

set_option maxHeartbeats 1000000 in
theorem c68 (s : Sv) (w : World) (hz : s.In w) (hm : s.rn ≤ 1000000) : Calls Try.prog 68 #[s.v] w (RetBB s.Ok w) := by
  go_enter Try.func68, Try.ntmps68
  go_wp2_with (first | (go_at_call 46; refine (c46 _ _ _ _).mono ?_; rintro e w' (⟨g, rfl, rfl⟩ | ⟨g, rfl, rfl⟩)) | (go_at_call 80; refine (c80 s.ra s.rb s.ro s.rn s.rc s.rf _ (hz.below ((Below.refl _ _).alloc (Nat.le_refl _) _) (Nat.le_refl _)) hm).mono ?_; rintro e w' (⟨h1, rfl, hb⟩ | ⟨h1, rfl, hb⟩) <;> replace h1 := hid h1))
  all_goals go_returns
  all_goals have hB0 : Below w.heap.size w (w.alloc (.cells #[.int .i64 s.tr, .int .i64 s.st, .int .i64 s.mv, .int .i64 s.no, .int .i64 s.wr, .slice s.ra s.rn s.rc] 30)) := (Below.refl _ _).alloc (Nat.le_refl _) _
  all_goals first | exact RetBB.yes (Sv.Ok.mk' (by omega) (Classical.not_not.1 h1.out)) (hB0.trans (hb.mono (by simp))) | exact RetBB.no (fun h => h1.out h.ro) (hB0.trans (hb.mono (by simp))) | exact RetBB.no (fun h => by have := h.un; omega) hB0
end Go.Proofs.Ytkafjlhmbiaicaa

/- Stage 2: what is known of a head, or which error. -/
set_option linter.unusedSimpArgs false
set_option linter.unusedVariables false
namespace Go.Proofs.Ytkafjlhmbiaicaa
open Go.RowKit

theorem Wg.Ok.of {g : Wg} (h : g.wn ≤ 24) (h2 : ∀ k, k < g.wn → okW (g.wc k) (g.wu k)) : g.Ok := ⟨h, fun k hk => (h2 k hk).1, fun k hk => (h2 k hk).2⟩
theorem Wg.Ok.all {g : Wg} (h : g.Ok) : ∀ k, k < g.wn → okW (g.wc k) (g.wu k) := fun k hk => ⟨h.c k hk, h.u k hk⟩
@[reducible] def hd0 : Value := .agg #[.int .i64 0, .int .i64 0, .int .i64 0, .int .i64 0, .int .i64 0, .slice none 0 0, .slice none 0 0]

theorem c68y (s : Sv) (w : World) (hz : s.In w) (hm : s.rn ≤ 1000000) (p : s.Ok) : Calls Try.prog 68 #[s.v] w fun e w' => e = .returned (.bool true) ∧ Below w.heap.size w w' :=
  (c68 s w hz hm).mono fun _ _ hr => by
    rcases hr with ⟨_, h1⟩ | ⟨h1, _⟩
    · exact h1
    · exact absurd p h1
theorem c68n (s : Sv) (w : World) (hz : s.In w) (hm : s.rn ≤ 1000000) (p : ¬ s.Ok) : Calls Try.prog 68 #[s.v] w fun e w' => e = .returned (.bool false) ∧ Below w.heap.size w w' :=
  (c68 s w hz hm).mono fun _ _ hr => by
    rcases hr with ⟨h1, _⟩ | ⟨_, h1⟩
    · exact absurd h1 p
    · exact h1
theorem c70y (g : Wg) (w : World) (hz : g.In w) (hm : g.wn ≤ 1000000) (p : ∀ k, k < g.wn → okW (g.wc k) (g.wu k)) : Calls Try.prog 70 #[g.v, .func (.func 69) #[] #[]] w fun e w' => e = .returned (.bool false) ∧ Below w.heap.size w w' :=
  (c70 g w hz hm).mono fun _ _ hr => by
    rcases hr with ⟨h1, _⟩ | ⟨_, h1⟩
    · exact absurd p h1
    · exact h1
theorem c70n (g : Wg) (w : World) (hz : g.In w) (hm : g.wn ≤ 1000000) (p : ¬ ∀ k, k < g.wn → okW (g.wc k) (g.wu k)) : Calls Try.prog 70 #[g.v, .func (.func 69) #[] #[]] w fun e w' => e = .returned (.bool true) ∧ Below w.heap.size w w' :=
  (c70 g w hz hm).mono fun _ _ hr => by
    rcases hr with ⟨_, h1⟩ | ⟨h1, _⟩
    · exact h1
    · exact absurd h1 (fun h => h p)

set_option maxHeartbeats 1000000 in
theorem c47 (s : Sv) (g : Wg) (w : World) (hz : s.In w) (hg : g.In w) (hm : s.rn ≤ 1000000) (hm2 : g.wn ≤ 1000000) (ok : s.Ok) (okg : g.Ok) :
    Calls Try.prog 47 #[s.v, g.v] w fun e w' => e = .returned (.tuple #[hdv s g, .int .i64 0]) ∧ Below w.heap.size w w' := by
  have hn := okg.n2
  have okh := hid ok
  have okgh := hid okg
  clear ok okg
  obtain ⟨W0, hW0⟩ : ∃ W0 : World, W0 = (w.alloc (.cells #[.int .i64 s.tr, .int .i64 s.st, .int .i64 s.mv, .int .i64 s.no, .int .i64 s.wr, .slice s.ra s.rn s.rc] 30)).alloc (.cells #[.int .i64 0, .int .i64 0, .int .i64 0, .int .i64 0, .int .i64 0, .slice none 0 0, .slice none 0 0] 75) := ⟨_, rfl⟩
  have hB0 : Below w.heap.size w W0 := by rw [hW0]; (repeat' (first | (with_reducible exact Below.refl _ _) | (with_reducible assumption) | (with_reducible refine Below.alloc ?_ ?_ _) | (with_reducible refine Below.drew ?_) | (with_reducible refine below_drewN ?_ _) | (with_reducible refine Below.setCell ?_ ?_ _) | (with_reducible refine Below.trans ?_ (Below.mono (by with_reducible assumption) ?_)) | go_size))
  have hs0 : W0.heap.size = w.heap.size + 2 := by rw [hW0]; simp
  go_enter Try.func47, Try.ntmps47
  go_wp2_with (first | (go_at_call 68; refine (c68y s _ (hz.below (by rw [← hW0]; exact hB0) (Nat.le_refl _)) hm okh.out).mono ?_; rintro e w1 ⟨rfl, hB1⟩; rw [← hW0] at hB1; obtain ⟨hc1, hf1⟩ := bcell (hB1.mono (show w.heap.size + 2 ≤ _ by omega)); have hz1 : w.heap.size + 1 < w1.heap.size := (by have := hB1.size; omega); rw [hW0] at hc1 hf1) | (go_at_call 70; refine (c70y g _ (hg.below (hB0.trans (hB1.mono (by omega))) (Nat.le_refl _)) hm2 okgh.out.all).mono ?_; rintro e w2 ⟨rfl, hB2⟩; obtain ⟨hc2, hf2⟩ := bcell (hB2.mono (show w.heap.size + 2 ≤ _ by omega)); have hz2 : w.heap.size + 1 < w2.heap.size := (by have := hB2.size; omega)))
  refine bodyPost_ret (v := .tuple #[hdv s g, .int .i64 0]) (by simp [results, Try.results47, go_sem, hc1, hf1, hz1, hc2, hf2, hz2]) rfl ⟨rfl, ?_⟩
  have hBx : Below w.heap.size w w2 := (hB0.trans (hB1.mono (by omega))).trans (hB2.mono (by omega))
  (repeat' (first | (with_reducible exact Below.refl _ _) | (with_reducible assumption) | (with_reducible refine Below.alloc ?_ ?_ _) | (with_reducible refine Below.drew ?_) | (with_reducible refine below_drewN ?_ _) | (with_reducible refine Below.setCell ?_ ?_ _) | (with_reducible refine Below.trans ?_ (Below.mono (by with_reducible assumption) ?_)) | go_size))

set_option maxHeartbeats 1000000 in
theorem c47_sv (s : Sv) (g : Wg) (w : World) (hz : s.In w) (hm : s.rn ≤ 1000000) (ok : ¬ s.Ok) :
    Calls Try.prog 47 #[s.v, g.v] w fun e w' => e = .returned (.tuple #[hd0, .int .i64 20]) ∧ Below w.heap.size w w' := by
  have okh := hid ok
  clear ok
  obtain ⟨W0, hW0⟩ : ∃ W0 : World, W0 = (w.alloc (.cells #[.int .i64 s.tr, .int .i64 s.st, .int .i64 s.mv, .int .i64 s.no, .int .i64 s.wr, .slice s.ra s.rn s.rc] 30)).alloc (.cells #[.int .i64 0, .int .i64 0, .int .i64 0, .int .i64 0, .int .i64 0, .slice none 0 0, .slice none 0 0] 75) := ⟨_, rfl⟩
  have hB0 : Below w.heap.size w W0 := by rw [hW0]; (repeat' (first | (with_reducible exact Below.refl _ _) | (with_reducible assumption) | (with_reducible refine Below.alloc ?_ ?_ _) | (with_reducible refine Below.drew ?_) | (with_reducible refine below_drewN ?_ _) | (with_reducible refine Below.setCell ?_ ?_ _) | (with_reducible refine Below.trans ?_ (Below.mono (by with_reducible assumption) ?_)) | go_size))
  have hs0 : W0.heap.size = w.heap.size + 2 := by rw [hW0]; simp
  go_enter Try.func47, Try.ntmps47
  go_wp2_with (go_at_call 68; refine (c68n s _ (hz.below (by rw [← hW0]; exact hB0) (Nat.le_refl _)) hm okh.out).mono ?_; rintro e w1 ⟨rfl, hB1⟩; rw [← hW0] at hB1; obtain ⟨hc1, hf1⟩ := bcell (hB1.mono (show w.heap.size + 2 ≤ _ by omega)); have hz1 : w.heap.size + 1 < w1.heap.size := (by have := hB1.size; omega); rw [hW0] at hc1 hf1)
  refine bodyPost_ret (v := .tuple #[hd0, .int .i64 20]) (by simp [results, Try.results47, go_sem, hc1, hf1, hz1]) rfl ⟨rfl, ?_⟩
  have hBx : Below w.heap.size w w1 := hB0.trans (hB1.mono (by omega))
  (repeat' (first | (with_reducible exact Below.refl _ _) | (with_reducible assumption) | (with_reducible refine Below.alloc ?_ ?_ _) | (with_reducible refine Below.drew ?_) | (with_reducible refine below_drewN ?_ _) | (with_reducible refine Below.setCell ?_ ?_ _) | (with_reducible refine Below.trans ?_ (Below.mono (by with_reducible assumption) ?_)) | go_size))
set_option maxHeartbeats 1000000 in
theorem c47_wg (s : Sv) (g : Wg) (w : World) (hz : s.In w) (hg : g.In w) (hm : s.rn ≤ 1000000) (hm2 : g.wn ≤ 1000000) (ok : s.Ok) (okg : ¬ g.Ok) :
    Calls Try.prog 47 #[s.v, g.v] w fun e w' => e = .returned (.tuple #[hd0, .int .i64 21]) ∧ Below w.heap.size w w' := by
  have okh := hid ok
  have okgh := hid okg
  clear ok okg
  obtain ⟨W0, hW0⟩ : ∃ W0 : World, W0 = (w.alloc (.cells #[.int .i64 s.tr, .int .i64 s.st, .int .i64 s.mv, .int .i64 s.no, .int .i64 s.wr, .slice s.ra s.rn s.rc] 30)).alloc (.cells #[.int .i64 0, .int .i64 0, .int .i64 0, .int .i64 0, .int .i64 0, .slice none 0 0, .slice none 0 0] 75) := ⟨_, rfl⟩
  have hB0 : Below w.heap.size w W0 := by rw [hW0]; (repeat' (first | (with_reducible exact Below.refl _ _) | (with_reducible assumption) | (with_reducible refine Below.alloc ?_ ?_ _) | (with_reducible refine Below.drew ?_) | (with_reducible refine below_drewN ?_ _) | (with_reducible refine Below.setCell ?_ ?_ _) | (with_reducible refine Below.trans ?_ (Below.mono (by with_reducible assumption) ?_)) | go_size))
  have hs0 : W0.heap.size = w.heap.size + 2 := by rw [hW0]; simp
  by_cases hn : g.wn ≤ 24
  · have hno : ¬ ∀ k, k < g.wn → okW (g.wc k) (g.wu k) := fun h => okgh.out (Wg.Ok.of hn h)
    have hnh := hid hno
    clear hno
    go_enter Try.func47, Try.ntmps47
    go_wp2_with (first | (go_at_call 68; refine (c68y s _ (hz.below (by rw [← hW0]; exact hB0) (Nat.le_refl _)) hm okh.out).mono ?_; rintro e w1 ⟨rfl, hB1⟩; rw [← hW0] at hB1; obtain ⟨hc1, hf1⟩ := bcell (hB1.mono (show w.heap.size + 2 ≤ _ by omega)); have hz1 : w.heap.size + 1 < w1.heap.size := (by have := hB1.size; omega); rw [hW0] at hc1 hf1) | (go_at_call 70; refine (c70n g _ (hg.below (hB0.trans (hB1.mono (by omega))) (Nat.le_refl _)) hm2 hnh.out).mono ?_; rintro e w2 ⟨rfl, hB2⟩; obtain ⟨hc2, hf2⟩ := bcell (hB2.mono (show w.heap.size + 2 ≤ _ by omega)); have hz2 : w.heap.size + 1 < w2.heap.size := (by have := hB2.size; omega)))
    refine bodyPost_ret (v := .tuple #[hd0, .int .i64 21]) (by simp [results, Try.results47, go_sem, hc1, hf1, hz1, hc2, hf2, hz2]) rfl ⟨rfl, ?_⟩
    have hBx : Below w.heap.size w w2 := (hB0.trans (hB1.mono (by omega))).trans (hB2.mono (by omega))
    (repeat' (first | (with_reducible exact Below.refl _ _) | (with_reducible assumption) | (with_reducible refine Below.alloc ?_ ?_ _) | (with_reducible refine Below.drew ?_) | (with_reducible refine below_drewN ?_ _) | (with_reducible refine Below.setCell ?_ ?_ _) | (with_reducible refine Below.trans ?_ (Below.mono (by with_reducible assumption) ?_)) | go_size))
  · go_enter Try.func47, Try.ntmps47
    go_wp2_with (go_at_call 68; refine (c68y s _ (hz.below (by rw [← hW0]; exact hB0) (Nat.le_refl _)) hm okh.out).mono ?_; rintro e w1 ⟨rfl, hB1⟩; rw [← hW0] at hB1; obtain ⟨hc1, hf1⟩ := bcell (hB1.mono (show w.heap.size + 2 ≤ _ by omega)); have hz1 : w.heap.size + 1 < w1.heap.size := (by have := hB1.size; omega); rw [hW0] at hc1 hf1)
    refine bodyPost_ret (v := .tuple #[hd0, .int .i64 21]) (by simp [results, Try.results47, go_sem, hc1, hf1, hz1]) rfl ⟨rfl, ?_⟩
    have hBx : Below w.heap.size w w1 := hB0.trans (hB1.mono (by omega))
    (repeat' (first | (with_reducible exact Below.refl _ _) | (with_reducible assumption) | (with_reducible refine Below.alloc ?_ ?_ _) | (with_reducible refine Below.drew ?_) | (with_reducible refine below_drewN ?_ _) | (with_reducible refine Below.setCell ?_ ?_ _) | (with_reducible refine Below.trans ?_ (Below.mono (by with_reducible assumption) ?_)) | go_size))
/-- Both errors at once. -/
theorem c47_err (s : Sv) (g : Wg) (w : World) (hz : s.In w) (hg : g.In w) (hm : s.rn ≤ 1000000) (hm2 : g.wn ≤ 1000000) (h : ckE s g ≠ 0) :
    Calls Try.prog 47 #[s.v, g.v] w fun e w' => e = .returned (.tuple #[hd0, .int .i64 (ckE s g)]) ∧ Below w.heap.size w w' := by
  by_cases ok : s.Ok
  · by_cases okg : g.Ok
    · exact absurd (ckE_ok ok okg) h
    · rw [ckE_wg ok okg]; exact c47_wg s g w hz hg hm hm2 ok okg
  · rw [ckE_sv ok]; exact c47_sv s g w hz hm ok
end Go.Proofs.Ytkafjlhmbiaicaa

/- Stage 2: the least of some numbers; a copy of numbers; positions; where a track lies. -/
set_option linter.unusedSimpArgs false
set_option linter.unusedVariables false
namespace Go.Proofs.Ytkafjlhmbiaicaa
open Go.RowKit

theorem min_if (a b : Int) : min a b = if b < a then b else a := by omega
theorem wmin_pred (f : Nat → Int) {k : Nat} (h : 1 ≤ k) : wmin f 0 (k + 1 - 1) = min (wmin f 0 (k - 1)) (f k) := by
  obtain ⟨j, rfl⟩ : ∃ j, k = j + 1 := ⟨k - 1, by omega⟩
  simp only [show j + 1 + 1 - 1 = j + 1 by omega, show j + 1 - 1 = j by omega, wmin, show 0 + j + 1 = j + 1 by omega]
set_option maxHeartbeats 400000 in
theorem c53' (A : Option Addr) (b o n c : Nat) (f : Nat → Int) (w : World) (hz : Ints w A b o (n + 1) f) (hm : n ≤ 1000000) :
    Calls Try.prog 53 #[.slice A (n + 1) c] w fun e w' => e = .returned (.int .i64 (wmin f 0 n)) ∧ w = w' := by
  have h10 := hz.ce 0 (by omega); have h30 := hz.lt 0 (by omega); have h40 := @Ints.ix _ _ _ _ _ c _ hz 0 (by omega)
  rw [Nat.add_zero] at h10 h40
  have h40' : ∀ w', (Instr.indexAt 28 (.slice A (n + 1) c) (.int .i64 0)).run Try.prog w' = .ok (.pointer (some ⟨b, o, none⟩)) w' := h40
  clear h40
  go_enter Try.func53, Try.ntmps53
  go_wp2
  clear h10 h40'
  go_loop [3, 4] (fun m i => ∃ k : Nat, 1 ≤ k ∧ k ≤ n + 1 ∧ i = .int .i64 k ∧ m = .int .i64 (wmin f 0 (k - 1))) (fun _ i => n + 1 - (intOf i).toNat)
  case atStart => exact ⟨1, by omega, by omega, rfl, rfl⟩
  case round =>
    obtain ⟨k, hk1, hk, rfl, rfl⟩ := hrel
    by_cases hlt : k < n + 1
    · have h1 := hz.ce k hlt; have h3 := hz.lt k hlt; have h4 := @Ints.ix _ _ _ _ _ c _ hz _ hlt
      go_wp2_with fail
      go_round
      case rel => exact ⟨k + 1, by omega, by omega, by go_num, by rw [wmin_pred f hk1, min_if]⟩
      case measure => simp [intOf]; omega
    · go_wp2_with fail
      go_returns
      obtain rfl : k = n + 1 := by omega
      exact ⟨rfl, rfl⟩
theorem c53 (A : Option Addr) (b o n c : Nat) (f : Nat → Int) (w : World) (hz : Ints w A b o n f) (h0 : 0 < n) (hm : n ≤ 1000000) :
    Calls Try.prog 53 #[.slice A n c] w fun e w' => e = .returned (.int .i64 (wmin f 0 (n - 1))) ∧ w = w' := by
  obtain ⟨k, rfl⟩ : ∃ k, n = k + 1 := ⟨n - 1, by omega⟩
  exact c53' A b o k c f w hz (by omega)

/-- Block g begins with the n numbers f; none of them is frozen. -/
def RowF (w : World) (g n : Nat) (f : Nat → Int) : Prop := ∃ (c : Nat) (F : Nat → Value), w.rowIs g 3 c F ∧ n ≤ c ∧ ∀ i, i < n → F i = .int .i64 (f i)
theorem RowF.lt {w : World} {g n : Nat} {f : Nat → Int} (h : RowF w g n f) : g < w.heap.size := by obtain ⟨c, F, h1, _⟩ := h; exact h1.lt
theorem RowF.cell {w : World} {g n : Nat} {f : Nat → Int} (h : RowF w g n f) {i : Nat} (hi : i < n) : w.cell? ⟨g, i, none⟩ = some (.int .i64 (f i)) := by
  obtain ⟨c, F, h1, h2, h3⟩ := h
  rw [h1.cell (by omega), h3 i hi]
theorem RowF.frozen {w : World} {g n : Nat} {f : Nat → Int} (h : RowF w g n f) (i : Nat) : w.frozen? ⟨g, i, none⟩ = false := by
  obtain ⟨c, F, h1, h2, h3⟩ := h
  exact h1.frozen i
theorem RowF.ints {w : World} {g n : Nat} {f : Nat → Int} (h : RowF w g n f) : Ints w (some ⟨g, 0, none⟩) g 0 n f :=
  ⟨fun _ _ => rfl, fun _ _ => h.lt, fun k hk => by rw [Nat.zero_add]; exact h.cell hk⟩
theorem RowF.congr {w : World} {g n : Nat} {f f' : Nat → Int} (h : RowF w g n f) (e : ∀ i, i < n → f i = f' i) : RowF w g n f' := by
  obtain ⟨c, F, h1, h2, h3⟩ := h
  exact ⟨c, F, h1, h2, fun i hi => by rw [h3 i hi, e i hi]⟩
theorem RowF.of_block {w w' : World} {g n : Nat} {f : Nat → Int} (h : RowF w g n f) (e : w'.heap[g]? = w.heap[g]?) : RowF w' g n f := by
  obtain ⟨c, F, h1, h2, h3⟩ := h
  exact ⟨c, F, h1.of_block e, h2, h3⟩
theorem RowF.below {w w' : World} {B g n : Nat} {f : Nat → Int} (h : RowF w g n f) (hb : Below B w w') (hB : g < B) : RowF w' g n f := h.of_block (hb.block g hB)
theorem RowF.alloc {w : World} {g n : Nat} {f : Nat → Int} (h : RowF w g n f) (o : Obj) : RowF (w.alloc o) g n f := by
  obtain ⟨c, F, h1, h2, h3⟩ := h
  exact ⟨c, F, h1.alloc o, h2, h3⟩
theorem RowF.set {w : World} {g n : Nat} {f : Nat → Int} (h : RowF w g n f) (i : Nat) (x : Int) : RowF (w.setCell ⟨g, i, none⟩ (.int .i64 x)) g n (fun j => if j = i then x else f j) := by
  obtain ⟨c, F, h1, h2, h3⟩ := h
  refine ⟨c, _, h1.set i _, h2, fun j hj => ?_⟩
  by_cases e : j = i
  · simp [e]
  · simp [e, h3 j hj]
theorem RowF.setOther {w : World} {g n : Nat} {f : Nat → Int} (h : RowF w g n f) {a : Addr} (ha : g ≠ a.block) (v : Value) : RowF (w.setCell a v) g n f := by
  obtain ⟨c, F, h1, h2, h3⟩ := h
  exact ⟨c, F, h1.setOther ha v, h2, h3⟩
theorem RowF.made (w : World) (n : Nat) : RowF (w.alloc (.cells (madeCells #[.int .i64 0] n) 3)) w.heap.size n (fun _ => 0) := ⟨n, _, World.rowIs_made w _ n 3, Nat.le_refl _, fun _ _ => rfl⟩
/-- The values of n numbers. -/
def vals (n : Nat) (f : Nat → Int) : List Value := (List.range n).map fun k => .int .i64 (f k)
theorem vals_len (n : Nat) (f : Nat → Int) : (vals n f).length = n := by simp [vals]
theorem vals_get {n : Nat} {f : Nat → Int} {k : Nat} (h : k < n) : (vals n f)[k]? = some (.int .i64 (f k)) := by simp [vals, h]
theorem vals_one (n : Nat) (f : Nat → Int) : ∀ u ∈ vals n f, u.oneCell' = true := by
  intro u hu
  obtain ⟨k, _, rfl⟩ := List.mem_map.1 hu
  rfl
theorem vals_succ (n : Nat) (f : Nat → Int) : vals (n + 1) f = vals n f ++ [.int .i64 (f n)] := by simp [vals, List.range_succ]
theorem RowF.of_owns {w : World} {b g n c : Nat} {f : Nat → Int} (h : w.ownsRow b 3 1 (.slice (some ⟨g, 0, none⟩) n c) n (vals n f)) : RowF w g n f := by
  have hcell := h.cellAt
  obtain ⟨_, ⟨h1, _⟩ | ⟨g', cap, cur, h1, h2, h3, h4, h5, h6, h7⟩⟩ := h
  · cases h1
  · cases h1
    refine ⟨c, fun i => cur[i]?.getD (.int .i64 0), ⟨cur, h3, by omega, fun i hi => ?_⟩, h4, fun i hi => ?_⟩
    · have : i < cur.size := by omega
      simp [this]
    · have e1 := hcell i (by omega)
      rw [vals_get hi, cell_of_row w g i cur 3 (0, 0) h3] at e1
      show cur[i]?.getD (.int .i64 0) = _
      rw [e1]; rfl
theorem owns_below {w w' : World} {B b e s : Nat} {v : Value} {n : Nat} {xs : List Value} (h : w.ownsRow b e s v n xs) (hB : Below B w w') (hw : w.heap.size ≤ B) : w'.ownsRow b e s v n xs := by
  obtain ⟨h1, h2⟩ := h
  refine ⟨h1, ?_⟩
  rcases h2 with h2 | ⟨g, cap, cur, h3, h4, h5, h6⟩
  · exact .inl h2
  · have hg : g < w.heap.size := (Array.getElem?_eq_some_iff.1 h5).1
    exact .inr ⟨g, cap, cur, h3, h4, (hB.block g (by omega)).trans h5, h6⟩
theorem heap_new (w : World) (o : Obj) : (w.alloc o).heap[w.heap.size]? = some o := by show (w.heap.push o)[w.heap.size]? = _; simp
theorem own_shape {w : World} {base e s n : Nat} {v : Value} {xs : List Value} (h : w.ownsRow base e s v n xs) (hn : ¬ v = .slice none 0 0) : ∃ g cap, v = .slice (some ⟨g, 0, none⟩) n cap := by
  obtain ⟨_, ⟨h1, _⟩ | ⟨g, cap, cur, h1, _⟩⟩ := h
  · exact absurd h1 hn
  · exact ⟨g, cap, h1⟩
theorem own_cap {w : World} {base e s n g cap : Nat} {xs : List Value} (h : w.ownsRow base e s (.slice (some ⟨g, 0, none⟩) n cap) n xs) : n ≤ cap := by
  obtain ⟨_, ⟨h1, _⟩ | ⟨g', cap', cur, h1, h2, h3, h4, _⟩⟩ := h
  · cases h1
  · cases h1; exact h4
/-- A new slice of the n numbers f is handed back. -/
def IRet (n : Nat) (f : Nat → Int) (w : World) (e : Ending) (w' : World) : Prop :=
  ∃ g c : Nat, e = .returned (.slice (some ⟨g, 0, none⟩) n c) ∧ w.heap.size ≤ g ∧ n ≤ c ∧ RowF w' g n f ∧ Below w.heap.size w w'
theorem Try.info3 : (Try.prog.info? 3).map (fun i => (i.zero, i.size, i.bytes)) = some (some (.int .i64 0), 1, 8) := by kernel_rfl
theorem ints_cells {w : World} {A : Option Addr} {b o n : Nat} {f : Nat → Int} (hz : Ints w A b o n f) : ∀ j u, (vals n f)[j]? = some u → w.cell? ((⟨b, o, none⟩ : Addr).add j) = some u := by
  intro j u hj
  have hlt : j < n := by
    have := (List.getElem?_eq_some_iff.1 hj).1
    rwa [vals_len] at this
  have ha : (⟨b, o, none⟩ : Addr).add j = ⟨b, o + j, none⟩ := by unfold Addr.add; split <;> simp_all
  rw [ha, hz.ce j hlt]
  rw [vals_get hlt] at hj
  exact hj
theorem own_made (W : World) (e s b g : Nat) (hg : W.heap.size = g) (h : b ≤ g) : (W.alloc (.cells #[] e)).ownsRow b e s (.slice (some ⟨g, 0, none⟩) 0 0) 0 [] := by
  subst hg
  exact ⟨by simp, .inr ⟨W.heap.size, 0, #[], rfl, h, heap_new W _, Nat.le_refl _, by unfold maxLen; omega, by simp, by simp⟩⟩

set_option maxHeartbeats 400000 in
theorem c82 (b o n c : Nat) (f : Nat → Int) (w : World) (hz : Ints w (some ⟨b, o, none⟩) b o n f) (hn : 0 < n) (hm : n ≤ 1000000) :
    Calls Try.prog 82 #[.slice (some ⟨b, o, none⟩) n c] w (IRet n f w) := by
  obtain ⟨i0, ie0, ie1, ie2, ie3⟩ := info_parts Try.info3
  have hsl := fun W => Lib.run_eql_slice_nil (P := Try.prog) W 28 3 (some ⟨b, o, none⟩) n c 0 0 Try.underlying28
  have hlt := hz.lt 0 hn
  have hch := hid (ints_cells hz)
  go_enter Try.func82, Try.ntmps82
  go_wp2_with (at_builtin; go_loud (refine wpList_append_own _ rfl _ _ 28 rfl w.heap.size 3 i0 (.int .i64 0) 1 8 Try.underlying28 ie0 ie1 ie2 ie3 rfl (by decide) _ _ _ rfl (own_made _ 3 1 _ _ rfl (Nat.le_refl _)) ⟨b, o, none⟩ n c (vals n f) rfl (by rw [vals_len, Nat.mul_one]) ?hcc (vals_one n f) ?hmm ?hbb ?hss ?hgo))
  case hmm => unfold maxLen; omega
  case hbb => omega
  case hss => simp
  case hcc =>
    intro j u hj
    have h1 := hch.out j u hj
    exact (((Below.refl w.heap.size w).alloc (Nat.le_refl _) _).cell (World.block_lt_of_cell? w _ h1)).trans h1
  case hgo =>
    intro v' w1 hown hgrow hnil
    have hnv : ¬ v' = .slice none 0 0 := hnil
    obtain ⟨g, cap, rfl⟩ := own_shape hown hnv
    have hge := (hown.lt g rfl).1
    have hcap := own_cap hown
    have hB : Below w.heap.size w w1 := ((Below.refl w.heap.size w).alloc (Nat.le_refl _) _).grown hgrow (by simp) (fun k e => by cases e; simp)
    have hR := hid (RowF.of_owns hown)
    clear hown hgrow hnv
    go_wp2
    go_returns
    exact ⟨g, cap, rfl, hge, hcap, hR.out, hB⟩
end Go.Proofs.Ytkafjlhmbiaicaa

/- Stage 2: positions, where a track lies, whether a wedge agrees. -/
set_option linter.unusedSimpArgs false
set_option linter.unusedVariables false
namespace Go.Proofs.Ytkafjlhmbiaicaa
open Go.RowKit

set_option maxHeartbeats 400000 in
theorem c52 (s : Sv) (g : Wg) (w : World) (ok : s.Ok) : Calls Try.prog 52 #[hdv s g] w fun e w' => e = .returned (.int .i64 (s.N : Nat)) ∧ Below w.heap.size w w' := by
  have hN := ok.Nb
  have t1 := ok.t1; have t2 := ok.t2; have s1 := ok.s1; have s2 := ok.s2
  have b1 := hN.2.2.2.1; have b2 := hN.2.2.2.2; have e1 := hid hN.2.2.1
  clear hN ok
  go_enter Try.func52, Try.ntmps52
  go_wp2_with fail
  go_returns
  exact ⟨ret_eq e1.out.symm, by (repeat' (first | (with_reducible exact Below.refl _ _) | (with_reducible assumption) | (with_reducible refine Below.alloc ?_ ?_ _) | (with_reducible refine Below.drew ?_) | (with_reducible refine below_drewN ?_ _) | (with_reducible refine Below.setCell ?_ ?_ _) | (with_reducible refine Below.trans ?_ (Below.mono (by with_reducible assumption) ?_)) | go_size))⟩

theorem Sv.Ok.tb {s : Sv} (ok : s.Ok) {t : Int} (h0 : 0 ≤ t) (h1 : t < s.tr) : 0 ≤ t * s.st ∧ t * s.st ≤ 1008 := by
  have h2 : t * s.st ≤ 63 * 16 := Int.mul_le_mul (by have := ok.t2; omega) ok.s2 (by have := ok.s1; omega) (by omega)
  exact ⟨Int.mul_nonneg h0 (by have := ok.s1; omega), by omega⟩
set_option maxHeartbeats 400000 in
theorem c59 (s : Sv) (g : Wg) (t : Int) (i : Nat) (w : World) (hz : s.In w) (ok : s.Ok) (h0 : 0 ≤ t) (h1 : t < s.tr) (hi : i ≤ 1000) :
    Calls Try.prog 59 #[hdv s g, .int .i64 t, .int .i64 (i : Int)] w fun e w' => e = .returned (.int .i64 (s.at_ t i)) ∧ Below w.heap.size w w' := by
  have r1 := ok.r1; have r2 := ok.r2
  have hlt : i % s.rn < s.rn := Nat.mod_lt _ (by omega)
  have hb := ok.tb h0 h1
  have hr := ok.ro _ hlt
  have e1 : IntKind.i64.wrap (t * s.st) = t * s.st := IntWalk.i64_in _ (by omega)
  have e2 : IntKind.i64.wrap (t * s.st + s.rf (i % s.rn)) = t * s.st + s.rf (i % s.rn) := IntWalk.i64_in _ (by omega)
  have e3 : (i : Int).tmod (s.rn : Int) = ((i % s.rn : Nat) : Int) := by rw [Int.tmod_eq_emod_of_nonneg (by omega)]; omega
  have c1 := hz.ce _ hlt; have c3 := hz.lt _ hlt; have c4 := @Ints.ix _ _ _ _ _ s.rc _ hz _ hlt
  rw [Int.natCast_emod] at e3
  have c4' : ∀ w', (Instr.indexAt 28 (.slice s.ra s.rn s.rc) (.int .i64 ((i : Int) % (s.rn : Int)))).run Try.prog w' = .ok (.pointer (some ⟨s.rb, s.ro + i % s.rn, none⟩)) w' := by intro w'; rw [← Int.natCast_emod]; exact c4 w'
  clear c4
  have hrn : ¬ s.rn = 0 := by omega
  have hrn2 : ((s.rn : Int) == 0) = false := by simpa using hrn
  clear ok hb hr hlt
  go_enter Try.func59, Try.ntmps59
  go_wp2_with fail
  go_quiet (fail)
  go_wp2
  go_returns
  exact ⟨rfl, by (repeat' (first | (with_reducible exact Below.refl _ _) | (with_reducible assumption) | (with_reducible refine Below.alloc ?_ ?_ _) | (with_reducible refine Below.drew ?_) | (with_reducible refine below_drewN ?_ _) | (with_reducible refine Below.setCell ?_ ?_ _) | (with_reducible refine Below.trans ?_ (Below.mono (by with_reducible assumption) ?_)) | go_size))⟩
end Go.Proofs.Ytkafjlhmbiaicaa

/- Stage 2: the closure that tells whether a wedge agrees with a position. -/
set_option linter.unusedSimpArgs false
set_option linter.unusedVariables false
namespace Go.Proofs.Ytkafjlhmbiaicaa
open Go.RowKit

/-- The cells that the closure has captured. -/
structure AgC (s : Sv) (g : Wg) (i base : Nat) (w : World) (t h u : Nat) : Prop where
  t1 : base ≤ t
  h1 : base ≤ h
  u1 : base ≤ u
  t2 : t < w.heap.size
  h2 : h < w.heap.size
  u2 : u < w.heap.size
  ct : w.cell? ⟨t, 0, none⟩ = some (.int .i64 (s.at_ (trk (g.wc i).toNat) i))
  c1 : w.cell? ⟨h, 1, none⟩ = some (.int .i64 s.st)
  c3 : w.cell? ⟨h, 3, none⟩ = some (.int .i64 s.no)
  cu : w.cell? ⟨u, 1, none⟩ = some (.int .i64 (g.wu i))
  ag : ∀ p : Nat, agr s g i p = true ↔ ((-s.st ≤ 2 * ((p : Int) - s.at_ (trk (g.wc i).toNat) i) ∧ 2 * ((p : Int) - s.at_ (trk (g.wc i).toNat) i) ≤ s.st) ∧ (-s.no ≤ g.wu i - ((p : Int) - s.at_ (trk (g.wc i).toNat) i) ∧ g.wu i - ((p : Int) - s.at_ (trk (g.wc i).toNat) i) ≤ s.no))
  bd : -16 ≤ s.at_ (trk (g.wc i).toNat) i ∧ s.at_ (trk (g.wc i).toNat) i ≤ 1024
  bu : -100 ≤ g.wu i ∧ g.wu i ≤ 100
theorem AgC.below {s : Sv} {g : Wg} {i base : Nat} {w w' : World} {B t h u : Nat} (a : AgC s g i base w t h u) (hb : Below B w w') (hB : w.heap.size ≤ B) : AgC s g i base w' t h u := by
  have k : ∀ b o, b < w.heap.size → w'.cell? ⟨b, o, none⟩ = w.cell? ⟨b, o, none⟩ := fun b o h => hb.cell (p := ⟨b, o, none⟩) (by show b < B; omega)
  have hs := hb.size
  exact ⟨a.t1, a.h1, a.u1, by have := a.t2; omega, by have := a.h2; omega, by have := a.u2; omega, (k _ _ a.t2).trans a.ct, (k _ _ a.h2).trans a.c1, (k _ _ a.h2).trans a.c3, (k _ _ a.u2).trans a.cu, a.ag, a.bd, a.bu⟩
theorem AgC.setCell {s : Sv} {g : Wg} {i base : Nat} {w : World} {t h u : Nat} (a : AgC s g i base w t h u) {x : Addr} (hx : x.block ≠ t ∧ x.block ≠ h ∧ x.block ≠ u) (v : Value) : AgC s g i base (w.setCell x v) t h u := by
  have k : ∀ b o, b ≠ x.block → (w.setCell x v).cell? ⟨b, o, none⟩ = w.cell? ⟨b, o, none⟩ := fun b o h => World.cell?_of_block (w := w) (Below.heap_setCell w x v b h)
  exact ⟨a.t1, a.h1, a.u1, by simpa using a.t2, by simpa using a.h2, by simpa using a.u2, (k _ _ (fun e => hx.1 e.symm)).trans a.ct, (k _ _ (fun e => hx.2.1 e.symm)).trans a.c1, (k _ _ (fun e => hx.2.1 e.symm)).trans a.c3, (k _ _ (fun e => hx.2.2 e.symm)).trans a.cu, a.ag, a.bd, a.bu⟩
/-- The closure, in its three forms. -/
def AgF (s : Sv) (g : Wg) (i base : Nat) (w : World) (v : Value) : Prop :=
  (v = .func (.func 73) #[] #[] ∧ ∀ p, agr s g i p = true) ∨ (v = .func (.func 74) #[] #[] ∧ ∀ p, agr s g i p = false) ∨
  ∃ t h u : Nat, v = .func (.func 75) #[] #[.pointer (some ⟨t, 0, none⟩), .pointer (some ⟨h, 0, none⟩), .pointer (some ⟨u, 0, none⟩)] ∧ AgC s g i base w t h u

set_option maxHeartbeats 400000 in
theorem c73 (p : Int) (w : World) : Calls Try.prog 73 #[.int .i64 p] w fun e w' => e = .returned (.bool true) ∧ w = w' := by
  go_enter Try.func73, Try.ntmps73
  go_wp2
  go_ret
  exact ⟨rfl, rfl⟩
set_option maxHeartbeats 400000 in
theorem c74 (p : Int) (w : World) : Calls Try.prog 74 #[.int .i64 p] w fun e w' => e = .returned (.bool false) ∧ w = w' := by
  go_enter Try.func74, Try.ntmps74
  go_wp2
  go_ret
  exact ⟨rfl, rfl⟩
set_option maxHeartbeats 400000 in
theorem c75y {s : Sv} {g : Wg} {i base : Nat} {w : World} {t h u : Nat} (a : AgC s g i base w t h u) (ok : s.Ok) (p : Nat) (hp : p ≤ 1009) (y : agr s g i p = true) :
    Calls Try.prog 75 #[.int .i64 (p : Int), .pointer (some ⟨t, 0, none⟩), .pointer (some ⟨h, 0, none⟩), .pointer (some ⟨u, 0, none⟩)] w fun e w' => e = .returned (.bool true) ∧ w = w' := by
  have hy := (a.ag p).1 y
  have k1 := a.ct; have k2 := a.c1; have k3 := a.c3; have k4 := a.cu
  have s1 := ok.s1; have s2 := ok.s2; have n0 := ok.n0; have n1 := ok.n1
  have hb := a.bd; have hu := a.bu
  obtain ⟨x, hx⟩ : ∃ x, x = s.at_ (trk (g.wc i).toNat) i := ⟨_, rfl⟩
  rw [← hx] at hy hb k1
  clear hx a ok
  have hyh := hid hy
  clear hy y
  go_enter Try.func75, Try.ntmps75
  go_wp2_with (go_at_call 46; refine (c46y _ (by have := hyh.out; omega)).mono ?_; rintro e w' ⟨rfl, rfl⟩)
  go_returns
  exact ⟨rfl, rfl⟩
set_option maxHeartbeats 400000 in
theorem c75n {s : Sv} {g : Wg} {i base : Nat} {w : World} {t h u : Nat} (a : AgC s g i base w t h u) (ok : s.Ok) (p : Nat) (hp : p ≤ 1009) (y : agr s g i p = false) :
    Calls Try.prog 75 #[.int .i64 (p : Int), .pointer (some ⟨t, 0, none⟩), .pointer (some ⟨h, 0, none⟩), .pointer (some ⟨u, 0, none⟩)] w fun e w' => e = .returned (.bool false) ∧ w = w' := by
  have hy := mt (a.ag p).2 (by rw [y]; simp)
  have k1 := a.ct; have k2 := a.c1; have k3 := a.c3; have k4 := a.cu
  have s1 := ok.s1; have s2 := ok.s2; have n0 := ok.n0; have n1 := ok.n1
  have hb := a.bd; have hu := a.bu
  obtain ⟨x, hx⟩ : ∃ x, x = s.at_ (trk (g.wc i).toNat) i := ⟨_, rfl⟩
  rw [← hx] at hy hb k1
  clear hx a ok y
  by_cases hy1 : -s.st ≤ 2 * ((p : Int) - x) ∧ 2 * ((p : Int) - x) ≤ s.st
  · have hy2 : ¬ (-s.no ≤ g.wu i - ((p : Int) - x) ∧ g.wu i - ((p : Int) - x) ≤ s.no) := fun h => hy ⟨hy1, h⟩
    have h1 := hid hy1
    have h2 := hid hy2
    clear hy hy1 hy2
    go_enter Try.func75, Try.ntmps75
    go_wp2_with (first | (go_at_call 46; refine (c46y _ (by have := h1.out; omega)).mono ?_; rintro e w' ⟨rfl, rfl⟩) | (go_at_call 46; refine (c46n _ (by have := h2.out; omega)).mono ?_; rintro e w' ⟨rfl, rfl⟩))
    go_returns
    exact ⟨rfl, rfl⟩
  · have h1 := hid hy1
    clear hy hy1
    go_enter Try.func75, Try.ntmps75
    go_wp2_with (go_at_call 46; refine (c46n _ (by have := h1.out; omega)).mono ?_; rintro e w' ⟨rfl, rfl⟩)
    go_returns
    exact ⟨rfl, rfl⟩
end Go.Proofs.Ytkafjlhmbiaicaa
