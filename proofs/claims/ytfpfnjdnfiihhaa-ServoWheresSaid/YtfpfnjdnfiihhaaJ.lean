/- Stage 2: the faults with those of one wedge more. -/
import Derived.Test.YtfpfnjdnfiihhaaI
set_option linter.unusedSimpArgs false
set_option linter.unusedVariables false
namespace Go.Proofs.Ytfpfnjdnfiihhaa
open Go.RowKit

theorem RowF.ix {w : World} {b n c : Nat} {f : Nat → Int} (h : RowF w b n f) {k : Nat} (hk : k < n) (w' : World) :
    (Instr.indexAt 28 (.slice (some ⟨b, 0, none⟩) n c) (.int .i64 k)).run Try.prog w' = .ok (.pointer (some ⟨b, k, none⟩)) w' := by
  have := @Ints.ix _ _ _ _ _ c _ h.ints k hk w'
  rwa [Nat.zero_add] at this
theorem grown_set {w w' : World} {g : Nat} (h : w.grownBy w' (some g)) (i : Nat) (v : Value) : w.grownBy (w'.setCell ⟨g, i, none⟩ v) (some g) :=
  ⟨h.os, h.tape, h.output, by simpa [World.setCell] using h.size, fun k hk hne => (Below.heap_setCell w' ⟨g, i, none⟩ v k (by rintro rfl; exact hne rfl)).trans (h.block k hk hne)⟩
theorem AgC.grown {s : Sv} {g : Wg} {i base : Nat} {w w' : World} {x t h u : Nat} (a : AgC s g i base w t h u) (hg : w.grownBy w' (some x)) (hx : x < base) : AgC s g i base w' t h u := by
  have k : ∀ b o, b < w.heap.size → base ≤ b → w'.cell? ⟨b, o, none⟩ = w.cell? ⟨b, o, none⟩ := fun b o h h2 => World.cell?_of_block (w := w) (hg.block b h (by intro e; injection e with e; omega))
  have hs := hg.size
  exact ⟨a.t1, a.h1, a.u1, by have := a.t2; omega, by have := a.h2; omega, by have := a.u2; omega, (k _ _ a.t2 a.t1).trans a.ct, (k _ _ a.h2 a.h1).trans a.c1, (k _ _ a.h2 a.h1).trans a.c3, (k _ _ a.u2 a.u1).trans a.cu, a.ag, a.bd, a.bu⟩
theorem below_grown {w w1 w2 : World} {B g : Nat} (h : Below B w w1) (hg : w1.grownBy w2 (some g)) (hB : B ≤ w1.heap.size) (hb : B ≤ g) : Below B w w2 :=
  h.grown hg hB (fun k e => by injection e with e; omega)
/-- The numbers, up to k judged. -/
def mix (k : Nat) (a b : Nat → Int) (q : Nat) : Int := if q < k then a q else b q
theorem mix_at {k : Nat} {a b : Nat → Int} : mix k a b k = b k := by simp [mix]
theorem mix_zero (a b : Nat → Int) (q : Nat) : mix 0 a b q = b q := by simp [mix]
theorem mix_all {n : Nat} {a b : Nat → Int} {q : Nat} (h : q < n) : mix n a b q = a q := by simp [mix, h]
theorem mix_step {k : Nat} {a b : Nat → Int} (q : Nat) : (if q = k then a k else mix k a b q) = mix (k + 1) a b q := by
  unfold mix
  by_cases h : q = k
  · subst h; simp
  · rw [if_neg h]
    by_cases h2 : q < k
    · rw [if_pos h2, if_pos (by omega)]
    · rw [if_neg h2, if_neg (by omega)]
theorem mix_skip {k : Nat} {a b : Nat → Int} (h : a k = b k) (q : Nat) : mix k a b q = mix (k + 1) a b q := by
  rw [← mix_step]
  by_cases e : q = k
  · subst e; rw [if_pos rfl, mix_at, h]
  · rw [if_neg e]
theorem jdg_yes {ag : Nat → Bool} {f : Nat → Int} {k : Nat} (h : ag k = true) : jdg ag f k = f k := by simp [jdg, h]
theorem jdg_no {ag : Nat → Bool} {f : Nat → Int} {k : Nat} (h : ag k = false) : jdg ag f k = f k + 1 := by simp [jdg, h]

set_option maxRecDepth 100000 in
set_option maxHeartbeats 2000000 in
theorem c71 (s : Sv) (g : Wg) (b c i : Nat) (f : Nat → Int) (w : World) (hz : s.In w) (hg : g.In w) (ok : s.Ok) (okg : g.Ok) (hi : i < g.wn) (hR : RowF w b s.N f) (hf : ∀ p, p < s.N → 0 ≤ f p ∧ f p ≤ 100) :
    Calls Try.prog 71 #[hdv s g, .slice (some ⟨b, 0, none⟩) s.N c, .int .i64 (i : Int)] w (IRet s.N (jdg (agr s g i) f) w) := by
  have hN := ok.Nb
  have hN1 := hN.1; have hN2 := hN.2.1
  obtain ⟨n, hn⟩ : ∃ n, n = s.N := ⟨_, rfl⟩
  rw [← hn] at hR hf hN1 hN2 ⊢
  have okh := hid ok
  have okgh := hid okg
  have hRh := hid hR
  have hfh := hid hf
  clear hN ok okg hn hR hf
  have hB0 : Below w.heap.size w (w.alloc (.cells #[.int .i64 s.tr, .int .i64 s.st, .int .i64 s.mv, .int .i64 s.no, .int .i64 s.wr, .slice s.ra s.rn s.rc, .slice g.wa g.wn g.wk] 75)) := by (repeat' (first | (with_reducible exact Below.refl _ _) | (with_reducible assumption) | (with_reducible refine Below.alloc ?_ ?_ _) | (with_reducible refine Below.drew ?_) | (with_reducible refine below_drewN ?_ _) | (with_reducible refine Below.setCell ?_ ?_ _) | (with_reducible refine Below.trans ?_ (Below.mono (by with_reducible assumption) ?_)) | go_size))
  go_enter Try.func71, Try.ntmps71
  go_wp2_with (first | (go_at_call 82; refine (c82 b 0 n c f _ (hRh.out.below hB0 hRh.out.lt).ints (by omega) (by omega)).mono ?_; rintro e w1 ⟨gj, cj, rfl, hge, hcj, hRj, hB1⟩; have hRjh := hid hRj; clear hRj; obtain ⟨hc1, hf1⟩ := bcell (hB1.mono (show w.heap.size + 1 ≤ _ by simp)); have hz1 : w.heap.size < w1.heap.size := (by have := hB1.size; simp at this; omega); have hgj : w.heap.size < gj := (by simp at hge; omega); have hgjl := hRjh.out.lt) | (go_at_call 51; refine (c51 s g i _ (hz.below (hB0.trans (hB1.mono (by simp))) (Nat.le_refl _)) (hg.below (hB0.trans (hB1.mono (by simp))) (Nat.le_refl _)) okh.out okgh.out hi).mono ?_; rintro e w2 ⟨v, rfl, (⟨rfl, hag⟩ | ⟨rfl, hag⟩ | ⟨t, h, u, rfl, ha⟩), hB2⟩))
  all_goals
    have hBw : Below w.heap.size w w2 := (hB0.trans (hB1.mono (by simp))).trans (hB2.mono (by omega))
    have hR2 := hid (hRjh.out.below hB2 hgjl)
    (try have hagh := hid hag)
    (try clear hag)
    (try have hah := hid ha)
    (try clear ha)
    clear hRjh hc1 hf1 hB1 hB2 hRh hB0
    go_loopw [9, 17] (fun _ iv wr => ∃ k : Nat, k ≤ n ∧ iv = .int .i64 k ∧ RowF wr gj n (mix k (jdg (agr s g i) f) f) ∧ w2.grownBy wr (some gj)) (fun _ iv _ => n - (intOf iv).toNat)
    case atStart => exact ⟨0, Nat.zero_le _, rfl, hR2.out.congr (fun q _ => (mix_zero _ _ q).symm), World.grownBy.refl _ _⟩
    case round =>
      obtain ⟨k, hk, rfl, hRk, hgr⟩ := hrel
      have hBwr : Below w.heap.size w wr := below_grown hBw hgr hBw.size (by omega)
      by_cases hlt : k < n
      · have h1 := hRk.cell hlt
        have h2 := hRk.frozen k
        have h3 := hRk.lt
        have h4 := @RowF.ix _ _ _ cj _ hRk _ hlt
        rw [mix_at] at h1
        have hfk := hfh.out k hlt
        have hRkh := hid hRk
        clear hRk
        cases hagk : agr s g i k with
        | true =>
          have hagkh := hid hagk
          clear hagk
          go_wp2_with (first | (go_at_call 73; refine (c73 _ _).mono ?_; rintro e w' ⟨rfl, rfl⟩) | (go_at_call 74; exact absurd (hagh.out k) (by rw [hagkh.out]; simp)) | (go_at_call 75; refine (c75y (hah.out.grown hgr (by omega)) okh.out k (by omega) hagkh.out).mono ?_; rintro e w' ⟨rfl, rfl⟩))
          all_goals
            go_roundw
            case rel => exact ⟨k + 1, by omega, by go_num, hRkh.out.congr (fun q _ => mix_skip (jdg_yes hagkh.out) q), hgr⟩
            case measure => simp [intOf]; omega
        | false =>
          have hagkh := hid hagk
          clear hagk
          go_wp2_with (first | (go_at_call 73; exact absurd (hagh.out k) (by rw [hagkh.out]; simp)) | (go_at_call 74; refine (c74 _ _).mono ?_; rintro e w' ⟨rfl, rfl⟩) | (go_at_call 75; refine (c75n (hah.out.grown hgr (by omega)) okh.out k (by omega) hagkh.out).mono ?_; rintro e w' ⟨rfl, rfl⟩))
          all_goals
            go_roundw
            case rel => exact ⟨k + 1, by omega, by go_num, (hRkh.out.set k (f k + 1)).congr (fun q _ => by rw [← mix_step, jdg_no hagkh.out]), grown_set hgr _ _⟩
            case measure => simp [intOf]; omega
      · have hRkh := hid hRk
        clear hRk
        go_wp2_with fail
        go_returns
        obtain rfl : k = n := by omega
        exact ⟨gj, cj, rfl, by omega, hcj, hRkh.out.congr (fun q hq => mix_all hq), hBwr⟩
end Go.Proofs.Ytfpfnjdnfiihhaa
