/- Texts put together: I, J, K, L. -/
import Derived.Test.YtkafjlhmbiaicaaG02
import Derived.Deep.RegionHeld3
/- Stage 2: the closure is handed back. -/
set_option linter.unusedSimpArgs false
set_option linter.unusedVariables false
namespace Go.Proofs.Ytkafjlhmbiaicaa
open Go.RowKit

/-- A closure is handed back that tells whether the wedge i agrees. -/
def AgRet (s : Sv) (g : Wg) (i : Nat) (w : World) (e : Ending) (w' : World) : Prop := ∃ v, e = .returned v ∧ AgF s g i w.heap.size w' v ∧ Below w.heap.size w w'

theorem agr_nothing {s : Sv} {g : Wg} {i : Nat} (h : g.wc i = -1) (p : Nat) : agr s g i p = true := by simp [agr, h]
theorem agr_other {s : Sv} {g : Wg} {i : Nat} (h : ¬ g.wc i = -1) (h2 : ¬ (trk (g.wc i).toNat : Int) < s.tr) (p : Nat) : agr s g i p = false := by
  unfold agr
  rw [decide_eq_false h, decide_eq_false h2]; rfl
theorem agr_iff {s : Sv} {g : Wg} {i : Nat} (h : ¬ g.wc i = -1) (h2 : (trk (g.wc i).toNat : Int) < s.tr) (p : Nat) : agr s g i p = true ↔ ((-s.st ≤ 2 * ((p : Int) - s.at_ (trk (g.wc i).toNat) i) ∧ 2 * ((p : Int) - s.at_ (trk (g.wc i).toNat) i) ≤ s.st) ∧ (-s.no ≤ g.wu i - ((p : Int) - s.at_ (trk (g.wc i).toNat) i) ∧ g.wu i - ((p : Int) - s.at_ (trk (g.wc i).toNat) i) ≤ s.no)) := by
  unfold agr
  rw [decide_eq_false h, decide_eq_true h2]
  simp only [Bool.false_or, Bool.true_and, Bool.and_eq_true, decide_eq_true_eq]
theorem Sv.Ok.atb {s : Sv} (ok : s.Ok) {t : Int} (h0 : 0 ≤ t) (h1 : t < s.tr) (i : Nat) : -16 ≤ s.at_ t i ∧ s.at_ t i ≤ 1024 := by
  have h2 := ok.tb h0 h1
  have h3 := ok.ro (i % s.rn) (Nat.mod_lt _ (by have := ok.r1; omega))
  unfold Sv.at_
  omega

set_option maxHeartbeats 1000000 in
theorem c51 (s : Sv) (g : Wg) (i : Nat) (w : World) (hz : s.In w) (hg : g.In w) (ok : s.Ok) (okg : g.Ok) (hi : i < g.wn) :
    Calls Try.prog 51 #[hdv s g, .int .i64 (i : Int)] w (AgRet s g i w) := by
  have hn := okg.n2
  have hc := okg.c i hi
  have hu := okg.u i hi
  have h1 := hg.c1 i hi; have h2 := hg.c2 i hi; have h3 := hg.lt i hi; have h4 := @Weds.ix _ _ _ _ _ g.wk _ _ hg _ hi
  by_cases hm : g.wc i = -1
  · have hag := hid (agr_nothing (s := s) hm)
    rw [hm] at h1
    clear hm hc okg ok
    go_enter Try.func51, Try.ntmps51
    go_wp2_with fail
    go_returns
    exact ⟨_, rfl, .inl ⟨rfl, hag.out⟩, by (repeat' (first | (with_reducible exact Below.refl _ _) | (with_reducible assumption) | (with_reducible refine Below.alloc ?_ ?_ _) | (with_reducible refine Below.drew ?_) | (with_reducible refine below_drewN ?_ _) | (with_reducible refine Below.setCell ?_ ?_ _) | (with_reducible refine Below.trans ?_ (Below.mono (by with_reducible assumption) ?_)) | go_size))⟩
  · obtain ⟨k, hk⟩ : ∃ k : Nat, g.wc i = k := ⟨(g.wc i).toNat, by omega⟩
    have hkt : (g.wc i).toNat = k := by omega
    rw [hk] at h1
    have hk1 : k < 128 := by omega
    by_cases ht : (trk k : Int) < s.tr
    · have hag := hid (agr_iff hm (by rw [hkt]; exact ht))
      have hbt := ok.atb (by omega) ht i
      obtain ⟨x, hx⟩ : ∃ x, x = s.at_ (trk k) i := ⟨_, rfl⟩
      have hxh := hid hx
      have hkth := hid hkt
      have okh := hid ok
      rw [← hx] at hbt
      clear hm hk hkt hc okg ok hx
      obtain ⟨W0, hW0⟩ : ∃ W0 : World, W0 = (w.alloc (.cells #[.int .i64 s.tr, .int .i64 s.st, .int .i64 s.mv, .int .i64 s.no, .int .i64 s.wr, .slice s.ra s.rn s.rc, .slice g.wa g.wn g.wk] 75)).alloc (.cells #[.int .i64 k, .int .i64 (g.wu i)] 46) := ⟨_, rfl⟩
      have hB0 : Below w.heap.size w W0 := by rw [hW0]; (repeat' (first | (with_reducible exact Below.refl _ _) | (with_reducible assumption) | (with_reducible refine Below.alloc ?_ ?_ _) | (with_reducible refine Below.drew ?_) | (with_reducible refine below_drewN ?_ _) | (with_reducible refine Below.setCell ?_ ?_ _) | (with_reducible refine Below.trans ?_ (Below.mono (by with_reducible assumption) ?_)) | go_size))
      have hs0 : W0.heap.size = w.heap.size + 2 := by rw [hW0]; simp
      go_enter Try.func51, Try.ntmps51
      go_wp2_with (first | (go_at_call 15; refine (c15 k hk1 _).mono ?_; rintro e w' ⟨rfl, rfl⟩) | (go_at_call 59; refine (c59 s g (trk k) i _ (hz.below (by rw [← hW0]; exact hB0) (Nat.le_refl _)) okh.out (by omega) ht (by omega)).mono ?_; rintro e w1 ⟨rfl, hB1⟩; rw [← hxh.out]; rw [← hW0] at hB1; obtain ⟨hc1, hf1⟩ := bcell (hB1.mono (show w.heap.size + 2 ≤ _ by omega)); have hz1 : w.heap.size + 1 < w1.heap.size := (by have := hB1.size; omega); rw [hW0] at hc1 hf1))
      have k2 : w1.cell? ⟨w.heap.size, 1, none⟩ = some (.int .i64 s.st) := by rw [hc1 _ _ (by omega)]; simp
      have k3 : w1.cell? ⟨w.heap.size, 3, none⟩ = some (.int .i64 s.no) := by rw [hc1 _ _ (by omega)]; simp
      have k4 : w1.cell? ⟨w.heap.size + 1, 1, none⟩ = some (.int .i64 (g.wu i)) := by rw [hc1 _ _ (by omega)]; simp
      have hBx : Below w.heap.size w w1 := hB0.trans (hB1.mono (by omega))
      clear hc1 hf1
      go_returns
      refine ⟨_, rfl, .inr (.inr ⟨_, _, _, rfl, ?_⟩), by (repeat' (first | (with_reducible exact Below.refl _ _) | (with_reducible assumption) | (with_reducible refine Below.alloc ?_ ?_ _) | (with_reducible refine Below.drew ?_) | (with_reducible refine below_drewN ?_ _) | (with_reducible refine Below.setCell ?_ ?_ _) | (with_reducible refine Below.trans ?_ (Below.mono (by with_reducible assumption) ?_)) | go_size))⟩
      rw [hkth.out] at hag
      have hag' := hag.out
      rw [← hxh.out] at hag'
      refine ⟨by have := hBx.size; omega, Nat.le_refl _, by omega, by simp, by simp; omega, by simp; omega, ?_, ?_, ?_, ?_, ?_, ?_, hu⟩
      · rw [hkth.out, ← hxh.out]; simp
      · exact (World.cell?_alloc_lt _ _ _ (by show w.heap.size < w1.heap.size; omega)).trans k2
      · exact (World.cell?_alloc_lt _ _ _ (by show w.heap.size < w1.heap.size; omega)).trans k3
      · exact (World.cell?_alloc_lt _ _ _ (by show w.heap.size + 1 < w1.heap.size; omega)).trans k4
      · rw [hkth.out, ← hxh.out]; exact hag'
      · rw [hkth.out, ← hxh.out]; exact hbt
    · have hag := hid (agr_other (s := s) hm (by rw [hkt]; exact ht))
      clear hm hk hkt hc okg ok
      go_enter Try.func51, Try.ntmps51
      go_wp2_with (go_at_call 15; refine (c15 k hk1 _).mono ?_; rintro e w' ⟨rfl, rfl⟩)
      go_returns
      exact ⟨_, rfl, .inr (.inl ⟨rfl, hag.out⟩), by (repeat' (first | (with_reducible exact Below.refl _ _) | (with_reducible assumption) | (with_reducible refine Below.alloc ?_ ?_ _) | (with_reducible refine Below.drew ?_) | (with_reducible refine below_drewN ?_ _) | (with_reducible refine Below.setCell ?_ ?_ _) | (with_reducible refine Below.trans ?_ (Below.mono (by with_reducible assumption) ?_)) | go_size))⟩
end Go.Proofs.Ytkafjlhmbiaicaa

/- Stage 2: the faults with those of one wedge more. -/
set_option linter.unusedSimpArgs false
set_option linter.unusedVariables false
namespace Go.Proofs.Ytkafjlhmbiaicaa
open Go.RowKit

theorem RowF.ix {w : World} {b n c : Nat} {f : Nat → Int} (h : RowF w b n f) {k : Nat} (hk : k < n) (w' : World) :
    (Instr.indexAt 28 (.slice (some ⟨b, 0, none⟩) n c) (.int .i64 k)).run Try.prog w' = .ok (.pointer (some ⟨b, k, none⟩)) w' := by
  have := @Ints.ix _ _ _ _ _ c _ h.ints k hk w'
  rwa [Nat.zero_add] at this
theorem grown_set {w w' : World} {g : Nat} (h : w.grownBy w' (some g)) (i : Nat) (v : Value) : w.grownBy (w'.setCell ⟨g, i, none⟩ v) (some g) :=
  ⟨h.os, h.tape, h.output, by simpa [World.setCell] using h.size, fun k hk hne => (Below.heap_setCell w' ⟨g, i, none⟩ v k (by rintro rfl; exact hne rfl)).trans (h.block k hk hne)⟩
theorem AgC.grown {s : Sv} {g : Wg} {i base : Nat} {w w' : World} {x t h u : Nat} (a : AgC s g i base w t h u) (hg : w.grownBy w' (some x)) (hx : x < base) : AgC s g i base w' t h u := by
  have k : ∀ b o, b < w.heap.size → base ≤ b → w'.cell? ⟨b, o, none⟩ = w.cell? ⟨b, o, none⟩ := fun b o h h2 => World.cell?_of_block (w := w) (hg.block b h (by intro e; injection e with e; omega))
  have hs := hg.size
  exact ⟨a.t1, a.h1, a.u1, by have := a.t2; omega, by have := a.h2; omega, by have := a.u2; omega, (k _ _ a.t2 a.t1).trans a.ct, (k _ _ a.h2 a.h1).trans a.c1, (k _ _ a.h2 a.h1).trans a.c3, (k _ _ a.u2 a.u1).trans a.cu, a.ag, a.bd, a.bu⟩
theorem below_grown {w w1 w2 : World} {B g : Nat} (h : Below B w w1) (hg : w1.grownBy w2 (some g)) (hB : B ≤ w1.heap.size) (hb : B ≤ g) : Below B w w2 :=
  h.grown hg hB (fun k e => by injection e with e; omega)
/-- The numbers, up to k judged. -/
def mix (k : Nat) (a b : Nat → Int) (q : Nat) : Int := if q < k then a q else b q
theorem mix_at {k : Nat} {a b : Nat → Int} : mix k a b k = b k := by simp [mix]
theorem mix_zero (a b : Nat → Int) (q : Nat) : mix 0 a b q = b q := by simp [mix]
theorem mix_all {n : Nat} {a b : Nat → Int} {q : Nat} (h : q < n) : mix n a b q = a q := by simp [mix, h]
theorem mix_step {k : Nat} {a b : Nat → Int} (q : Nat) : (if q = k then a k else mix k a b q) = mix (k + 1) a b q := by
  unfold mix
  by_cases h : q = k
  · subst h; simp
  · rw [if_neg h]
    by_cases h2 : q < k
    · rw [if_pos h2, if_pos (by omega)]
    · rw [if_neg h2, if_neg (by omega)]
theorem mix_skip {k : Nat} {a b : Nat → Int} (h : a k = b k) (q : Nat) : mix k a b q = mix (k + 1) a b q := by
  rw [← mix_step]
  by_cases e : q = k
  · subst e; rw [if_pos rfl, mix_at, h]
  · rw [if_neg e]
theorem jdg_yes {ag : Nat → Bool} {f : Nat → Int} {k : Nat} (h : ag k = true) : jdg ag f k = f k := by simp [jdg, h]
theorem jdg_no {ag : Nat → Bool} {f : Nat → Int} {k : Nat} (h : ag k = false) : jdg ag f k = f k + 1 := by simp [jdg, h]

set_option maxRecDepth 100000 in
set_option maxHeartbeats 2000000 in
theorem c71 (s : Sv) (g : Wg) (b c i : Nat) (f : Nat → Int) (w : World) (hz : s.In w) (hg : g.In w) (ok : s.Ok) (okg : g.Ok) (hi : i < g.wn) (hR : RowF w b s.N f) (hf : ∀ p, p < s.N → 0 ≤ f p ∧ f p ≤ 100) :
    Calls Try.prog 71 #[hdv s g, .slice (some ⟨b, 0, none⟩) s.N c, .int .i64 (i : Int)] w (IRet s.N (jdg (agr s g i) f) w) := by
  have hN := ok.Nb
  have hN1 := hN.1; have hN2 := hN.2.1
  obtain ⟨n, hn⟩ : ∃ n, n = s.N := ⟨_, rfl⟩
  rw [← hn] at hR hf hN1 hN2 ⊢
  have okh := hid ok
  have okgh := hid okg
  have hRh := hid hR
  have hfh := hid hf
  clear hN ok okg hn hR hf
  have hB0 : Below w.heap.size w (w.alloc (.cells #[.int .i64 s.tr, .int .i64 s.st, .int .i64 s.mv, .int .i64 s.no, .int .i64 s.wr, .slice s.ra s.rn s.rc, .slice g.wa g.wn g.wk] 75)) := by (repeat' (first | (with_reducible exact Below.refl _ _) | (with_reducible assumption) | (with_reducible refine Below.alloc ?_ ?_ _) | (with_reducible refine Below.drew ?_) | (with_reducible refine below_drewN ?_ _) | (with_reducible refine Below.setCell ?_ ?_ _) | (with_reducible refine Below.trans ?_ (Below.mono (by with_reducible assumption) ?_)) | go_size))
  go_enter Try.func71, Try.ntmps71
  go_wp2_with (first | (go_at_call 82; refine (c82 b 0 n c f _ (hRh.out.below hB0 hRh.out.lt).ints (by omega) (by omega)).mono ?_; rintro e w1 ⟨gj, cj, rfl, hge, hcj, hRj, hB1⟩; have hRjh := hid hRj; clear hRj; obtain ⟨hc1, hf1⟩ := bcell (hB1.mono (show w.heap.size + 1 ≤ _ by simp)); have hz1 : w.heap.size < w1.heap.size := (by have := hB1.size; simp at this; omega); have hgj : w.heap.size < gj := (by simp at hge; omega); have hgjl := hRjh.out.lt) | (go_at_call 51; refine (c51 s g i _ (hz.below (hB0.trans (hB1.mono (by simp))) (Nat.le_refl _)) (hg.below (hB0.trans (hB1.mono (by simp))) (Nat.le_refl _)) okh.out okgh.out hi).mono ?_; rintro e w2 ⟨v, rfl, (⟨rfl, hag⟩ | ⟨rfl, hag⟩ | ⟨t, h, u, rfl, ha⟩), hB2⟩))
  all_goals
    have hBw : Below w.heap.size w w2 := (hB0.trans (hB1.mono (by simp))).trans (hB2.mono (by omega))
    have hR2 := hid (hRjh.out.below hB2 hgjl)
    (try have hagh := hid hag)
    (try clear hag)
    (try have hah := hid ha)
    (try clear ha)
    clear hRjh hc1 hf1 hB1 hB2 hRh hB0
    go_loopw [9, 17] (fun _ iv wr => ∃ k : Nat, k ≤ n ∧ iv = .int .i64 k ∧ RowF wr gj n (mix k (jdg (agr s g i) f) f) ∧ w2.grownBy wr (some gj)) (fun _ iv _ => n - (intOf iv).toNat)
    case atStart => exact ⟨0, Nat.zero_le _, rfl, hR2.out.congr (fun q _ => (mix_zero _ _ q).symm), World.grownBy.refl _ _⟩
    case round =>
      obtain ⟨k, hk, rfl, hRk, hgr⟩ := hrel
      have hBwr : Below w.heap.size w wr := below_grown hBw hgr hBw.size (by omega)
      by_cases hlt : k < n
      · have h1 := hRk.cell hlt
        have h2 := hRk.frozen k
        have h3 := hRk.lt
        have h4 := @RowF.ix _ _ _ cj _ hRk _ hlt
        rw [mix_at] at h1
        have hfk := hfh.out k hlt
        have hRkh := hid hRk
        clear hRk
        cases hagk : agr s g i k with
        | true =>
          have hagkh := hid hagk
          clear hagk
          go_wp2_with (first | (go_at_call 73; refine (c73 _ _).mono ?_; rintro e w' ⟨rfl, rfl⟩) | (go_at_call 74; exact absurd (hagh.out k) (by rw [hagkh.out]; simp)) | (go_at_call 75; refine (c75y (hah.out.grown hgr (by omega)) okh.out k (by omega) hagkh.out).mono ?_; rintro e w' ⟨rfl, rfl⟩))
          all_goals
            go_roundw
            case rel => exact ⟨k + 1, by omega, by go_num, hRkh.out.congr (fun q _ => mix_skip (jdg_yes hagkh.out) q), hgr⟩
            case measure => simp [intOf]; omega
        | false =>
          have hagkh := hid hagk
          clear hagk
          go_wp2_with (first | (go_at_call 73; exact absurd (hagh.out k) (by rw [hagkh.out]; simp)) | (go_at_call 74; refine (c74 _ _).mono ?_; rintro e w' ⟨rfl, rfl⟩) | (go_at_call 75; refine (c75n (hah.out.grown hgr (by omega)) okh.out k (by omega) hagkh.out).mono ?_; rintro e w' ⟨rfl, rfl⟩))
          all_goals
            go_roundw
            case rel => exact ⟨k + 1, by omega, by go_num, (hRkh.out.set k (f k + 1)).congr (fun q _ => by rw [← mix_step, jdg_no hagkh.out]), grown_set hgr _ _⟩
            case measure => simp [intOf]; omega
      · have hRkh := hid hRk
        clear hRk
        go_wp2_with fail
        go_returns
        obtain rfl : k = n := by omega
        exact ⟨gj, cj, rfl, by omega, hcj, hRkh.out.congr (fun q hq => mix_all hq), hBwr⟩
end Go.Proofs.Ytkafjlhmbiaicaa

/- Stage 2: the faults one wedge further. -/
set_option linter.unusedSimpArgs false
set_option linter.unusedVariables false
namespace Go.Proofs.Ytkafjlhmbiaicaa
open Go.RowKit

theorem wmin_mvd {N m k lo hi : Nat} {f : Nat → Int} (h1 : lo = k - m) (h2 : hi = min (k + m + 1) N) (hk : k < N) : wmin (fun q => f (lo + q)) 0 (hi - lo - 1) = mvd N m f k := by
  unfold mvd
  rw [wmin_shift f lo, show hi - lo - 1 = min (k + m) (N - 1) - (k - m) by omega, h1]
theorem RowF.part {w : World} {b n : Nat} {f : Nat → Int} (h : RowF w b n f) {lo k : Nat} (hk : lo + k ≤ n) : Ints w (some ⟨b, lo, none⟩) b lo k (fun q => f (lo + q)) :=
  ⟨fun _ _ => rfl, fun _ _ => h.lt, fun q hq => h.cell (by omega)⟩
theorem RowF.grown {w w' : World} {b n x : Nat} {f : Nat → Int} (h : RowF w b n f) (hg : w.grownBy w' (some x)) (hb : b ≠ x) : RowF w' b n f := h.of_block (hg.block b h.lt (by intro e; injection e with e; exact hb e))
theorem c53w (b n lo L c k m : Nat) (f : Nat → Int) (w : World) (hR : RowF w b n f) (h1 : lo = k - m) (h2 : L = min (k + m + 1) n - lo) (hk : k < n) (hn : n ≤ 1009) :
    Calls Try.prog 53 #[.slice (some ⟨b, lo, none⟩) L c] w fun e w' => e = .returned (.int .i64 (mvd n m f k)) ∧ w = w' := by
  have h := c53 (some ⟨b, lo, none⟩) b lo L c (fun q => f (lo + q)) w (hR.part (by omega)) (by omega) (by omega)
  have e : wmin (fun q => f (lo + q)) 0 (L - 1) = mvd n m f k := by rw [h2]; exact wmin_mvd h1 rfl hk
  rwa [e] at h

set_option maxRecDepth 100000 in
set_option maxHeartbeats 2000000 in
theorem c56 (s : Sv) (g : Wg) (b c : Nat) (f : Nat → Int) (w : World) (ok : s.Ok) (hR : RowF w b s.N f) (hcp : s.N ≤ c) (hf : ∀ p, p < s.N → 0 ≤ f p ∧ f p ≤ 100) :
    Calls Try.prog 56 #[hdv s g, .slice (some ⟨b, 0, none⟩) s.N c] w (IRet s.N (mvd s.N s.m f) w) := by
  have hN := ok.Nb
  have hN1 := hN.1; have hN2 := hN.2.1
  obtain ⟨n, hn⟩ : ∃ n, n = s.N := ⟨_, rfl⟩
  rw [← hn] at hR hf hN1 hN2 hcp ⊢
  have hm0 := ok.m0; have hm1 := ok.m1; have hmh := hid ok.mb.1
  have hfh := hid hf
  have hmk := fun W => run_make_row' (P := Try.prog) 28 3 (.int .i64 0) 8 Try.underlying28 Try.info3 rfl .i64 .i64 n (by omega) (by omega) W
  have hB0 : Below w.heap.size w ((w.alloc (.cells #[.int .i64 s.tr, .int .i64 s.st, .int .i64 s.mv, .int .i64 s.no, .int .i64 s.wr, .slice s.ra s.rn s.rc, .slice g.wa g.wn g.wk] 75)).alloc (.cells (madeCells #[.int .i64 0] n) 3)) := by (repeat' (first | (with_reducible exact Below.refl _ _) | (with_reducible assumption) | (with_reducible refine Below.alloc ?_ ?_ _) | (with_reducible refine Below.drew ?_) | (with_reducible refine below_drewN ?_ _) | (with_reducible refine Below.setCell ?_ ?_ _) | (with_reducible refine Below.trans ?_ (Below.mono (by with_reducible assumption) ?_)) | go_size))
  have hRh := hid (hR.below hB0 hR.lt)
  have hbl := hR.lt
  have hM : RowF ((w.alloc (.cells #[.int .i64 s.tr, .int .i64 s.st, .int .i64 s.mv, .int .i64 s.no, .int .i64 s.wr, .slice s.ra s.rn s.rc, .slice g.wa g.wn g.wk] 75)).alloc (.cells (madeCells #[.int .i64 0] n) 3)) (w.heap.size + 1) n (fun _ => 0) := by
    have := RowF.made (w.alloc (.cells #[.int .i64 s.tr, .int .i64 s.st, .int .i64 s.mv, .int .i64 s.no, .int .i64 s.wr, .slice s.ra s.rn s.rc, .slice g.wa g.wn g.wk] 75)) n
    simpa using this
  have hMh := hid hM
  clear hN ok hn hR hf hM
  go_enter Try.func56, Try.ntmps56
  go_wp2_with fail
  obtain ⟨W0, hW0⟩ : ∃ W0 : World, W0 = ((w.alloc (.cells #[.int .i64 s.tr, .int .i64 s.st, .int .i64 s.mv, .int .i64 s.no, .int .i64 s.wr, .slice s.ra s.rn s.rc, .slice g.wa g.wn g.wk] 75)).alloc (.cells (madeCells #[.int .i64 0] n) 3)) := ⟨_, rfl⟩
  rw [← hW0] at hB0 hRh hMh
  rw [← hW0]
  have hs0 : W0.heap.size = w.heap.size + 2 := by rw [hW0]; simp
  have k2 : W0.cell? ⟨w.heap.size, 2, none⟩ = some (.int .i64 s.mv) := by rw [hW0]; simp
  clear hmk
  go_loopw [6, 12] (fun _ iv wr => ∃ k : Nat, k ≤ n ∧ iv = .int .i64 k ∧ RowF wr (w.heap.size + 1) n (mix k (mvd n s.m f) (fun _ => 0)) ∧ W0.grownBy wr (some (w.heap.size + 1))) (fun _ iv _ => n - (intOf iv).toNat)
  case atStart => exact ⟨0, Nat.zero_le _, rfl, hMh.out.congr (fun q _ => (mix_zero (mvd n s.m f) (fun _ => 0) q).symm), World.grownBy.refl _ _⟩
  case round =>
    obtain ⟨k, hk, rfl, hRk, hgr⟩ := hrel
    have hBwr : Below w.heap.size w wr := below_grown hB0 hgr hB0.size (by omega)
    by_cases hlt : k < n
    · have k2' : wr.cell? ⟨w.heap.size, 2, none⟩ = some (.int .i64 s.mv) := hgr.cell k2 (by simp)
      have h0 := hRk.cell hlt
      have h2 := hRk.frozen k
      have h3 := hRk.lt
      have h4 := @RowF.ix _ _ _ n _ hRk _ hlt
      rw [mix_at] at h0
      have hRkh := hid hRk
      have hRb := hid (hRh.out.grown hgr (by omega))
      clear hRk hBwr
      by_cases ha : s.mv ≤ k <;> by_cases hb : (k : Int) + s.mv + 1 < n
      all_goals
        go_wp2_with (go_at_call 53; refine (c53w b n _ _ _ k s.m f _ hRb.out (by have := hmh.out; omega) (by have := hmh.out; omega) hlt (by omega)).mono ?_; rintro e w' ⟨rfl, rfl⟩)
        go_roundw
        case rel => exact ⟨k + 1, by omega, by go_num, (hRkh.out.set k (mvd n s.m f k)).congr (fun q _ => by rw [← mix_step]), grown_set hgr _ _⟩
        case measure => simp [intOf]; omega
    · have hRkh := hid hRk
      clear hRk
      go_wp2_with fail
      go_returns
      obtain rfl : k = n := by omega
      exact ⟨w.heap.size + 1, k, rfl, by omega, Nat.le_refl _, hRkh.out.congr (fun q hq => mix_all hq), hBwr⟩
end Go.Proofs.Ytkafjlhmbiaicaa

/- Stage 2: the faults before each wedge. -/
set_option linter.unusedSimpArgs false
set_option linter.unusedVariables false
namespace Go.Proofs.Ytkafjlhmbiaicaa
open Go.RowKit

/-- The head's box. -/
def Hbx (s : Sv) (g : Wg) (w : World) (b : Nat) : Prop := w.cell? ⟨b, 0, none⟩ = some (.int .i64 s.tr) ∧ w.cell? ⟨b, 1, none⟩ = some (.int .i64 s.st) ∧ w.cell? ⟨b, 2, none⟩ = some (.int .i64 s.mv) ∧ w.cell? ⟨b, 3, none⟩ = some (.int .i64 s.no) ∧ w.cell? ⟨b, 4, none⟩ = some (.int .i64 s.wr) ∧ w.cell? ⟨b, 5, none⟩ = some (.slice s.ra s.rn s.rc) ∧ w.cell? ⟨b, 6, none⟩ = some (.slice g.wa g.wn g.wk)
theorem Hbx.all {s : Sv} {g : Wg} {w : World} {b : Nat} (h : Hbx s g w b) : w.cell? ⟨b, 0, none⟩ = some (.int .i64 s.tr) ∧ w.cell? ⟨b, 1, none⟩ = some (.int .i64 s.st) ∧ w.cell? ⟨b, 2, none⟩ = some (.int .i64 s.mv) ∧ w.cell? ⟨b, 3, none⟩ = some (.int .i64 s.no) ∧ w.cell? ⟨b, 4, none⟩ = some (.int .i64 s.wr) ∧ w.cell? ⟨b, 5, none⟩ = some (.slice s.ra s.rn s.rc) ∧ w.cell? ⟨b, 6, none⟩ = some (.slice g.wa g.wn g.wk) := h
theorem Hbx.keep {s : Sv} {g : Wg} {w w' : World} {b : Nat} (h : Hbx s g w b) (k : ∀ o, w'.cell? ⟨b, o, none⟩ = w.cell? ⟨b, o, none⟩) : Hbx s g w' b := by
  obtain ⟨b0, b1, b2, b3, b4, b5, b6⟩ := h
  exact ⟨(k _).trans b0, (k _).trans b1, (k _).trans b2, (k _).trans b3, (k _).trans b4, (k _).trans b5, (k _).trans b6⟩
theorem Hbx.below {s : Sv} {g : Wg} {w w' : World} {b B : Nat} (h : Hbx s g w b) (hb : Below B w w') (hB : b < B) : Hbx s g w' b := h.keep fun o => hb.cell (p := ⟨b, o, none⟩) hB
theorem Hbx.set {s : Sv} {g : Wg} {w : World} {b : Nat} (h : Hbx s g w b) {a : Addr} (ha : b ≠ a.block) (v : Value) : Hbx s g (w.setCell a v) b := h.keep fun o => World.cell?_of_block (w := w) (Below.heap_setCell w a v b ha)
theorem Hbx.grown {s : Sv} {g : Wg} {w w' : World} {b x : Nat} (h : Hbx s g w b) (hg : w.grownBy w' (some x)) (hb : b ≠ x) (hl : b < w.heap.size) : Hbx s g w' b := h.keep fun o => World.cell?_of_block (w := w) (hg.block b hl (by intro e; injection e with e; exact hb e))
theorem Hbx.new (s : Sv) (g : Wg) (w : World) : Hbx s g (w.alloc (.cells #[.int .i64 s.tr, .int .i64 s.st, .int .i64 s.mv, .int .i64 s.no, .int .i64 s.wr, .slice s.ra s.rn s.rc, .slice g.wa g.wn g.wk] 75)) w.heap.size := by
  unfold Hbx
  simp
/-- A slice value that holds the n numbers f. -/
def RowV (w : World) (base n : Nat) (f : Nat → Int) (v : Value) : Prop := ∃ x c, v = .slice (some ⟨x, 0, none⟩) n c ∧ base ≤ x ∧ n ≤ c ∧ RowF w x n f
theorem RowV.below {w w' : World} {B base n : Nat} {f : Nat → Int} {v : Value} (h : RowV w base n f v) (hb : Below B w w') (hB : w.heap.size ≤ B) : RowV w' base n f v := by
  obtain ⟨x, c, h1, h2, h3, h4⟩ := h
  exact ⟨x, c, h1, h2, h3, h4.below hb (by have := h4.lt; omega)⟩
theorem RowV.setOther {w : World} {base n : Nat} {f : Nat → Int} {v : Value} (h : RowV w base n f v) {a : Addr} (ha : a.block < base) (u : Value) : RowV (w.setCell a u) base n f v := by
  obtain ⟨x, c, h1, h2, h3, h4⟩ := h
  exact ⟨x, c, h1, h2, h3, h4.setOther (by omega) u⟩
theorem RowV.mono {w : World} {base base' n : Nat} {f : Nat → Int} {v : Value} (h : RowV w base n f v) (hb : base' ≤ base) : RowV w base' n f v := by
  obtain ⟨x, c, h1, h2, h3, h4⟩ := h
  exact ⟨x, c, h1, by omega, h3, h4⟩
/-- Block x holds, at each k below n, a slice of the N numbers fs k, or nil where p does not hold. -/
def RowsF (w : World) (x n base N : Nat) (p : Nat → Prop) (fs : Nat → Nat → Int) : Prop := ∃ F, w.rowIs x 28 n F ∧ (∀ k, k < n → ∃ A m c, F k = .slice A m c) ∧ ∀ k, k < n → p k → RowV w base N (fs k) (F k)
theorem rowIs_below {w w' : World} {B b t n : Nat} {f : Nat → Value} (h : w.rowIs b t n f) (hb : Below B w w') (hB : b < B) : w'.rowIs b t n f := h.of_block (hb.block b hB)
theorem RowsF.lt {w : World} {x n base N : Nat} {p : Nat → Prop} {fs : Nat → Nat → Int} (h : RowsF w x n base N p fs) : x < w.heap.size := by obtain ⟨F, h1, _⟩ := h; exact h1.lt
theorem RowsF.below {w w' : World} {B x n base N : Nat} {p : Nat → Prop} {fs : Nat → Nat → Int} (h : RowsF w x n base N p fs) (hb : Below B w w') (hB : w.heap.size ≤ B) : RowsF w' x n base N p fs := by
  obtain ⟨F, h1, h2, h3⟩ := h
  exact ⟨F, rowIs_below h1 hb (by have := h1.lt; omega), h2, fun k hk hp => (h3 k hk hp).below hb hB⟩
theorem RowsF.set {w : World} {x n base N k : Nat} {p p' : Nat → Prop} {fs : Nat → Nat → Int} {v : Value} (h : RowsF w x n base N p fs) (hx : x < base) (hk : k < n) (hv : RowV w base N (fs k) v) (hp : ∀ j, p' j → j = k ∨ p j) :
    RowsF (w.setCell ⟨x, k, none⟩ v) x n base N p' fs := by
  obtain ⟨F, h1, h2, h3⟩ := h
  refine ⟨_, h1.set k v, fun j hj => ?_, fun j hj hpj => ?_⟩
  · by_cases e : j = k
    · obtain ⟨y, c, h4, _⟩ := hv
      exact ⟨_, _, _, by simp only [e, if_pos]; exact h4⟩
    · simp only [e, if_neg, not_false_eq_true]; exact h2 j hj
  · by_cases e : j = k
    · subst e; simp only [if_pos]; exact hv.setOther hx v
    · simp only [e, if_neg, not_false_eq_true]
      exact (h3 j hj ((hp j hpj).resolve_left e)).setOther hx v
theorem RowsF.cell {w : World} {x n base N k : Nat} {p : Nat → Prop} {fs : Nat → Nat → Int} (h : RowsF w x n base N p fs) (hk : k < n) (hp : p k) : ∃ v, w.cell? ⟨x, k, none⟩ = some v ∧ RowV w base N (fs k) v := by
  obtain ⟨F, h1, h2, h3⟩ := h
  exact ⟨F k, h1.cell hk, h3 k hk hp⟩
theorem RowsF.old {w : World} {x n base N k : Nat} {p : Nat → Prop} {fs : Nat → Nat → Int} (h : RowsF w x n base N p fs) (hk : k < n) : (∃ A m c, w.cell? ⟨x, k, none⟩ = some (.slice A m c)) ∧ w.frozen? ⟨x, k, none⟩ = false := by
  obtain ⟨F, h1, h2, h3⟩ := h
  obtain ⟨A, m, c, e⟩ := h2 k hk
  exact ⟨⟨A, m, c, by rw [h1.cell hk, e]⟩, h1.frozen k⟩
theorem RowsF.made (w : World) (n base N : Nat) (p : Nat → Prop) (hp : ∀ k, k < n → ¬ p k) (fs : Nat → Nat → Int) : RowsF (w.alloc (.cells (madeCells #[.slice none 0 0] n) 28)) w.heap.size n base N p fs :=
  ⟨_, World.rowIs_made w _ n 28, fun _ _ => ⟨none, 0, 0, rfl⟩, fun k hk h => absurd h (hp k hk)⟩
theorem ixRows {x n c k : Nat} (hk : k < n) (w' : World) : (Instr.indexAt 79 (.slice (some ⟨x, 0, none⟩) n c) (.int .i64 k)).run Try.prog w' = .ok (.pointer (some ⟨x, k, none⟩)) w' := by
  have h2 : (k : Int) < (n : Int) := by omega
  go_simp
theorem Try.info28 : (Try.prog.info? 28).map (fun i => (i.zero, i.size, i.bytes)) = some (some (.slice none 0 0), 1, 24) := by kernel_rfl
/-- A new slice of n slices is handed back, each of N numbers. -/
def RowsRet (n N : Nat) (fs : Nat → Nat → Int) (w : World) (e : Ending) (w' : World) : Prop :=
  ∃ x base : Nat, e = .returned (.slice (some ⟨x, 0, none⟩) n n) ∧ w.heap.size ≤ x ∧ w.heap.size ≤ base ∧ RowsF w' x n base N (fun _ => True) fs ∧ Below w.heap.size w w'

theorem Fb_100 {s : Sv} {g : Wg} (okg : g.Ok) {i : Nat} (hi : i ≤ g.wn) : ∀ p, p < s.N → 0 ≤ Fb s.N s.m (agr s g) i p ∧ Fb s.N s.m (agr s g) i p ≤ 100 := fun p hp => by
  have h := Fb_bd (m := s.m) (ag := agr s g) i p hp
  have := okg.n2
  omega
theorem jdg_100 {s : Sv} {g : Wg} (okg : g.Ok) {i : Nat} (hi : i ≤ g.wn) (ag : Nat → Bool) : ∀ p, p < s.N → 0 ≤ jdg ag (Fb s.N s.m (agr s g) i) p ∧ jdg ag (Fb s.N s.m (agr s g) i) p ≤ 100 := fun p hp => by
  have h := jdg_bd (ag := ag) (Fb_bd (m := s.m) (ag := agr s g) i p hp)
  have := okg.n2
  omega

set_option maxRecDepth 100000 in
set_option maxHeartbeats 2000000 in
theorem c49 (s : Sv) (g : Wg) (w : World) (hz : s.In w) (hg : g.In w) (ok : s.Ok) (okg : g.Ok) :
    Calls Try.prog 49 #[hdv s g] w (RowsRet g.wn s.N (Fb s.N s.m (agr s g)) w) := by
  have hN := ok.Nb
  have hN1 := hN.1; have hN2 := hN.2.1
  have hn2 := okg.n2
  have okh := hid ok
  have okgh := hid okg
  obtain ⟨n, hn⟩ : ∃ n, n = s.N := ⟨_, rfl⟩
  have hmk := fun W => run_make_row' (P := Try.prog) 28 3 (.int .i64 0) 8 Try.underlying28 Try.info3 rfl .i64 .i64 s.N (by omega) (by omega) W
  have hmk2 := fun W => run_make_row' (P := Try.prog) 79 28 (.slice none 0 0) 24 Try.underlying79 Try.info28 rfl .i64 .i64 g.wn (by omega) (by omega) W
  clear hN ok okg hn
  go_enter Try.func49, Try.ntmps49
  go_wp2_with (go_at_call 52; refine (c52 s g _ okh.out).mono ?_; rintro e w1 ⟨rfl, hB1⟩; obtain ⟨hc1, hf1⟩ := bcell hB1; have hz1 := hB1.size)
  obtain ⟨W1, hW1⟩ : ∃ W1 : World, W1 = w1.alloc (.cells (madeCells #[.int .i64 0] s.N) 3) := ⟨_, rfl⟩
  have hBx : Below (w.heap.size + 2) ((w.alloc (.cells #[.int .i64 s.tr, .int .i64 s.st, .int .i64 s.mv, .int .i64 s.no, .int .i64 s.wr, .slice s.ra s.rn s.rc, .slice g.wa g.wn g.wk] 75)).alloc (.cells (madeCells #[.slice none 0 0] g.wn) 28)) W1 := by rw [hW1]; exact (hB1.mono (by simp)).alloc (by simp at hz1; omega) _
  have hB : Below w.heap.size w W1 := Below.trans (by (repeat' (first | (with_reducible exact Below.refl _ _) | (with_reducible assumption) | (with_reducible refine Below.alloc ?_ ?_ _) | (with_reducible refine Below.drew ?_) | (with_reducible refine below_drewN ?_ _) | (with_reducible refine Below.setCell ?_ ?_ _) | (with_reducible refine Below.trans ?_ (Below.mono (by with_reducible assumption) ?_)) | go_size))) (hBx.mono (by omega))
  have hsz : w.heap.size + 2 < W1.heap.size := by rw [hW1]; simp at hz1 ⊢; omega
  have hbx : W1.cell? ⟨w.heap.size, 0, none⟩ = some (.int .i64 s.tr) ∧ W1.cell? ⟨w.heap.size, 1, none⟩ = some (.int .i64 s.st) ∧ W1.cell? ⟨w.heap.size, 2, none⟩ = some (.int .i64 s.mv) ∧ W1.cell? ⟨w.heap.size, 3, none⟩ = some (.int .i64 s.no) ∧ W1.cell? ⟨w.heap.size, 4, none⟩ = some (.int .i64 s.wr) ∧ W1.cell? ⟨w.heap.size, 5, none⟩ = some (.slice s.ra s.rn s.rc) ∧ W1.cell? ⟨w.heap.size, 6, none⟩ = some (.slice g.wa g.wn g.wk) := by obtain ⟨hcx, _⟩ := bcell hBx; simp [hcx]
  have hR0 : RowV W1 (w.heap.size + 2) s.N (Fb s.N s.m (agr s g) 0) (.slice (some ⟨w1.heap.size, 0, none⟩) s.N s.N) := ⟨w1.heap.size, s.N, rfl, by simp at hz1; omega, Nat.le_refl _, by rw [hW1]; exact RowF.made w1 s.N⟩
  have hRows0 : RowsF W1 (w.heap.size + 1) g.wn (w.heap.size + 2) s.N (fun j => j < 0) (Fb s.N s.m (agr s g)) := by
    have := RowsF.made (w.alloc (.cells #[.int .i64 s.tr, .int .i64 s.st, .int .i64 s.mv, .int .i64 s.no, .int .i64 s.wr, .slice s.ra s.rn s.rc, .slice g.wa g.wn g.wk] 75)) g.wn (w.heap.size + 2) s.N (fun j => j < 0) (fun _ _ h => absurd h (Nat.not_lt_zero _)) (Fb s.N s.m (agr s g))
    simp only [World.size_alloc] at this
    exact this.below hBx (by simp)
  have hR0h := hid hR0
  have hRowsh := hid hRows0
  rw [← hW1]
  clear hmk hmk2 hc1 hf1 hz1 hB1 hR0 hRows0 hW1 hBx
  go_loopw [4, 5, 15] (fun fv _ iv wr => ∃ k : Nat, k ≤ g.wn ∧ iv = .int .i64 k ∧ RowV wr (w.heap.size + 2) s.N (Fb s.N s.m (agr s g) k) fv ∧ RowsF wr (w.heap.size + 1) g.wn (w.heap.size + 2) s.N (fun j => j < k) (Fb s.N s.m (agr s g)) ∧ (wr.cell? ⟨w.heap.size, 0, none⟩ = some (.int .i64 s.tr) ∧ wr.cell? ⟨w.heap.size, 1, none⟩ = some (.int .i64 s.st) ∧ wr.cell? ⟨w.heap.size, 2, none⟩ = some (.int .i64 s.mv) ∧ wr.cell? ⟨w.heap.size, 3, none⟩ = some (.int .i64 s.no) ∧ wr.cell? ⟨w.heap.size, 4, none⟩ = some (.int .i64 s.wr) ∧ wr.cell? ⟨w.heap.size, 5, none⟩ = some (.slice s.ra s.rn s.rc) ∧ wr.cell? ⟨w.heap.size, 6, none⟩ = some (.slice g.wa g.wn g.wk)) ∧ Below w.heap.size w wr ∧ w.heap.size + 2 < wr.heap.size) (fun _ _ iv _ => g.wn - (intOf iv).toNat)
  case atStart => exact ⟨0, Nat.zero_le _, rfl, hR0h.out, hRowsh.out, hbx, hB, hsz⟩
  case round =>
    clear hbx hB hsz hR0h hRowsh
    obtain ⟨k, hk, rfl, ⟨x, c, rfl, hx, hc, hR⟩, hRows, hbx, hB, hsz⟩ := hrel
    by_cases hlt : k < g.wn
    · obtain ⟨⟨A0, m0, c0, h1⟩, h2⟩ := hRows.old hlt
      have h4 := @ixRows (w.heap.size + 1) g.wn g.wn k hlt
      obtain ⟨W2, hW2⟩ : ∃ W2 : World, W2 = wr.setCell ⟨w.heap.size + 1, k, none⟩ (.slice (some ⟨x, 0, none⟩) s.N c) := ⟨_, rfl⟩
      have hR2 := hR.setOther (a := ⟨w.heap.size + 1, k, none⟩) (by simp; omega) (.slice (some ⟨x, 0, none⟩) s.N c)
      have hRows2 := hRows.set (k := k) (v := .slice (some ⟨x, 0, none⟩) s.N c) (p' := fun j => j < k + 1) (by omega) hlt ⟨x, c, rfl, hx, hc, hR⟩ (by intro j hj; omega)
      have hbx2 : Hbx s g W2 w.heap.size := by rw [hW2]; exact Hbx.set hbx (by simp) _
      have hBb : Below w.heap.size w W2 := by rw [hW2]; exact hB.setCell (by simp) _
      have hs2 : w.heap.size + 2 < W2.heap.size := by rw [hW2]; simpa using hsz
      rw [← hW2] at hR2 hRows2
      have hR2h := hid hR2
      have hRows2h := hid hRows2
      clear hR hRows hB hR2 hRows2 hbx hsz
      go_wp2_with fail
      rw [← hW2]
      clear hW2 h1 h2 h4
      go_region_held3 (fun w' => w'.cell? ⟨w.heap.size, 0, none⟩ = some (.int .i64 s.tr) ∧ w'.cell? ⟨w.heap.size, 1, none⟩ = some (.int .i64 s.st) ∧ w'.cell? ⟨w.heap.size, 2, none⟩ = some (.int .i64 s.mv) ∧ w'.cell? ⟨w.heap.size, 3, none⟩ = some (.int .i64 s.no) ∧ w'.cell? ⟨w.heap.size, 4, none⟩ = some (.int .i64 s.wr) ∧ w'.cell? ⟨w.heap.size, 5, none⟩ = some (.slice s.ra s.rn s.rc) ∧ w'.cell? ⟨w.heap.size, 6, none⟩ = some (.slice g.wa g.wn g.wk)) (first | exact hbx2.all | exact hk3.all | exact hk4.all) (first | (go_at_call 71; refine (c71 s g x c k _ _ (hz.below hBb.drew (Nat.le_refl _)) (hg.below hBb.drew (Nat.le_refl _)) okh.out okgh.out hlt (hR2h.out.of_block rfl) (Fb_100 okgh.out (by omega))).mono ?_; rintro e w3 ⟨g3, c3, rfl, hg3, hc3, hR3, hB3⟩; have hk3 : Hbx s g w3 w.heap.size := (Hbx.below (w := W2.drew) hbx2 hB3 (show w.heap.size < W2.heap.size by omega)); have hz3 : w.heap.size + 2 < w3.heap.size := Nat.lt_of_lt_of_le hs2 hB3.size; have hR3h := hid hR3; clear hR3) | (go_at_call 56; refine (c56 s g g3 c3 _ _ okh.out (hR3h.out.of_block rfl) hc3 (jdg_100 okgh.out (by omega) _)).mono ?_; rintro e w4 ⟨g4, c4, rfl, hg4, hc4, hR4, hB4⟩; have hk4 : Hbx s g w4 w.heap.size := (Hbx.below (w := w3) hk3 hB4 (by omega)); have hR4h := hid hR4; clear hR4))
      have hB24 : Below W2.heap.size W2 w4 := Below.trans (Below.trans (Below.refl _ _).drew hB3) (hB4.mono hB3.size)
      go_wp2
      go_roundw
      case rel => exact ⟨k + 1, by omega, by go_num, ⟨g4, c4, rfl, by omega, hc4, hR4h.out⟩, hRows2h.out.below hB24 (Nat.le_refl _), hk4.all, hBb.trans (hB24.mono hBb.size), Nat.lt_of_lt_of_le hz3 hB4.size⟩
      case measure => simp [intOf]; omega
    · have hRowsh := hid hRows
      clear hRows hR hbx
      go_wp2_with fail
      go_returns
      obtain rfl : k = g.wn := by omega
      obtain ⟨F, r1, r2, r3⟩ := hRowsh.out
      exact ⟨w.heap.size + 1, w.heap.size + 2, rfl, by omega, by omega, ⟨F, r1, r2, fun j hj _ => r3 j hj hj⟩, hB⟩
end Go.Proofs.Ytkafjlhmbiaicaa
