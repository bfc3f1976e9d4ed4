/- Stage 2: the closure is handed back. -/
import Derived.Test.YtfpfnjdnfiihhaaH
set_option linter.unusedSimpArgs false
set_option linter.unusedVariables false
namespace Go.Proofs.Ytfpfnjdnfiihhaa
open Go.RowKit

/-- A closure is handed back that tells whether the wedge i agrees. -/
def AgRet (s : Sv) (g : Wg) (i : Nat) (w : World) (e : Ending) (w' : World) : Prop := ∃ v, e = .returned v ∧ AgF s g i w.heap.size w' v ∧ Below w.heap.size w w'

theorem agr_nothing {s : Sv} {g : Wg} {i : Nat} (h : g.wc i = -1) (p : Nat) : agr s g i p = true := by simp [agr, h]
theorem agr_other {s : Sv} {g : Wg} {i : Nat} (h : ¬ g.wc i = -1) (h2 : ¬ (trk (g.wc i).toNat : Int) < s.tr) (p : Nat) : agr s g i p = false := by
  unfold agr
  rw [decide_eq_false h, decide_eq_false h2]; rfl
theorem agr_iff {s : Sv} {g : Wg} {i : Nat} (h : ¬ g.wc i = -1) (h2 : (trk (g.wc i).toNat : Int) < s.tr) (p : Nat) : agr s g i p = true ↔ ((-s.st ≤ 2 * ((p : Int) - s.at_ (trk (g.wc i).toNat) i) ∧ 2 * ((p : Int) - s.at_ (trk (g.wc i).toNat) i) ≤ s.st) ∧ (-s.no ≤ g.wu i - ((p : Int) - s.at_ (trk (g.wc i).toNat) i) ∧ g.wu i - ((p : Int) - s.at_ (trk (g.wc i).toNat) i) ≤ s.no)) := by
  unfold agr
  rw [decide_eq_false h, decide_eq_true h2]
  simp only [Bool.false_or, Bool.true_and, Bool.and_eq_true, decide_eq_true_eq]
theorem Sv.Ok.atb {s : Sv} (ok : s.Ok) {t : Int} (h0 : 0 ≤ t) (h1 : t < s.tr) (i : Nat) : -16 ≤ s.at_ t i ∧ s.at_ t i ≤ 1024 := by
  have h2 := ok.tb h0 h1
  have h3 := ok.ro (i % s.rn) (Nat.mod_lt _ (by have := ok.r1; omega))
  unfold Sv.at_
  omega

set_option maxHeartbeats 1000000 in
theorem c51 (s : Sv) (g : Wg) (i : Nat) (w : World) (hz : s.In w) (hg : g.In w) (ok : s.Ok) (okg : g.Ok) (hi : i < g.wn) :
    Calls Try.prog 51 #[hdv s g, .int .i64 (i : Int)] w (AgRet s g i w) := by
  have hn := okg.n2
  have hc := okg.c i hi
  have hu := okg.u i hi
  have h1 := hg.c1 i hi; have h2 := hg.c2 i hi; have h3 := hg.lt i hi; have h4 := @Weds.ix _ _ _ _ _ g.wk _ _ hg _ hi
  by_cases hm : g.wc i = -1
  · have hag := hid (agr_nothing (s := s) hm)
    rw [hm] at h1
    clear hm hc okg ok
    go_enter Try.func51, Try.ntmps51
    go_wp2_with fail
    go_returns
    exact ⟨_, rfl, .inl ⟨rfl, hag.out⟩, by (repeat' (first | (with_reducible exact Below.refl _ _) | (with_reducible assumption) | (with_reducible refine Below.alloc ?_ ?_ _) | (with_reducible refine Below.drew ?_) | (with_reducible refine below_drewN ?_ _) | (with_reducible refine Below.setCell ?_ ?_ _) | (with_reducible refine Below.trans ?_ (Below.mono (by with_reducible assumption) ?_)) | go_size))⟩
  · obtain ⟨k, hk⟩ : ∃ k : Nat, g.wc i = k := ⟨(g.wc i).toNat, by omega⟩
    have hkt : (g.wc i).toNat = k := by omega
    rw [hk] at h1
    have hk1 : k < 128 := by omega
    by_cases ht : (trk k : Int) < s.tr
    · have hag := hid (agr_iff hm (by rw [hkt]; exact ht))
      have hbt := ok.atb (by omega) ht i
      obtain ⟨x, hx⟩ : ∃ x, x = s.at_ (trk k) i := ⟨_, rfl⟩
      have hxh := hid hx
      have hkth := hid hkt
      have okh := hid ok
      rw [← hx] at hbt
      clear hm hk hkt hc okg ok hx
      obtain ⟨W0, hW0⟩ : ∃ W0 : World, W0 = (w.alloc (.cells #[.int .i64 s.tr, .int .i64 s.st, .int .i64 s.mv, .int .i64 s.no, .int .i64 s.wr, .slice s.ra s.rn s.rc, .slice g.wa g.wn g.wk] 75)).alloc (.cells #[.int .i64 k, .int .i64 (g.wu i)] 46) := ⟨_, rfl⟩
      have hB0 : Below w.heap.size w W0 := by rw [hW0]; (repeat' (first | (with_reducible exact Below.refl _ _) | (with_reducible assumption) | (with_reducible refine Below.alloc ?_ ?_ _) | (with_reducible refine Below.drew ?_) | (with_reducible refine below_drewN ?_ _) | (with_reducible refine Below.setCell ?_ ?_ _) | (with_reducible refine Below.trans ?_ (Below.mono (by with_reducible assumption) ?_)) | go_size))
      have hs0 : W0.heap.size = w.heap.size + 2 := by rw [hW0]; simp
      go_enter Try.func51, Try.ntmps51
      go_wp2_with (first | (go_at_call 15; refine (c15 k hk1 _).mono ?_; rintro e w' ⟨rfl, rfl⟩) | (go_at_call 59; refine (c59 s g (trk k) i _ (hz.below (by rw [← hW0]; exact hB0) (Nat.le_refl _)) okh.out (by omega) ht (by omega)).mono ?_; rintro e w1 ⟨rfl, hB1⟩; rw [← hxh.out]; rw [← hW0] at hB1; obtain ⟨hc1, hf1⟩ := bcell (hB1.mono (show w.heap.size + 2 ≤ _ by omega)); have hz1 : w.heap.size + 1 < w1.heap.size := (by have := hB1.size; omega); rw [hW0] at hc1 hf1))
      have k2 : w1.cell? ⟨w.heap.size, 1, none⟩ = some (.int .i64 s.st) := by rw [hc1 _ _ (by omega)]; simp
      have k3 : w1.cell? ⟨w.heap.size, 3, none⟩ = some (.int .i64 s.no) := by rw [hc1 _ _ (by omega)]; simp
      have k4 : w1.cell? ⟨w.heap.size + 1, 1, none⟩ = some (.int .i64 (g.wu i)) := by rw [hc1 _ _ (by omega)]; simp
      have hBx : Below w.heap.size w w1 := hB0.trans (hB1.mono (by omega))
      clear hc1 hf1
      go_returns
      refine ⟨_, rfl, .inr (.inr ⟨_, _, _, rfl, ?_⟩), by (repeat' (first | (with_reducible exact Below.refl _ _) | (with_reducible assumption) | (with_reducible refine Below.alloc ?_ ?_ _) | (with_reducible refine Below.drew ?_) | (with_reducible refine below_drewN ?_ _) | (with_reducible refine Below.setCell ?_ ?_ _) | (with_reducible refine Below.trans ?_ (Below.mono (by with_reducible assumption) ?_)) | go_size))⟩
      rw [hkth.out] at hag
      have hag' := hag.out
      rw [← hxh.out] at hag'
      refine ⟨by have := hBx.size; omega, Nat.le_refl _, by omega, by simp, by simp; omega, by simp; omega, ?_, ?_, ?_, ?_, ?_, ?_, hu⟩
      · rw [hkth.out, ← hxh.out]; simp
      · exact (World.cell?_alloc_lt _ _ _ (by show w.heap.size < w1.heap.size; omega)).trans k2
      · exact (World.cell?_alloc_lt _ _ _ (by show w.heap.size < w1.heap.size; omega)).trans k3
      · exact (World.cell?_alloc_lt _ _ _ (by show w.heap.size + 1 < w1.heap.size; omega)).trans k4
      · rw [hkth.out, ← hxh.out]; exact hag'
      · rw [hkth.out, ← hxh.out]; exact hbt
    · have hag := hid (agr_other (s := s) hm (by rw [hkt]; exact ht))
      clear hm hk hkt hc okg ok
      go_enter Try.func51, Try.ntmps51
      go_wp2_with (go_at_call 15; refine (c15 k hk1 _).mono ?_; rintro e w' ⟨rfl, rfl⟩)
      go_returns
      exact ⟨_, rfl, .inr (.inl ⟨rfl, hag.out⟩), by (repeat' (first | (with_reducible exact Below.refl _ _) | (with_reducible assumption) | (with_reducible refine Below.alloc ?_ ?_ _) | (with_reducible refine Below.drew ?_) | (with_reducible refine below_drewN ?_ _) | (with_reducible refine Below.setCell ?_ ?_ _) | (with_reducible refine Below.trans ?_ (Below.mono (by with_reducible assumption) ?_)) | go_size))⟩
end Go.Proofs.Ytfpfnjdnfiihhaa
