/- Stage 2: the law of the write gate, the main way. -/
import Derived.Test.YtfpfnjdnfiihhaaRi
set_option linter.unusedSimpArgs false
set_option linter.unusedVariables false
namespace Go.Proofs.Ytfpfnjdnfiihhaa
open Go.RowKit Go.Sort Go.BigFrame

set_option maxRecDepth 100000 in
set_option maxHeartbeats 8000000 in
theorem c5_go (s : Sv) (g : Wg) (A : Option Addr) (b o n c : Nat) (f : Nat → Int) (A' : Option Addr) (b' o' m c' : Nat) (h : Nat → Int) (t li : Int) (w : World) (hz : s.In w) (hg : g.In w) (hp : Ints w A b o n f) (hq : Ints w A' b' o' m h)
    (hv0 : ValP s g) (hpo0 : PosP s g f n h m) (ht : 0 ≤ t ∧ t < s.tr) (hl : 0 ≤ li ∧ li ≤ 16) :
    Calls Try.prog 5 #[s.v, g.v, .agg #[.slice A n c, .slice A' m c', .int .i64 t, .int .i64 li]] w fun e w' => e = .returned (.bool true) ∧ Below w.heap.size w w' := by
  obtain ⟨ok, okg, hn8, hr40⟩ := hv0.ok
  have hv := hid hv0
  have hpo := hid hpo0
  have okh := hid ok
  have okgh := hid okg
  have hN := ok.Nb
  have hN1 := hN.1; have hN2 := hN.2.1
  have t2 := ok.t2
  have hck := ckE_ok ok okg
  have hmn := hpo0.mnL ok
  have he := hid (ahE_ok (told := (0 ≤ t ∧ t ≤ s.tr - 1) ∧ (0 ≤ li ∧ li ≤ 16)) hck ⟨by omega, hl⟩ hmn)
  have hga := hid (show gtA s g t li = (gate s g t li : Nat) from if_pos he.out)
  have hgs := (gtF_spec (s := s) (g := g) (t := t) (li := li) 24 0).1
  obtain ⟨G, hG⟩ : ∃ G, G = gate s g t li := ⟨_, rfl⟩
  have hG24 : G ≤ 24 := by rw [hG]; exact Nat.le_trans hgs (by omega)
  have hGh := hid hG
  have hnear := hid (fun k hk hm => hpo0.nearL ok (t := t) (li := li) (k := k) hk hm)
  have hin := hid (fun k hk => (hpo0.mvnL ok k hk).1)
  have hn0 := hpo0.n0
  have hn40 := hpo0.n40
  have hm12 := hpo0.m12
  have hnw := hpo0.pth.2
  have hng : (n : Int) ≤ g.wn ∧ (g.wn : Int) ≤ n := by omega
  have d1 : decide (t < 0) = false := by simp; omega
  have d2 : decide (s.tr ≤ t) = false := by simp; omega
  have d3 : decide (li < 0) = false := by simp; omega
  have d4 : decide (16 < li) = false := by simp; omega
  have ixp := hid (Ints.ixh (c := c) hp)
  have ixq := hid (Ints.ixh (c := c') hq)
  have hlx := ixp.out (n - 1) (by omega)
  rw [show ((n - 1 : Nat) : Int) = (n : Int) - 1 by omega] at hlx
  clear hv0 hpo0 ok okg hN hck hmn hgs hG hnw
  go_enter Try.func5, Try.ntmps5
  go_wp2_with (first | (go_at_call 16; refine (c16y s g _ (hz.below (by (repeat' (first | (with_reducible exact Below.refl _ _) | (with_reducible assumption) | (with_reducible refine Below.alloc ?_ ?_ _) | (with_reducible refine Below.drew ?_) | (with_reducible refine below_drewN ?_ _) | (with_reducible refine Below.setCell ?_ ?_ _) | (with_reducible refine Below.trans ?_ (Below.mono (by with_reducible assumption) ?_)) | go_size))) (Nat.le_refl _)) (hg.below (by (repeat' (first | (with_reducible exact Below.refl _ _) | (with_reducible assumption) | (with_reducible refine Below.alloc ?_ ?_ _) | (with_reducible refine Below.drew ?_) | (with_reducible refine below_drewN ?_ _) | (with_reducible refine Below.setCell ?_ ?_ _) | (with_reducible refine Below.trans ?_ (Below.mono (by with_reducible assumption) ?_)) | go_size))) (Nat.le_refl _)) hv.out).mono ?_; rintro e w1 ⟨rfl, hB1⟩; have hz1 : w.heap.size + 2 ≤ w1.heap.size := (by have := hB1.size; simp at this; omega); have hBx : Below w.heap.size w w1 := Below.trans (by (repeat' (first | (with_reducible exact Below.refl _ _) | (with_reducible assumption) | (with_reducible refine Below.alloc ?_ ?_ _) | (with_reducible refine Below.drew ?_) | (with_reducible refine below_drewN ?_ _) | (with_reducible refine Below.setCell ?_ ?_ _) | (with_reducible refine Below.trans ?_ (Below.mono (by with_reducible assumption) ?_)) | go_size))) (hB1.mono (by simp; omega)); have sv1 := Svb.below ((Svb.new s w).below (B := w.heap.size + 1) (by (repeat' (first | (with_reducible exact Below.refl _ _) | (with_reducible assumption) | (with_reducible refine Below.alloc ?_ ?_ _) | (with_reducible refine Below.drew ?_) | (with_reducible refine below_drewN ?_ _) | (with_reducible refine Below.setCell ?_ ?_ _) | (with_reducible refine Below.trans ?_ (Below.mono (by with_reducible assumption) ?_)) | go_size))) (by omega)) hB1 (by simp; omega); obtain ⟨k0, k1, k2, k3, k4, k5⟩ := sv1.all; obtain ⟨hc1, _⟩ := bcell (hB1.mono (show w.heap.size + 2 ≤ _ by simp)); have x0 : w1.cell? ⟨w.heap.size + 1, 0, none⟩ = some (.slice A n c) := (by rw [hc1 _ _ (by omega)]; simp); have x1 : w1.cell? ⟨w.heap.size + 1, 1, none⟩ = some (.slice A' m c') := (by rw [hc1 _ _ (by omega)]; simp); have x2 : w1.cell? ⟨w.heap.size + 1, 2, none⟩ = some (.int .i64 t) := (by rw [hc1 _ _ (by omega)]; simp); have x3 : w1.cell? ⟨w.heap.size + 1, 3, none⟩ = some (.int .i64 li) := (by rw [hc1 _ _ (by omega)]; simp); clear hc1) | (go_at_call 17; refine (c17y (hz.below hBx (Nat.le_refl _)) (hg.below hBx (Nat.le_refl _)) hv.out (hp.below hBx (Nat.le_refl _)) (hq.below hBx (Nat.le_refl _)) hpo.out).mono ?_; rintro e w2 ⟨rfl, hB2⟩; have hBy : Below w.heap.size w w2 := hBx.trans (hB2.mono hBx.size); have sv2 := sv1.below hB2 (by omega); obtain ⟨j0, j1, j2, j3, j4, j5⟩ := sv2.all; obtain ⟨hc2, _⟩ := bcell hB2; have z0 : w2.cell? ⟨w.heap.size + 1, 0, none⟩ = some (.slice A n c) := (by rw [hc2 _ _ (by omega)]; exact x0); have z1 : w2.cell? ⟨w.heap.size + 1, 1, none⟩ = some (.slice A' m c') := (by rw [hc2 _ _ (by omega)]; exact x1); have z2 : w2.cell? ⟨w.heap.size + 1, 2, none⟩ = some (.int .i64 t) := (by rw [hc2 _ _ (by omega)]; exact x2); have z3 : w2.cell? ⟨w.heap.size + 1, 3, none⟩ = some (.int .i64 li) := (by rw [hc2 _ _ (by omega)]; exact x3); clear hc2) | (go_at_call 25; refine (c25 s g t li _ (hz.below hBy (Nat.le_refl _)) (hg.below hBy (Nat.le_refl _)) (by omega) (by omega)).mono ?_; rw [hga.out, he.out, ← hGh.out]; rintro e w3 ⟨rfl, hB3⟩; have hBz : Below w.heap.size w w3 := hBy.trans (hB3.mono hBy.size); have hs2 : w.heap.size + 2 ≤ w2.heap.size := (by have := hB2.size; omega); have sv3 := sv2.below hB3 (by omega); obtain ⟨hc3, _⟩ := bcell hB3; have r0 : w3.cell? ⟨w.heap.size + 1, 0, none⟩ = some (.slice A n c) := (by rw [hc3 _ _ (by omega)]; exact z0); have r1 : w3.cell? ⟨w.heap.size + 1, 1, none⟩ = some (.slice A' m c') := (by rw [hc3 _ _ (by omega)]; exact z1); have r2 : w3.cell? ⟨w.heap.size + 1, 2, none⟩ = some (.int .i64 t) := (by rw [hc3 _ _ (by omega)]; exact z2); have r3 : w3.cell? ⟨w.heap.size + 1, 3, none⟩ = some (.int .i64 li) := (by rw [hc3 _ _ (by omega)]; exact z3); have hl1 := (hp.below hBz (Nat.le_refl _)).ce (n - 1) (by omega); clear hc3))
  have hs3 : w.heap.size + 2 ≤ w3.heap.size := by have := hB3.size; omega
  have hw0 : Hid (f (n - 1) = wk f n h 0) := hid (by unfold wk; rw [if_pos rfl])
  have hin0 := (hin.out 0 (Nat.zero_le _))
  rw [← hw0.out] at hin0
  have hf1 := hin0.1
  have hf2 := hin0.2
  clear hin0 hlx hl1 d1 d2 d3 d4 x0 x1 x2 x3 z0 z1 z2 z3 k0 k1 k2 k3 k4 k5 j0 j1 j2 j3 j4 j5
  obtain ⟨a0, ha0⟩ : ∃ a0, a0 = f (n - 1) := ⟨_, rfl⟩
  rw [← ha0] at hf1 hf2 hw0 ⊢
  clear ha0
  go_loopw [9, 10, 11] (fun av iv _ wr => ∃ (k : Nat) (a : Int), k ≤ G ∧ iv = .int .i64 k ∧ av = .int .i64 a ∧ Hid (k = 0 → a = a0) ∧ Below w3.heap.size w3 wr) (fun _ iv _ _ => G - (intOf iv).toNat)
  case atStart => exact ⟨0, a0, Nat.zero_le _, rfl, rfl, fun _ => rfl, Below.refl _ _⟩
  case round =>
    obtain ⟨k, a, hk, rfl, rfl, hk0, hB⟩ := hrel
    have hBw : Below w.heap.size w wr := hBz.trans (hB.mono (by omega))
    obtain ⟨hcr, _⟩ := bcell hB
    have q1 : wr.cell? ⟨w.heap.size + 1, 1, none⟩ = some (.slice A' m c') := by rw [hcr _ _ (by omega)]; exact r1
    have q2 : wr.cell? ⟨w.heap.size + 1, 2, none⟩ = some (.int .i64 t) := by rw [hcr _ _ (by omega)]; exact r2
    have q3 : wr.cell? ⟨w.heap.size + 1, 3, none⟩ = some (.int .i64 li) := by rw [hcr _ _ (by omega)]; exact r3
    have svr := sv3.below hB (by omega)
    obtain ⟨p0, p1, p2, p3, p4, p5⟩ := svr.all
    have hszr := hB.size
    clear hcr
    by_cases hkG : k < G
    · by_cases hkm : k ≤ m
      · have hnr := hnear.out k (by rw [← hGh.out]; exact hkG) hkm
        have hik := hin.out k hkm
        have hat := okh.out.atw ht.1 (by omega) (g.wn + k - 1)
        obtain ⟨AT, hAT⟩ : ∃ AT, AT = s.at_ t (g.wn + k - 1) := ⟨_, rfl⟩
        have hATh := hid hAT
        rw [← hAT] at hnr hat
        obtain ⟨x, hx⟩ : ∃ x, x = wk f n h k := ⟨_, rfl⟩
        rw [← hx] at hnr hik
        have hxh := hid hx
        have i1 := hik.1; have i2 := hik.2; have n1 := hnr.1; have n2 := hnr.2
        clear hAT hx hik hnr
        by_cases hk1 : 0 < k
        · have e1 := hid (show h (k - 1) = x by rw [hxh.out]; unfold wk; rw [if_neg (by omega)])
          have c1 := (hq.below hBw (Nat.le_refl _)).ce (k - 1) (by omega)
          rw [e1.out] at c1
          have c2 := ixq.out (k - 1) (by omega)
          rw [show ((k - 1 : Nat) : Int) = (k : Int) - 1 by omega] at c2
          go_wp2_with (go_at_call 26; refine (c26 s t _ (g.wn + k - 1) _ (.inl (by omega)) (hz.below hBw (Nat.le_refl _)) okh.out (by omega) (by omega) (by omega)).mono ?_; rw [← hATh.out]; rintro e w4 ⟨rfl, hB4⟩; obtain ⟨hc4, _⟩ := bcell hB4; have v3 : w4.cell? ⟨w.heap.size + 1, 3, none⟩ = some (.int .i64 li) := (by rw [hc4 _ _ (by omega)]; exact q3); clear hc4)
          go_roundw
          case rel => exact ⟨k + 1, x, by omega, by go_num, rfl, fun hh => by omega, hB.trans (hB4.mono hszr)⟩
          case measure => simp [intOf]; omega
        · have hax : Hid (a = x) := hid (by rw [hk0.out (by omega), hw0.out, hxh.out, show k = 0 by omega])
          obtain rfl : a = x := hax.out
          have hk1' : k ≤ 0 := by omega
          have hkd : decide (0 < k) = false := by simpa using hk1
          have hkd2 : decide ((0 : Int) < (k : Int)) = false := by simpa using hk1
          clear hk1
          go_wp2_with (go_at_call 26; refine (c26 s t _ (g.wn + k - 1) _ (.inl (by omega)) (hz.below hBw (Nat.le_refl _)) okh.out (by omega) (by omega) (by omega)).mono ?_; rw [← hATh.out]; rintro e w4 ⟨rfl, hB4⟩; obtain ⟨hc4, _⟩ := bcell hB4; have v3 : w4.cell? ⟨w.heap.size + 1, 3, none⟩ = some (.int .i64 li) := (by rw [hc4 _ _ (by omega)]; exact q3); clear hc4)
          go_roundw
          case rel => exact ⟨k + 1, a, by omega, by go_num, rfl, fun hh => by omega, hB.trans (hB4.mono hszr)⟩
          case measure => simp [intOf]; omega
      · have dm : decide ((k : Int) ≤ (m : Int)) = false := by simp; omega
        go_wp2_with (go_at_call 13; refine (c13 _).mono ?_; rintro e w9 ⟨rfl, hB9⟩)
        go_returns
        exact ⟨rfl, hBw.trans (hB9.mono hBw.size)⟩
    · go_wp2_with (go_at_call 13; refine (c13 _).mono ?_; rintro e w9 ⟨rfl, hB9⟩)
      go_returns
      exact ⟨rfl, hBw.trans (hB9.mono hBw.size)⟩
theorem c5 (s : Sv) (g : Wg) (A : Option Addr) (b o n c : Nat) (f : Nat → Int) (A' : Option Addr) (b' o' m c' : Nat) (h : Nat → Int) (t li : Int) (w : World) (hz : s.In w) (hg : g.In w) (hp : Ints w A b o n f) (hq : Ints w A' b' o' m h) :
    Calls Try.prog 5 #[s.v, g.v, .agg #[.slice A n c, .slice A' m c', .int .i64 t, .int .i64 li]] w fun e w' => e = .returned (.bool true) ∧ Below w.heap.size w w' := by
  by_cases hh : ValP s g ∧ PosP s g f n h m ∧ (0 ≤ t ∧ t < s.tr) ∧ (0 ≤ li ∧ li ≤ 16)
  · exact c5_go s g A b o n c f A' b' o' m c' h t li w hz hg hp hq hh.1 hh.2.1 hh.2.2.1 hh.2.2.2
  · exact c5_skip s g A b o n c f A' b' o' m c' h t li w hz hg hp hq hh
end Go.Proofs.Ytfpfnjdnfiihhaa
