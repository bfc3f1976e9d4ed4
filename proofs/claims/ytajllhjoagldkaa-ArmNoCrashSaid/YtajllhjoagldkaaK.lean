/- Stage 6: an arm that is known, with a target and some states. -/
import Derived.Test.YtajllhjoagldkaaJ
set_option linter.unusedSimpArgs false
set_option linter.unusedVariables false
namespace Go.Proofs.Ytajllhjoagldkaa
open Go.RowKit Go.Maps Go.WideMaps

set_option maxHeartbeats 2000000 in
theorem c52 (a : Ar) (w : World) (ok : a.Ok) : Calls Try.prog 52 #[a.v] w fun e w' => e = .returned (.tuple #[a.v, .int .i64 0]) ∧ Below w.heap.size w w' := by
  have o1 := ok.l; have o2 := ok.p; have o3 := ok.f; have o4 := ok.h; have o5 := ok.g; have o6 := ok.s
  clear ok
  go_enter Try.func52, Try.ntmps52
  go_wp2_with (go_at_call 49; refine (c49y _ (by omega)).mono ?_; rintro e w' ⟨rfl, rfl⟩)
  refine bodyPost_ret (v := .tuple #[a.v, .int .i64 0]) (by simp [results, Try.results52, go_sem]) rfl ⟨rfl, ?_⟩
  (repeat' (first | (with_reducible exact Below.refl _ _) | (with_reducible assumption) | (with_reducible refine Below.alloc ?_ ?_ _) | (with_reducible refine Below.drew ?_) | (with_reducible refine below_drewN ?_ _) | (with_reducible refine Below.setCell ?_ ?_ _) | (with_reducible refine Below.trans ?_ (Below.mono (by with_reducible assumption) ?_)) | go_size))

set_option maxRecDepth 100000 in
set_option maxHeartbeats 4000000 in
theorem c43 (a : Ar) (t : Nat) (A : Option Addr) (b o c : Nat) (L : List (Int × Int)) (w : World) (ok : a.Ok) (ht : t ≤ a.la) (hL : Sps w A b o L) (hst : ∀ k (h : k < L.length), stB a L[k].1 L[k].2 = true) (hn : L.length ≤ 1000) :
    Calls Try.prog 43 #[a.v, .int .i64 (t : Nat), .slice A L.length c] w fun e w' => e = .returned (.tuple #[a.v, .int .i64 0]) ∧ Below w.heap.size w w' := by
  have o1 := ok.l
  have hLh := hid hL
  have hsth := hid hst
  clear hL hst
  obtain ⟨W0, hW0⟩ : ∃ W0 : World, W0 = (w.alloc (.cells #[.int .i64 (a.la : Nat), .int .i64 (a.sp : Nat), .int .i64 (a.fo : Nat), .int .i64 (a.sh : Nat), .int .i64 (a.ga : Nat), .int .i64 (a.sl : Nat)] 23)).alloc (.cells #[.int .i64 0, .int .i64 0, .int .i64 0, .int .i64 0, .int .i64 0, .int .i64 0] 77) := ⟨_, rfl⟩
  have hB0 : Hid (Below w.heap.size w W0) := hid (by rw [hW0]; (repeat' (first | (with_reducible exact Below.refl _ _) | (with_reducible assumption) | (with_reducible refine Below.alloc ?_ ?_ _) | (with_reducible refine Below.drew ?_) | (with_reducible refine below_drewN ?_ _) | (with_reducible refine Below.setCell ?_ ?_ _) | (with_reducible refine Below.trans ?_ (Below.mono (by with_reducible assumption) ?_)) | go_size)))
  have hs0 : Hid (W0.heap.size = w.heap.size + 2) := hid (by rw [hW0]; simp)
  have hu0 : W0.cell? ⟨w.heap.size + 1, 0, none⟩ = some (.int .i64 0) := by rw [hW0]; simp
  have hv0 : W0.frozen? ⟨w.heap.size + 1, 0, none⟩ = false := by rw [hW0]; simp
  have hu1 : W0.cell? ⟨w.heap.size + 1, 1, none⟩ = some (.int .i64 0) := by rw [hW0]; simp
  have hv1 : W0.frozen? ⟨w.heap.size + 1, 1, none⟩ = false := by rw [hW0]; simp
  have hu2 : W0.cell? ⟨w.heap.size + 1, 2, none⟩ = some (.int .i64 0) := by rw [hW0]; simp
  have hv2 : W0.frozen? ⟨w.heap.size + 1, 2, none⟩ = false := by rw [hW0]; simp
  have hu3 : W0.cell? ⟨w.heap.size + 1, 3, none⟩ = some (.int .i64 0) := by rw [hW0]; simp
  have hv3 : W0.frozen? ⟨w.heap.size + 1, 3, none⟩ = false := by rw [hW0]; simp
  have hu4 : W0.cell? ⟨w.heap.size + 1, 4, none⟩ = some (.int .i64 0) := by rw [hW0]; simp
  have hv4 : W0.frozen? ⟨w.heap.size + 1, 4, none⟩ = false := by rw [hW0]; simp
  have hu5 : W0.cell? ⟨w.heap.size + 1, 5, none⟩ = some (.int .i64 0) := by rw [hW0]; simp
  have hv5 : W0.frozen? ⟨w.heap.size + 1, 5, none⟩ = false := by rw [hW0]; simp
  go_enter Try.func43, Try.ntmps43
  go_wp2_with (first | (go_at_call 52; refine (c52 a _ ok).mono ?_; rintro e w1 ⟨rfl, hB1⟩; rw [← hW0] at hB1; have hs1 := hB1.size; rw [hs0.out] at hs1; have u0 : w1.cell? ⟨w.heap.size + 1, 0, none⟩ = some (.int .i64 0) := (hB1.cell (p := ⟨w.heap.size + 1, 0, none⟩) (by show w.heap.size + 1 < _; rw [hs0.out]; omega)).trans hu0; have v0 : w1.frozen? ⟨w.heap.size + 1, 0, none⟩ = false := (hB1.frozen (p := ⟨w.heap.size + 1, 0, none⟩) (by show w.heap.size + 1 < _; rw [hs0.out]; omega)).trans hv0; have u1 : w1.cell? ⟨w.heap.size + 1, 1, none⟩ = some (.int .i64 0) := (hB1.cell (p := ⟨w.heap.size + 1, 1, none⟩) (by show w.heap.size + 1 < _; rw [hs0.out]; omega)).trans hu1; have v1 : w1.frozen? ⟨w.heap.size + 1, 1, none⟩ = false := (hB1.frozen (p := ⟨w.heap.size + 1, 1, none⟩) (by show w.heap.size + 1 < _; rw [hs0.out]; omega)).trans hv1; have u2 : w1.cell? ⟨w.heap.size + 1, 2, none⟩ = some (.int .i64 0) := (hB1.cell (p := ⟨w.heap.size + 1, 2, none⟩) (by show w.heap.size + 1 < _; rw [hs0.out]; omega)).trans hu2; have v2 : w1.frozen? ⟨w.heap.size + 1, 2, none⟩ = false := (hB1.frozen (p := ⟨w.heap.size + 1, 2, none⟩) (by show w.heap.size + 1 < _; rw [hs0.out]; omega)).trans hv2; have u3 : w1.cell? ⟨w.heap.size + 1, 3, none⟩ = some (.int .i64 0) := (hB1.cell (p := ⟨w.heap.size + 1, 3, none⟩) (by show w.heap.size + 1 < _; rw [hs0.out]; omega)).trans hu3; have v3 : w1.frozen? ⟨w.heap.size + 1, 3, none⟩ = false := (hB1.frozen (p := ⟨w.heap.size + 1, 3, none⟩) (by show w.heap.size + 1 < _; rw [hs0.out]; omega)).trans hv3; have u4 : w1.cell? ⟨w.heap.size + 1, 4, none⟩ = some (.int .i64 0) := (hB1.cell (p := ⟨w.heap.size + 1, 4, none⟩) (by show w.heap.size + 1 < _; rw [hs0.out]; omega)).trans hu4; have v4 : w1.frozen? ⟨w.heap.size + 1, 4, none⟩ = false := (hB1.frozen (p := ⟨w.heap.size + 1, 4, none⟩) (by show w.heap.size + 1 < _; rw [hs0.out]; omega)).trans hv4; have u5 : w1.cell? ⟨w.heap.size + 1, 5, none⟩ = some (.int .i64 0) := (hB1.cell (p := ⟨w.heap.size + 1, 5, none⟩) (by show w.heap.size + 1 < _; rw [hs0.out]; omega)).trans hu5; have v5 : w1.frozen? ⟨w.heap.size + 1, 5, none⟩ = false := (hB1.frozen (p := ⟨w.heap.size + 1, 5, none⟩) (by show w.heap.size + 1 < _; rw [hs0.out]; omega)).trans hv5; have hBx := hid (hB0.out.trans (hB1.mono (by rw [hs0.out]; omega))); clear hB1) | (go_at_call 49; refine (c49y _ (by omega)).mono ?_; rintro e w' ⟨rfl, rfl⟩))
  have hBl : Hid (Below w.heap.size w (w1.alloc (.cells #[.int .i64 (a.la : Nat), .int .i64 (a.sp : Nat), .int .i64 (a.fo : Nat), .int .i64 (a.sh : Nat), .int .i64 (a.ga : Nat), .int .i64 (a.sl : Nat)] 77))) := hid (hBx.out.alloc hBx.out.size _)
  have hXl : Hid (Abx a (w1.alloc (.cells #[.int .i64 (a.la : Nat), .int .i64 (a.sp : Nat), .int .i64 (a.fo : Nat), .int .i64 (a.sh : Nat), .int .i64 (a.ga : Nat), .int .i64 (a.sl : Nat)] 77)) w1.heap.size) := hid (Abx.newk a w1)
  have hs2 : (w1.alloc (.cells #[.int .i64 (a.la : Nat), .int .i64 (a.sp : Nat), .int .i64 (a.fo : Nat), .int .i64 (a.sh : Nat), .int .i64 (a.ga : Nat), .int .i64 (a.sl : Nat)] 77)).heap.size = w1.heap.size + 1 := by simp
  have p0 := (World.cell?_of_block (w := w1) (Below.heap_alloc w1 (.cells #[.int .i64 (a.la : Nat), .int .i64 (a.sp : Nat), .int .i64 (a.fo : Nat), .int .i64 (a.sh : Nat), .int .i64 (a.ga : Nat), .int .i64 (a.sl : Nat)] 77) (w.heap.size + 1) (by omega)) : (w1.alloc (.cells #[.int .i64 (a.la : Nat), .int .i64 (a.sp : Nat), .int .i64 (a.fo : Nat), .int .i64 (a.sh : Nat), .int .i64 (a.ga : Nat), .int .i64 (a.sl : Nat)] 77)).cell? ⟨w.heap.size + 1, 0, none⟩ = _).trans u0
  have p1 := (World.cell?_of_block (w := w1) (Below.heap_alloc w1 (.cells #[.int .i64 (a.la : Nat), .int .i64 (a.sp : Nat), .int .i64 (a.fo : Nat), .int .i64 (a.sh : Nat), .int .i64 (a.ga : Nat), .int .i64 (a.sl : Nat)] 77) (w.heap.size + 1) (by omega)) : (w1.alloc (.cells #[.int .i64 (a.la : Nat), .int .i64 (a.sp : Nat), .int .i64 (a.fo : Nat), .int .i64 (a.sh : Nat), .int .i64 (a.ga : Nat), .int .i64 (a.sl : Nat)] 77)).cell? ⟨w.heap.size + 1, 1, none⟩ = _).trans u1
  have p2 := (World.cell?_of_block (w := w1) (Below.heap_alloc w1 (.cells #[.int .i64 (a.la : Nat), .int .i64 (a.sp : Nat), .int .i64 (a.fo : Nat), .int .i64 (a.sh : Nat), .int .i64 (a.ga : Nat), .int .i64 (a.sl : Nat)] 77) (w.heap.size + 1) (by omega)) : (w1.alloc (.cells #[.int .i64 (a.la : Nat), .int .i64 (a.sp : Nat), .int .i64 (a.fo : Nat), .int .i64 (a.sh : Nat), .int .i64 (a.ga : Nat), .int .i64 (a.sl : Nat)] 77)).cell? ⟨w.heap.size + 1, 2, none⟩ = _).trans u2
  have p3 := (World.cell?_of_block (w := w1) (Below.heap_alloc w1 (.cells #[.int .i64 (a.la : Nat), .int .i64 (a.sp : Nat), .int .i64 (a.fo : Nat), .int .i64 (a.sh : Nat), .int .i64 (a.ga : Nat), .int .i64 (a.sl : Nat)] 77) (w.heap.size + 1) (by omega)) : (w1.alloc (.cells #[.int .i64 (a.la : Nat), .int .i64 (a.sp : Nat), .int .i64 (a.fo : Nat), .int .i64 (a.sh : Nat), .int .i64 (a.ga : Nat), .int .i64 (a.sl : Nat)] 77)).cell? ⟨w.heap.size + 1, 3, none⟩ = _).trans u3
  have p4 := (World.cell?_of_block (w := w1) (Below.heap_alloc w1 (.cells #[.int .i64 (a.la : Nat), .int .i64 (a.sp : Nat), .int .i64 (a.fo : Nat), .int .i64 (a.sh : Nat), .int .i64 (a.ga : Nat), .int .i64 (a.sl : Nat)] 77) (w.heap.size + 1) (by omega)) : (w1.alloc (.cells #[.int .i64 (a.la : Nat), .int .i64 (a.sp : Nat), .int .i64 (a.fo : Nat), .int .i64 (a.sh : Nat), .int .i64 (a.ga : Nat), .int .i64 (a.sl : Nat)] 77)).cell? ⟨w.heap.size + 1, 4, none⟩ = _).trans u4
  have p5 := (World.cell?_of_block (w := w1) (Below.heap_alloc w1 (.cells #[.int .i64 (a.la : Nat), .int .i64 (a.sp : Nat), .int .i64 (a.fo : Nat), .int .i64 (a.sh : Nat), .int .i64 (a.ga : Nat), .int .i64 (a.sl : Nat)] 77) (w.heap.size + 1) (by omega)) : (w1.alloc (.cells #[.int .i64 (a.la : Nat), .int .i64 (a.sp : Nat), .int .i64 (a.fo : Nat), .int .i64 (a.sh : Nat), .int .i64 (a.ga : Nat), .int .i64 (a.sl : Nat)] 77)).cell? ⟨w.heap.size + 1, 5, none⟩ = _).trans u5
  obtain ⟨w2, hw2⟩ : ∃ w2, w2 = w1.alloc (.cells #[.int .i64 (a.la : Nat), .int .i64 (a.sp : Nat), .int .i64 (a.fo : Nat), .int .i64 (a.sh : Nat), .int .i64 (a.ga : Nat), .int .i64 (a.sl : Nat)] 77) := ⟨_, rfl⟩
  rw [← hw2] at hBl hXl hs2 p0 p1 p2 p3 p4 p5 ⊢
  have r0 : w2.frozen? ⟨w.heap.size + 1, 0, none⟩ = false := by rw [hw2]; exact (World.frozen?_of_block (w := w1) (Below.heap_alloc w1 (.cells #[.int .i64 (a.la : Nat), .int .i64 (a.sp : Nat), .int .i64 (a.fo : Nat), .int .i64 (a.sh : Nat), .int .i64 (a.ga : Nat), .int .i64 (a.sl : Nat)] 77) (w.heap.size + 1) (by omega))).trans v0
  have r1 : w2.frozen? ⟨w.heap.size + 1, 1, none⟩ = false := by rw [hw2]; exact (World.frozen?_of_block (w := w1) (Below.heap_alloc w1 (.cells #[.int .i64 (a.la : Nat), .int .i64 (a.sp : Nat), .int .i64 (a.fo : Nat), .int .i64 (a.sh : Nat), .int .i64 (a.ga : Nat), .int .i64 (a.sl : Nat)] 77) (w.heap.size + 1) (by omega))).trans v1
  have r2 : w2.frozen? ⟨w.heap.size + 1, 2, none⟩ = false := by rw [hw2]; exact (World.frozen?_of_block (w := w1) (Below.heap_alloc w1 (.cells #[.int .i64 (a.la : Nat), .int .i64 (a.sp : Nat), .int .i64 (a.fo : Nat), .int .i64 (a.sh : Nat), .int .i64 (a.ga : Nat), .int .i64 (a.sl : Nat)] 77) (w.heap.size + 1) (by omega))).trans v2
  have r3 : w2.frozen? ⟨w.heap.size + 1, 3, none⟩ = false := by rw [hw2]; exact (World.frozen?_of_block (w := w1) (Below.heap_alloc w1 (.cells #[.int .i64 (a.la : Nat), .int .i64 (a.sp : Nat), .int .i64 (a.fo : Nat), .int .i64 (a.sh : Nat), .int .i64 (a.ga : Nat), .int .i64 (a.sl : Nat)] 77) (w.heap.size + 1) (by omega))).trans v3
  have r4 : w2.frozen? ⟨w.heap.size + 1, 4, none⟩ = false := by rw [hw2]; exact (World.frozen?_of_block (w := w1) (Below.heap_alloc w1 (.cells #[.int .i64 (a.la : Nat), .int .i64 (a.sp : Nat), .int .i64 (a.fo : Nat), .int .i64 (a.sh : Nat), .int .i64 (a.ga : Nat), .int .i64 (a.sl : Nat)] 77) (w.heap.size + 1) (by omega))).trans v4
  have r5 : w2.frozen? ⟨w.heap.size + 1, 5, none⟩ = false := by rw [hw2]; exact (World.frozen?_of_block (w := w1) (Below.heap_alloc w1 (.cells #[.int .i64 (a.la : Nat), .int .i64 (a.sp : Nat), .int .i64 (a.fo : Nat), .int .i64 (a.sh : Nat), .int .i64 (a.ga : Nat), .int .i64 (a.sl : Nat)] 77) (w.heap.size + 1) (by omega))).trans v5
  have hP := hid (And.intro p0 (And.intro p1 (And.intro p2 (And.intro p3 (And.intro p4 p5)))))
  have hR := hid (And.intro r0 (And.intro r1 (And.intro r2 (And.intro r3 (And.intro r4 r5)))))
  clear hw2 p0 p1 p2 p3 p4 p5 r0 r1 r2 r3 r4 r5 u0 u1 u2 u3 u4 u5 v0 v1 v2 v3 v4 v5 hu0 hu1 hu2 hu3 hu4 hu5 hv0 hv1 hv2 hv3 hv4 hv5 hW0 hB0 hs0
  go_loopw [30] (fun iv wr => ∃ k : Nat, k ≤ L.length ∧ iv = .int .i64 (k : Nat) ∧ Below w2.heap.size w2 wr) (fun iv _ => L.length - (intOf iv).toNat)
  case atStart => exact ⟨0, Nat.zero_le _, rfl, Below.refl _ _⟩
  case round =>
    obtain ⟨k, hk, rfl, hB⟩ := hrel
    have hs3 := hB.size
    have hX3 := hXl.out.below hB (by omega)
    have hBw : Below w.heap.size w wr := hBl.out.trans (hB.mono hBl.out.size)
    have hL3 := hLh.out.below hBw (Nat.le_refl _)
    by_cases hlt : k < L.length
    · have g0 := hL3.c0 k hlt
      have g1 := hL3.c1 k hlt
      have g2 := hL3.lt k hlt
      have hix := @Sps.ix _ _ _ _ c _ hL3 k hlt
      have hse := hsth.out k hlt
      obtain ⟨X, hX⟩ : ∃ X, X = L[k].1 := ⟨_, rfl⟩
      obtain ⟨V, hV⟩ : ∃ V, V = L[k].2 := ⟨_, rfl⟩
      rw [← hX] at g0 hse
      rw [← hV] at g1 hse
      have hseh := hid hse
      have hb4 : Hid (Below w2.heap.size w2 (wr.alloc (.cells #[.int .i64 X, .int .i64 V] 25))) := hid (hB.alloc hs3 _)
      obtain ⟨y0, y1, y2, y3, y4, y5⟩ := (hX3.below (B := wr.heap.size) ((Below.refl _ _).alloc (Nat.le_refl _) (.cells #[.int .i64 X, .int .i64 V] 25)) (by omega)).all
      clear hX hV hse hX3 hL3
      go_wp2_with (go_at_call 67; refine (c67 a X V _ ok).mono ?_; rw [hseh.out]; rintro e w4 ⟨rfl, hB4⟩)
      go_roundw
      case rel => exact ⟨k + 1, by omega, by go_num, hb4.out.trans (hB4.mono (by have := hb4.out.size; omega))⟩
      case measure => simp [intOf]; omega
    · obtain ⟨y0, y1, y2, y3, y4, y5⟩ := hX3.all
      obtain ⟨p0, p1, p2, p3, p4, p5⟩ := hP.out
      obtain ⟨r0, r1, r2, r3, r4, r5⟩ := hR.out
      have hlw : w.heap.size + 1 < w2.heap.size := by omega
      replace p0 := (hB.cell (p := ⟨w.heap.size + 1, 0, none⟩) hlw).trans p0
      replace r0 := (hB.frozen (p := ⟨w.heap.size + 1, 0, none⟩) hlw).trans r0
      replace p1 := (hB.cell (p := ⟨w.heap.size + 1, 1, none⟩) hlw).trans p1
      replace r1 := (hB.frozen (p := ⟨w.heap.size + 1, 1, none⟩) hlw).trans r1
      replace p2 := (hB.cell (p := ⟨w.heap.size + 1, 2, none⟩) hlw).trans p2
      replace r2 := (hB.frozen (p := ⟨w.heap.size + 1, 2, none⟩) hlw).trans r2
      replace p3 := (hB.cell (p := ⟨w.heap.size + 1, 3, none⟩) hlw).trans p3
      replace r3 := (hB.frozen (p := ⟨w.heap.size + 1, 3, none⟩) hlw).trans r3
      replace p4 := (hB.cell (p := ⟨w.heap.size + 1, 4, none⟩) hlw).trans p4
      replace r4 := (hB.frozen (p := ⟨w.heap.size + 1, 4, none⟩) hlw).trans r4
      replace p5 := (hB.cell (p := ⟨w.heap.size + 1, 5, none⟩) hlw).trans p5
      replace r5 := (hB.frozen (p := ⟨w.heap.size + 1, 5, none⟩) hlw).trans r5
      have hlz : w.heap.size + 1 < wr.heap.size := by omega
      have hBwh := hid hBw
      clear hX3 hL3 hB hBw
      go_wp2_with fail
      refine bodyPost_ret (v := .tuple #[a.v, .int .i64 0]) (by simp [results, Try.results43, go_sem, hlz, p0, p1, p2, p3, p4, p5]) rfl ⟨rfl, ?_⟩
      have hBw := hBwh.out
      (repeat' (first | (with_reducible exact Below.refl _ _) | (with_reducible assumption) | (with_reducible refine Below.alloc ?_ ?_ _) | (with_reducible refine Below.drew ?_) | (with_reducible refine below_drewN ?_ _) | (with_reducible refine Below.setCell ?_ ?_ _) | (with_reducible refine Below.trans ?_ (Below.mono (by with_reducible assumption) ?_)) | go_size))
end Go.Proofs.Ytajllhjoagldkaa
