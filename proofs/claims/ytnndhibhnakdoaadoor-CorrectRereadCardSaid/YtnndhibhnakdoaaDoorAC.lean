/- Stage 5: reading a block again: the lists, and the search among what was decoded. -/
import Derived.Test.YtnndhibhnakdoaaDoorAB
set_option linter.unusedSimpArgs false
set_option linter.unusedVariables false
namespace Go.Proofs.YtnndhibhnakdoaaDoor
open Go.RowKit Go.BigFrame Go.Sort
open Gf (S)

/-- Words of n symbols as numbers, in a list. -/
structure Reads (w : World) (A : Option Addr) (b o m n : Nat) (W : Nat → Nat → S) : Prop where
  ad : ∀ k, k < m → A = some ⟨b, o, none⟩
  lt : ∀ k, k < m → b < w.heap.size
  ce : ∀ k, k < m → ∃ g c, w.cell? ⟨b, o + k, none⟩ = some (.slice (some ⟨g, 0, none⟩) n c) ∧ Ints w (some ⟨g, 0, none⟩) g 0 n (nf (W k))
theorem Reads.below {w w' : World} {B : Nat} {A : Option Addr} {b o m n : Nat} {W : Nat → Nat → S} (h : Reads w A b o m n W) (hb : Below B w w') (hB : w.heap.size ≤ B) : Reads w' A b o m n W :=
  ⟨h.ad, fun k hk => Nat.lt_of_lt_of_le (h.lt k hk) hb.size, fun k hk => by
    obtain ⟨g, c, h1, h2⟩ := h.ce k hk
    exact ⟨g, c, (hb.cell (p := ⟨b, o + k, none⟩) (Nat.lt_of_lt_of_le (h.lt k hk) hB)).trans h1, h2.below hb hB⟩⟩
theorem Reads.ix {w : World} {A : Option Addr} {b o m n c : Nat} {W : Nat → Nat → S} (h : Reads w A b o m n W) {k : Nat} (hk : k < m) (w' : World) :
    (Instr.indexAt 47 (.slice A m c) (.int .i64 k)).run Tryd.prog w' = .ok (.pointer (some ⟨b, o + k, none⟩)) w' := by
  have h2 : (k : Int) < (m : Int) := by omega
  rw [h.ad k hk]
  go_simp
/-- The same word, as symbols, in each place of a list. -/
structure Decs (w : World) (g q n : Nat) (C : Nat → S) : Prop where
  lt : g < w.heap.size
  ce : ∀ k, k < q → ∃ d c, w.cell? ⟨g, k, none⟩ = some (.slice (some ⟨d, 0, none⟩) n c) ∧ Syms w (some ⟨d, 0, none⟩) d 0 n C
theorem Decs.below {w w' : World} {B : Nat} {g q n : Nat} {C : Nat → S} (h : Decs w g q n C) (hb : Below B w w') (hB : w.heap.size ≤ B) : Decs w' g q n C :=
  ⟨Nat.lt_of_lt_of_le h.lt hb.size, fun k hk => by
    obtain ⟨d, c, h1, h2⟩ := h.ce k hk
    exact ⟨d, c, (hb.cell (p := ⟨g, k, none⟩) (Nat.lt_of_lt_of_le h.lt hB)).trans h1, h2.below hb hB⟩⟩
theorem ix91 {g q c k : Nat} (hk : k < q) (w' : World) :
    (Instr.indexAt 91 (.slice (some ⟨g, 0, none⟩) q c) (.int .i64 k)).run Tryd.prog w' = .ok (.pointer (some ⟨g, k, none⟩)) w' := by
  have h2 : (k : Int) < (q : Int) := by omega
  go_simp
set_option maxHeartbeats 1000000 in
theorem c74 (a b n c d : Nat) (C : Nat → S) (w : World) (h1 : Syms w (some ⟨a, 0, none⟩) a 0 n C) (h2 : Syms w (some ⟨b, 0, none⟩) b 0 n C) (hn : n ≤ 1000) :
    Calls Tryd.prog 74 #[.slice (some ⟨a, 0, none⟩) n c, .slice (some ⟨b, 0, none⟩) n d] w fun e w' => e = .returned (.bool true) ∧ Below w.heap.size w w' := by
  have h1h := hid h1
  have h2h := hid h2
  clear h1 h2
  go_enter Tryd.func74, Tryd.ntmps74
  go_wp2_with fail
  go_loopw [13] (fun iv wr => ∃ j : Nat, j ≤ n ∧ iv = .int .i64 j ∧ Below w.heap.size w wr) (fun iv _ => n - (intOf iv).toNat)
  case atStart => exact ⟨0, Nat.zero_le _, rfl, Below.refl _ _⟩
  case round =>
    obtain ⟨j, hj, rfl, hB⟩ := hrel
    by_cases hlt : j < n
    · have y1 := h1h.out.below hB (Nat.le_refl _)
      have y2 := h2h.out.below hB (Nat.le_refl _)
      have a1 := y1.ce j hlt
      have a2 := y2.ce j hlt
      have i1 := fun w' => @Syms.ix _ _ _ _ _ c _ y1 j hlt w'
      have i2 := fun w' => @Syms.ix _ _ _ _ _ d _ y2 j hlt w'
      unfold sv at a1 a2
      obtain ⟨x, hx⟩ : ∃ x, x = (C j).val := ⟨_, rfl⟩
      rw [← hx] at a1 a2
      simp only [Nat.zero_add] at a1 a2 i1 i2
      have d1 := cell_regrown a1
      have d2 := cell_regrown a2
      have hBh := hid hB
      clear y1 y2 hB hx
      go_wp2_with fail
      refine wp_region_quiet_below (by kernel_rfl) (by kernel_rfl) ?_; (repeat (go_big_quiet_step ((first | fail)))); refine wpQuiet_nil ?_; intro _ hw; obtain ⟨q, hwq⟩ := hw; subst hwq
      go_wp2_with fail
      go_roundw
      case rel => exact ⟨j + 1, by omega, by go_num, hBh.out.trans ((below_regrown _ _ _).mono hBh.out.size)⟩
      case measure => simp [intOf]; omega
    · have hBh := hid hB
      clear hB
      go_wp2_with fail
      go_returns
      exact ⟨rfl, hBh.out⟩
set_option maxHeartbeats 1000000 in
theorem c73 (d n c B g q cc : Nat) (C : Nat → S) (w : World) (hz : Syms w (some ⟨d, 0, none⟩) d 0 n C) (hb : w.cell? ⟨B, 0, none⟩ = some (.slice (some ⟨g, 0, none⟩) q cc)) (hD : Decs w g q n C) (hq : 0 < q) (hn : n ≤ 1000) :
    Calls Tryd.prog 73 #[.slice (some ⟨d, 0, none⟩) n c, .pointer (some ⟨B, 0, none⟩)] w fun e w' => e = .returned (.bool false) ∧ Below w.heap.size w w' := by
  obtain ⟨d0, c0, hc, hs⟩ := hD.ce 0 hq
  have i0 := fun w' => ix91 (g := g) (q := q) (c := cc) (k := 0) hq w'
  have hzh := hid hz
  have hsh := hid hs
  clear hz hs hD
  go_enter Tryd.func73, Tryd.ntmps73
  go_wp2_with (go_at_call 74; refine (c74 d d0 n c c0 C _ hzh.out hsh.out hn).mono ?_; rintro e w1 ⟨rfl, hB1⟩)
  go_returns
  exact ⟨rfl, hB1⟩
set_option maxHeartbeats 1000000 in
theorem c99 (B g q cc n : Nat) (C : Nat → S) (w : World) (hb : w.cell? ⟨B, 0, none⟩ = some (.slice (some ⟨g, 0, none⟩) q cc)) (hD : Decs w g q n C) (hn : n ≤ 1000) (hqq : q ≤ 1000) :
    Calls Tryd.prog 99 #[.slice (some ⟨g, 0, none⟩) q cc, .func (.func 73) #[] #[.pointer (some ⟨B, 0, none⟩)]] w fun e w' => e = .returned (.int .i64 (-1)) ∧ Below w.heap.size w w' := by
  have hbh := hid hb
  have hDh := hid hD
  have hlB := hid (World.block_lt_of_cell? w _ hb)
  clear hb hD
  go_enter Tryd.func99, Tryd.ntmps99
  go_wp2_with fail
  go_loopw [8] (fun iv wr => ∃ j : Nat, j ≤ q ∧ iv = .int .i64 j ∧ Below w.heap.size w wr) (fun iv _ => q - (intOf iv).toNat)
  case atStart => exact ⟨0, Nat.zero_le _, rfl, Below.refl _ _⟩
  case round =>
    obtain ⟨j, hj, rfl, hB⟩ := hrel
    by_cases hlt : j < q
    · have y1 := hDh.out.below hB (Nat.le_refl _)
      obtain ⟨d, c, a1, s1⟩ := y1.ce j hlt
      have i1 := fun w' => ix91 (g := g) (q := q) (c := cc) (k := j) hlt w'
      have hbr : Hid (wr.cell? ⟨B, 0, none⟩ = some (.slice (some ⟨g, 0, none⟩) q cc)) := hid ((hB.cell (p := ⟨B, 0, none⟩) hlB.out).trans hbh.out)
      have s1h := hid s1
      have y1h := hid y1
      have hq : 0 < q := by omega
      have hBh := hid hB
      clear s1 y1 hB
      go_wp2_with (go_at_call 73; refine (c73 d n c B g q cc C _ s1h.out hbr.out y1h.out hq hn).mono ?_; rintro e w1 ⟨rfl, hB1⟩; have hB1 := hid (hBh.out.trans (hB1.mono hBh.out.size)))
      go_roundw
      case rel => exact ⟨j + 1, by omega, by go_num, hB1.out⟩
      case measure => simp [intOf]; omega
    · have hBh := hid hB
      clear hB
      go_wp2_with fail
      go_returns
      exact ⟨rfl, hBh.out⟩
set_option maxHeartbeats 1000000 in
theorem c75 (B g q cc n : Nat) (C : Nat → S) (w : World) (hb : w.cell? ⟨B, 0, none⟩ = some (.slice (some ⟨g, 0, none⟩) q cc)) (hD : Decs w g q n C) (hn : n ≤ 1000) (hqq : q ≤ 1000) :
    Calls Tryd.prog 75 #[.slice (some ⟨g, 0, none⟩) q cc, .func (.func 73) #[] #[.pointer (some ⟨B, 0, none⟩)]] w fun e w' => e = .returned (.bool false) ∧ Below w.heap.size w w' := by
  have hbh := hid hb
  have hDh := hid hD
  clear hb hD
  go_enter Tryd.func75, Tryd.ntmps75
  go_wp2_with (go_at_call 99; refine (c99 B g q cc n C _ hbh.out hDh.out hn hqq).mono ?_; rintro e w1 ⟨rfl, hB1⟩)
  go_returns
  exact ⟨rfl, hB1⟩
end Go.Proofs.YtnndhibhnakdoaaDoor
