/- Stage 6: the command of a state. -/
import Derived.Test.YtajllhjoagldkaaMb
import Derived.Test.YtajllhjoagldkaaE
import Derived.Test.YtajllhjoagldkaaO
set_option linter.unusedSimpArgs false
set_option linter.unusedVariables false
namespace Go.Proofs.Ytajllhjoagldkaa
open Go.RowKit Go.Maps Go.WideMaps

/-- The states that have at most M steps. -/
def nrB (d : Int → Int → Bool) (g : Int → Int → Int) (M : Int) (p v : Int) : Bool := d p v && decide (g p v ≤ M)
set_option maxHeartbeats 1000000 in
theorem c73 (d : Int → Int → Bool) (g : Int → Int → Int) (M : Int) (x y b n : Nat) (p v : Int) (w : World) (hx : w.cell? ⟨x, 6, none⟩ = some (.map (some b))) (hy : w.cell? ⟨y, 0, none⟩ = some (.int .i64 M)) (lx : x < w.heap.size) (ly : y < w.heap.size) (hm : MapI w b n d g) (hp : Sm p) (hv : Sm v) :
    Calls Try.prog 73 #[.agg #[.int .i64 p, .int .i64 v], .pointer (some ⟨x, 0, none⟩), .pointer (some ⟨y, 0, none⟩)] w (Bool1 (nrB d g M p v) w) := by
  have hl := (hm.alloc (.cells #[.int .i64 p, .int .i64 v] 25)).ask hp hv
  unfold nrB
  obtain ⟨G, hG⟩ : ∃ G, G = g p v := ⟨_, rfl⟩
  rw [← hG] at hl ⊢
  clear hm hp hv hG
  cases hd : d p v with
  | false =>
    rw [hd] at hl
    clear hd
    go_enter Try.func73, Try.ntmps73
    go_wp2_with fail
    go_returns
    exact ⟨rfl, by (repeat' (first | (with_reducible exact Below.refl _ _) | (with_reducible assumption) | (with_reducible refine Below.alloc ?_ ?_ _) | (with_reducible refine Below.drew ?_) | (with_reducible refine below_drewN ?_ _) | (with_reducible refine Below.setCell ?_ ?_ _) | (with_reducible refine Below.trans ?_ (Below.mono (by with_reducible assumption) ?_)) | go_size))⟩
  | true =>
    rw [hd] at hl
    clear hd
    by_cases h : G ≤ M
    · rw [decide_eq_true h]
      go_enter Try.func73, Try.ntmps73
      go_wp2_with fail
      go_returns
      exact ⟨rfl, by (repeat' (first | (with_reducible exact Below.refl _ _) | (with_reducible assumption) | (with_reducible refine Below.alloc ?_ ?_ _) | (with_reducible refine Below.drew ?_) | (with_reducible refine below_drewN ?_ _) | (with_reducible refine Below.setCell ?_ ?_ _) | (with_reducible refine Below.trans ?_ (Below.mono (by with_reducible assumption) ?_)) | go_size))⟩
    · rw [decide_eq_false h]
      go_enter Try.func73, Try.ntmps73
      go_wp2_with fail
      go_returns
      exact ⟨rfl, by (repeat' (first | (with_reducible exact Below.refl _ _) | (with_reducible assumption) | (with_reducible refine Below.alloc ?_ ?_ _) | (with_reducible refine Below.drew ?_) | (with_reducible refine below_drewN ?_ _) | (with_reducible refine Below.setCell ?_ ?_ _) | (with_reducible refine Below.trans ?_ (Below.mono (by with_reducible assumption) ?_)) | go_size))⟩
set_option maxRecDepth 100000 in
set_option maxHeartbeats 4000000 in
theorem c47 (a : Ar) (b n : Nat) (d : Int → Int → Bool) (g : Int → Int → Int) (p v : Int) (w : World) (ok : a.Ok) (hm : MapI w b n d g) (hp : 0 ≤ p ∧ p ≤ 40) (hv : -8 ≤ v ∧ v ≤ 8) (G : Nat) (hg : g p v = (G : Nat)) (hG : G ≤ 1000) :
    Calls Try.prog 47 #[.agg #[.int .i64 (a.la : Nat), .int .i64 (a.sp : Nat), .int .i64 (a.fo : Nat), .int .i64 (a.sh : Nat), .int .i64 (a.ga : Nat), .int .i64 (a.sl : Nat), .map (some b)], .agg #[.int .i64 p, .int .i64 v]] w fun e w' => e = .returned (.int .i64 ((low a (nrB d g ((G - 1 : Nat) : Int)) p v).getD 0)) ∧ Below w.heap.size w w' := by
  have hmh := hid hm
  have hsm : Sm p ∧ Sm v := ⟨⟨by omega, by omega⟩, ⟨by omega, by omega⟩⟩
  obtain ⟨w1, hw1⟩ : ∃ w1, w1 = (w.alloc (.cells #[.int .i64 (a.la : Nat), .int .i64 (a.sp : Nat), .int .i64 (a.fo : Nat), .int .i64 (a.sh : Nat), .int .i64 (a.ga : Nat), .int .i64 (a.sl : Nat), .map (some b)] 86)).alloc (.cells #[.int .i64 p, .int .i64 v] 25) := ⟨_, rfl⟩
  have hl : (Instr.lookup 84 (.map (some b)) (.agg #[.int .i64 p, .int .i64 v]) false).run Try.prog w1 = .ok (.int .i64 (G : Nat)) w1 := by
    have := ((hm.alloc (.cells #[.int .i64 (a.la : Nat), .int .i64 (a.sp : Nat), .int .i64 (a.fo : Nat), .int .i64 (a.sh : Nat), .int .i64 (a.ga : Nat), .int .i64 (a.sl : Nat), .map (some b)] 86)).alloc (.cells #[.int .i64 p, .int .i64 v] 25)).look hsm.1 hsm.2
    rw [hg] at this
    rw [hw1]; exact this
  have hB1 : Hid (Below w.heap.size w w1) := hid (by rw [hw1]; (repeat' (first | (with_reducible exact Below.refl _ _) | (with_reducible assumption) | (with_reducible refine Below.alloc ?_ ?_ _) | (with_reducible refine Below.drew ?_) | (with_reducible refine below_drewN ?_ _) | (with_reducible refine Below.setCell ?_ ?_ _) | (with_reducible refine Below.trans ?_ (Below.mono (by with_reducible assumption) ?_)) | go_size)))
  have hs1 : w1.heap.size = w.heap.size + 2 := by rw [hw1]; simp
  have hb1 : Hid (w1.heap[w.heap.size]? = some (.cells #[.int .i64 (a.la : Nat), .int .i64 (a.sp : Nat), .int .i64 (a.fo : Nat), .int .i64 (a.sh : Nat), .int .i64 (a.ga : Nat), .int .i64 (a.sl : Nat), .map (some b)] 86 (0, 0))) := hid (by rw [hw1]; exact (Below.heap_alloc _ _ _ (by simp)).trans (heap_new _ _))
  have hd1 : Hid (w1.heap[w.heap.size + 1]? = some (.cells #[.int .i64 p, .int .i64 v] 25 (0, 0))) := hid (by
    have := heap_new (w.alloc (.cells #[.int .i64 (a.la : Nat), .int .i64 (a.sp : Nat), .int .i64 (a.fo : Nat), .int .i64 (a.sh : Nat), .int .i64 (a.ga : Nat), .int .i64 (a.sl : Nat), .map (some b)] 86)) (.cells #[.int .i64 p, .int .i64 v] 25)
    rw [World.size_alloc] at this
    rw [hw1]; exact this)
  rw [hw1] at hl
  clear hm hg
  have main : ∀ (M : Int) (w2 : World), w2 = w1.alloc (.cells #[.int .i64 M] 3) → Asks73 w.heap.size (w.heap.size + 1 + 1) (nrB d g M) w2 ∧ Below w.heap.size w w2 := by
    intro M w2 hw2
    have hk : Below w1.heap.size w1 w2 := by rw [hw2]; exact (Below.refl _ _).alloc (Nat.le_refl _) _
    have hm2 : MapI w2 b n d g := (hmh.out.below hB1.out hmh.out.lt).below hk (by have := hmh.out.lt; omega)
    have hy2 : w2.cell? ⟨w.heap.size + 1 + 1, 0, none⟩ = some (.int .i64 M) := by rw [hw2, show w.heap.size + 1 + 1 = w1.heap.size by omega]; exact (Boxed.new w1 3 (.int .i64 M)).cell
    have hx2 : w2.cell? ⟨w.heap.size, 6, none⟩ = some (.map (some b)) := (hk.cell (p := ⟨w.heap.size, 6, none⟩) (by show w.heap.size < _; omega)).trans (by simp [World.cell?, hb1.out])
    have hs2 : w2.heap.size = w1.heap.size + 1 := by rw [hw2]; simp
    exact ⟨fun w' hb P V hP hV => c73 d g M w.heap.size (w.heap.size + 1 + 1) b n P V w' ((hb.cell (p := ⟨w.heap.size, 6, none⟩) (by show w.heap.size < _; omega)).trans hx2) ((hb.cell (p := ⟨w.heap.size + 1 + 1, 0, none⟩) (by show w.heap.size + 1 + 1 < _; omega)).trans hy2) (by have := hb.size; omega) (by have := hb.size; omega) (hm2.below hb hm2.lt) hP hV, hB1.out.trans (hk.mono (by omega))⟩
  rw [hw1] at main
  have hmainh := hid main
  clear main hb1 hd1 hB1 hw1 hs1
  rcases Nat.eq_zero_or_pos G with h0 | h0
  · subst h0
    go_enter Try.func47, Try.ntmps47
    go_wp2_with (go_at_call 74; refine (c74_73 a w.heap.size (w.heap.size + 1 + 1) (nrB d g 0) p v _ ok hp hv (hmainh.out 0 _ rfl).1).mono ?_; rintro e w5 ⟨rfl, hB5⟩)
    go_returns
    exact ⟨rfl, (hmainh.out 0 _ rfl).2.trans (hB5.mono (hmainh.out 0 _ rfl).2.size)⟩
  · have hmax : (if (0 : Int) < (G : Int) - 1 then (G : Int) - 1 else 0) = (G : Int) - 1 := by split <;> omega
    go_enter Try.func47, Try.ntmps47
    go_wp2_with (go_at_call 74; refine (c74_73 a w.heap.size (w.heap.size + 1 + 1) (nrB d g ((G : Int) - 1)) p v _ ok hp hv (hmainh.out ((G : Int) - 1) _ rfl).1).mono ?_; rintro e w5 ⟨rfl, hB5⟩)
    go_returns
    refine ⟨?_, (hmainh.out ((G : Int) - 1) _ rfl).2.trans (hB5.mono (hmainh.out ((G : Int) - 1) _ rfl).2.size)⟩
    rw [show ((G - 1 : Nat) : Int) = (G : Int) - 1 by omega]
    rfl
end Go.Proofs.Ytajllhjoagldkaa
