/- Stage 5: the code word of some data. -/
import Derived.Test.YtnndhibhnakdoaaDoorK
import Derived.Laws.CopyOwn
set_option linter.unusedSimpArgs false
set_option linter.unusedVariables false
namespace Go.Proofs.YtnndhibhnakdoaaDoor
open Go.RowKit Go.BigFrame Go.Sort
open Gf (S)

theorem RowS.of_list {w : World} {g n : Nat} {f : Nat → S} (L : List Value) (hg : w.heap[g]? = some (.cells L.toArray 76 (0, 0))) (hn : n ≤ L.length) (h : ∀ i, i < n → L[i]? = some (sv (f i))) : RowS w g n f :=
  ⟨L.length, fun i => L[i]?.getD (.int .u8 0), ⟨L.toArray, hg, by simp, fun i hi => by simp [hi]⟩, hn, fun i hi => by show L[i]?.getD (Value.int IntKind.u8 0) = _; rw [h i hi]; rfl⟩
/-- The data, and 0 behind. -/
def pad (n r : Nat) (d : Nat → S) (j : Nat) : S := if j < n - r then d j else 0
theorem made_list (n k : Nat) (hk : k ≤ n) (d : Nat → S) : ∀ i, i < n → (valS k d ++ (madeCells #[.int .u8 0] n).toList.drop k)[i]? = some (sv (if i < k then d i else 0)) := by
  intro i hi
  by_cases h : i < k
  · rw [List.getElem?_append_left (by rw [valS_len]; exact h), valS_get h, if_pos h]
  · rw [List.getElem?_append_right (by rw [valS_len]; omega), valS_len, List.getElem?_drop, if_neg h]
    have : k + (i - k) = i := by omega
    rw [this]
    simp [madeCells, hi, Nat.mod_one, sv]
theorem cell_one (W : World) (v : Value) (t : TypeId) : (W.alloc (.cells #[v] t)).cell? ⟨W.heap.size, 0, none⟩ = some v := by simp
theorem cell_old {W : World} {a : Nat} {v : Value} (h : W.cell? ⟨a, 0, none⟩ = some v) (o : Obj) : (W.alloc o).cell? ⟨a, 0, none⟩ = some v :=
  (((Below.refl W.heap.size W).alloc (Nat.le_refl _) o).cell (p := ⟨a, 0, none⟩) (World.block_lt_of_cell? W _ h)).trans h
theorem encP_nodup (n r : Nat) : (Gf.encP n r).Nodup := List.Nodup.sublist List.filter_sublist List.nodup_range
theorem c84e (n r B : Nat) (A : Option Addr) (c : Nat) (w : World) (hn : n ≤ 15) (hr : r ≤ n) (hb : w.cell? ⟨B, 0, none⟩ = some (.slice A (n - r) c)) :
    Calls Tryd.prog 84 #[.int .i64 (n : Nat), .func (.func 85) #[] #[.pointer (some ⟨B, 0, none⟩)]] w fun e w' => ∃ (A' : Option Addr) (b' c' : Nat) (p : Nat → Nat), e = .returned (.slice A' r c') ∧ Ints w' A' b' 0 r (fun k => (p k : Nat)) ∧ li p r = Gf.encP n r ∧ Below w.heap.size w w' := by
  refine (c84_85 n B (fun x => decide (n - r ≤ x)) w (by omega) (fun W' hW' x _ => c85 x B (n - r) c A W' ((hW'.cell (p := ⟨B, 0, none⟩) (World.block_lt_of_cell? w _ hb)).trans hb))).mono ?_
  rintro e w5 ⟨v5, rfl, hown, K5⟩
  have hl : (cho (fun x => decide (n - r ≤ x)) n).length = r := Gf.encP_len hr
  rw [hl] at hown
  obtain ⟨A5, b5, c5, rfl, hI5, _⟩ := own_pos hown hl.symm
  have h2 := li_at (cho (fun x => decide (n - r ≤ x)) n)
  rw [hl] at h2
  exact ⟨A5, b5, c5, at_ (cho (fun x => decide (n - r ≤ x)) n), rfl, hI5, h2, K5⟩
set_option maxRecDepth 100000 in
set_option maxHeartbeats 8000000 in
theorem c49 (n r : Nat) (A : Option Addr) (b o c : Nat) (d : Nat → S) (w : World) (hT : Tab w) (hz : Syms w A b o (n - r) d) (hr : r < n) (hn : n ≤ 15) (hr8 : r ≤ 8) :
    Calls Tryd.prog 49 #[cv n r, .slice A (n - r) c] w (SRet n (Gf.enc n r d) w) := by
  have hmk := fun W => run_make_row' (P := Tryd.prog) 70 76 (.int .u8 0) 1 Tryd.underlying70 Tryd.info76 rfl .i64 .i64 n (by omega) (by omega) W
  have hA := hz.ad 0 (by omega)
  subst hA
  have hTh := hid hT
  have hch := hid (syms_cells hz)
  have hblt := hz.lt 0 (by omega)
  clear hT hz
  obtain ⟨W3, hW3⟩ : ∃ W3 : World, W3 = ((w.alloc (.cells #[.int .i64 (n : Nat), .int .i64 (r : Nat)] 66)).alloc (.cells #[.slice (some ⟨b, o, none⟩) (n - r) c] 70)).alloc (.cells (madeCells #[.int .u8 0] n) 76) := ⟨_, rfl⟩
  have hB3 : Hid (Below w.heap.size w W3) := hid (by rw [hW3]; (repeat' (first | (with_reducible exact Below.refl _ _) | (with_reducible assumption) | (with_reducible refine Below.alloc ?_ ?_ _) | (with_reducible refine Below.drew ?_) | (with_reducible refine below_drewN ?_ _) | (with_reducible refine Below.setCell ?_ ?_ _) | (with_reducible refine Below.trans ?_ (Below.mono (by with_reducible assumption) ?_)) | go_size)))
  have hX3 : Hid (Bx n r W3 w.heap.size) := hid (by rw [hW3]; exact ((Bx.new n r w 66).below ((Below.refl _ _).alloc (Nat.le_refl _) (.cells #[.slice (some ⟨b, o, none⟩) (n - r) c] 70)) (by simp)).below ((Below.refl _ _).alloc (Nat.le_refl _) _) (by simp; omega))
  have hD3 : Hid (W3.cell? ⟨w.heap.size + 1, 0, none⟩ = some (.slice (some ⟨b, o, none⟩) (n - r) c)) := hid (by
    rw [hW3]
    have h := cell_old (cell_one (w.alloc (.cells #[.int .i64 (n : Nat), .int .i64 (r : Nat)] 66)) (.slice (some ⟨b, o, none⟩) (n - r) c) 70) (.cells (madeCells #[.int .u8 0] n) 76)
    rw [World.size_alloc] at h
    exact h)
  have hg3 : Hid (W3.heap[w.heap.size + 2]? = some (.cells (madeCells #[.int .u8 0] n) 76 (0, 0))) := hid (by
    rw [hW3]
    have h := heap_new ((w.alloc (.cells #[.int .i64 (n : Nat), .int .i64 (r : Nat)] 66)).alloc (.cells #[.slice (some ⟨b, o, none⟩) (n - r) c] 70)) (.cells (madeCells #[.int .u8 0] n) 76)
    rw [World.size_alloc, World.size_alloc] at h
    exact h)
  have hs3 : Hid (W3.heap.size = w.heap.size + 3) := hid (by rw [hW3, World.size_alloc, World.size_alloc, World.size_alloc])
  have hW3h := hid hW3
  clear hW3
  go_enter Tryd.func49, Tryd.ntmps49
  go_wp2_with (rw [← hW3h.out]; with_reducible refine wpList_copy_own rfl (.tmp 10) (.tmp 11) 70 70 rfl 76 Tryd.underlying70 (by kernel_rfl) (w.heap.size + 2) 0 n n ⟨b, o, none⟩ (n - r) c rfl rfl (madeCells #[.int .u8 0] n) 76 hg3.out (valS (n - r) d) (by rw [valS_len]; show _ = min (n - r) n; omega) ?hsrc (by rw [valS_len, size_madeCells]; omega) (valS_one _ _) ?hgo)
  case hsrc =>
    intro j v hj
    have h1 := hch.out j v hj
    exact (hB3.out.cell (World.block_lt_of_cell? w _ h1)).trans h1
  case hgo =>
    obtain ⟨W4, hW4⟩ : ∃ W4 : World, W4 = W3.setRow (w.heap.size + 2) ((madeCells #[.int .u8 0] n).toList.take 0 ++ (valS (n - r) d ++ (madeCells #[.int .u8 0] n).toList.drop (0 + (valS (n - r) d).length))).toArray := ⟨_, rfl⟩
    rw [← hW4]
    have hb34 : Below (w.heap.size + 2) W3 W4 := by rw [hW4]; exact below_setRow (Below.refl _ _) (Nat.le_refl _) _
    have hR4 : Hid (RowS W4 (w.heap.size + 2) n (pad n r d)) := hid (by
      refine RowS.of_list (((madeCells #[.int .u8 0] n).toList.take 0 ++ (valS (n - r) d ++ (madeCells #[.int .u8 0] n).toList.drop (0 + (valS (n - r) d).length)))) (by rw [hW4]; exact setRow_heap W3 _ _ _ 76 _ hg3.out) ?_ (fun i hi => ?_)
      · simp [valS_len, size_madeCells]
      · rw [List.take_zero, List.nil_append, Nat.zero_add, valS_len]
        exact made_list n (n - r) (by omega) d i hi)
    have hX4 : Hid (Bx n r W4 w.heap.size) := hid (hX3.out.below hb34 (by omega))
    have hD4 : Hid (W4.cell? ⟨w.heap.size + 1, 0, none⟩ = some (.slice (some ⟨b, o, none⟩) (n - r) c)) := hid ((hb34.cell (p := ⟨w.heap.size + 1, 0, none⟩) (by show w.heap.size + 1 < _; omega)).trans hD3.out)
    have hB4 : Hid (Below w.heap.size w W4) := hid (hB3.out.trans (hb34.mono (by omega)))
    have hs4 : w.heap.size + 3 ≤ W4.heap.size := by have := hb34.size; rw [hs3.out] at this; exact this
    clear hW4 hb34 hX3 hD3 hg3 hs3 hW3h hB3
    have p1 := hX4.out.1
    have p2 := hX4.out.2
    have hD4d := hid (show W4.drew.cell? ⟨w.heap.size + 1, 0, none⟩ = some (.slice (some ⟨b, o, none⟩) (n - r) c) from hD4.out)
    go_region_held3 (fun w' => w'.cell? ⟨w.heap.size, 0, none⟩ = some (.int .i64 (n : Nat)) ∧ w'.cell? ⟨w.heap.size, 1, none⟩ = some (.int .i64 (r : Nat))) (first | exact ⟨p1, p2⟩ | exact f5.out | exact f6.out) (first | (go_at_call 83; (with_reducible refine (c83 n r (w.heap.size + 2) 0 n (pad n r d) A5 b5 0 r c5 p5 w5 (hTh.out.below hB5.out (Nat.le_refl _)) hR5.out.syms hI5h.out (by omega) hn hr8 (Nat.le_refl _) hq5.out hd5.out).mono ?_); rintro e w6 ⟨g6, c6, rfl, hg6, hc6, R6, K6⟩; have R6 := hid R6; have f6 := hid (show w6.cell? ⟨w.heap.size, 0, none⟩ = some (.int .i64 (n : Nat)) ∧ w6.cell? ⟨w.heap.size, 1, none⟩ = some (.int .i64 (r : Nat)) from ⟨(K6.cell (p := ⟨w.heap.size, 0, none⟩) (by have := hR5.out.lt; show w.heap.size < _; omega)).trans f5.out.1, (K6.cell (p := ⟨w.heap.size, 1, none⟩) (by have := hR5.out.lt; show w.heap.size < _; omega)).trans f5.out.2⟩); have hB6 := hid (hB5.out.trans (K6.mono hB5.out.size)); clear K6) | (go_at_call 84; (with_reducible refine (c84e n r (w.heap.size + 1) (some ⟨b, o, none⟩) c W4.drew hn (by omega) hD4d.out).mono ?_); rintro e w5 ⟨A5, b5, c5, p5, rfl, hI5, hl5, K5⟩; replace K5 : Below W4.heap.size W4 w5 := ((Below.refl _ _).drew).trans K5; have hI5h := hid hI5; have hl5h := hid hl5; have hq5 : Hid (∀ k, k < r → p5 k < n) := hid (fun k hk => by have h1 : p5 k ∈ Gf.encP n r := (by rw [← hl5]; exact li_mem.2 ⟨k, hk, rfl⟩); simp only [Gf.encP, List.mem_filter, List.mem_range] at h1; exact h1.1); have hd5 : Hid ((li p5 r).Nodup) := hid (by rw [hl5]; exact encP_nodup n r); have f5 := hid (show w5.cell? ⟨w.heap.size, 0, none⟩ = some (.int .i64 (n : Nat)) ∧ w5.cell? ⟨w.heap.size, 1, none⟩ = some (.int .i64 (r : Nat)) from ⟨(K5.cell (p := ⟨w.heap.size, 0, none⟩) (by show w.heap.size < _; omega)).trans p1, (K5.cell (p := ⟨w.heap.size, 1, none⟩) (by show w.heap.size < _; omega)).trans p2⟩); have hR5 := hid (hR4.out.below K5 (by omega)); have hB5 := hid (hB4.out.trans (K5.mono hB4.out.size)); clear hI5 hl5 K5))
    go_wp2
    go_returns
    refine ⟨g6, c6, rfl, by have := hB5.out.size; omega, hc6, R6.out.congr (fun j _ => ?_), hB6.out⟩
    rw [hl5h.out]
    rfl
end Go.Proofs.YtnndhibhnakdoaaDoor
