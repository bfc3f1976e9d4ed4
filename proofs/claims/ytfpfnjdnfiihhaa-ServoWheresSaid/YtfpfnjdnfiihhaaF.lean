/- Stage 2: the least of some numbers; a copy of numbers; positions; where a track lies. -/
import Derived.Test.YtfpfnjdnfiihhaaE
import Derived.Laws.AppendOwnNone
import Derived.Deep.OwnRows
set_option linter.unusedSimpArgs false
set_option linter.unusedVariables false
namespace Go.Proofs.Ytfpfnjdnfiihhaa
open Go.RowKit

theorem min_if (a b : Int) : min a b = if b < a then b else a := by omega
theorem wmin_pred (f : Nat → Int) {k : Nat} (h : 1 ≤ k) : wmin f 0 (k + 1 - 1) = min (wmin f 0 (k - 1)) (f k) := by
  obtain ⟨j, rfl⟩ : ∃ j, k = j + 1 := ⟨k - 1, by omega⟩
  simp only [show j + 1 + 1 - 1 = j + 1 by omega, show j + 1 - 1 = j by omega, wmin, show 0 + j + 1 = j + 1 by omega]
set_option maxHeartbeats 400000 in
theorem c53' (A : Option Addr) (b o n c : Nat) (f : Nat → Int) (w : World) (hz : Ints w A b o (n + 1) f) (hm : n ≤ 1000000) :
    Calls Try.prog 53 #[.slice A (n + 1) c] w fun e w' => e = .returned (.int .i64 (wmin f 0 n)) ∧ w = w' := by
  have h10 := hz.ce 0 (by omega); have h30 := hz.lt 0 (by omega); have h40 := @Ints.ix _ _ _ _ _ c _ hz 0 (by omega)
  rw [Nat.add_zero] at h10 h40
  have h40' : ∀ w', (Instr.indexAt 28 (.slice A (n + 1) c) (.int .i64 0)).run Try.prog w' = .ok (.pointer (some ⟨b, o, none⟩)) w' := h40
  clear h40
  go_enter Try.func53, Try.ntmps53
  go_wp2
  clear h10 h40'
  go_loop [3, 4] (fun m i => ∃ k : Nat, 1 ≤ k ∧ k ≤ n + 1 ∧ i = .int .i64 k ∧ m = .int .i64 (wmin f 0 (k - 1))) (fun _ i => n + 1 - (intOf i).toNat)
  case atStart => exact ⟨1, by omega, by omega, rfl, rfl⟩
  case round =>
    obtain ⟨k, hk1, hk, rfl, rfl⟩ := hrel
    by_cases hlt : k < n + 1
    · have h1 := hz.ce k hlt; have h3 := hz.lt k hlt; have h4 := @Ints.ix _ _ _ _ _ c _ hz _ hlt
      go_wp2_with fail
      go_round
      case rel => exact ⟨k + 1, by omega, by omega, by go_num, by rw [wmin_pred f hk1, min_if]⟩
      case measure => simp [intOf]; omega
    · go_wp2_with fail
      go_returns
      obtain rfl : k = n + 1 := by omega
      exact ⟨rfl, rfl⟩
theorem c53 (A : Option Addr) (b o n c : Nat) (f : Nat → Int) (w : World) (hz : Ints w A b o n f) (h0 : 0 < n) (hm : n ≤ 1000000) :
    Calls Try.prog 53 #[.slice A n c] w fun e w' => e = .returned (.int .i64 (wmin f 0 (n - 1))) ∧ w = w' := by
  obtain ⟨k, rfl⟩ : ∃ k, n = k + 1 := ⟨n - 1, by omega⟩
  exact c53' A b o k c f w hz (by omega)

/-- Block g begins with the n numbers f; none of them is frozen. -/
def RowF (w : World) (g n : Nat) (f : Nat → Int) : Prop := ∃ (c : Nat) (F : Nat → Value), w.rowIs g 3 c F ∧ n ≤ c ∧ ∀ i, i < n → F i = .int .i64 (f i)
theorem RowF.lt {w : World} {g n : Nat} {f : Nat → Int} (h : RowF w g n f) : g < w.heap.size := by obtain ⟨c, F, h1, _⟩ := h; exact h1.lt
theorem RowF.cell {w : World} {g n : Nat} {f : Nat → Int} (h : RowF w g n f) {i : Nat} (hi : i < n) : w.cell? ⟨g, i, none⟩ = some (.int .i64 (f i)) := by
  obtain ⟨c, F, h1, h2, h3⟩ := h
  rw [h1.cell (by omega), h3 i hi]
theorem RowF.frozen {w : World} {g n : Nat} {f : Nat → Int} (h : RowF w g n f) (i : Nat) : w.frozen? ⟨g, i, none⟩ = false := by
  obtain ⟨c, F, h1, h2, h3⟩ := h
  exact h1.frozen i
theorem RowF.ints {w : World} {g n : Nat} {f : Nat → Int} (h : RowF w g n f) : Ints w (some ⟨g, 0, none⟩) g 0 n f :=
  ⟨fun _ _ => rfl, fun _ _ => h.lt, fun k hk => by rw [Nat.zero_add]; exact h.cell hk⟩
theorem RowF.congr {w : World} {g n : Nat} {f f' : Nat → Int} (h : RowF w g n f) (e : ∀ i, i < n → f i = f' i) : RowF w g n f' := by
  obtain ⟨c, F, h1, h2, h3⟩ := h
  exact ⟨c, F, h1, h2, fun i hi => by rw [h3 i hi, e i hi]⟩
theorem RowF.of_block {w w' : World} {g n : Nat} {f : Nat → Int} (h : RowF w g n f) (e : w'.heap[g]? = w.heap[g]?) : RowF w' g n f := by
  obtain ⟨c, F, h1, h2, h3⟩ := h
  exact ⟨c, F, h1.of_block e, h2, h3⟩
theorem RowF.below {w w' : World} {B g n : Nat} {f : Nat → Int} (h : RowF w g n f) (hb : Below B w w') (hB : g < B) : RowF w' g n f := h.of_block (hb.block g hB)
theorem RowF.alloc {w : World} {g n : Nat} {f : Nat → Int} (h : RowF w g n f) (o : Obj) : RowF (w.alloc o) g n f := by
  obtain ⟨c, F, h1, h2, h3⟩ := h
  exact ⟨c, F, h1.alloc o, h2, h3⟩
theorem RowF.set {w : World} {g n : Nat} {f : Nat → Int} (h : RowF w g n f) (i : Nat) (x : Int) : RowF (w.setCell ⟨g, i, none⟩ (.int .i64 x)) g n (fun j => if j = i then x else f j) := by
  obtain ⟨c, F, h1, h2, h3⟩ := h
  refine ⟨c, _, h1.set i _, h2, fun j hj => ?_⟩
  by_cases e : j = i
  · simp [e]
  · simp [e, h3 j hj]
theorem RowF.setOther {w : World} {g n : Nat} {f : Nat → Int} (h : RowF w g n f) {a : Addr} (ha : g ≠ a.block) (v : Value) : RowF (w.setCell a v) g n f := by
  obtain ⟨c, F, h1, h2, h3⟩ := h
  exact ⟨c, F, h1.setOther ha v, h2, h3⟩
theorem RowF.made (w : World) (n : Nat) : RowF (w.alloc (.cells (madeCells #[.int .i64 0] n) 3)) w.heap.size n (fun _ => 0) := ⟨n, _, World.rowIs_made w _ n 3, Nat.le_refl _, fun _ _ => rfl⟩
/-- The values of n numbers. -/
def vals (n : Nat) (f : Nat → Int) : List Value := (List.range n).map fun k => .int .i64 (f k)
theorem vals_len (n : Nat) (f : Nat → Int) : (vals n f).length = n := by simp [vals]
theorem vals_get {n : Nat} {f : Nat → Int} {k : Nat} (h : k < n) : (vals n f)[k]? = some (.int .i64 (f k)) := by simp [vals, h]
theorem vals_one (n : Nat) (f : Nat → Int) : ∀ u ∈ vals n f, u.oneCell' = true := by
  intro u hu
  obtain ⟨k, _, rfl⟩ := List.mem_map.1 hu
  rfl
theorem vals_succ (n : Nat) (f : Nat → Int) : vals (n + 1) f = vals n f ++ [.int .i64 (f n)] := by simp [vals, List.range_succ]
theorem RowF.of_owns {w : World} {b g n c : Nat} {f : Nat → Int} (h : w.ownsRow b 3 1 (.slice (some ⟨g, 0, none⟩) n c) n (vals n f)) : RowF w g n f := by
  have hcell := h.cellAt
  obtain ⟨_, ⟨h1, _⟩ | ⟨g', cap, cur, h1, h2, h3, h4, h5, h6, h7⟩⟩ := h
  · cases h1
  · cases h1
    refine ⟨c, fun i => cur[i]?.getD (.int .i64 0), ⟨cur, h3, by omega, fun i hi => ?_⟩, h4, fun i hi => ?_⟩
    · have : i < cur.size := by omega
      simp [this]
    · have e1 := hcell i (by omega)
      rw [vals_get hi, cell_of_row w g i cur 3 (0, 0) h3] at e1
      show cur[i]?.getD (.int .i64 0) = _
      rw [e1]; rfl
theorem owns_below {w w' : World} {B b e s : Nat} {v : Value} {n : Nat} {xs : List Value} (h : w.ownsRow b e s v n xs) (hB : Below B w w') (hw : w.heap.size ≤ B) : w'.ownsRow b e s v n xs := by
  obtain ⟨h1, h2⟩ := h
  refine ⟨h1, ?_⟩
  rcases h2 with h2 | ⟨g, cap, cur, h3, h4, h5, h6⟩
  · exact .inl h2
  · have hg : g < w.heap.size := (Array.getElem?_eq_some_iff.1 h5).1
    exact .inr ⟨g, cap, cur, h3, h4, (hB.block g (by omega)).trans h5, h6⟩
theorem heap_new (w : World) (o : Obj) : (w.alloc o).heap[w.heap.size]? = some o := by show (w.heap.push o)[w.heap.size]? = _; simp
theorem own_shape {w : World} {base e s n : Nat} {v : Value} {xs : List Value} (h : w.ownsRow base e s v n xs) (hn : ¬ v = .slice none 0 0) : ∃ g cap, v = .slice (some ⟨g, 0, none⟩) n cap := by
  obtain ⟨_, ⟨h1, _⟩ | ⟨g, cap, cur, h1, _⟩⟩ := h
  · exact absurd h1 hn
  · exact ⟨g, cap, h1⟩
theorem own_cap {w : World} {base e s n g cap : Nat} {xs : List Value} (h : w.ownsRow base e s (.slice (some ⟨g, 0, none⟩) n cap) n xs) : n ≤ cap := by
  obtain ⟨_, ⟨h1, _⟩ | ⟨g', cap', cur, h1, h2, h3, h4, _⟩⟩ := h
  · cases h1
  · cases h1; exact h4
/-- A new slice of the n numbers f is handed back. -/
def IRet (n : Nat) (f : Nat → Int) (w : World) (e : Ending) (w' : World) : Prop :=
  ∃ g c : Nat, e = .returned (.slice (some ⟨g, 0, none⟩) n c) ∧ w.heap.size ≤ g ∧ n ≤ c ∧ RowF w' g n f ∧ Below w.heap.size w w'
theorem Try.info3 : (Try.prog.info? 3).map (fun i => (i.zero, i.size, i.bytes)) = some (some (.int .i64 0), 1, 8) := by kernel_rfl
theorem ints_cells {w : World} {A : Option Addr} {b o n : Nat} {f : Nat → Int} (hz : Ints w A b o n f) : ∀ j u, (vals n f)[j]? = some u → w.cell? ((⟨b, o, none⟩ : Addr).add j) = some u := by
  intro j u hj
  have hlt : j < n := by
    have := (List.getElem?_eq_some_iff.1 hj).1
    rwa [vals_len] at this
  have ha : (⟨b, o, none⟩ : Addr).add j = ⟨b, o + j, none⟩ := by unfold Addr.add; split <;> simp_all
  rw [ha, hz.ce j hlt]
  rw [vals_get hlt] at hj
  exact hj
theorem own_made (W : World) (e s b g : Nat) (hg : W.heap.size = g) (h : b ≤ g) : (W.alloc (.cells #[] e)).ownsRow b e s (.slice (some ⟨g, 0, none⟩) 0 0) 0 [] := by
  subst hg
  exact ⟨by simp, .inr ⟨W.heap.size, 0, #[], rfl, h, heap_new W _, Nat.le_refl _, by unfold maxLen; omega, by simp, by simp⟩⟩

set_option maxHeartbeats 400000 in
theorem c82 (b o n c : Nat) (f : Nat → Int) (w : World) (hz : Ints w (some ⟨b, o, none⟩) b o n f) (hn : 0 < n) (hm : n ≤ 1000000) :
    Calls Try.prog 82 #[.slice (some ⟨b, o, none⟩) n c] w (IRet n f w) := by
  obtain ⟨i0, ie0, ie1, ie2, ie3⟩ := info_parts Try.info3
  have hsl := fun W => Lib.run_eql_slice_nil (P := Try.prog) W 28 3 (some ⟨b, o, none⟩) n c 0 0 Try.underlying28
  have hlt := hz.lt 0 hn
  have hch := hid (ints_cells hz)
  go_enter Try.func82, Try.ntmps82
  go_wp2_with (at_builtin; go_loud (refine wpList_append_own _ rfl _ _ 28 rfl w.heap.size 3 i0 (.int .i64 0) 1 8 Try.underlying28 ie0 ie1 ie2 ie3 rfl (by decide) _ _ _ rfl (own_made _ 3 1 _ _ rfl (Nat.le_refl _)) ⟨b, o, none⟩ n c (vals n f) rfl (by rw [vals_len, Nat.mul_one]) ?hcc (vals_one n f) ?hmm ?hbb ?hss ?hgo))
  case hmm => unfold maxLen; omega
  case hbb => omega
  case hss => simp
  case hcc =>
    intro j u hj
    have h1 := hch.out j u hj
    exact (((Below.refl w.heap.size w).alloc (Nat.le_refl _) _).cell (World.block_lt_of_cell? w _ h1)).trans h1
  case hgo =>
    intro v' w1 hown hgrow hnil
    have hnv : ¬ v' = .slice none 0 0 := hnil
    obtain ⟨g, cap, rfl⟩ := own_shape hown hnv
    have hge := (hown.lt g rfl).1
    have hcap := own_cap hown
    have hB : Below w.heap.size w w1 := ((Below.refl w.heap.size w).alloc (Nat.le_refl _) _).grown hgrow (by simp) (fun k e => by cases e; simp)
    have hR := hid (RowF.of_owns hown)
    clear hown hgrow hnv
    go_wp2
    go_returns
    exact ⟨g, cap, rfl, hge, hcap, hR.out, hB⟩
end Go.Proofs.Ytfpfnjdnfiihhaa
