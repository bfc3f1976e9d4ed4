/- Stage 4: slices of numbers as memory holds them; the smallest functions. -/
import Derived.Test.YtljioabolacbeaaRows
import Derived.WalkKit
import Derived.WalkSpells
import Derived.WalkLawsBesides
import Derived.BigQuiet
import Derived.Handy
import Derived.IntWalk
import Derived.Deep.QuietTactic
import Derived.Laws.AppendOwnNone
import Derived.Deep.OwnRows
set_option linter.unusedSimpArgs false
set_option linter.unusedVariables false
namespace Go.Proofs.Ytljioabolacbeaa
open Go.RowKit

theorem hid {p : Prop} (h : p) : Hid p := h

theorem bcell {W w1 : World} {B : Nat} (hb : Below B W w1) : (∀ b o, b < B → w1.cell? ⟨b, o, none⟩ = W.cell? ⟨b, o, none⟩) ∧ (∀ b o, b < B → w1.frozen? ⟨b, o, none⟩ = W.frozen? ⟨b, o, none⟩) :=
  ⟨fun b o h => hb.cell (p := ⟨b, o, none⟩) h, fun b o h => hb.frozen (p := ⟨b, o, none⟩) h⟩

/-- A slice of numbers: n of them, from the place o of block b on. -/
structure Ints (w : World) (A : Option Addr) (b o n : Nat) (f : Nat → Int) : Prop where
  ad : ∀ k, k < n → A = some ⟨b, o, none⟩
  lt : ∀ k, k < n → b < w.heap.size
  ce : ∀ k, k < n → w.cell? ⟨b, o + k, none⟩ = some (.int .i64 (f k))
theorem Ints.below {w w' : World} {B : Nat} {A : Option Addr} {b o n : Nat} {f : Nat → Int} (h : Ints w A b o n f) (hb : Below B w w') (hB : w.heap.size ≤ B) : Ints w' A b o n f :=
  ⟨h.ad, fun k hk => Nat.lt_of_lt_of_le (h.lt k hk) hb.size, fun k hk => (hb.cell (p := ⟨b, o + k, none⟩) (Nat.lt_of_lt_of_le (h.lt k hk) hB)).trans (h.ce k hk)⟩
theorem Ints.congr {w : World} {A : Option Addr} {b o n : Nat} {f g : Nat → Int} (h : Ints w A b o n f) (hg : ∀ k, k < n → f k = g k) : Ints w A b o n g :=
  ⟨h.ad, h.lt, fun k hk => by rw [← hg k hk]; exact h.ce k hk⟩
theorem Ints.ix {w : World} {A : Option Addr} {b o n c : Nat} {f : Nat → Int} (h : Ints w A b o n f) {k : Nat} (hk : k < n) (w' : World) :
    (Instr.indexAt 25 (.slice A n c) (.int .i64 k)).run Try.prog w' = .ok (.pointer (some ⟨b, o + k, none⟩)) w' := by
  have h2 : (k : Int) < (n : Int) := by omega
  rw [h.ad k hk]
  go_simp
/-- A bool is handed back, and it says whether p holds; memory is as it was. -/
def RetB (p : Prop) (w : World) (e : Ending) (w' : World) : Prop := (p ∧ e = .returned (.bool true) ∧ w = w') ∨ (¬ p ∧ e = .returned (.bool false) ∧ w = w')
theorem RetB.yes {p : Prop} {w : World} (h : p) : RetB p w (.returned (.bool true)) w := .inl ⟨h, rfl, rfl⟩
theorem RetB.no {p : Prop} {w : World} (h : ¬ p) : RetB p w (.returned (.bool false)) w := .inr ⟨h, rfl, rfl⟩

set_option maxHeartbeats 400000 in
theorem c52 (n l h : Int) (w : World) : Calls Try.prog 52 #[.int .i64 n, .int .i64 l, .int .i64 h] w (RetB (l ≤ n ∧ n ≤ h) w) := by
  by_cases h1 : l ≤ n <;> by_cases h2 : n ≤ h <;> (go_enter Try.func52, Try.ntmps52; go_wp2; go_ret) <;> first | exact RetB.yes (by omega) | exact RetB.no (by omega)
theorem c52y {n l h : Int} (w : World) (p : l ≤ n ∧ n ≤ h) : Calls Try.prog 52 #[.int .i64 n, .int .i64 l, .int .i64 h] w fun e w' => e = .returned (.bool true) ∧ w = w' :=
  (c52 n l h w).mono fun _ _ hr => by
    rcases hr with ⟨_, h1⟩ | ⟨h1, _⟩
    · exact h1
    · exact absurd p h1
theorem c52n {n l h : Int} (w : World) (p : ¬ (l ≤ n ∧ n ≤ h)) : Calls Try.prog 52 #[.int .i64 n, .int .i64 l, .int .i64 h] w fun e w' => e = .returned (.bool false) ∧ w = w' :=
  (c52 n l h w).mono fun _ _ hr => by
    rcases hr with ⟨h1, _⟩ | ⟨_, h1⟩
    · exact absurd h1 p
    · exact h1
set_option maxHeartbeats 400000 in
theorem c49 (n l h : Int) (w : World) : Calls Try.prog 49 #[.int .i64 n, .int .i64 l, .int .i64 h] w (RetB (l ≤ n ∧ n ≤ h) w) := by
  by_cases h1 : l ≤ n <;> by_cases h2 : n ≤ h <;> (go_enter Try.func49, Try.ntmps49; go_wp2; go_ret) <;> first | exact RetB.yes (by omega) | exact RetB.no (by omega)
theorem c49y {n l h : Int} (w : World) (p : l ≤ n ∧ n ≤ h) : Calls Try.prog 49 #[.int .i64 n, .int .i64 l, .int .i64 h] w fun e w' => e = .returned (.bool true) ∧ w = w' :=
  (c49 n l h w).mono fun _ _ hr => by
    rcases hr with ⟨_, h1⟩ | ⟨h1, _⟩
    · exact h1
    · exact absurd p h1
theorem c49n {n l h : Int} (w : World) (p : ¬ (l ≤ n ∧ n ≤ h)) : Calls Try.prog 49 #[.int .i64 n, .int .i64 l, .int .i64 h] w fun e w' => e = .returned (.bool false) ∧ w = w' :=
  (c49 n l h w).mono fun _ _ hr => by
    rcases hr with ⟨h1, _⟩ | ⟨_, h1⟩
    · exact absurd h1 p
    · exact h1
/-- A bool is handed back, and it says whether p holds; new memory may have been laid. -/
def RetBB (p : Prop) (w : World) (e : Ending) (w' : World) : Prop := (p ∧ e = .returned (.bool true) ∧ Below w.heap.size w w') ∨ (¬ p ∧ e = .returned (.bool false) ∧ Below w.heap.size w w')
theorem RetBB.yes {p : Prop} {w w' : World} (h : p) (hb : Below w.heap.size w w') : RetBB p w (.returned (.bool true)) w' := .inl ⟨h, rfl, hb⟩
theorem RetBB.no {p : Prop} {w w' : World} (h : ¬ p) (hb : Below w.heap.size w w') : RetBB p w (.returned (.bool false)) w' := .inr ⟨h, rfl, hb⟩
/-- An index is handed back: that of a k for which p does not hold, or -1 if there is none. -/
def RetIx (n : Nat) (p : Nat → Prop) (w : World) (e : Ending) (w' : World) : Prop := ((∀ k, k < n → p k) ∧ e = .returned (.int .i64 (-1)) ∧ Below w.heap.size w w') ∨ (∃ k : Nat, k < n ∧ ¬ p k ∧ e = .returned (.int .i64 k) ∧ Below w.heap.size w w')
theorem RetIx.no {n : Nat} {p : Nat → Prop} {w w' : World} (h : ∀ k, k < n → p k) (hb : Below w.heap.size w w') : RetIx n p w (.returned (.int .i64 (-1))) w' := .inl ⟨h, rfl, hb⟩
theorem RetIx.at_ {n : Nat} {p : Nat → Prop} {w w' : World} {k : Nat} (hk : k < n) (h : ¬ p k) (hb : Below w.heap.size w w') : RetIx n p w (.returned (.int .i64 k)) w' := .inr ⟨k, hk, h, rfl, hb⟩

/-- Block g begins with the n numbers f; none of them is frozen. -/
def RowF (w : World) (g n : Nat) (f : Nat → Int) : Prop := ∃ (c : Nat) (F : Nat → Value), w.rowIs g 3 c F ∧ n ≤ c ∧ ∀ i, i < n → F i = .int .i64 (f i)
theorem RowF.lt {w : World} {g n : Nat} {f : Nat → Int} (h : RowF w g n f) : g < w.heap.size := by obtain ⟨c, F, h1, _⟩ := h; exact h1.lt
theorem RowF.cell {w : World} {g n : Nat} {f : Nat → Int} (h : RowF w g n f) {i : Nat} (hi : i < n) : w.cell? ⟨g, i, none⟩ = some (.int .i64 (f i)) := by
  obtain ⟨c, F, h1, h2, h3⟩ := h
  rw [h1.cell (by omega), h3 i hi]
theorem RowF.frozen {w : World} {g n : Nat} {f : Nat → Int} (h : RowF w g n f) (i : Nat) : w.frozen? ⟨g, i, none⟩ = false := by
  obtain ⟨c, F, h1, h2, h3⟩ := h
  exact h1.frozen i
theorem RowF.ints {w : World} {g n : Nat} {f : Nat → Int} (h : RowF w g n f) : Ints w (some ⟨g, 0, none⟩) g 0 n f :=
  ⟨fun _ _ => rfl, fun _ _ => h.lt, fun k hk => by rw [Nat.zero_add]; exact h.cell hk⟩
theorem RowF.congr {w : World} {g n : Nat} {f f' : Nat → Int} (h : RowF w g n f) (e : ∀ i, i < n → f i = f' i) : RowF w g n f' := by
  obtain ⟨c, F, h1, h2, h3⟩ := h
  exact ⟨c, F, h1, h2, fun i hi => by rw [h3 i hi, e i hi]⟩
theorem RowF.of_block {w w' : World} {g n : Nat} {f : Nat → Int} (h : RowF w g n f) (e : w'.heap[g]? = w.heap[g]?) : RowF w' g n f := by
  obtain ⟨c, F, h1, h2, h3⟩ := h
  exact ⟨c, F, h1.of_block e, h2, h3⟩
theorem RowF.below {w w' : World} {B g n : Nat} {f : Nat → Int} (h : RowF w g n f) (hb : Below B w w') (hB : g < B) : RowF w' g n f := h.of_block (hb.block g hB)
theorem RowF.alloc {w : World} {g n : Nat} {f : Nat → Int} (h : RowF w g n f) (o : Obj) : RowF (w.alloc o) g n f := by
  obtain ⟨c, F, h1, h2, h3⟩ := h
  exact ⟨c, F, h1.alloc o, h2, h3⟩
theorem RowF.set {w : World} {g n : Nat} {f : Nat → Int} (h : RowF w g n f) (i : Nat) (x : Int) : RowF (w.setCell ⟨g, i, none⟩ (.int .i64 x)) g n (fun j => if j = i then x else f j) := by
  obtain ⟨c, F, h1, h2, h3⟩ := h
  refine ⟨c, _, h1.set i _, h2, fun j hj => ?_⟩
  by_cases e : j = i
  · simp [e]
  · simp [e, h3 j hj]
theorem RowF.setOther {w : World} {g n : Nat} {f : Nat → Int} (h : RowF w g n f) {a : Addr} (ha : g ≠ a.block) (v : Value) : RowF (w.setCell a v) g n f := by
  obtain ⟨c, F, h1, h2, h3⟩ := h
  exact ⟨c, F, h1.setOther ha v, h2, h3⟩
theorem RowF.made (w : World) (n : Nat) : RowF (w.alloc (.cells (madeCells #[.int .i64 0] n) 3)) w.heap.size n (fun _ => 0) := ⟨n, _, World.rowIs_made w _ n 3, Nat.le_refl _, fun _ _ => rfl⟩
/-- The values of n numbers. -/
def vals (n : Nat) (f : Nat → Int) : List Value := (List.range n).map fun k => .int .i64 (f k)
theorem vals_len (n : Nat) (f : Nat → Int) : (vals n f).length = n := by simp [vals]
theorem vals_get {n : Nat} {f : Nat → Int} {k : Nat} (h : k < n) : (vals n f)[k]? = some (.int .i64 (f k)) := by simp [vals, h]
theorem vals_one (n : Nat) (f : Nat → Int) : ∀ u ∈ vals n f, u.oneCell' = true := by
  intro u hu
  obtain ⟨k, _, rfl⟩ := List.mem_map.1 hu
  rfl
theorem vals_succ (n : Nat) (f : Nat → Int) : vals (n + 1) f = vals n f ++ [.int .i64 (f n)] := by simp [vals, List.range_succ]
theorem RowF.of_owns {w : World} {b g n c : Nat} {f : Nat → Int} (h : w.ownsRow b 3 1 (.slice (some ⟨g, 0, none⟩) n c) n (vals n f)) : RowF w g n f := by
  have hcell := h.cellAt
  obtain ⟨_, ⟨h1, _⟩ | ⟨g', cap, cur, h1, h2, h3, h4, h5, h6, h7⟩⟩ := h
  · cases h1
  · cases h1
    refine ⟨c, fun i => cur[i]?.getD (.int .i64 0), ⟨cur, h3, by omega, fun i hi => ?_⟩, h4, fun i hi => ?_⟩
    · have : i < cur.size := by omega
      simp [this]
    · have e1 := hcell i (by omega)
      rw [vals_get hi, cell_of_row w g i cur 3 (0, 0) h3] at e1
      show cur[i]?.getD (.int .i64 0) = _
      rw [e1]; rfl
theorem owns_below {w w' : World} {B b e s : Nat} {v : Value} {n : Nat} {xs : List Value} (h : w.ownsRow b e s v n xs) (hB : Below B w w') (hw : w.heap.size ≤ B) : w'.ownsRow b e s v n xs := by
  obtain ⟨h1, h2⟩ := h
  refine ⟨h1, ?_⟩
  rcases h2 with h2 | ⟨g, cap, cur, h3, h4, h5, h6⟩
  · exact .inl h2
  · have hg : g < w.heap.size := (Array.getElem?_eq_some_iff.1 h5).1
    exact .inr ⟨g, cap, cur, h3, h4, (hB.block g (by omega)).trans h5, h6⟩
theorem heap_new (w : World) (o : Obj) : (w.alloc o).heap[w.heap.size]? = some o := by show (w.heap.push o)[w.heap.size]? = _; simp
theorem own_shape {w : World} {base e s n : Nat} {v : Value} {xs : List Value} (h : w.ownsRow base e s v n xs) (hn : ¬ v = .slice none 0 0) : ∃ g cap, v = .slice (some ⟨g, 0, none⟩) n cap := by
  obtain ⟨_, ⟨h1, _⟩ | ⟨g, cap, cur, h1, _⟩⟩ := h
  · exact absurd h1 hn
  · exact ⟨g, cap, h1⟩
theorem own_cap {w : World} {base e s n g cap : Nat} {xs : List Value} (h : w.ownsRow base e s (.slice (some ⟨g, 0, none⟩) n cap) n xs) : n ≤ cap := by
  obtain ⟨_, ⟨h1, _⟩ | ⟨g', cap', cur, h1, h2, h3, h4, _⟩⟩ := h
  · cases h1
  · cases h1; exact h4
/-- A new slice of the n numbers f is handed back. -/
def IRet (n : Nat) (f : Nat → Int) (w : World) (e : Ending) (w' : World) : Prop :=
  ∃ g c : Nat, e = .returned (.slice (some ⟨g, 0, none⟩) n c) ∧ w.heap.size ≤ g ∧ n ≤ c ∧ RowF w' g n f ∧ Below w.heap.size w w'
theorem Try.info3 : (Try.prog.info? 3).map (fun i => (i.zero, i.size, i.bytes)) = some (some (.int .i64 0), 1, 8) := by kernel_rfl
theorem ints_cells {w : World} {A : Option Addr} {b o n : Nat} {f : Nat → Int} (hz : Ints w A b o n f) : ∀ j u, (vals n f)[j]? = some u → w.cell? ((⟨b, o, none⟩ : Addr).add j) = some u := by
  intro j u hj
  have hlt : j < n := by
    have := (List.getElem?_eq_some_iff.1 hj).1
    rwa [vals_len] at this
  have ha : (⟨b, o, none⟩ : Addr).add j = ⟨b, o + j, none⟩ := by unfold Addr.add; split <;> simp_all
  rw [ha, hz.ce j hlt]
  rw [vals_get hlt] at hj
  exact hj
theorem own_made (W : World) (e s b g : Nat) (hg : W.heap.size = g) (h : b ≤ g) : (W.alloc (.cells #[] e)).ownsRow b e s (.slice (some ⟨g, 0, none⟩) 0 0) 0 [] := by
  subst hg
  exact ⟨by simp, .inr ⟨W.heap.size, 0, #[], rfl, h, heap_new W _, Nat.le_refl _, by unfold maxLen; omega, by simp, by simp⟩⟩

set_option maxHeartbeats 400000 in
theorem c53 (b o n c : Nat) (f : Nat → Int) (w : World) (hz : Ints w (some ⟨b, o, none⟩) b o n f) (hn : 0 < n) (hm : n ≤ 1000000) :
    Calls Try.prog 53 #[.slice (some ⟨b, o, none⟩) n c] w (IRet n f w) := by
  obtain ⟨i0, ie0, ie1, ie2, ie3⟩ := info_parts Try.info3
  have hsl := fun W => Lib.run_eql_slice_nil (P := Try.prog) W 25 3 (some ⟨b, o, none⟩) n c 0 0 Try.underlying25
  have hlt := hz.lt 0 hn
  have hch := hid (ints_cells hz)
  go_enter Try.func53, Try.ntmps53
  go_wp2_with (at_builtin; go_loud (refine wpList_append_own _ rfl _ _ 25 rfl w.heap.size 3 i0 (.int .i64 0) 1 8 Try.underlying25 ie0 ie1 ie2 ie3 rfl (by decide) _ _ _ rfl (own_made _ 3 1 _ _ rfl (Nat.le_refl _)) ⟨b, o, none⟩ n c (vals n f) rfl (by rw [vals_len, Nat.mul_one]) ?hcc (vals_one n f) ?hmm ?hbb ?hss ?hgo))
  case hmm => unfold maxLen; omega
  case hbb => omega
  case hss => simp
  case hcc =>
    intro j u hj
    have h1 := hch.out j u hj
    exact (((Below.refl w.heap.size w).alloc (Nat.le_refl _) _).cell (World.block_lt_of_cell? w _ h1)).trans h1
  case hgo =>
    intro v' w1 hown hgrow hnil
    have hnv : ¬ v' = .slice none 0 0 := hnil
    obtain ⟨g, cap, rfl⟩ := own_shape hown hnv
    have hge := (hown.lt g rfl).1
    have hcap := own_cap hown
    have hB : Below w.heap.size w w1 := ((Below.refl w.heap.size w).alloc (Nat.le_refl _) _).grown hgrow (by simp) (fun k e => by cases e; simp)
    have hR := hid (RowF.of_owns hown)
    clear hown hgrow hnv
    go_wp2
    go_returns
    exact ⟨g, cap, rfl, hge, hcap, hR.out, hB⟩

/-- A number is one of those that are counted from 0 below m. -/
def bel (m x : Int) : Prop := 0 ≤ x ∧ x ≤ m - 1
set_option maxHeartbeats 400000 in
theorem c64 (m : Int) (w : World) : Calls Try.prog 64 #[.int .i64 m] w fun e w' => e = .returned (.func (.func 75) #[] #[.pointer (some ⟨w.heap.size, 0, none⟩)]) ∧ w' = w.alloc (.cells #[.int .i64 m] 3) := by
  go_enter Try.func64, Try.ntmps64
  go_wp2
  go_ret
  exact ⟨rfl, rfl⟩
set_option maxHeartbeats 400000 in
theorem c75y {m x : Int} {b : Nat} (w : World) (hb : w.cell? ⟨b, 0, none⟩ = some (.int .i64 m)) (hm : -1000000 ≤ m ∧ m ≤ 1000000) (p : bel m x) : Calls Try.prog 75 #[.int .i64 x, .pointer (some ⟨b, 0, none⟩)] w fun e w' => e = .returned (.bool false) ∧ w = w' := by
  have hp := hid p
  clear p
  go_enter Try.func75, Try.ntmps75
  go_wp2_with (go_at_call 52; refine (c52y _ hp.out).mono ?_; rintro e w' ⟨rfl, rfl⟩)
  go_ret
  exact ⟨rfl, rfl⟩
set_option maxHeartbeats 400000 in
theorem c75n {m x : Int} {b : Nat} (w : World) (hb : w.cell? ⟨b, 0, none⟩ = some (.int .i64 m)) (hm : -1000000 ≤ m ∧ m ≤ 1000000) (p : ¬ bel m x) : Calls Try.prog 75 #[.int .i64 x, .pointer (some ⟨b, 0, none⟩)] w fun e w' => e = .returned (.bool true) ∧ w = w' := by
  have hp := hid p
  clear p
  go_enter Try.func75, Try.ntmps75
  go_wp2_with (go_at_call 52; refine (c52n _ hp.out).mono ?_; rintro e w' ⟨rfl, rfl⟩)
  go_ret
  exact ⟨rfl, rfl⟩
/-- Whether all numbers are below m. -/
def allB (m : Int) (n : Nat) (f : Nat → Int) : Prop := ∀ k, k < n → bel m (f k)
set_option maxHeartbeats 400000 in
theorem c74 (A : Option Addr) (b o n c B : Nat) (f : Nat → Int) (m : Int) (w : World) (hz : Ints w A b o n f) (hn : n ≤ 1000000) (hb : w.cell? ⟨B, 0, none⟩ = some (.int .i64 m)) (hm : -1000000 ≤ m ∧ m ≤ 1000000) :
    Calls Try.prog 74 #[.slice A n c, .func (.func 75) #[] #[.pointer (some ⟨B, 0, none⟩)]] w (RetIx n (fun k => bel m (f k)) w) := by
  go_enter Try.func74, Try.ntmps74
  go_wp2
  go_loop [5, 8] (fun _ i => ∃ k : Nat, k ≤ n ∧ i = .int .i64 k ∧ Hid (∀ j, j < k → bel m (f j))) (fun _ i => n - (intOf i).toNat)
  case atStart => exact ⟨0, Nat.zero_le _, rfl, fun j hj => absurd hj (Nat.not_lt_zero _)⟩
  case round =>
    obtain ⟨k, hk, rfl, hall⟩ := hrel
    by_cases hlt : k < n
    · have h1 := hz.ce k hlt; have h3 := hz.lt k hlt; have h4 := @Ints.ix _ _ _ _ _ c _ hz _ hlt
      by_cases hp : bel m (f k)
      · have hph := hid hp
        clear hp
        go_wp2_with (go_at_call 75; refine (c75y _ hb hm hph.out).mono ?_; rintro e w' ⟨rfl, rfl⟩)
        go_round
        case rel =>
          refine ⟨k + 1, by omega, by go_num, fun j hj => ?_⟩
          by_cases e : j = k
          · subst e; exact hph.out
          · exact hall.out j (by omega)
        case measure => simp [intOf]; omega
      · have hph := hid hp
        clear hp
        go_wp2_with (go_at_call 75; refine (c75n _ hb hm hph.out).mono ?_; rintro e w' ⟨rfl, rfl⟩)
        go_returns
        exact RetIx.at_ hlt hph.out (Below.refl _ _)
    · go_wp2_with fail
      go_returns
      exact RetIx.no (fun j hj => hall.out j (by omega)) (Below.refl _ _)
set_option maxHeartbeats 400000 in
theorem c63 (A : Option Addr) (b o n c B : Nat) (f : Nat → Int) (m : Int) (w : World) (hz : Ints w A b o n f) (hn : n ≤ 1000000) (hb : w.cell? ⟨B, 0, none⟩ = some (.int .i64 m)) (hm : -1000000 ≤ m ∧ m ≤ 1000000) :
    Calls Try.prog 63 #[.slice A n c, .func (.func 75) #[] #[.pointer (some ⟨B, 0, none⟩)]] w (RetBB (¬ allB m n f) w) := by
  go_enter Try.func63, Try.ntmps63
  go_wp2_with (go_at_call 74; refine (c74 A b o n c B f m _ hz hn hb hm).mono ?_; rintro e w' (⟨h1, rfl, hb⟩ | ⟨k, hk, h1, rfl, hb⟩) <;> replace h1 := hid h1)
  · go_returns
    exact RetBB.no (fun h => h h1.out) hb
  · go_returns
    exact RetBB.yes (fun h => h1.out (h k hk)) hb
theorem RetBB.un {p : Prop} {w : World} {e : Ending} {w' : World} (h : RetBB p w e w') : (p → e = .returned (.bool true) ∧ Below w.heap.size w w') ∧ (¬ p → e = .returned (.bool false) ∧ Below w.heap.size w w') := by
  rcases h with ⟨h1, h2⟩ | ⟨h1, h2⟩
  · exact ⟨fun _ => h2, fun h => absurd h1 h⟩
  · exact ⟨fun h => absurd h h1, fun _ => h2⟩
set_option maxHeartbeats 400000 in
theorem c47 (A : Option Addr) (b o n c : Nat) (f : Nat → Int) (L m : Int) (w : World) (hz : Ints w A b o n f) (hn : n ≤ 1000000) (hm : -1000000 ≤ m ∧ m ≤ 1000000) :
    Calls Try.prog 47 #[.slice A n c, .int .i64 L, .int .i64 m] w (RetBB ((n : Int) ≤ L ∧ allB m n f) w) := by
  have hB0 : Below w.heap.size w (w.alloc (.cells #[.int .i64 m] 3)) := (Below.refl _ _).alloc (Nat.le_refl _) _
  by_cases hl : (n : Int) ≤ L
  · by_cases ha : allB m n f
    · have hah := hid ha
      clear ha
      go_enter Try.func47, Try.ntmps47
      go_wp2_with (first | (go_at_call 64; refine (c64 m _).mono ?_; rintro e w1 ⟨rfl, rfl⟩) | (go_at_call 63; refine (c63 A b o n c w.heap.size f m _ (hz.below hB0 (Nat.le_refl _)) hn (by simp) hm).mono ?_; intro e w2 hr; obtain ⟨rfl, hB2⟩ := hr.un.2 (fun h => h hah.out)))
      go_returns
      exact RetBB.yes ⟨hl, hah.out⟩ (hB0.trans (hB2.mono (by simp)))
    · have hah := hid ha
      clear ha
      go_enter Try.func47, Try.ntmps47
      go_wp2_with (first | (go_at_call 64; refine (c64 m _).mono ?_; rintro e w1 ⟨rfl, rfl⟩) | (go_at_call 63; refine (c63 A b o n c w.heap.size f m _ (hz.below hB0 (Nat.le_refl _)) hn (by simp) hm).mono ?_; intro e w2 hr; obtain ⟨rfl, hB2⟩ := hr.un.1 hah.out))
      go_returns
      exact RetBB.no (fun h => hah.out h.2) (hB0.trans (hB2.mono (by simp)))
  · have hd : decide ((n : Int) ≤ L) = false := decide_eq_false hl
    have hlh := hid hl
    clear hl
    go_enter Try.func47, Try.ntmps47
    go_wp2_with fail
    go_returns
    exact RetBB.no (fun h => by have h1 := h.1; have := hlh.out; omega) (Below.refl _ _)
/-- A mark: from 1 to 16 bits. -/
def MarkP (n : Nat) (f : Nat → Int) : Prop := 0 < n ∧ (n : Int) ≤ 16 ∧ allB 2 n f
set_option maxHeartbeats 400000 in
theorem c54 (A : Option Addr) (b o n c : Nat) (f : Nat → Int) (w : World) (hz : Ints w A b o n f) (hn : n ≤ 1000000) :
    Calls Try.prog 54 #[.slice A n c] w (RetBB (MarkP n f) w) := by
  by_cases h0 : 0 < n
  · go_enter Try.func54, Try.ntmps54
    go_wp2_with (go_at_call 47; refine (c47 A b o n c f 16 2 _ hz hn (by omega)).mono ?_; rintro e w1 (⟨h1, rfl, hb⟩ | ⟨h1, rfl, hb⟩) <;> replace h1 := hid h1)
    · go_returns
      exact RetBB.yes ⟨h0, h1.out⟩ hb
    · go_returns
      exact RetBB.no (fun h => h1.out h.2) hb
  · have hd : decide (0 < n) = false := decide_eq_false h0
    have hd2 : decide ((0 : Int) < (n : Int)) = false := decide_eq_false (by omega)
    have hh := hid h0
    clear h0
    go_enter Try.func54, Try.ntmps54
    go_wp2_with fail
    go_returns
    exact RetBB.no (fun h => by have h1 := h.1; have := hh.out; omega) (Below.refl _ _)
end Go.Proofs.Ytljioabolacbeaa
