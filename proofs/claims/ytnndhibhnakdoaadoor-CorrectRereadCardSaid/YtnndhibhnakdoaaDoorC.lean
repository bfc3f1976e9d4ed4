/- Stage 5: rows that a call has laid. -/
import Derived.Test.YtnndhibhnakdoaaDoorB
set_option linter.unusedSimpArgs false
set_option linter.unusedVariables false
namespace Go.Proofs.YtnndhibhnakdoaaDoor
open Go.RowKit Go.BigFrame
open Gf (S)

/-- Block g begins with the n numbers f; none of them is frozen. -/
def RowF (w : World) (g n : Nat) (f : Nat → Int) : Prop := ∃ (c : Nat) (F : Nat → Value), w.rowIs g 3 c F ∧ n ≤ c ∧ ∀ i, i < n → F i = .int .i64 (f i)
theorem RowF.lt {w : World} {g n : Nat} {f : Nat → Int} (h : RowF w g n f) : g < w.heap.size := by obtain ⟨c, F, h1, _⟩ := h; exact h1.lt
theorem RowF.cell {w : World} {g n : Nat} {f : Nat → Int} (h : RowF w g n f) {i : Nat} (hi : i < n) : w.cell? ⟨g, i, none⟩ = some (.int .i64 (f i)) := by
  obtain ⟨c, F, h1, h2, h3⟩ := h
  rw [h1.cell (by omega), h3 i hi]
theorem RowF.frozen {w : World} {g n : Nat} {f : Nat → Int} (h : RowF w g n f) (i : Nat) : w.frozen? ⟨g, i, none⟩ = false := by
  obtain ⟨c, F, h1, h2, h3⟩ := h
  exact h1.frozen i
theorem RowF.ints {w : World} {g n : Nat} {f : Nat → Int} (h : RowF w g n f) : Ints w (some ⟨g, 0, none⟩) g 0 n f :=
  ⟨fun _ _ => rfl, fun _ _ => h.lt, fun k hk => by rw [Nat.zero_add]; exact h.cell hk⟩
theorem RowF.congr {w : World} {g n : Nat} {f f' : Nat → Int} (h : RowF w g n f) (e : ∀ i, i < n → f i = f' i) : RowF w g n f' := by
  obtain ⟨c, F, h1, h2, h3⟩ := h
  exact ⟨c, F, h1, h2, fun i hi => by rw [h3 i hi, e i hi]⟩
theorem RowF.of_block {w w' : World} {g n : Nat} {f : Nat → Int} (h : RowF w g n f) (e : w'.heap[g]? = w.heap[g]?) : RowF w' g n f := by
  obtain ⟨c, F, h1, h2, h3⟩ := h
  exact ⟨c, F, h1.of_block e, h2, h3⟩
theorem RowF.below {w w' : World} {B g n : Nat} {f : Nat → Int} (h : RowF w g n f) (hb : Below B w w') (hB : g < B) : RowF w' g n f := h.of_block (hb.block g hB)
theorem RowF.alloc {w : World} {g n : Nat} {f : Nat → Int} (h : RowF w g n f) (o : Obj) : RowF (w.alloc o) g n f := by
  obtain ⟨c, F, h1, h2, h3⟩ := h
  exact ⟨c, F, h1.alloc o, h2, h3⟩
theorem RowF.set {w : World} {g n : Nat} {f : Nat → Int} (h : RowF w g n f) (i : Nat) (x : Int) : RowF (w.setCell ⟨g, i, none⟩ (.int .i64 x)) g n (fun j => if j = i then x else f j) := by
  obtain ⟨c, F, h1, h2, h3⟩ := h
  refine ⟨c, _, h1.set i _, h2, fun j hj => ?_⟩
  by_cases e : j = i
  · simp [e]
  · simp [e, h3 j hj]
theorem RowF.setOther {w : World} {g n : Nat} {f : Nat → Int} (h : RowF w g n f) {a : Addr} (ha : g ≠ a.block) (v : Value) : RowF (w.setCell a v) g n f := by
  obtain ⟨c, F, h1, h2, h3⟩ := h
  exact ⟨c, F, h1.setOther ha v, h2, h3⟩
theorem RowF.made (w : World) (n : Nat) : RowF (w.alloc (.cells (madeCells #[.int .i64 0] n) 3)) w.heap.size n (fun _ => 0) := ⟨n, _, World.rowIs_made w _ n 3, Nat.le_refl _, fun _ _ => rfl⟩
/-- Block g begins with the n symbols f; none of them is frozen. -/
def RowS (w : World) (g n : Nat) (f : Nat → S) : Prop := ∃ (c : Nat) (F : Nat → Value), w.rowIs g 76 c F ∧ n ≤ c ∧ ∀ i, i < n → F i = sv (f i)
theorem RowS.lt {w : World} {g n : Nat} {f : Nat → S} (h : RowS w g n f) : g < w.heap.size := by obtain ⟨c, F, h1, _⟩ := h; exact h1.lt
theorem RowS.cell {w : World} {g n : Nat} {f : Nat → S} (h : RowS w g n f) {i : Nat} (hi : i < n) : w.cell? ⟨g, i, none⟩ = some (sv (f i)) := by
  obtain ⟨c, F, h1, h2, h3⟩ := h
  rw [h1.cell (by omega), h3 i hi]
theorem RowS.frozen {w : World} {g n : Nat} {f : Nat → S} (h : RowS w g n f) (i : Nat) : w.frozen? ⟨g, i, none⟩ = false := by
  obtain ⟨c, F, h1, h2, h3⟩ := h
  exact h1.frozen i
theorem RowS.syms {w : World} {g n : Nat} {f : Nat → S} (h : RowS w g n f) : Syms w (some ⟨g, 0, none⟩) g 0 n f :=
  ⟨fun _ _ => rfl, fun _ _ => h.lt, fun k hk => by rw [Nat.zero_add]; exact h.cell hk⟩
theorem RowS.congr {w : World} {g n : Nat} {f f' : Nat → S} (h : RowS w g n f) (e : ∀ i, i < n → f i = f' i) : RowS w g n f' := by
  obtain ⟨c, F, h1, h2, h3⟩ := h
  exact ⟨c, F, h1, h2, fun i hi => by rw [h3 i hi, e i hi]⟩
theorem RowS.of_block {w w' : World} {g n : Nat} {f : Nat → S} (h : RowS w g n f) (e : w'.heap[g]? = w.heap[g]?) : RowS w' g n f := by
  obtain ⟨c, F, h1, h2, h3⟩ := h
  exact ⟨c, F, h1.of_block e, h2, h3⟩
theorem RowS.below {w w' : World} {B g n : Nat} {f : Nat → S} (h : RowS w g n f) (hb : Below B w w') (hB : g < B) : RowS w' g n f := h.of_block (hb.block g hB)
theorem RowS.alloc {w : World} {g n : Nat} {f : Nat → S} (h : RowS w g n f) (o : Obj) : RowS (w.alloc o) g n f := by
  obtain ⟨c, F, h1, h2, h3⟩ := h
  exact ⟨c, F, h1.alloc o, h2, h3⟩
theorem RowS.set {w : World} {g n : Nat} {f : Nat → S} (h : RowS w g n f) (i : Nat) (x : S) : RowS (w.setCell ⟨g, i, none⟩ (sv x)) g n (fun j => if j = i then x else f j) := by
  obtain ⟨c, F, h1, h2, h3⟩ := h
  refine ⟨c, _, h1.set i _, h2, fun j hj => ?_⟩
  by_cases e : j = i
  · simp [e]
  · simp [e, h3 j hj]
theorem RowS.setOther {w : World} {g n : Nat} {f : Nat → S} (h : RowS w g n f) {a : Addr} (ha : g ≠ a.block) (v : Value) : RowS (w.setCell a v) g n f := by
  obtain ⟨c, F, h1, h2, h3⟩ := h
  exact ⟨c, F, h1.setOther ha v, h2, h3⟩
theorem RowS.made (w : World) (n : Nat) : RowS (w.alloc (.cells (madeCells #[.int .u8 0] n) 76)) w.heap.size n (fun _ => 0) := ⟨n, _, World.rowIs_made w _ n 76, Nat.le_refl _, fun _ _ => rfl⟩
/-- The values of n numbers. -/
def vals (n : Nat) (f : Nat → Int) : List Value := (List.range n).map fun k => .int .i64 (f k)
theorem vals_len (n : Nat) (f : Nat → Int) : (vals n f).length = n := by simp [vals]
theorem vals_get {n : Nat} {f : Nat → Int} {k : Nat} (h : k < n) : (vals n f)[k]? = some (.int .i64 (f k)) := by simp [vals, h]
theorem vals_one (n : Nat) (f : Nat → Int) : ∀ u ∈ vals n f, u.oneCell' = true := by
  intro u hu
  obtain ⟨k, _, rfl⟩ := List.mem_map.1 hu
  rfl
theorem vals_succ (n : Nat) (f : Nat → Int) : vals (n + 1) f = vals n f ++ [.int .i64 (f n)] := by simp [vals, List.range_succ]
theorem RowF.of_owns {w : World} {b g n c : Nat} {f : Nat → Int} (h : w.ownsRow b 3 1 (.slice (some ⟨g, 0, none⟩) n c) n (vals n f)) : RowF w g n f := by
  have hcell := h.cellAt
  obtain ⟨_, ⟨h1, _⟩ | ⟨g', cap, cur, h1, h2, h3, h4, h5, h6, h7⟩⟩ := h
  · cases h1
  · cases h1
    refine ⟨c, fun i => cur[i]?.getD (.int .i64 0), ⟨cur, h3, by omega, fun i hi => ?_⟩, h4, fun i hi => ?_⟩
    · have : i < cur.size := by omega
      simp [this]
    · have e1 := hcell i (by omega)
      rw [vals_get hi, cell_of_row w g i cur 3 (0, 0) h3] at e1
      show cur[i]?.getD (.int .i64 0) = _
      rw [e1]; rfl
/-- The values of n symbols. -/
def valS (n : Nat) (f : Nat → S) : List Value := (List.range n).map fun k => sv (f k)
theorem valS_len (n : Nat) (f : Nat → S) : (valS n f).length = n := by simp [valS]
theorem valS_get {n : Nat} {f : Nat → S} {k : Nat} (h : k < n) : (valS n f)[k]? = some (sv (f k)) := by simp [valS, h]
theorem valS_one (n : Nat) (f : Nat → S) : ∀ u ∈ valS n f, u.oneCell' = true := by
  intro u hu
  obtain ⟨k, _, rfl⟩ := List.mem_map.1 hu
  rfl
theorem valS_succ (n : Nat) (f : Nat → S) : valS (n + 1) f = valS n f ++ [sv (f n)] := by simp [valS, List.range_succ]
theorem RowS.of_owns {w : World} {b g n c : Nat} {f : Nat → S} (h : w.ownsRow b 76 1 (.slice (some ⟨g, 0, none⟩) n c) n (valS n f)) : RowS w g n f := by
  have hcell := h.cellAt
  obtain ⟨_, ⟨h1, _⟩ | ⟨g', cap, cur, h1, h2, h3, h4, h5, h6, h7⟩⟩ := h
  · cases h1
  · cases h1
    refine ⟨c, fun i => cur[i]?.getD (.int .u8 0), ⟨cur, h3, by omega, fun i hi => ?_⟩, h4, fun i hi => ?_⟩
    · have : i < cur.size := by omega
      simp [this]
    · have e1 := hcell i (by omega)
      rw [valS_get hi, cell_of_row w g i cur 76 (0, 0) h3] at e1
      show cur[i]?.getD (.int .u8 0) = _
      rw [e1]; rfl
theorem owns_below {w w' : World} {B b e s : Nat} {v : Value} {n : Nat} {xs : List Value} (h : w.ownsRow b e s v n xs) (hB : Below B w w') (hw : w.heap.size ≤ B) : w'.ownsRow b e s v n xs := by
  obtain ⟨h1, h2⟩ := h
  refine ⟨h1, ?_⟩
  rcases h2 with h2 | ⟨g, cap, cur, h3, h4, h5, h6⟩
  · exact .inl h2
  · have hg : g < w.heap.size := (Array.getElem?_eq_some_iff.1 h5).1
    exact .inr ⟨g, cap, cur, h3, h4, (hB.block g (by omega)).trans h5, h6⟩
theorem heap_new (w : World) (o : Obj) : (w.alloc o).heap[w.heap.size]? = some o := by show (w.heap.push o)[w.heap.size]? = _; simp
theorem own_shape {w : World} {base e s n : Nat} {v : Value} {xs : List Value} (h : w.ownsRow base e s v n xs) (hn : ¬ v = .slice none 0 0) : ∃ g cap, v = .slice (some ⟨g, 0, none⟩) n cap := by
  obtain ⟨_, ⟨h1, _⟩ | ⟨g, cap, cur, h1, _⟩⟩ := h
  · exact absurd h1 hn
  · exact ⟨g, cap, h1⟩
theorem own_cap {w : World} {base e s n g cap : Nat} {xs : List Value} (h : w.ownsRow base e s (.slice (some ⟨g, 0, none⟩) n cap) n xs) : n ≤ cap := by
  obtain ⟨_, ⟨h1, _⟩ | ⟨g', cap', cur, h1, h2, h3, h4, _⟩⟩ := h
  · cases h1
  · cases h1; exact h4
/-- A new slice of the n numbers f is handed back. -/
def IRet (n : Nat) (f : Nat → Int) (w : World) (e : Ending) (w' : World) : Prop :=
  ∃ g c : Nat, e = .returned (.slice (some ⟨g, 0, none⟩) n c) ∧ w.heap.size ≤ g ∧ n ≤ c ∧ RowF w' g n f ∧ Below w.heap.size w w'
theorem Tryd.info76 : (Tryd.prog.info? 76).map (fun i => (i.zero, i.size, i.bytes)) = some (some (.int .u8 0), 1, 1) := by kernel_rfl
theorem Tryd.info3 : (Tryd.prog.info? 3).map (fun i => (i.zero, i.size, i.bytes)) = some (some (.int .i64 0), 1, 8) := by kernel_rfl
theorem ints_cells {w : World} {A : Option Addr} {b o n : Nat} {f : Nat → Int} (hz : Ints w A b o n f) : ∀ j u, (vals n f)[j]? = some u → w.cell? ((⟨b, o, none⟩ : Addr).add j) = some u := by
  intro j u hj
  have hlt : j < n := by
    have := (List.getElem?_eq_some_iff.1 hj).1
    rwa [vals_len] at this
  have ha : (⟨b, o, none⟩ : Addr).add j = ⟨b, o + j, none⟩ := by unfold Addr.add; split <;> simp_all
  rw [ha, hz.ce j hlt]
  rw [vals_get hlt] at hj
  exact hj
theorem syms_cells {w : World} {A : Option Addr} {b o n : Nat} {f : Nat → S} (hz : Syms w A b o n f) : ∀ j u, (valS n f)[j]? = some u → w.cell? ((⟨b, o, none⟩ : Addr).add j) = some u := by
  intro j u hj
  have hlt : j < n := by
    have := (List.getElem?_eq_some_iff.1 hj).1
    rwa [valS_len] at this
  have ha : (⟨b, o, none⟩ : Addr).add j = ⟨b, o + j, none⟩ := by unfold Addr.add; split <;> simp_all
  rw [ha, hz.ce j hlt]
  rw [valS_get hlt] at hj
  exact hj
theorem own_made (W : World) (e s b g : Nat) (hg : W.heap.size = g) (h : b ≤ g) : (W.alloc (.cells #[] e)).ownsRow b e s (.slice (some ⟨g, 0, none⟩) 0 0) 0 [] := by
  subst hg
  exact ⟨by simp, .inr ⟨W.heap.size, 0, #[], rfl, h, heap_new W _, Nat.le_refl _, by unfold maxLen; omega, by simp, by simp⟩⟩

theorem RowF.ix {w : World} {b n c : Nat} {f : Nat → Int} (h : RowF w b n f) {k : Nat} (hk : k < n) (w' : World) :
    (Instr.indexAt 24 (.slice (some ⟨b, 0, none⟩) n c) (.int .i64 k)).run Tryd.prog w' = .ok (.pointer (some ⟨b, k, none⟩)) w' := by
  have := @Ints.ix _ _ _ _ _ c _ h.ints k hk w'
  rwa [Nat.zero_add] at this
theorem RowS.ix {w : World} {b n c : Nat} {f : Nat → S} (h : RowS w b n f) {k : Nat} (hk : k < n) (w' : World) :
    (Instr.indexAt 70 (.slice (some ⟨b, 0, none⟩) n c) (.int .i64 k)).run Tryd.prog w' = .ok (.pointer (some ⟨b, k, none⟩)) w' := by
  have := @Syms.ix _ _ _ _ _ c _ h.syms k hk w'
  rwa [Nat.zero_add] at this
theorem grown_set {w w' : World} {g : Nat} (h : w.grownBy w' (some g)) (i : Nat) (v : Value) : w.grownBy (w'.setCell ⟨g, i, none⟩ v) (some g) :=
  ⟨h.os, h.tape, h.output, by simpa [World.setCell] using h.size, fun k hk hne => (Below.heap_setCell w' ⟨g, i, none⟩ v k (by rintro rfl; exact hne rfl)).trans (h.block k hk hne)⟩
theorem below_grown {w w1 w2 : World} {B g : Nat} (h : Below B w w1) (hg : w1.grownBy w2 (some g)) (hB : B ≤ w1.heap.size) (hb : B ≤ g) : Below B w w2 :=
  h.grown hg hB (fun k e => by injection e with e; omega)
/-- The numbers, up to k judged. -/
def mix (k : Nat) {α : Type} (a b : Nat → α) (q : Nat) : α := if q < k then a q else b q
theorem mix_at {k : Nat} {α : Type} {a b : Nat → α} : mix k a b k = b k := by simp [mix]
theorem mix_zero {α : Type} (a b : Nat → α) (q : Nat) : mix 0 a b q = b q := by simp [mix]
theorem mix_all {n : Nat} {α : Type} {a b : Nat → α} {q : Nat} (h : q < n) : mix n a b q = a q := by simp [mix, h]
theorem mix_step {k : Nat} {α : Type} {a b : Nat → α} (q : Nat) : (if q = k then a k else mix k a b q) = mix (k + 1) a b q := by
  unfold mix
  by_cases h : q = k
  · subst h; simp
  · rw [if_neg h]
    by_cases h2 : q < k
    · rw [if_pos h2, if_pos (by omega)]
    · rw [if_neg h2, if_neg (by omega)]
theorem mix_skip {k : Nat} {α : Type} {a b : Nat → α} (h : a k = b k) (q : Nat) : mix k a b q = mix (k + 1) a b q := by
  rw [← mix_step]
  by_cases e : q = k
  · subst e; rw [if_pos rfl, mix_at, h]
  · rw [if_neg e]
theorem RowF.grown {w w' : World} {b n x : Nat} {f : Nat → Int} (h : RowF w b n f) (hg : w.grownBy w' (some x)) (hb : b ≠ x) : RowF w' b n f := h.of_block (hg.block b h.lt (by intro e; injection e with e; exact hb e))
theorem RowS.grown {w w' : World} {b n x : Nat} {f : Nat → S} (h : RowS w b n f) (hg : w.grownBy w' (some x)) (hb : b ≠ x) : RowS w' b n f := h.of_block (hg.block b h.lt (by intro e; injection e with e; exact hb e))
theorem app_src {P : Program} {w : World} {ops : Array Oper} {rest : List Oper} {o : Oper} {a : Act} {Q : Exit → Act → World → Prop} (hgd : o.guard = none) (s x : Operand) (t : TypeId)
    (ho : o.op = .call { callee := .builtin .append, args := #[s, x], argTypes := #[t, t] }) (base : Nat) (e : TypeId) (i : TypeInfo) (z : Value) (size bytes : Nat)
    (ht : P.underlying t = some (.slice e)) (hi : P.info? e = some i) (hz : i.zero = some z) (hsize : i.size = size) (hby : i.bytes = bytes) (hzs : z.cells.size = size) (hsz : 0 < size)
    (v : Value) (n : Nat) (xs : List Value) (hs : a.eval s = v) (hown : w.ownsRow base e size v n xs) (A : Option Addr) (m c : Nat) (news : List Value) (hx : a.eval x = .slice A m c)
    (hnil : A = none → m = 0 ∧ c = 0) (hl : news.length = m * size) (hcells : ∀ ad, A = some ad → ∀ j u, news[j]? = some u → w.cell? (ad.add j) = some u) (h1 : ∀ u ∈ news, u.oneCell' = true)
    (h63 : n + m ≤ maxLen) (hbytes : (n + m) * bytes ≤ 140737488355328) (hbase : base ≤ w.heap.size)
    (h : ∀ v' w', w'.ownsRow base e size v' (n + m) (xs ++ news) → w.grownBy w' v.ownBlock → (v' = .slice none 0 0 → v = .slice none 0 0) → wpList P ops Q rest (a.put o.dst v') w') : wpList P ops Q (o :: rest) a w := by
  cases A with
  | none =>
    obtain ⟨rfl, rfl⟩ := hnil rfl
    have hn : news = [] := List.eq_nil_of_length_eq_zero (by omega)
    subst hn
    exact wpList_append_own_none hgd s x t ho base e i size ht hi v n xs hs hown hx (h v w (by simpa using hown) (World.grownBy.refl w _) (fun e => e))
  | some ad => exact wpList_append_own w hgd s x t ho base e i z size bytes ht hi hz hsize hby hzs hsz v n xs hs hown ad m c news hx hl (hcells ad rfl) h1 h63 hbytes hbase (fun v' w' h2 h3 h4 => h v' w' h2 h3 (fun e => (h4.1 e).1))
theorem Ints.nil_ {w : World} {A : Option Addr} {b o n : Nat} {f : Nat → Int} (hz : Ints w A b o n f) (h : A = none) : n = 0 := by
  rcases Nat.eq_zero_or_pos n with h0 | h0
  · exact h0
  · have := hz.ad 0 h0; rw [h] at this; cases this
theorem Ints.cells {w : World} {A : Option Addr} {b o n : Nat} {f : Nat → Int} (hz : Ints w A b o n f) : ∀ ad, A = some ad → ∀ j u, (vals n f)[j]? = some u → w.cell? (ad.add j) = some u := by
  intro ad had j u hj
  have hlt : j < n := by
    have := (List.getElem?_eq_some_iff.1 hj).1
    rwa [vals_len] at this
  have e := hz.ad _ hlt
  rw [had] at e
  cases e
  have ha : (⟨b, o, none⟩ : Addr).add j = ⟨b, o + j, none⟩ := by unfold Addr.add; split <;> simp_all
  rw [ha, hz.ce j hlt]
  rw [vals_get hlt] at hj
  exact hj

theorem Syms.nil_ {w : World} {A : Option Addr} {b o n : Nat} {f : Nat → S} (hz : Syms w A b o n f) (h : A = none) : n = 0 := by
  rcases Nat.eq_zero_or_pos n with h0 | h0
  · exact h0
  · have := hz.ad 0 h0; rw [h] at this; cases this
theorem Syms.cells {w : World} {A : Option Addr} {b o n : Nat} {f : Nat → S} (hz : Syms w A b o n f) : ∀ ad, A = some ad → ∀ j u, (valS n f)[j]? = some u → w.cell? (ad.add j) = some u := by
  intro ad had j u hj
  have hlt : j < n := by
    have := (List.getElem?_eq_some_iff.1 hj).1
    rwa [valS_len] at this
  have e := hz.ad _ hlt
  rw [had] at e
  cases e
  have ha : (⟨b, o, none⟩ : Addr).add j = ⟨b, o + j, none⟩ := by unfold Addr.add; split <;> simp_all
  rw [ha, hz.ce j hlt]
  rw [valS_get hlt] at hj
  exact hj

end Go.Proofs.YtnndhibhnakdoaaDoor
