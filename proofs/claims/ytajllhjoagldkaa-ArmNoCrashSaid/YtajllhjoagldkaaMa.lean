/- Stage 6: which command surely leads to a set of states; the greatest set in which the arm can be kept (mathematics). -/
import Derived.Test.YtajllhjoagldkaaC
set_option linter.unusedSimpArgs false
set_option linter.unusedVariables false
namespace Go.Proofs.Ytajllhjoagldkaa

/-- With the command c each shock leads from the state to the set. -/
def okc (a : Ar) (g : Int → Int → Bool) (p v c : Int) : Bool := (List.range (2 * a.sh + 1)).all fun j : Nat => g (p + (v + (c + ((j : Int) - (a.sh : Int))))) (v + (c + ((j : Int) - (a.sh : Int))))
theorem okc_iff {a : Ar} {g : Int → Int → Bool} {p v c : Int} : okc a g p v c = true ↔ ∀ s : Int, -(a.sh : Int) ≤ s → s ≤ (a.sh : Int) → g (p + (v + (c + s))) (v + (c + s)) = true := by
  unfold okc
  rw [List.all_eq_true]
  constructor
  · intro h s h1 h2
    have := h (s + a.sh).toNat (List.mem_range.2 (by omega))
    rwa [show (((s + a.sh).toNat : Nat) : Int) - (a.sh : Int) = s by omega] at this
  · intro h j hj
    have := List.mem_range.1 hj
    exact h _ (by omega) (by omega)
/-- The first commands, the lowest one first. -/
def low (a : Ar) (g : Int → Int → Bool) (p v : Int) : Option Int := ((List.range (2 * a.fo + 1)).map fun i : Nat => (i : Int) - (a.fo : Int)).find? (okc a g p v)
theorem low_none {a : Ar} {g : Int → Int → Bool} {p v : Int} (h : ∀ i, i < 2 * a.fo + 1 → okc a g p v ((i : Int) - (a.fo : Int)) = false) : low a g p v = none := by
  unfold low
  rw [List.find?_eq_none]
  intro x hx
  obtain ⟨i, hi, rfl⟩ := List.mem_map.1 hx
  rw [h i (List.mem_range.1 hi)]
  simp
theorem find_first {α : Type} (q : α → Bool) (F : Nat → α) : ∀ (n k : Nat), k < n → q (F k) = true → (∀ i, i < k → q (F i) = false) → ((List.range n).map F).find? q = some (F k) := by
  intro n
  induction n with
  | zero => intro k hk; omega
  | succ n ih =>
    intro k hk hq hall
    rw [List.range_succ, List.map_append, List.find?_append]
    by_cases e : k < n
    · rw [ih k e hq hall]; rfl
    · obtain rfl : k = n := by omega
      have : ((List.range k).map F).find? q = none := by
        rw [List.find?_eq_none]
        intro x hx
        obtain ⟨i, hi, rfl⟩ := List.mem_map.1 hx
        rw [hall i (List.mem_range.1 hi)]
        simp
      rw [this]
      simp [hq]
theorem low_some {a : Ar} {g : Int → Int → Bool} {p v : Int} {k : Nat} (hk : k < 2 * a.fo + 1) (h : okc a g p v ((k : Int) - (a.fo : Int)) = true) (hall : ∀ i, i < k → okc a g p v ((i : Int) - (a.fo : Int)) = false) : low a g p v = some ((k : Int) - (a.fo : Int)) :=
  find_first (okc a g p v) (fun i : Nat => (i : Int) - (a.fo : Int)) _ k hk h hall
theorem low_at {a : Ar} {g : Int → Int → Bool} {p v c : Int} (h1 : -(a.fo : Int) ≤ c ∧ c ≤ (a.fo : Int)) (h : okc a g p v c = true) (hall : ∀ i : Int, -(a.fo : Int) ≤ i → i < c → okc a g p v i = false) : low a g p v = some c := by
  have := low_some (a := a) (g := g) (p := p) (v := v) (k := (c + a.fo).toNat) (by omega) (by rw [show (((c + a.fo).toNat : Nat) : Int) - (a.fo : Int) = c by omega]; exact h) (fun i hi => hall _ (by omega) (by omega))
  rwa [show (((c + a.fo).toNat : Nat) : Int) - (a.fo : Int) = c by omega] at this
theorem low_no {a : Ar} {g : Int → Int → Bool} {p v : Int} (hall : ∀ i : Int, -(a.fo : Int) ≤ i → i < (a.fo : Int) + 1 → okc a g p v i = false) : low a g p v = none := low_none fun i hi => hall _ (by omega) (by omega)
theorem low_inv {a : Ar} {g : Int → Int → Bool} {p v c : Int} (h : low a g p v = some c) : okc a g p v c = true ∧ (-(a.fo : Int) ≤ c ∧ c ≤ (a.fo : Int)) := by
  unfold low at h
  refine ⟨List.find?_some h, ?_⟩
  obtain ⟨i, hi, rfl⟩ := List.mem_map.1 (List.mem_of_find?_eq_some h)
  have := List.mem_range.1 hi
  omega
/-- Some command surely leads to the set. -/
def cans (a : Ar) (g : Int → Int → Bool) (p v : Int) : Bool := (low a g p v).isSome
theorem cans_iff {a : Ar} {g : Int → Int → Bool} {p v : Int} : cans a g p v = true ↔ ∃ c : Int, (-(a.fo : Int) ≤ c ∧ c ≤ (a.fo : Int)) ∧ okc a g p v c = true := by
  unfold cans
  constructor
  · intro h
    obtain ⟨c, hc⟩ := Option.isSome_iff_exists.1 h
    exact ⟨c, (low_inv hc).2, (low_inv hc).1⟩
  · rintro ⟨c, h1, h2⟩
    cases hl : low a g p v with
    | some _ => rfl
    | none =>
      unfold low at hl
      rw [List.find?_eq_none] at hl
      have := hl c (List.mem_map.2 ⟨(c + a.fo).toNat, List.mem_range.2 (by omega), by omega⟩)
      exact absurd h2 this
theorem okc_mono {a : Ar} {g h : Int → Int → Bool} (k : ∀ p v, g p v = true → h p v = true) {p v c : Int} (e : okc a g p v c = true) : okc a h p v c = true := by
  rw [okc_iff] at e ⊢
  exact fun s h1 h2 => k _ _ (e s h1 h2)
theorem cans_mono {a : Ar} {g h : Int → Int → Bool} (k : ∀ p v, g p v = true → h p v = true) {p v : Int} (e : cans a g p v = true) : cans a h p v = true := by
  rw [cans_iff] at e ⊢
  obtain ⟨c, h1, h2⟩ := e
  exact ⟨c, h1, okc_mono k h2⟩
/-- Each state of f is one, is wanted, and some command surely leads from it to f. -/
def Post (a : Ar) (g f : Int → Int → Bool) : Prop := ∀ p v, f p v = true → stB a p v = true ∧ g p v = true ∧ cans a f p v = true
/-- f is the greatest such set. -/
def Gr (a : Ar) (g f : Int → Int → Bool) : Prop := Post a g f ∧ ∀ h, Post a g h → ∀ p v, h p v = true → f p v = true
theorem Gr.uniq {a : Ar} {g f f' : Int → Int → Bool} (h : Gr a g f) (h' : Gr a g f') (p v : Int) : f p v = f' p v := by
  have h1 := h.2 f' h'.1 p v
  have h2 := h'.2 f h.1 p v
  cases e : f p v <;> cases e' : f' p v <;> simp_all
/-- What is left while states are taken out. -/
def Inv (a : Ar) (g f : Int → Int → Bool) : Prop := (∀ p v, f p v = true → stB a p v = true ∧ g p v = true) ∧ ∀ h, Post a g h → ∀ p v, h p v = true → f p v = true
theorem Inv.start (a : Ar) (g : Int → Int → Bool) : Inv a g (fun p v => stB a p v && g p v) :=
  ⟨fun p v h => by rwa [Bool.and_eq_true] at h, fun h k p v e => by rw [Bool.and_eq_true]; exact ⟨(k p v e).1, (k p v e).2.1⟩⟩
theorem Inv.take {a : Ar} {g f : Int → Int → Bool} (h : Inv a g f) {p v : Int} (e : cans a f p v = false) : Inv a g (fun p' v' => f p' v' && !(p' == p && v' == v)) := by
  refine ⟨fun p' v' h' => h.1 p' v' (by rw [Bool.and_eq_true] at h'; exact h'.1), fun k hk p' v' e' => ?_⟩
  rw [Bool.and_eq_true]
  refine ⟨h.2 k hk p' v' e', ?_⟩
  cases e2 : (p' == p && v' == v) with
  | false => rfl
  | true =>
    rw [Bool.and_eq_true, beq_iff_eq, beq_iff_eq] at e2
    obtain ⟨rfl, rfl⟩ := e2
    have := cans_mono (h.2 k hk) (hk p' v' e').2.2
    rw [e] at this
    cases this
theorem Inv.done {a : Ar} {g f : Int → Int → Bool} (h : Inv a g f) (e : ∀ p v, f p v = true → cans a f p v = true) : Gr a g f :=
  ⟨fun p v h1 => ⟨(h.1 p v h1).1, (h.1 p v h1).2, e p v h1⟩, h.2⟩
/-- All states, by position, then by speed. -/
def sts (a : Ar) : List (Int × Int) := (List.range (a.la + 1)).flatMap fun p : Nat => (List.range (2 * a.sp + 1)).map fun v : Nat => ((p : Int), (v : Int) - (a.sp : Int))
theorem mem_sts {a : Ar} {p v : Int} : (p, v) ∈ sts a ↔ stB a p v = true := by
  rw [stB_iff]
  unfold sts
  simp only [List.mem_flatMap, List.mem_map, List.mem_range, Prod.mk.injEq]
  constructor
  · rintro ⟨x, hx, y, hy, rfl, rfl⟩
    omega
  · rintro ⟨⟨h1, h2⟩, h3, h4⟩
    exact ⟨p.toNat, by omega, (v + a.sp).toNat, by omega, by omega, by omega⟩
/-- How many states a set has. -/
def cnt (a : Ar) (f : Int → Int → Bool) : Nat := (sts a).countP fun s => f s.1 s.2
theorem countP_lt {α : Type} {q r : α → Bool} : ∀ (l : List α), (∀ x ∈ l, q x = true → r x = true) → (∃ x ∈ l, r x = true ∧ q x = false) → l.countP q < l.countP r
  | [], _, h => by obtain ⟨x, hx, _⟩ := h; cases hx
  | y :: l, h1, h2 => by
    have hle : l.countP q ≤ l.countP r := List.countP_mono_left (fun x hx => h1 x (List.mem_cons_of_mem _ hx))
    rw [List.countP_cons, List.countP_cons]
    obtain ⟨x, hx, hr, hq⟩ := h2
    rcases List.mem_cons.1 hx with rfl | hx
    · rw [hr, hq]; simp; omega
    · have := countP_lt l (fun x hx => h1 x (List.mem_cons_of_mem _ hx)) ⟨x, hx, hr, hq⟩
      have h3 := h1 y List.mem_cons_self
      cases e1 : q y <;> cases e2 : r y <;> simp_all <;> omega
theorem cnt_le {a : Ar} {f f' : Int → Int → Bool} (h : ∀ p v, f p v = true → f' p v = true) : cnt a f ≤ cnt a f' := List.countP_mono_left (fun s _ => h s.1 s.2)
theorem cnt_lt {a : Ar} {f f' : Int → Int → Bool} (h : ∀ p v, f p v = true → f' p v = true) {p v : Int} (hs : stB a p v = true) (h1 : f' p v = true) (h2 : f p v = false) : cnt a f < cnt a f' :=
  countP_lt _ (fun s _ => h s.1 s.2) ⟨(p, v), mem_sts.2 hs, h1, h2⟩
theorem sts_len (a : Ar) : (sts a).length = (a.la + 1) * (2 * a.sp + 1) := by
  unfold sts
  rw [List.length_flatMap]
  simp [List.map_const', List.sum_replicate_nat]
theorem cnt_bound (a : Ar) (f : Int → Int → Bool) : cnt a f ≤ (a.la + 1) * (2 * a.sp + 1) := by rw [← sts_len]; exact List.countP_le_length
end Go.Proofs.Ytajllhjoagldkaa
