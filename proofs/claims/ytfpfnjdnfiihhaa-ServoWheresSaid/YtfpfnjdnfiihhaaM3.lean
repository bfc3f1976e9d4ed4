/- Stage 2, plain mathematics: spans of positions. -/
import Derived.Handy
set_option linter.unusedSimpArgs false
set_option linter.unusedVariables false
namespace Go.Proofs.Ytfpfnjdnfiihhaa

/-- One more position: the last span grows, or a new one begins. -/
def spx (l : List (Nat × Nat)) (k : Nat) : List (Nat × Nat) :=
  match l.getLast? with
  | some x => if x.2 + 1 = k then l.dropLast ++ [(x.1, k)] else l ++ [(k, k)]
  | none => [(k, k)]
/-- The spans of the positions below k for which b holds. -/
def spn (b : Nat → Bool) : Nat → List (Nat × Nat)
  | 0 => []
  | k + 1 => if b k = true then spx (spn b k) k else spn b k
theorem spn_yes {b : Nat → Bool} {k : Nat} (h : b k = true) : spn b (k + 1) = spx (spn b k) k := by simp [spn, h]
theorem spn_no {b : Nat → Bool} {k : Nat} (h : b k = false) : spn b (k + 1) = spn b k := by simp [spn, h]
theorem spx_nil (k : Nat) : spx [] k = [(k, k)] := rfl
theorem spx_grow {l : List (Nat × Nat)} {x : Nat × Nat} {k : Nat} (h : x.2 + 1 = k) : spx (l ++ [x]) k = l ++ [(x.1, k)] := by
  simp [spx, h]
theorem spx_new {l : List (Nat × Nat)} {x : Nat × Nat} {k : Nat} (h : ¬ x.2 + 1 = k) : spx (l ++ [x]) k = l ++ [x] ++ [(k, k)] := by
  simp [spx, h]
theorem snoc_of {α : Type} {l : List α} (h : l ≠ []) : ∃ l' x, l = l' ++ [x] := ⟨l.dropLast, l.getLast h, (List.dropLast_concat_getLast h).symm⟩
theorem spn_congr {b c : Nat → Bool} : ∀ {k : Nat}, (∀ i, i < k → b i = c i) → spn b k = spn c k
  | 0, _ => rfl
  | k + 1, h => by
    simp only [spn]
    rw [spn_congr (k := k) (fun i hi => h i (by omega)), h k (by omega)]
/-- What holds of the spans: their ends, in order and apart; and which positions are in them. -/
structure SpOk (b : Nat → Bool) (k : Nat) (l : List (Nat × Nat)) : Prop where
  le : ∀ (i : Nat) (x : Nat × Nat), l[i]? = some x → x.1 ≤ x.2 ∧ x.2 < k ∧ b x.1 = true ∧ b x.2 = true
  ap : ∀ (i : Nat) (x y : Nat × Nat), l[i]? = some x → l[i + 1]? = some y → x.2 + 1 < y.1
  on : ∀ p, p < k → (b p = true ↔ ∃ (i : Nat) (x : Nat × Nat), l[i]? = some x ∧ x.1 ≤ p ∧ p ≤ x.2)
  la : ∀ (i : Nat) (x : Nat × Nat), l[i]? = some x → l.length = i + 1 ∨ x.2 + 1 < k
theorem SpOk.last {b : Nat → Bool} {k : Nat} {l : List (Nat × Nat)} {x : Nat × Nat} (h : SpOk b k (l ++ [x])) : x.2 + 1 = k ↔ (0 < k ∧ b (k - 1) = true) := by
  have h0 : (l ++ [x])[l.length]? = some x := by simp
  have h1 := h.le _ _ h0
  constructor
  · intro e
    have e1 : k - 1 = x.2 := by omega
    exact ⟨by omega, by rw [e1]; exact h1.2.2.2⟩
  · rintro ⟨h2, h3⟩
    obtain ⟨i, y, h4, h5, h6⟩ := (h.on (k - 1) (by omega)).1 h3
    have h7 := h.le _ _ h4
    rcases h.la _ _ h4 with h8 | h8
    · have : i = l.length := by simpa using h8.symm
      subst this
      rw [h0] at h4
      cases h4
      omega
    · omega
theorem SpOk.nil_ {b : Nat → Bool} {k : Nat} (h : SpOk b k []) (p : Nat) (hp : p < k) : b p = false := by
  cases e : b p with
  | false => rfl
  | true => obtain ⟨i, x, h1, _⟩ := (h.on p hp).1 e; simp at h1
theorem SpOk.no {b : Nat → Bool} {k : Nat} {l : List (Nat × Nat)} (h : SpOk b k l) (hb : b k = false) : SpOk b (k + 1) l := by
  refine ⟨fun i x hx => ?_, h.ap, fun p hp => ?_, fun i x hx => ?_⟩
  · have := h.le i x hx; exact ⟨this.1, by omega, this.2.2⟩
  · by_cases e : p = k
    · subst e
      constructor
      · intro h1; rw [hb] at h1; cases h1
      · rintro ⟨i, x, h1, h2, h3⟩; have := h.le i x h1; omega
    · exact h.on p (by omega)
  · have := h.le i x hx
    right; omega
theorem get_snoc {α : Type} {l : List α} {x y : α} {i : Nat} : (l ++ [x])[i]? = some y ↔ (l[i]? = some y ∧ i < l.length) ∨ (i = l.length ∧ y = x) := by
  rcases Nat.lt_trichotomy i l.length with h | h | h
  · rw [List.getElem?_append_left h]
    constructor
    · intro h1; exact .inl ⟨h1, h⟩
    · rintro (⟨h1, _⟩ | ⟨h1, _⟩)
      · exact h1
      · omega
  · subst h
    simp [eq_comm]
  · rw [List.getElem?_eq_none (by simp; omega)]
    constructor
    · intro h1; cases h1
    · rintro (⟨_, h1⟩ | ⟨h1, _⟩) <;> omega
theorem SpOk.grow {b : Nat → Bool} {k : Nat} {l : List (Nat × Nat)} {x : Nat × Nat} (h : SpOk b k (l ++ [x])) (hb : b k = true) (hx : x.2 + 1 = k) : SpOk b (k + 1) (l ++ [(x.1, k)]) := by
  have hl : (l ++ [x])[l.length]? = some x := by simp
  have hxx := h.le _ _ hl
  refine ⟨fun i y hy => ?_, fun i y z hy hz => ?_, fun p hp => ?_, fun i y hy => ?_⟩
  · rcases get_snoc.1 hy with ⟨h1, h2⟩ | ⟨_, rfl⟩
    · have := h.le i y (get_snoc.2 (.inl ⟨h1, h2⟩)); exact ⟨this.1, by omega, this.2.2⟩
    · exact ⟨by simp; omega, by simp, hxx.2.2.1, hb⟩
  · rcases get_snoc.1 hy with ⟨h1, h2⟩ | ⟨rfl, rfl⟩
    · rcases get_snoc.1 hz with ⟨h3, h4⟩ | ⟨h3, rfl⟩
      · exact h.ap i y z (get_snoc.2 (.inl ⟨h1, h2⟩)) (get_snoc.2 (.inl ⟨h3, h4⟩))
      · exact h.ap i y x (get_snoc.2 (.inl ⟨h1, h2⟩)) (get_snoc.2 (.inr ⟨h3, rfl⟩))
    · rcases get_snoc.1 hz with ⟨h3, h4⟩ | ⟨h3, rfl⟩ <;> omega
  · by_cases e : p = k
    · subst e
      refine ⟨fun _ => ⟨l.length, (x.1, p), by simp, by simp; omega, by simp⟩, fun _ => hb⟩
    · rw [h.on p (by omega)]
      constructor
      · rintro ⟨i, y, h1, h2, h3⟩
        rcases get_snoc.1 h1 with ⟨h4, h5⟩ | ⟨h4, rfl⟩
        · exact ⟨i, y, get_snoc.2 (.inl ⟨h4, h5⟩), h2, h3⟩
        · exact ⟨i, _, get_snoc.2 (.inr ⟨h4, rfl⟩), h2, by simp; omega⟩
      · rintro ⟨i, y, h1, h2, h3⟩
        rcases get_snoc.1 h1 with ⟨h4, h5⟩ | ⟨h4, rfl⟩
        · exact ⟨i, y, get_snoc.2 (.inl ⟨h4, h5⟩), h2, h3⟩
        · exact ⟨i, x, get_snoc.2 (.inr ⟨h4, rfl⟩), h2, by simp at h3; omega⟩
  · rcases get_snoc.1 hy with ⟨h1, h2⟩ | ⟨h1, rfl⟩
    · right
      rcases h.la i y (get_snoc.2 (.inl ⟨h1, h2⟩)) with h3 | h3
      · simp at h3; omega
      · omega
    · left; simp [h1]
theorem SpOk.new {b : Nat → Bool} {k : Nat} {l : List (Nat × Nat)} (h : SpOk b k l) (hb : b k = true) (hx : ∀ (i : Nat) (x : Nat × Nat), l[i]? = some x → x.2 + 1 < k) : SpOk b (k + 1) (l ++ [(k, k)]) := by
  refine ⟨fun i y hy => ?_, fun i y z hy hz => ?_, fun p hp => ?_, fun i y hy => ?_⟩
  · rcases get_snoc.1 hy with ⟨h1, h2⟩ | ⟨_, rfl⟩
    · have := h.le i y h1; exact ⟨this.1, by omega, this.2.2⟩
    · exact ⟨by simp, by simp, hb, hb⟩
  · rcases get_snoc.1 hy with ⟨h1, h2⟩ | ⟨rfl, rfl⟩
    · rcases get_snoc.1 hz with ⟨h3, h4⟩ | ⟨h3, rfl⟩
      · exact h.ap i y z h1 h3
      · exact hx i y h1
    · rcases get_snoc.1 hz with ⟨h3, h4⟩ | ⟨h3, rfl⟩ <;> omega
  · by_cases e : p = k
    · subst e
      exact ⟨fun _ => ⟨l.length, (p, p), by simp, by simp, by simp⟩, fun _ => hb⟩
    · rw [h.on p (by omega)]
      constructor
      · rintro ⟨i, y, h1, h2, h3⟩
        have : i < l.length := (List.getElem?_eq_some_iff.1 h1).1
        exact ⟨i, y, get_snoc.2 (.inl ⟨h1, this⟩), h2, h3⟩
      · rintro ⟨i, y, h1, h2, h3⟩
        rcases get_snoc.1 h1 with ⟨h4, h5⟩ | ⟨h4, rfl⟩
        · exact ⟨i, y, h4, h2, h3⟩
        · simp at h2 h3; omega
  · rcases get_snoc.1 hy with ⟨h1, h2⟩ | ⟨h1, rfl⟩
    · right; have := hx i y h1; omega
    · left; simp [h1]
theorem spn_ok (b : Nat → Bool) : ∀ k, SpOk b k (spn b k)
  | 0 => ⟨fun i x h => by simp [spn] at h, fun i x y h => by simp [spn] at h, fun p hp => absurd hp (Nat.not_lt_zero _), fun i x h => by simp [spn] at h⟩
  | k + 1 => by
    have ih := spn_ok b k
    cases hb : b k with
    | false => rw [spn_no hb]; exact ih.no hb
    | true =>
      rw [spn_yes hb]
      by_cases hn : spn b k = []
      · rw [hn] at ih ⊢
        rw [spx_nil]
        exact ih.new hb (fun i x h => by simp at h)
      · obtain ⟨l, x, hl⟩ := snoc_of hn
        rw [hl] at ih ⊢
        by_cases hx : x.2 + 1 = k
        · rw [spx_grow hx]; exact ih.grow hb hx
        · rw [spx_new hx]
          refine ih.new hb (fun i y hy => ?_)
          have h1 := ih.le i y hy
          rcases ih.la i y hy with h2 | h2
          · have : i = l.length := by simpa using h2.symm
            subst this
            have : y = x := by simpa using hy.symm
            subst this
            omega
          · exact h2
theorem spn_nil {b : Nat → Bool} {k : Nat} : spn b k = [] ↔ ∀ p, p < k → b p = false := by
  constructor
  · intro h p hp
    have := spn_ok b k
    rw [h] at this
    exact this.nil_ p hp
  · intro h
    rcases hl : spn b k with _ | ⟨x, l⟩
    · rfl
    · have := (spn_ok b k).le 0 x (by rw [hl]; rfl)
      rw [h x.1 (by omega)] at this
      exact absurd this.2.2.1 (by simp)
theorem spn_len (b : Nat → Bool) : ∀ k, (spn b k).length ≤ k
  | 0 => by simp [spn]
  | k + 1 => by
    have ih := spn_len b k
    cases hb : b k with
    | false => rw [spn_no hb]; omega
    | true =>
      rw [spn_yes hb]
      by_cases hn : spn b k = []
      · rw [hn]; simp [spx_nil]
      · obtain ⟨l, x, hl⟩ := snoc_of hn
        rw [hl] at ih ⊢
        by_cases hx : x.2 + 1 = k
        · rw [spx_grow hx]; simp at ih ⊢; omega
        · rw [spx_new hx]; simp at ih ⊢; omega
end Go.Proofs.Ytfpfnjdnfiihhaa
