/- Texts put together: M3, A, B, C. -/
import Derived.Handy
import Derived.Test.YtkafjlhmbiaicaaRows
import Derived.Test.YtkafjlhmbiaicaaG00
import Derived.WalkKit
import Derived.WalkSpells
import Derived.WalkLawsBesides
import Derived.BigQuiet
import Derived.Deep.QuietTactic
/- Stage 2, plain mathematics: spans of positions. -/
set_option linter.unusedSimpArgs false
set_option linter.unusedVariables false
namespace Go.Proofs.Ytkafjlhmbiaicaa

/-- One more position: the last span grows, or a new one begins. -/
def spx (l : List (Nat × Nat)) (k : Nat) : List (Nat × Nat) :=
  match l.getLast? with
  | some x => if x.2 + 1 = k then l.dropLast ++ [(x.1, k)] else l ++ [(k, k)]
  | none => [(k, k)]
/-- The spans of the positions below k for which b holds. -/
def spn (b : Nat → Bool) : Nat → List (Nat × Nat)
  | 0 => []
  | k + 1 => if b k = true then spx (spn b k) k else spn b k
theorem spn_yes {b : Nat → Bool} {k : Nat} (h : b k = true) : spn b (k + 1) = spx (spn b k) k := by simp [spn, h]
theorem spn_no {b : Nat → Bool} {k : Nat} (h : b k = false) : spn b (k + 1) = spn b k := by simp [spn, h]
theorem spx_nil (k : Nat) : spx [] k = [(k, k)] := rfl
theorem spx_grow {l : List (Nat × Nat)} {x : Nat × Nat} {k : Nat} (h : x.2 + 1 = k) : spx (l ++ [x]) k = l ++ [(x.1, k)] := by
  simp [spx, h]
theorem spx_new {l : List (Nat × Nat)} {x : Nat × Nat} {k : Nat} (h : ¬ x.2 + 1 = k) : spx (l ++ [x]) k = l ++ [x] ++ [(k, k)] := by
  simp [spx, h]
theorem snoc_of {α : Type} {l : List α} (h : l ≠ []) : ∃ l' x, l = l' ++ [x] := ⟨l.dropLast, l.getLast h, (List.dropLast_concat_getLast h).symm⟩
theorem spn_congr {b c : Nat → Bool} : ∀ {k : Nat}, (∀ i, i < k → b i = c i) → spn b k = spn c k
  | 0, _ => rfl
  | k + 1, h => by
    simp only [spn]
    rw [spn_congr (k := k) (fun i hi => h i (by omega)), h k (by omega)]
/-- What holds of the spans: their ends, in order and apart; and which positions are in them. -/
structure SpOk (b : Nat → Bool) (k : Nat) (l : List (Nat × Nat)) : Prop where
  le : ∀ (i : Nat) (x : Nat × Nat), l[i]? = some x → x.1 ≤ x.2 ∧ x.2 < k ∧ b x.1 = true ∧ b x.2 = true
  ap : ∀ (i : Nat) (x y : Nat × Nat), l[i]? = some x → l[i + 1]? = some y → x.2 + 1 < y.1
  on : ∀ p, p < k → (b p = true ↔ ∃ (i : Nat) (x : Nat × Nat), l[i]? = some x ∧ x.1 ≤ p ∧ p ≤ x.2)
  la : ∀ (i : Nat) (x : Nat × Nat), l[i]? = some x → l.length = i + 1 ∨ x.2 + 1 < k
theorem SpOk.last {b : Nat → Bool} {k : Nat} {l : List (Nat × Nat)} {x : Nat × Nat} (h : SpOk b k (l ++ [x])) : x.2 + 1 = k ↔ (0 < k ∧ b (k - 1) = true) := by
  have h0 : (l ++ [x])[l.length]? = some x := by simp
  have h1 := h.le _ _ h0
  constructor
  · intro e
    have e1 : k - 1 = x.2 := by omega
    exact ⟨by omega, by rw [e1]; exact h1.2.2.2⟩
  · rintro ⟨h2, h3⟩
    obtain ⟨i, y, h4, h5, h6⟩ := (h.on (k - 1) (by omega)).1 h3
    have h7 := h.le _ _ h4
    rcases h.la _ _ h4 with h8 | h8
    · have : i = l.length := by simpa using h8.symm
      subst this
      rw [h0] at h4
      cases h4
      omega
    · omega
theorem SpOk.nil_ {b : Nat → Bool} {k : Nat} (h : SpOk b k []) (p : Nat) (hp : p < k) : b p = false := by
  cases e : b p with
  | false => rfl
  | true => obtain ⟨i, x, h1, _⟩ := (h.on p hp).1 e; simp at h1
theorem SpOk.no {b : Nat → Bool} {k : Nat} {l : List (Nat × Nat)} (h : SpOk b k l) (hb : b k = false) : SpOk b (k + 1) l := by
  refine ⟨fun i x hx => ?_, h.ap, fun p hp => ?_, fun i x hx => ?_⟩
  · have := h.le i x hx; exact ⟨this.1, by omega, this.2.2⟩
  · by_cases e : p = k
    · subst e
      constructor
      · intro h1; rw [hb] at h1; cases h1
      · rintro ⟨i, x, h1, h2, h3⟩; have := h.le i x h1; omega
    · exact h.on p (by omega)
  · have := h.le i x hx
    right; omega
theorem get_snoc {α : Type} {l : List α} {x y : α} {i : Nat} : (l ++ [x])[i]? = some y ↔ (l[i]? = some y ∧ i < l.length) ∨ (i = l.length ∧ y = x) := by
  rcases Nat.lt_trichotomy i l.length with h | h | h
  · rw [List.getElem?_append_left h]
    constructor
    · intro h1; exact .inl ⟨h1, h⟩
    · rintro (⟨h1, _⟩ | ⟨h1, _⟩)
      · exact h1
      · omega
  · subst h
    simp [eq_comm]
  · rw [List.getElem?_eq_none (by simp; omega)]
    constructor
    · intro h1; cases h1
    · rintro (⟨_, h1⟩ | ⟨h1, _⟩) <;> omega
theorem SpOk.grow {b : Nat → Bool} {k : Nat} {l : List (Nat × Nat)} {x : Nat × Nat} (h : SpOk b k (l ++ [x])) (hb : b k = true) (hx : x.2 + 1 = k) : SpOk b (k + 1) (l ++ [(x.1, k)]) := by
  have hl : (l ++ [x])[l.length]? = some x := by simp
  have hxx := h.le _ _ hl
  refine ⟨fun i y hy => ?_, fun i y z hy hz => ?_, fun p hp => ?_, fun i y hy => ?_⟩
  · rcases get_snoc.1 hy with ⟨h1, h2⟩ | ⟨_, rfl⟩
    · have := h.le i y (get_snoc.2 (.inl ⟨h1, h2⟩)); exact ⟨this.1, by omega, this.2.2⟩
    · exact ⟨by simp; omega, by simp, hxx.2.2.1, hb⟩
  · rcases get_snoc.1 hy with ⟨h1, h2⟩ | ⟨rfl, rfl⟩
    · rcases get_snoc.1 hz with ⟨h3, h4⟩ | ⟨h3, rfl⟩
      · exact h.ap i y z (get_snoc.2 (.inl ⟨h1, h2⟩)) (get_snoc.2 (.inl ⟨h3, h4⟩))
      · exact h.ap i y x (get_snoc.2 (.inl ⟨h1, h2⟩)) (get_snoc.2 (.inr ⟨h3, rfl⟩))
    · rcases get_snoc.1 hz with ⟨h3, h4⟩ | ⟨h3, rfl⟩ <;> omega
  · by_cases e : p = k
    · subst e
      refine ⟨fun _ => ⟨l.length, (x.1, p), by simp, by simp; omega, by simp⟩, fun _ => hb⟩
    · rw [h.on p (by omega)]
      constructor
      · rintro ⟨i, y, h1, h2, h3⟩
        rcases get_snoc.1 h1 with ⟨h4, h5⟩ | ⟨h4, rfl⟩
        · exact ⟨i, y, get_snoc.2 (.inl ⟨h4, h5⟩), h2, h3⟩
        · exact ⟨i, _, get_snoc.2 (.inr ⟨h4, rfl⟩), h2, by simp; omega⟩
      · rintro ⟨i, y, h1, h2, h3⟩
        rcases get_snoc.1 h1 with ⟨h4, h5⟩ | ⟨h4, rfl⟩
        · exact ⟨i, y, get_snoc.2 (.inl ⟨h4, h5⟩), h2, h3⟩
        · exact ⟨i, x, get_snoc.2 (.inr ⟨h4, rfl⟩), h2, by simp at h3; omega⟩
  · rcases get_snoc.1 hy with ⟨h1, h2⟩ | ⟨h1, rfl⟩
    · right
      rcases h.la i y (get_snoc.2 (.inl ⟨h1, h2⟩)) with h3 | h3
      · simp at h3; omega
      · omega
    · left; simp [h1]
theorem SpOk.new {b : Nat → Bool} {k : Nat} {l : List (Nat × Nat)} (h : SpOk b k l) (hb : b k = true) (hx : ∀ (i : Nat) (x : Nat × Nat), l[i]? = some x → x.2 + 1 < k) : SpOk b (k + 1) (l ++ [(k, k)]) := by
  refine ⟨fun i y hy => ?_, fun i y z hy hz => ?_, fun p hp => ?_, fun i y hy => ?_⟩
  · rcases get_snoc.1 hy with ⟨h1, h2⟩ | ⟨_, rfl⟩
    · have := h.le i y h1; exact ⟨this.1, by omega, this.2.2⟩
    · exact ⟨by simp, by simp, hb, hb⟩
  · rcases get_snoc.1 hy with ⟨h1, h2⟩ | ⟨rfl, rfl⟩
    · rcases get_snoc.1 hz with ⟨h3, h4⟩ | ⟨h3, rfl⟩
      · exact h.ap i y z h1 h3
      · exact hx i y h1
    · rcases get_snoc.1 hz with ⟨h3, h4⟩ | ⟨h3, rfl⟩ <;> omega
  · by_cases e : p = k
    · subst e
      exact ⟨fun _ => ⟨l.length, (p, p), by simp, by simp, by simp⟩, fun _ => hb⟩
    · rw [h.on p (by omega)]
      constructor
      · rintro ⟨i, y, h1, h2, h3⟩
        have : i < l.length := (List.getElem?_eq_some_iff.1 h1).1
        exact ⟨i, y, get_snoc.2 (.inl ⟨h1, this⟩), h2, h3⟩
      · rintro ⟨i, y, h1, h2, h3⟩
        rcases get_snoc.1 h1 with ⟨h4, h5⟩ | ⟨h4, rfl⟩
        · exact ⟨i, y, h4, h2, h3⟩
        · simp at h2 h3; omega
  · rcases get_snoc.1 hy with ⟨h1, h2⟩ | ⟨h1, rfl⟩
    · right; have := hx i y h1; omega
    · left; simp [h1]
theorem spn_ok (b : Nat → Bool) : ∀ k, SpOk b k (spn b k)
  | 0 => ⟨fun i x h => by simp [spn] at h, fun i x y h => by simp [spn] at h, fun p hp => absurd hp (Nat.not_lt_zero _), fun i x h => by simp [spn] at h⟩
  | k + 1 => by
    have ih := spn_ok b k
    cases hb : b k with
    | false => rw [spn_no hb]; exact ih.no hb
    | true =>
      rw [spn_yes hb]
      by_cases hn : spn b k = []
      · rw [hn] at ih ⊢
        rw [spx_nil]
        exact ih.new hb (fun i x h => by simp at h)
      · obtain ⟨l, x, hl⟩ := snoc_of hn
        rw [hl] at ih ⊢
        by_cases hx : x.2 + 1 = k
        · rw [spx_grow hx]; exact ih.grow hb hx
        · rw [spx_new hx]
          refine ih.new hb (fun i y hy => ?_)
          have h1 := ih.le i y hy
          rcases ih.la i y hy with h2 | h2
          · have : i = l.length := by simpa using h2.symm
            subst this
            have : y = x := by simpa using hy.symm
            subst this
            omega
          · exact h2
theorem spn_nil {b : Nat → Bool} {k : Nat} : spn b k = [] ↔ ∀ p, p < k → b p = false := by
  constructor
  · intro h p hp
    have := spn_ok b k
    rw [h] at this
    exact this.nil_ p hp
  · intro h
    rcases hl : spn b k with _ | ⟨x, l⟩
    · rfl
    · have := (spn_ok b k).le 0 x (by rw [hl]; rfl)
      rw [h x.1 (by omega)] at this
      exact absurd this.2.2.1 (by simp)
theorem spn_len (b : Nat → Bool) : ∀ k, (spn b k).length ≤ k
  | 0 => by simp [spn]
  | k + 1 => by
    have ih := spn_len b k
    cases hb : b k with
    | false => rw [spn_no hb]; omega
    | true =>
      rw [spn_yes hb]
      by_cases hn : spn b k = []
      · rw [hn]; simp [spx_nil]
      · obtain ⟨l, x, hl⟩ := snoc_of hn
        rw [hl] at ih ⊢
        by_cases hx : x.2 + 1 = k
        · rw [spx_grow hx]; simp at ih ⊢; omega
        · rw [spx_new hx]; simp at ih ⊢; omega
end Go.Proofs.Ytkafjlhmbiaicaa

/- Stage 2: a servo, wedges, and slices of numbers as memory holds them; the smallest functions. -/
set_option linter.unusedSimpArgs false
set_option linter.unusedVariables false
namespace Go.Proofs.Ytkafjlhmbiaicaa
open Go.RowKit

theorem hid {p : Prop} (h : p) : Hid p := h

theorem bcell {W w1 : World} {B : Nat} (hb : Below B W w1) : (∀ b o, b < B → w1.cell? ⟨b, o, none⟩ = W.cell? ⟨b, o, none⟩) ∧ (∀ b o, b < B → w1.frozen? ⟨b, o, none⟩ = W.frozen? ⟨b, o, none⟩) :=
  ⟨fun b o h => hb.cell (p := ⟨b, o, none⟩) h, fun b o h => hb.frozen (p := ⟨b, o, none⟩) h⟩

/-- A slice of numbers: n of them, from the place o of block b on. -/
structure Ints (w : World) (A : Option Addr) (b o n : Nat) (f : Nat → Int) : Prop where
  ad : ∀ k, k < n → A = some ⟨b, o, none⟩
  lt : ∀ k, k < n → b < w.heap.size
  ce : ∀ k, k < n → w.cell? ⟨b, o + k, none⟩ = some (.int .i64 (f k))
theorem Ints.below {w w' : World} {B : Nat} {A : Option Addr} {b o n : Nat} {f : Nat → Int} (h : Ints w A b o n f) (hb : Below B w w') (hB : w.heap.size ≤ B) : Ints w' A b o n f :=
  ⟨h.ad, fun k hk => Nat.lt_of_lt_of_le (h.lt k hk) hb.size, fun k hk => (hb.cell (p := ⟨b, o + k, none⟩) (Nat.lt_of_lt_of_le (h.lt k hk) hB)).trans (h.ce k hk)⟩
theorem Ints.congr {w : World} {A : Option Addr} {b o n : Nat} {f g : Nat → Int} (h : Ints w A b o n f) (hg : ∀ k, k < n → f k = g k) : Ints w A b o n g :=
  ⟨h.ad, h.lt, fun k hk => by rw [← hg k hk]; exact h.ce k hk⟩
theorem Ints.ix {w : World} {A : Option Addr} {b o n c : Nat} {f : Nat → Int} (h : Ints w A b o n f) {k : Nat} (hk : k < n) (w' : World) :
    (Instr.indexAt 28 (.slice A n c) (.int .i64 k)).run Try.prog w' = .ok (.pointer (some ⟨b, o + k, none⟩)) w' := by
  have h2 : (k : Int) < (n : Int) := by omega
  rw [h.ad k hk]
  go_simp
/-- A slice of wedges. -/
structure Weds (w : World) (A : Option Addr) (b o n : Nat) (f g : Nat → Int) : Prop where
  ad : ∀ k, k < n → A = some ⟨b, o, none⟩
  lt : ∀ k, k < n → b < w.heap.size
  c1 : ∀ k, k < n → w.cell? ⟨b, o + k * 2, none⟩ = some (.int .i64 (f k))
  c2 : ∀ k, k < n → w.cell? ⟨b, o + k * 2 + 1, none⟩ = some (.int .i64 (g k))
theorem Weds.below {w w' : World} {B : Nat} {A : Option Addr} {b o n : Nat} {f g : Nat → Int} (h : Weds w A b o n f g) (hb : Below B w w') (hB : w.heap.size ≤ B) : Weds w' A b o n f g :=
  ⟨h.ad, fun k hk => Nat.lt_of_lt_of_le (h.lt k hk) hb.size, fun k hk => (hb.cell (p := ⟨b, o + k * 2, none⟩) (Nat.lt_of_lt_of_le (h.lt k hk) hB)).trans (h.c1 k hk), fun k hk => (hb.cell (p := ⟨b, o + k * 2 + 1, none⟩) (Nat.lt_of_lt_of_le (h.lt k hk) hB)).trans (h.c2 k hk)⟩
theorem Weds.ix {w : World} {A : Option Addr} {b o n c : Nat} {f g : Nat → Int} (h : Weds w A b o n f g) {k : Nat} (hk : k < n) (w' : World) :
    (Instr.indexAt 31 (.slice A n c) (.int .i64 k)).run Try.prog w' = .ok (.pointer (some ⟨b, o + k * 2, none⟩)) w' := by
  have h2 : (k : Int) < (n : Int) := by omega
  rw [h.ad k hk]
  go_simp

/-- A servo: its numbers, and where its Runout lies. -/
structure Sv where
  tr : Int
  st : Int
  mv : Int
  no : Int
  wr : Int
  ra : Option Addr
  rb : Nat
  ro : Nat
  rn : Nat
  rc : Nat
  rf : Nat → Int
/-- Wedges: how many, where they lie, and what was read. -/
structure Wg where
  wa : Option Addr
  wb : Nat
  wo : Nat
  wn : Nat
  wk : Nat
  wc : Nat → Int
  wu : Nat → Int
abbrev Sv.In (w : World) (s : Sv) : Prop := Ints w s.ra s.rb s.ro s.rn s.rf
abbrev Wg.In (w : World) (g : Wg) : Prop := Weds w g.wa g.wb g.wo g.wn g.wc g.wu
@[reducible] def Sv.v (s : Sv) : Value := .agg #[.int .i64 s.tr, .int .i64 s.st, .int .i64 s.mv, .int .i64 s.no, .int .i64 s.wr, .slice s.ra s.rn s.rc]
@[reducible] def Wg.v (g : Wg) : Value := .slice g.wa g.wn g.wk
/-- What is known of a head. -/
@[reducible] def hdv (s : Sv) (g : Wg) : Value := .agg #[.int .i64 s.tr, .int .i64 s.st, .int .i64 s.mv, .int .i64 s.no, .int .i64 s.wr, .slice s.ra s.rn s.rc, .slice g.wa g.wn g.wk]

structure Sv.Ok (s : Sv) : Prop where
  t1 : 1 ≤ s.tr
  t2 : s.tr ≤ 64
  s1 : 1 ≤ s.st
  s2 : s.st ≤ 16
  m0 : 0 ≤ s.mv
  m1 : s.mv ≤ 64
  n0 : 0 ≤ s.no
  n1 : s.no ≤ 16
  w0 : 0 ≤ s.wr
  w1 : s.wr ≤ 3
  r1 : 1 ≤ s.rn
  r2 : s.rn ≤ 16
  ro : ∀ k, k < s.rn → -16 ≤ s.rf k ∧ s.rf k ≤ 16
structure Wg.Ok (g : Wg) : Prop where
  n2 : g.wn ≤ 24
  c : ∀ k, k < g.wn → -1 ≤ g.wc k ∧ g.wc k ≤ 127
  u : ∀ k, k < g.wn → -100 ≤ g.wu k ∧ g.wu k ≤ 100
open Classical in
noncomputable def ckE (s : Sv) (g : Wg) : Int := if ¬ s.Ok then 20 else if ¬ g.Ok then 21 else 0
theorem ckE_sv {s : Sv} {g : Wg} (h : ¬ s.Ok) : ckE s g = 20 := if_pos h
theorem ckE_wg {s : Sv} {g : Wg} (h : s.Ok) (h2 : ¬ g.Ok) : ckE s g = 21 := by unfold ckE; rw [if_neg (by simp [h]), if_pos h2]
theorem ckE_ok {s : Sv} {g : Wg} (h : s.Ok) (h2 : g.Ok) : ckE s g = 0 := by unfold ckE; rw [if_neg (by simp [h]), if_neg (by simp [h2])]
theorem ckE_inv {s : Sv} {g : Wg} (h : ckE s g = 0) : s.Ok ∧ g.Ok := by
  unfold ckE at h
  split at h
  · omega
  · split at h
    · omega
    · rename_i h1 h2; exact ⟨Classical.not_not.1 h1, Classical.not_not.1 h2⟩

/-- The positions, and by how many of them the head moves. -/
def Sv.N (s : Sv) : Nat := (s.st * (s.tr - 1) + 1).toNat
def Sv.m (s : Sv) : Nat := s.mv.toNat
theorem Sv.Ok.Nb {s : Sv} (h : s.Ok) : 1 ≤ s.N ∧ s.N ≤ 1009 ∧ (s.N : Int) = s.st * (s.tr - 1) + 1 ∧ 0 ≤ s.st * (s.tr - 1) ∧ s.st * (s.tr - 1) ≤ 1008 := by
  have h1 : 0 ≤ s.st * (s.tr - 1) := Int.mul_nonneg (by have := h.s1; omega) (by have := h.t1; omega)
  have h2 : s.st * (s.tr - 1) ≤ 16 * 63 := Int.mul_le_mul h.s2 (by have := h.t2; omega) (by have := h.t1; omega) (by omega)
  unfold Sv.N
  omega
theorem Sv.Ok.mb {s : Sv} (h : s.Ok) : (s.m : Int) = s.mv ∧ s.m ≤ 64 := by
  have := h.m0; have := h.m1
  unfold Sv.m
  omega
/-- Where a track lies at a wedge. -/
def Sv.at_ (s : Sv) (t : Int) (i : Nat) : Int := t * s.st + s.rf (i % s.rn)
/-- Whether a wedge agrees with a position. -/
def agr (s : Sv) (g : Wg) (i p : Nat) : Bool :=
  decide (g.wc i = -1) || (decide ((trk (g.wc i).toNat : Int) < s.tr) && decide (-s.st ≤ 2 * ((p : Int) - s.at_ (trk (g.wc i).toNat) i) ∧ 2 * ((p : Int) - s.at_ (trk (g.wc i).toNat) i) ≤ s.st) && decide (-s.no ≤ g.wu i - ((p : Int) - s.at_ (trk (g.wc i).toNat) i) ∧ g.wu i - ((p : Int) - s.at_ (trk (g.wc i).toNat) i) ≤ s.no))
/-- The faults of all wedges. -/
def fl (s : Sv) (g : Wg) : Nat → Int := flt s.N s.m (agr s g) g.wn

/-- A bool is handed back, and it says whether p holds; memory is as it was. -/
def RetB (p : Prop) (w : World) (e : Ending) (w' : World) : Prop := (p ∧ e = .returned (.bool true) ∧ w = w') ∨ (¬ p ∧ e = .returned (.bool false) ∧ w = w')
theorem RetB.yes {p : Prop} {w : World} (h : p) : RetB p w (.returned (.bool true)) w := .inl ⟨h, rfl, rfl⟩
theorem RetB.no {p : Prop} {w : World} (h : ¬ p) : RetB p w (.returned (.bool false)) w := .inr ⟨h, rfl, rfl⟩

set_option maxHeartbeats 400000 in
theorem c46 (n l h : Int) (w : World) : Calls Try.prog 46 #[.int .i64 n, .int .i64 l, .int .i64 h] w (RetB (l ≤ n ∧ n ≤ h) w) := by
  by_cases h1 : l ≤ n <;> by_cases h2 : n ≤ h <;> (go_enter Try.func46, Try.ntmps46; go_wp2; go_ret) <;> first | exact RetB.yes (by omega) | exact RetB.no (by omega)
theorem c46y {n l h : Int} (w : World) (p : l ≤ n ∧ n ≤ h) : Calls Try.prog 46 #[.int .i64 n, .int .i64 l, .int .i64 h] w fun e w' => e = .returned (.bool true) ∧ w = w' :=
  (c46 n l h w).mono fun _ _ hr => by
    rcases hr with ⟨_, h1⟩ | ⟨h1, _⟩
    · exact h1
    · exact absurd p h1
theorem c46n {n l h : Int} (w : World) (p : ¬ (l ≤ n ∧ n ≤ h)) : Calls Try.prog 46 #[.int .i64 n, .int .i64 l, .int .i64 h] w fun e w' => e = .returned (.bool false) ∧ w = w' :=
  (c46 n l h w).mono fun _ _ hr => by
    rcases hr with ⟨h1, _⟩ | ⟨_, h1⟩
    · exact absurd h1 p
    · exact h1
set_option maxHeartbeats 400000 in
theorem c61 (n l h : Int) (w : World) : Calls Try.prog 61 #[.int .i64 n, .int .i64 l, .int .i64 h] w (RetB (l ≤ n ∧ n ≤ h) w) := by
  by_cases h1 : l ≤ n <;> by_cases h2 : n ≤ h <;> (go_enter Try.func61, Try.ntmps61; go_wp2; go_ret) <;> first | exact RetB.yes (by omega) | exact RetB.no (by omega)
theorem c61y {n l h : Int} (w : World) (p : l ≤ n ∧ n ≤ h) : Calls Try.prog 61 #[.int .i64 n, .int .i64 l, .int .i64 h] w fun e w' => e = .returned (.bool true) ∧ w = w' :=
  (c61 n l h w).mono fun _ _ hr => by
    rcases hr with ⟨_, h1⟩ | ⟨h1, _⟩
    · exact h1
    · exact absurd p h1
theorem c61n {n l h : Int} (w : World) (p : ¬ (l ≤ n ∧ n ≤ h)) : Calls Try.prog 61 #[.int .i64 n, .int .i64 l, .int .i64 h] w fun e w' => e = .returned (.bool false) ∧ w = w' :=
  (c61 n l h w).mono fun _ _ hr => by
    rcases hr with ⟨h1, _⟩ | ⟨_, h1⟩
    · exact absurd h1 p
    · exact h1
end Go.Proofs.Ytkafjlhmbiaicaa

/- Stage 2: the codes of numbers. -/
set_option linter.unusedSimpArgs false
set_option linter.unusedVariables false
namespace Go.Proofs.Ytkafjlhmbiaicaa
open Go.RowKit

theorem ret2_eq {k k' : IntKind} {a a' b : Int} (h : a = a') : Ending.returned (.tuple #[.int k a, .int k' b]) = Ending.returned (.tuple #[.int k a', .int k' b]) := by rw [h]
theorem ret_eq {k : IntKind} {a a' : Int} (h : a = a') : Ending.returned (.int k a) = Ending.returned (.int k a') := by rw [h]
theorem gray_bits {n : Nat} (hn : n < 128) : bits .xor .i64 (n : Int) ((n : Int) / 2) = (gray n : Nat) := by
  have h := @xor_i64 n (n / 2) (by omega) (by omega)
  rw [show ((n / 2 : Nat) : Int) = (n : Int) / 2 by omega] at h
  exact h

theorem ret2_eq2 {k k' : IntKind} {a a' b b' : Int} (h : a = a') (h2 : b = b') : Ending.returned (.tuple #[.int k a, .int k' b]) = Ending.returned (.tuple #[.int k a', .int k' b']) := by rw [h, h2]
/-- What Gray and Track hand back. -/
def grayA (n : Int) : Int := if 0 ≤ n ∧ n ≤ 127 then (gray n.toNat : Nat) else 0
def trkA (n : Int) : Int := if 0 ≤ n ∧ n ≤ 127 then (trk n.toNat : Nat) else 0
def argE (n : Int) : Int := if 0 ≤ n ∧ n ≤ 127 then 0 else 1

set_option maxHeartbeats 400000 in
theorem c14 (n : Nat) (hn : n < 128) (w : World) : Calls Try.prog 14 #[.int .i64 (n : Int)] w fun e w' => e = .returned (.tuple #[.int .i64 (gray n : Nat), .int .i64 0]) ∧ w = w' := by
  go_enter Try.func14, Try.ntmps14
  go_wp2_with (go_at_call 46; refine (c46y _ ⟨by omega, by omega⟩).mono ?_; rintro e w' ⟨rfl, rfl⟩)
  go_ret2
  exact ⟨ret2_eq (gray_bits hn), rfl⟩
set_option maxHeartbeats 400000 in
theorem c14n (n : Int) (hn : ¬ (0 ≤ n ∧ n ≤ 127)) (w : World) : Calls Try.prog 14 #[.int .i64 n] w fun e w' => e = .returned (.tuple #[.int .i64 0, .int .i64 1]) ∧ w = w' := by
  have hh := hid hn
  clear hn
  go_enter Try.func14, Try.ntmps14
  go_wp2_with (go_at_call 46; refine (c46n _ hh.out).mono ?_; rintro e w' ⟨rfl, rfl⟩)
  go_ret2
  exact ⟨rfl, rfl⟩
theorem c14_any (n : Int) (w : World) : Calls Try.prog 14 #[.int .i64 n] w fun e w' => e = .returned (.tuple #[.int .i64 (grayA n), .int .i64 (argE n)]) ∧ w = w' := by
  unfold grayA argE
  by_cases h : 0 ≤ n ∧ n ≤ 127
  · rw [if_pos h, if_pos h]
    have := c14 n.toNat (by omega) w
    rwa [show ((n.toNat : Nat) : Int) = n by omega] at this
  · rw [if_neg h, if_neg h]; exact c14n n h w

theorem xor_cast {a b : Nat} (ha : a < 128) (hb : b < 128) : bits .xor .i64 (a : Int) (b : Int) = ((a ^^^ b : Nat) : Int) := xor_i64 (by omega) (by omega)
set_option maxHeartbeats 400000 in
theorem c15 (c : Nat) (hc : c < 128) (w : World) : Calls Try.prog 15 #[.int .i64 (c : Int)] w fun e w' => e = .returned (.tuple #[.int .i64 (trk c : Nat), .int .i64 0]) ∧ w = w' := by
  have h0 : trk c = trkGo 8 0 c := rfl
  have hz := hid h0
  clear h0
  go_enter Try.func15, Try.ntmps15
  go_wp2_with (go_at_call 46; refine (c46y _ ⟨by omega, by omega⟩).mono ?_; rintro e w' ⟨rfl, rfl⟩)
  go_loop [0, 4] (fun c' n => ∃ x y k : Nat, x < 128 ∧ y < 128 ∧ y < 2 ^ k ∧ trkGo k x y = trk c ∧ c' = .int .i64 (y : Int) ∧ n = .int .i64 (x : Int)) (fun c' _ => (intOf c').toNat)
  case atStart => exact ⟨0, c, 8, by omega, hc, by omega, hz.out.symm, rfl, rfl⟩
  case round =>
    obtain ⟨x, y, k, h1, h2, h3, h4, rfl, rfl⟩ := hrel
    have h4h := hid h4
    clear h4
    by_cases hy : 0 < y
    · have hxh := hid (xor_cast h1 h2)
      have hlt := xor_lt128 h1 h2
      go_wp2_with fail
      go_round
      case rel =>
        cases k with
        | zero => simp at h3; omega
        | succ k =>
          have h5 := h4h.out
          rw [trkGo_step hy] at h5
          exact ⟨x ^^^ y, y / 2, k, hlt, by omega, by rw [Nat.pow_succ] at h3; omega, h5, by rw [show ((y / 2 : Nat) : Int) = (y : Int) / 2 by omega], by rw [hxh.out]⟩
      case measure => simp [intOf]; omega
    · obtain rfl : y = 0 := by omega
      go_wp2_with fail
      go_ret2
      have h5 := h4h.out
      rw [trkGo_zero] at h5
      exact ⟨ret2_eq (by rw [h5]), rfl⟩
set_option maxHeartbeats 400000 in
theorem c15n (n : Int) (hn : ¬ (0 ≤ n ∧ n ≤ 127)) (w : World) : Calls Try.prog 15 #[.int .i64 n] w fun e w' => e = .returned (.tuple #[.int .i64 0, .int .i64 1]) ∧ w = w' := by
  have hh := hid hn
  clear hn
  go_enter Try.func15, Try.ntmps15
  go_wp2_with (go_at_call 46; refine (c46n _ hh.out).mono ?_; rintro e w' ⟨rfl, rfl⟩)
  go_ret2
  exact ⟨rfl, rfl⟩
theorem c15_any (n : Int) (w : World) : Calls Try.prog 15 #[.int .i64 n] w fun e w' => e = .returned (.tuple #[.int .i64 (trkA n), .int .i64 (argE n)]) ∧ w = w' := by
  unfold trkA argE
  by_cases h : 0 ≤ n ∧ n ≤ 127
  · rw [if_pos h, if_pos h]
    have := c15 n.toNat (by omega) w
    rwa [show ((n.toNat : Nat) : Int) = n by omega] at this
  · rw [if_neg h, if_neg h]; exact c15n n h w

set_option maxHeartbeats 400000 in
theorem c62 (n : Nat) (hn : n < 128) (w : World) : Calls Try.prog 62 #[.int .i64 (n : Int)] w fun e w' => e = .returned (.int .i64 (gray n : Nat)) ∧ w = w' := by
  go_enter Try.func62, Try.ntmps62
  go_wp2_with fail
  go_ret
  exact ⟨ret_eq (gray_bits hn), rfl⟩
set_option maxHeartbeats 400000 in
theorem c32 (n : Int) (w : World) : Calls Try.prog 32 #[.int .i64 n] w fun e w' => e = .returned (.tuple #[.int .i64 (grayA n), .int .i64 (argE n)]) ∧ w = w' := by
  unfold grayA argE
  by_cases h : 0 ≤ n ∧ n ≤ 127
  · rw [if_pos h, if_pos h]
    obtain ⟨k, rfl⟩ : ∃ k : Nat, n = k := ⟨n.toNat, by omega⟩
    have hk : k < 128 := by omega
    rw [show ((k : Int).toNat) = k by omega]
    clear h
    go_enter Try.func32, Try.ntmps32
    go_wp2_with (first | (go_at_call 61; refine (c61y _ ⟨by omega, by omega⟩).mono ?_; rintro e w' ⟨rfl, rfl⟩) | (go_at_call 62; refine (c62 k hk _).mono ?_; rintro e w' ⟨rfl, rfl⟩))
    go_ret2
    exact ⟨rfl, rfl⟩
  · rw [if_neg h, if_neg h]
    have hh := hid h
    clear h
    go_enter Try.func32, Try.ntmps32
    go_wp2_with (go_at_call 61; refine (c61n _ hh.out).mono ?_; rintro e w' ⟨rfl, rfl⟩)
    go_ret2
    exact ⟨rfl, rfl⟩

set_option maxRecDepth 100000 in
set_option maxHeartbeats 400000 in
theorem c33 (c : Int) (w : World) : Calls Try.prog 33 #[.int .i64 c] w fun e w' => e = .returned (.tuple #[.int .i64 (trkA c), .int .i64 (argE c)]) ∧ w = w' := by
  go_enter Try.func33, Try.ntmps33
  go_wp2
  go_loop [4] (fun n => ∃ k : Nat, k ≤ 128 ∧ (∀ j, j < k → (gray j : Int) ≠ c) ∧ n = .int .i64 (k : Int)) (fun n => 128 - (intOf n).toNat)
  case atStart => exact ⟨0, by omega, fun j hj => absurd hj (Nat.not_lt_zero _), rfl⟩
  case round =>
    obtain ⟨k, hk, hno, rfl⟩ := hrel
    have hnoh := hid hno
    clear hno
    by_cases hlt : k < 128
    · have hg := gray_lt hlt
      by_cases hc : (gray k : Int) = c
      · have e1 : trkA c = k := by
          unfold trkA
          rw [if_pos (by omega), ← hc, show ((gray k : Int).toNat) = gray k by omega, trk_gray hlt]
        have e2 : argE c = 0 := by unfold argE; rw [if_pos (by omega)]
        subst hc
        have e1h := hid e1
        have e2h := hid e2
        clear e1 e2
        go_wp2_with (go_at_call 62; refine (c62 k hlt _).mono ?_; rintro e w' ⟨rfl, rfl⟩)
        go_ret2
        exact ⟨ret2_eq2 e1h.out.symm e2h.out.symm, rfl⟩
      · have hcb : ((gray k : Int) == c) = false := by simpa using hc
        have hch := hid hc
        clear hc
        go_wp2_with (go_at_call 62; refine (c62 k hlt _).mono ?_; rintro e w' ⟨rfl, rfl⟩)
        go_round
        case rel =>
          refine ⟨k + 1, by omega, fun j hj => ?_, by go_num⟩
          by_cases e : j = k
          · subst e; exact hch.out
          · exact hnoh.out j (by omega)
        case measure => simp [intOf]; omega
    · obtain rfl : k = 128 := by omega
      have e0 : ¬ (0 ≤ c ∧ c ≤ 127) := by
        rintro ⟨h1, h2⟩
        have h3 := hnoh.out (trk c.toNat) (trk_lt (by omega))
        rw [gray_trk (by omega)] at h3
        omega
      have e1h := hid (show trkA c = 0 from if_neg e0)
      have e2h := hid (show argE c = 1 from if_neg e0)
      clear e0
      go_wp2_with fail
      go_ret2
      exact ⟨ret2_eq2 e1h.out.symm e2h.out.symm, rfl⟩
end Go.Proofs.Ytkafjlhmbiaicaa

/- Stage 2: which servos and wedges are valid. -/
set_option linter.unusedSimpArgs false
set_option linter.unusedVariables false
namespace Go.Proofs.Ytkafjlhmbiaicaa
open Go.RowKit

/-- A bool is handed back, and it says whether p holds; new memory may have been laid. -/
def RetBB (p : Prop) (w : World) (e : Ending) (w' : World) : Prop := (p ∧ e = .returned (.bool true) ∧ Below w.heap.size w w') ∨ (¬ p ∧ e = .returned (.bool false) ∧ Below w.heap.size w w')
theorem RetBB.yes {p : Prop} {w w' : World} (h : p) (hb : Below w.heap.size w w') : RetBB p w (.returned (.bool true)) w' := .inl ⟨h, rfl, hb⟩
theorem RetBB.no {p : Prop} {w w' : World} (h : ¬ p) (hb : Below w.heap.size w w') : RetBB p w (.returned (.bool false)) w' := .inr ⟨h, rfl, hb⟩
/-- An index is handed back: that of a k for which p does not hold, or -1 if there is none. -/
def RetIx (n : Nat) (p : Nat → Prop) (w : World) (e : Ending) (w' : World) : Prop := ((∀ k, k < n → p k) ∧ e = .returned (.int .i64 (-1)) ∧ Below w.heap.size w w') ∨ (∃ k : Nat, k < n ∧ ¬ p k ∧ e = .returned (.int .i64 k) ∧ Below w.heap.size w w')
theorem RetIx.no {n : Nat} {p : Nat → Prop} {w w' : World} (h : ∀ k, k < n → p k) (hb : Below w.heap.size w w') : RetIx n p w (.returned (.int .i64 (-1))) w' := .inl ⟨h, rfl, hb⟩
theorem RetIx.at_ {n : Nat} {p : Nat → Prop} {w w' : World} {k : Nat} (hk : k < n) (h : ¬ p k) (hb : Below w.heap.size w w') : RetIx n p w (.returned (.int .i64 k)) w' := .inr ⟨k, hk, h, rfl, hb⟩

set_option maxHeartbeats 400000 in
theorem c79y {x : Int} (w : World) (p : -16 ≤ x ∧ x ≤ 16) : Calls Try.prog 79 #[.int .i64 x] w fun e w' => e = .returned (.bool false) ∧ w = w' := by
  go_enter Try.func79, Try.ntmps79
  go_wp2_with (go_at_call 46; refine (c46y _ (by omega)).mono ?_; rintro e w' ⟨rfl, rfl⟩)
  go_ret
  exact ⟨rfl, rfl⟩
set_option maxHeartbeats 400000 in
theorem c79n {x : Int} (w : World) (p : ¬ (-16 ≤ x ∧ x ≤ 16)) : Calls Try.prog 79 #[.int .i64 x] w fun e w' => e = .returned (.bool true) ∧ w = w' := by
  have hp := hid p
  clear p
  go_enter Try.func79, Try.ntmps79
  go_wp2_with (go_at_call 46; refine (c46n _ hp.out).mono ?_; rintro e w' ⟨rfl, rfl⟩)
  go_ret
  exact ⟨rfl, rfl⟩

set_option maxHeartbeats 400000 in
theorem c85 (A : Option Addr) (b o n c : Nat) (f : Nat → Int) (w : World) (hz : Ints w A b o n f) (hm : n ≤ 1000000) :
    Calls Try.prog 85 #[.slice A n c, .func (.func 79) #[] #[]] w (RetIx n (fun k => -16 ≤ f k ∧ f k ≤ 16) w) := by
  go_enter Try.func85, Try.ntmps85
  go_wp2
  go_loop [5, 8] (fun _ i => ∃ k : Nat, k ≤ n ∧ i = .int .i64 k ∧ Hid (∀ j, j < k → -16 ≤ f j ∧ f j ≤ 16)) (fun _ i => n - (intOf i).toNat)
  case atStart => exact ⟨0, Nat.zero_le _, rfl, fun j hj => absurd hj (Nat.not_lt_zero _)⟩
  case round =>
    obtain ⟨k, hk, rfl, hall⟩ := hrel
    by_cases hlt : k < n
    · have h1 := hz.ce k hlt; have h3 := hz.lt k hlt; have h4 := @Ints.ix _ _ _ _ _ c _ hz _ hlt
      by_cases hp : -16 ≤ f k ∧ f k ≤ 16
      · go_wp2_with (go_at_call 79; refine (c79y _ (by omega)).mono ?_; rintro e w' ⟨rfl, rfl⟩)
        go_round
        case rel =>
          refine ⟨k + 1, by omega, by go_num, fun j hj => ?_⟩
          by_cases e : j = k
          · subst e; exact hp
          · exact hall.out j (by omega)
        case measure => simp [intOf]; omega
      · have hph := hid hp
        clear hp
        go_wp2_with (go_at_call 79; refine (c79n _ hph.out).mono ?_; rintro e w' ⟨rfl, rfl⟩)
        go_returns
        exact RetIx.at_ hlt hph.out (Below.refl _ _)
    · go_wp2_with fail
      go_returns
      exact RetIx.no (fun j hj => hall.out j (by omega)) (Below.refl _ _)
set_option maxHeartbeats 400000 in
theorem c80 (A : Option Addr) (b o n c : Nat) (f : Nat → Int) (w : World) (hz : Ints w A b o n f) (hm : n ≤ 1000000) :
    Calls Try.prog 80 #[.slice A n c, .func (.func 79) #[] #[]] w (RetBB (¬ ∀ k, k < n → -16 ≤ f k ∧ f k ≤ 16) w) := by
  go_enter Try.func80, Try.ntmps80
  go_wp2_with (go_at_call 85; refine (c85 A b o n c f _ hz hm).mono ?_; rintro e w' (⟨h1, rfl, hb⟩ | ⟨k, hk, h1, rfl, hb⟩) <;> replace h1 := hid h1)
  · go_returns
    exact RetBB.no (fun h => h h1.out) hb
  · go_returns
    exact RetBB.yes (fun h => h1.out (h k hk)) hb
set_option maxHeartbeats 400000 in
theorem c69 {a b : Int} (w : World) : Calls Try.prog 69 #[.agg #[.int .i64 a, .int .i64 b]] w (RetBB (¬ ((-1 ≤ a ∧ a ≤ 127) ∧ (-100 ≤ b ∧ b ≤ 100))) w) := by
  by_cases h1 : -1 ≤ a ∧ a ≤ 127
  · by_cases h2 : -100 ≤ b ∧ b ≤ 100
    · go_enter Try.func69, Try.ntmps69
      go_wp2_with (go_at_call 46; refine (c46y _ (by omega)).mono ?_; rintro e w' ⟨rfl, rfl⟩)
      go_returns
      exact RetBB.no (fun h => h ⟨h1, h2⟩) (by (repeat' (first | (with_reducible exact Below.refl _ _) | (with_reducible assumption) | (with_reducible refine Below.alloc ?_ ?_ _) | (with_reducible refine Below.drew ?_) | (with_reducible refine below_drewN ?_ _) | (with_reducible refine Below.setCell ?_ ?_ _) | (with_reducible refine Below.trans ?_ (Below.mono (by with_reducible assumption) ?_)) | go_size)))
    · have h2h := hid h2
      clear h2
      go_enter Try.func69, Try.ntmps69
      go_wp2_with (first | (go_at_call 46; refine (c46y _ (by omega)).mono ?_; rintro e w' ⟨rfl, rfl⟩) | (go_at_call 46; refine (c46n _ h2h.out).mono ?_; rintro e w' ⟨rfl, rfl⟩))
      go_returns
      exact RetBB.yes (fun h => h2h.out h.2) (by (repeat' (first | (with_reducible exact Below.refl _ _) | (with_reducible assumption) | (with_reducible refine Below.alloc ?_ ?_ _) | (with_reducible refine Below.drew ?_) | (with_reducible refine below_drewN ?_ _) | (with_reducible refine Below.setCell ?_ ?_ _) | (with_reducible refine Below.trans ?_ (Below.mono (by with_reducible assumption) ?_)) | go_size)))
  · have h1h := hid h1
    clear h1
    go_enter Try.func69, Try.ntmps69
    go_wp2_with (go_at_call 46; refine (c46n _ h1h.out).mono ?_; rintro e w' ⟨rfl, rfl⟩)
    go_returns
    exact RetBB.yes (fun h => h1h.out h.1) (by (repeat' (first | (with_reducible exact Below.refl _ _) | (with_reducible assumption) | (with_reducible refine Below.alloc ?_ ?_ _) | (with_reducible refine Below.drew ?_) | (with_reducible refine below_drewN ?_ _) | (with_reducible refine Below.setCell ?_ ?_ _) | (with_reducible refine Below.trans ?_ (Below.mono (by with_reducible assumption) ?_)) | go_size)))
end Go.Proofs.Ytkafjlhmbiaicaa
