/- Stage 2: a servo, wedges, and slices of numbers as memory holds them; the smallest functions. -/
import Derived.Test.YtfpfnjdnfiihhaaRows
import Derived.Test.YtfpfnjdnfiihhaaM1
import Derived.Test.YtfpfnjdnfiihhaaM2
import Derived.Test.YtfpfnjdnfiihhaaM3
import Derived.WalkKit
import Derived.WalkSpells
import Derived.WalkLawsBesides
import Derived.BigQuiet
import Derived.Handy
import Derived.Deep.QuietTactic
set_option linter.unusedSimpArgs false
set_option linter.unusedVariables false
namespace Go.Proofs.Ytfpfnjdnfiihhaa
open Go.RowKit

theorem hid {p : Prop} (h : p) : Hid p := h

theorem bcell {W w1 : World} {B : Nat} (hb : Below B W w1) : (∀ b o, b < B → w1.cell? ⟨b, o, none⟩ = W.cell? ⟨b, o, none⟩) ∧ (∀ b o, b < B → w1.frozen? ⟨b, o, none⟩ = W.frozen? ⟨b, o, none⟩) :=
  ⟨fun b o h => hb.cell (p := ⟨b, o, none⟩) h, fun b o h => hb.frozen (p := ⟨b, o, none⟩) h⟩

/-- A slice of numbers: n of them, from the place o of block b on. -/
structure Ints (w : World) (A : Option Addr) (b o n : Nat) (f : Nat → Int) : Prop where
  ad : ∀ k, k < n → A = some ⟨b, o, none⟩
  lt : ∀ k, k < n → b < w.heap.size
  ce : ∀ k, k < n → w.cell? ⟨b, o + k, none⟩ = some (.int .i64 (f k))
theorem Ints.below {w w' : World} {B : Nat} {A : Option Addr} {b o n : Nat} {f : Nat → Int} (h : Ints w A b o n f) (hb : Below B w w') (hB : w.heap.size ≤ B) : Ints w' A b o n f :=
  ⟨h.ad, fun k hk => Nat.lt_of_lt_of_le (h.lt k hk) hb.size, fun k hk => (hb.cell (p := ⟨b, o + k, none⟩) (Nat.lt_of_lt_of_le (h.lt k hk) hB)).trans (h.ce k hk)⟩
theorem Ints.congr {w : World} {A : Option Addr} {b o n : Nat} {f g : Nat → Int} (h : Ints w A b o n f) (hg : ∀ k, k < n → f k = g k) : Ints w A b o n g :=
  ⟨h.ad, h.lt, fun k hk => by rw [← hg k hk]; exact h.ce k hk⟩
theorem Ints.ix {w : World} {A : Option Addr} {b o n c : Nat} {f : Nat → Int} (h : Ints w A b o n f) {k : Nat} (hk : k < n) (w' : World) :
    (Instr.indexAt 28 (.slice A n c) (.int .i64 k)).run Try.prog w' = .ok (.pointer (some ⟨b, o + k, none⟩)) w' := by
  have h2 : (k : Int) < (n : Int) := by omega
  rw [h.ad k hk]
  go_simp
/-- A slice of wedges. -/
structure Weds (w : World) (A : Option Addr) (b o n : Nat) (f g : Nat → Int) : Prop where
  ad : ∀ k, k < n → A = some ⟨b, o, none⟩
  lt : ∀ k, k < n → b < w.heap.size
  c1 : ∀ k, k < n → w.cell? ⟨b, o + k * 2, none⟩ = some (.int .i64 (f k))
  c2 : ∀ k, k < n → w.cell? ⟨b, o + k * 2 + 1, none⟩ = some (.int .i64 (g k))
theorem Weds.below {w w' : World} {B : Nat} {A : Option Addr} {b o n : Nat} {f g : Nat → Int} (h : Weds w A b o n f g) (hb : Below B w w') (hB : w.heap.size ≤ B) : Weds w' A b o n f g :=
  ⟨h.ad, fun k hk => Nat.lt_of_lt_of_le (h.lt k hk) hb.size, fun k hk => (hb.cell (p := ⟨b, o + k * 2, none⟩) (Nat.lt_of_lt_of_le (h.lt k hk) hB)).trans (h.c1 k hk), fun k hk => (hb.cell (p := ⟨b, o + k * 2 + 1, none⟩) (Nat.lt_of_lt_of_le (h.lt k hk) hB)).trans (h.c2 k hk)⟩
theorem Weds.ix {w : World} {A : Option Addr} {b o n c : Nat} {f g : Nat → Int} (h : Weds w A b o n f g) {k : Nat} (hk : k < n) (w' : World) :
    (Instr.indexAt 31 (.slice A n c) (.int .i64 k)).run Try.prog w' = .ok (.pointer (some ⟨b, o + k * 2, none⟩)) w' := by
  have h2 : (k : Int) < (n : Int) := by omega
  rw [h.ad k hk]
  go_simp

/-- A servo: its numbers, and where its Runout lies. -/
structure Sv where
  tr : Int
  st : Int
  mv : Int
  no : Int
  wr : Int
  ra : Option Addr
  rb : Nat
  ro : Nat
  rn : Nat
  rc : Nat
  rf : Nat → Int
/-- Wedges: how many, where they lie, and what was read. -/
structure Wg where
  wa : Option Addr
  wb : Nat
  wo : Nat
  wn : Nat
  wk : Nat
  wc : Nat → Int
  wu : Nat → Int
abbrev Sv.In (w : World) (s : Sv) : Prop := Ints w s.ra s.rb s.ro s.rn s.rf
abbrev Wg.In (w : World) (g : Wg) : Prop := Weds w g.wa g.wb g.wo g.wn g.wc g.wu
@[reducible] def Sv.v (s : Sv) : Value := .agg #[.int .i64 s.tr, .int .i64 s.st, .int .i64 s.mv, .int .i64 s.no, .int .i64 s.wr, .slice s.ra s.rn s.rc]
@[reducible] def Wg.v (g : Wg) : Value := .slice g.wa g.wn g.wk
/-- What is known of a head. -/
@[reducible] def hdv (s : Sv) (g : Wg) : Value := .agg #[.int .i64 s.tr, .int .i64 s.st, .int .i64 s.mv, .int .i64 s.no, .int .i64 s.wr, .slice s.ra s.rn s.rc, .slice g.wa g.wn g.wk]

structure Sv.Ok (s : Sv) : Prop where
  t1 : 1 ≤ s.tr
  t2 : s.tr ≤ 64
  s1 : 1 ≤ s.st
  s2 : s.st ≤ 16
  m0 : 0 ≤ s.mv
  m1 : s.mv ≤ 64
  n0 : 0 ≤ s.no
  n1 : s.no ≤ 16
  w0 : 0 ≤ s.wr
  w1 : s.wr ≤ 3
  r1 : 1 ≤ s.rn
  r2 : s.rn ≤ 16
  ro : ∀ k, k < s.rn → -16 ≤ s.rf k ∧ s.rf k ≤ 16
structure Wg.Ok (g : Wg) : Prop where
  n2 : g.wn ≤ 24
  c : ∀ k, k < g.wn → -1 ≤ g.wc k ∧ g.wc k ≤ 127
  u : ∀ k, k < g.wn → -100 ≤ g.wu k ∧ g.wu k ≤ 100
open Classical in
noncomputable def ckE (s : Sv) (g : Wg) : Int := if ¬ s.Ok then 20 else if ¬ g.Ok then 21 else 0
theorem ckE_sv {s : Sv} {g : Wg} (h : ¬ s.Ok) : ckE s g = 20 := if_pos h
theorem ckE_wg {s : Sv} {g : Wg} (h : s.Ok) (h2 : ¬ g.Ok) : ckE s g = 21 := by unfold ckE; rw [if_neg (by simp [h]), if_pos h2]
theorem ckE_ok {s : Sv} {g : Wg} (h : s.Ok) (h2 : g.Ok) : ckE s g = 0 := by unfold ckE; rw [if_neg (by simp [h]), if_neg (by simp [h2])]
theorem ckE_inv {s : Sv} {g : Wg} (h : ckE s g = 0) : s.Ok ∧ g.Ok := by
  unfold ckE at h
  split at h
  · omega
  · split at h
    · omega
    · rename_i h1 h2; exact ⟨Classical.not_not.1 h1, Classical.not_not.1 h2⟩

/-- The positions, and by how many of them the head moves. -/
def Sv.N (s : Sv) : Nat := (s.st * (s.tr - 1) + 1).toNat
def Sv.m (s : Sv) : Nat := s.mv.toNat
theorem Sv.Ok.Nb {s : Sv} (h : s.Ok) : 1 ≤ s.N ∧ s.N ≤ 1009 ∧ (s.N : Int) = s.st * (s.tr - 1) + 1 ∧ 0 ≤ s.st * (s.tr - 1) ∧ s.st * (s.tr - 1) ≤ 1008 := by
  have h1 : 0 ≤ s.st * (s.tr - 1) := Int.mul_nonneg (by have := h.s1; omega) (by have := h.t1; omega)
  have h2 : s.st * (s.tr - 1) ≤ 16 * 63 := Int.mul_le_mul h.s2 (by have := h.t2; omega) (by have := h.t1; omega) (by omega)
  unfold Sv.N
  omega
theorem Sv.Ok.mb {s : Sv} (h : s.Ok) : (s.m : Int) = s.mv ∧ s.m ≤ 64 := by
  have := h.m0; have := h.m1
  unfold Sv.m
  omega
/-- Where a track lies at a wedge. -/
def Sv.at_ (s : Sv) (t : Int) (i : Nat) : Int := t * s.st + s.rf (i % s.rn)
/-- Whether a wedge agrees with a position. -/
def agr (s : Sv) (g : Wg) (i p : Nat) : Bool :=
  decide (g.wc i = -1) || (decide ((trk (g.wc i).toNat : Int) < s.tr) && decide (-s.st ≤ 2 * ((p : Int) - s.at_ (trk (g.wc i).toNat) i) ∧ 2 * ((p : Int) - s.at_ (trk (g.wc i).toNat) i) ≤ s.st) && decide (-s.no ≤ g.wu i - ((p : Int) - s.at_ (trk (g.wc i).toNat) i) ∧ g.wu i - ((p : Int) - s.at_ (trk (g.wc i).toNat) i) ≤ s.no))
/-- The faults of all wedges. -/
def fl (s : Sv) (g : Wg) : Nat → Int := flt s.N s.m (agr s g) g.wn

/-- A bool is handed back, and it says whether p holds; memory is as it was. -/
def RetB (p : Prop) (w : World) (e : Ending) (w' : World) : Prop := (p ∧ e = .returned (.bool true) ∧ w = w') ∨ (¬ p ∧ e = .returned (.bool false) ∧ w = w')
theorem RetB.yes {p : Prop} {w : World} (h : p) : RetB p w (.returned (.bool true)) w := .inl ⟨h, rfl, rfl⟩
theorem RetB.no {p : Prop} {w : World} (h : ¬ p) : RetB p w (.returned (.bool false)) w := .inr ⟨h, rfl, rfl⟩

set_option maxHeartbeats 400000 in
theorem c46 (n l h : Int) (w : World) : Calls Try.prog 46 #[.int .i64 n, .int .i64 l, .int .i64 h] w (RetB (l ≤ n ∧ n ≤ h) w) := by
  by_cases h1 : l ≤ n <;> by_cases h2 : n ≤ h <;> (go_enter Try.func46, Try.ntmps46; go_wp2; go_ret) <;> first | exact RetB.yes (by omega) | exact RetB.no (by omega)
theorem c46y {n l h : Int} (w : World) (p : l ≤ n ∧ n ≤ h) : Calls Try.prog 46 #[.int .i64 n, .int .i64 l, .int .i64 h] w fun e w' => e = .returned (.bool true) ∧ w = w' :=
  (c46 n l h w).mono fun _ _ hr => by
    rcases hr with ⟨_, h1⟩ | ⟨h1, _⟩
    · exact h1
    · exact absurd p h1
theorem c46n {n l h : Int} (w : World) (p : ¬ (l ≤ n ∧ n ≤ h)) : Calls Try.prog 46 #[.int .i64 n, .int .i64 l, .int .i64 h] w fun e w' => e = .returned (.bool false) ∧ w = w' :=
  (c46 n l h w).mono fun _ _ hr => by
    rcases hr with ⟨h1, _⟩ | ⟨_, h1⟩
    · exact absurd h1 p
    · exact h1
set_option maxHeartbeats 400000 in
theorem c61 (n l h : Int) (w : World) : Calls Try.prog 61 #[.int .i64 n, .int .i64 l, .int .i64 h] w (RetB (l ≤ n ∧ n ≤ h) w) := by
  by_cases h1 : l ≤ n <;> by_cases h2 : n ≤ h <;> (go_enter Try.func61, Try.ntmps61; go_wp2; go_ret) <;> first | exact RetB.yes (by omega) | exact RetB.no (by omega)
theorem c61y {n l h : Int} (w : World) (p : l ≤ n ∧ n ≤ h) : Calls Try.prog 61 #[.int .i64 n, .int .i64 l, .int .i64 h] w fun e w' => e = .returned (.bool true) ∧ w = w' :=
  (c61 n l h w).mono fun _ _ hr => by
    rcases hr with ⟨_, h1⟩ | ⟨h1, _⟩
    · exact h1
    · exact absurd p h1
theorem c61n {n l h : Int} (w : World) (p : ¬ (l ≤ n ∧ n ≤ h)) : Calls Try.prog 61 #[.int .i64 n, .int .i64 l, .int .i64 h] w fun e w' => e = .returned (.bool false) ∧ w = w' :=
  (c61 n l h w).mono fun _ _ hr => by
    rcases hr with ⟨h1, _⟩ | ⟨_, h1⟩
    · exact absurd h1 p
    · exact h1
end Go.Proofs.Ytfpfnjdnfiihhaa
