/- Stage 5: slices of numbers and of symbols as memory holds them; products. -/
import Derived.Test.YtnndhibhnakdoaaDoorRows
import Derived.Test.YtnndhibhnakdoaaDoorMb
import Derived.WalkKit
import Derived.WalkSpells
import Derived.WalkLawsBesides
import Derived.BigQuiet
import Derived.BigFrame
import Derived.Handy
import Derived.IntWalk
import Derived.Deep.QuietTactic
import Derived.Lib.QuietBelow
import Derived.Laws.AppendOwnNone
import Derived.Deep.OwnRows
set_option linter.unusedSimpArgs false
set_option linter.unusedVariables false
namespace Go.Proofs.YtnndhibhnakdoaaDoor
open Go.RowKit Go.BigFrame
open Gf (S)

theorem hid {p : Prop} (h : p) : Hid p := h

theorem bcell {W w1 : World} {B : Nat} (hb : Below B W w1) : (∀ b o, b < B → w1.cell? ⟨b, o, none⟩ = W.cell? ⟨b, o, none⟩) ∧ (∀ b o, b < B → w1.frozen? ⟨b, o, none⟩ = W.frozen? ⟨b, o, none⟩) :=
  ⟨fun b o h => hb.cell (p := ⟨b, o, none⟩) h, fun b o h => hb.frozen (p := ⟨b, o, none⟩) h⟩
def dbl : List Nat := [0, 1, 56, 2, 57, 49, 28, 3, 61, 58, 42, 50, 38, 29, 17, 4, 62, 47, 59, 36, 45, 43, 51, 22, 53, 39, 33, 30, 24, 18, 12, 5, 63, 55, 48, 27, 60, 41, 37, 16, 46, 35, 44, 21, 52, 32, 23, 11, 54, 26, 40, 15, 34, 20, 31, 10, 25, 14, 19, 9, 13, 8, 7, 6]
/-- The tables stand in memory as the text lays them. -/
structure Tab (w : World) : Prop where
  po : ∀ i, i < 15 → w.cell? ⟨3, i, none⟩ = some (.int .u8 ((Gf.pw i).val : Nat))
  nu : ∀ a : S, w.cell? ⟨2, a.val, none⟩ = some (.int .i64 (Gf.nm a : Nat))
  db : ∀ i, i < 64 → w.cell? ⟨1, i, none⟩ = some (.int .u8 (dbl[i]! : Nat))
  sz : 4 ≤ w.heap.size
theorem Tab.below {w w' : World} {B : Nat} (h : Tab w) (hb : Below B w w') (hB : w.heap.size ≤ B) : Tab w' :=
  have hs := h.sz
  ⟨fun i hi => (hb.cell (p := ⟨3, i, none⟩) (show 3 < B by omega)).trans (h.po i hi), fun a => (hb.cell (p := ⟨2, a.val, none⟩) (show 2 < B by omega)).trans (h.nu a), fun i hi => (hb.cell (p := ⟨1, i, none⟩) (show 1 < B by omega)).trans (h.db i hi), Nat.le_trans h.sz hb.size⟩
theorem Tab.drewN {w : World} (h : Tab w) (n : Nat) : Tab (w.drewN n) := h.below (below_drewN (Below.refl _ _) n) (Nat.le_refl _)

/-- A slice of numbers: n of them, from the place o of block b on. -/
structure Ints (w : World) (A : Option Addr) (b o n : Nat) (f : Nat → Int) : Prop where
  ad : ∀ k, k < n → A = some ⟨b, o, none⟩
  lt : ∀ k, k < n → b < w.heap.size
  ce : ∀ k, k < n → w.cell? ⟨b, o + k, none⟩ = some (.int .i64 (f k))
theorem Ints.below {w w' : World} {B : Nat} {A : Option Addr} {b o n : Nat} {f : Nat → Int} (h : Ints w A b o n f) (hb : Below B w w') (hB : w.heap.size ≤ B) : Ints w' A b o n f :=
  ⟨h.ad, fun k hk => Nat.lt_of_lt_of_le (h.lt k hk) hb.size, fun k hk => (hb.cell (p := ⟨b, o + k, none⟩) (Nat.lt_of_lt_of_le (h.lt k hk) hB)).trans (h.ce k hk)⟩
theorem Ints.congr {w : World} {A : Option Addr} {b o n : Nat} {f g : Nat → Int} (h : Ints w A b o n f) (hg : ∀ k, k < n → f k = g k) : Ints w A b o n g :=
  ⟨h.ad, h.lt, fun k hk => by rw [← hg k hk]; exact h.ce k hk⟩
theorem Ints.ix {w : World} {A : Option Addr} {b o n c : Nat} {f : Nat → Int} (h : Ints w A b o n f) {k : Nat} (hk : k < n) (w' : World) :
    (Instr.indexAt 24 (.slice A n c) (.int .i64 k)).run Tryd.prog w' = .ok (.pointer (some ⟨b, o + k, none⟩)) w' := by
  have h2 : (k : Int) < (n : Int) := by omega
  rw [h.ad k hk]
  go_simp
theorem Ints.drewN {w : World} {A : Option Addr} {b o n : Nat} {f : Nat → Int} (h : Ints w A b o n f) (q : Nat) : Ints (w.drewN q) A b o n f := h.below (below_drewN (Below.refl _ _) q) (Nat.le_refl _)
theorem Ints.empty (w : World) (A : Option Addr) (b o : Nat) (f : Nat → Int) : Ints w A b o 0 f := ⟨fun k hk => absurd hk (Nat.not_lt_zero _), fun k hk => absurd hk (Nat.not_lt_zero _), fun k hk => absurd hk (Nat.not_lt_zero _)⟩
/-- The value of a symbol. -/
@[reducible] def sv (a : S) : Value := .int .u8 (a.val : Nat)
/-- A slice of symbols: n of them, from the place o of block b on. -/
structure Syms (w : World) (A : Option Addr) (b o n : Nat) (s : Nat → S) : Prop where
  ad : ∀ k, k < n → A = some ⟨b, o, none⟩
  lt : ∀ k, k < n → b < w.heap.size
  ce : ∀ k, k < n → w.cell? ⟨b, o + k, none⟩ = some (sv (s k))
theorem Syms.below {w w' : World} {B : Nat} {A : Option Addr} {b o n : Nat} {s : Nat → S} (h : Syms w A b o n s) (hb : Below B w w') (hB : w.heap.size ≤ B) : Syms w' A b o n s :=
  ⟨h.ad, fun k hk => Nat.lt_of_lt_of_le (h.lt k hk) hb.size, fun k hk => (hb.cell (p := ⟨b, o + k, none⟩) (Nat.lt_of_lt_of_le (h.lt k hk) hB)).trans (h.ce k hk)⟩
theorem Syms.congr {w : World} {A : Option Addr} {b o n : Nat} {f g : Nat → S} (h : Syms w A b o n f) (hg : ∀ k, k < n → f k = g k) : Syms w A b o n g :=
  ⟨h.ad, h.lt, fun k hk => by rw [← hg k hk]; exact h.ce k hk⟩
theorem Syms.ix {w : World} {A : Option Addr} {b o n c : Nat} {s : Nat → S} (h : Syms w A b o n s) {k : Nat} (hk : k < n) (w' : World) :
    (Instr.indexAt 70 (.slice A n c) (.int .i64 k)).run Tryd.prog w' = .ok (.pointer (some ⟨b, o + k, none⟩)) w' := by
  have h2 : (k : Int) < (n : Int) := by omega
  rw [h.ad k hk]
  go_simp
theorem Syms.drewN {w : World} {A : Option Addr} {b o n : Nat} {s : Nat → S} (h : Syms w A b o n s) (q : Nat) : Syms (w.drewN q) A b o n s := h.below (below_drewN (Below.refl _ _) q) (Nat.le_refl _)

/-- A bool is handed back, and it says whether p holds; memory is as it was. -/
def RetB (p : Prop) (w : World) (e : Ending) (w' : World) : Prop := (p ∧ e = .returned (.bool true) ∧ w = w') ∨ (¬ p ∧ e = .returned (.bool false) ∧ w = w')
theorem RetB.yes {p : Prop} {w : World} (h : p) : RetB p w (.returned (.bool true)) w := .inl ⟨h, rfl, rfl⟩
theorem RetB.no {p : Prop} {w : World} (h : ¬ p) : RetB p w (.returned (.bool false)) w := .inr ⟨h, rfl, rfl⟩
theorem RetB.un {p : Prop} {w : World} {e : Ending} {w' : World} (h : RetB p w e w') : (p → e = .returned (.bool true) ∧ w = w') ∧ (¬ p → e = .returned (.bool false) ∧ w = w') := by
  rcases h with ⟨h1, h2⟩ | ⟨h1, h2⟩
  · exact ⟨fun _ => h2, fun h => absurd h1 h⟩
  · exact ⟨fun h => absurd h h1, fun _ => h2⟩
/-- A bool is handed back, and it says whether p holds; new memory may have been laid. -/
def RetBB (p : Prop) (w : World) (e : Ending) (w' : World) : Prop := (p ∧ e = .returned (.bool true) ∧ Below w.heap.size w w') ∨ (¬ p ∧ e = .returned (.bool false) ∧ Below w.heap.size w w')
theorem RetBB.yes {p : Prop} {w w' : World} (h : p) (hb : Below w.heap.size w w') : RetBB p w (.returned (.bool true)) w' := .inl ⟨h, rfl, hb⟩
theorem RetBB.no {p : Prop} {w w' : World} (h : ¬ p) (hb : Below w.heap.size w w') : RetBB p w (.returned (.bool false)) w' := .inr ⟨h, rfl, hb⟩
theorem RetBB.un {p : Prop} {w : World} {e : Ending} {w' : World} (h : RetBB p w e w') : (p → e = .returned (.bool true) ∧ Below w.heap.size w w') ∧ (¬ p → e = .returned (.bool false) ∧ Below w.heap.size w w') := by
  rcases h with ⟨h1, h2⟩ | ⟨h1, h2⟩
  · exact ⟨fun _ => h2, fun h => absurd h1 h⟩
  · exact ⟨fun h => absurd h h1, fun _ => h2⟩
/-- An index is handed back: that of the first k for which p does not hold, or -1 if there is none. -/
def RetIx (n : Nat) (p : Nat → Prop) (w : World) (e : Ending) (w' : World) : Prop := ((∀ k, k < n → p k) ∧ e = .returned (.int .i64 (-1)) ∧ w = w') ∨ (∃ k : Nat, k < n ∧ ¬ p k ∧ (∀ j, j < k → p j) ∧ e = .returned (.int .i64 k) ∧ w = w')
theorem RetIx.no {n : Nat} {p : Nat → Prop} {w : World} (h : ∀ k, k < n → p k) : RetIx n p w (.returned (.int .i64 (-1))) w := .inl ⟨h, rfl, rfl⟩
theorem RetIx.at_ {n : Nat} {p : Nat → Prop} {w : World} {k : Nat} (hk : k < n) (h : ¬ p k) (hj : ∀ j, j < k → p j) : RetIx n p w (.returned (.int .i64 k)) w := .inr ⟨k, hk, h, hj, rfl, rfl⟩

set_option maxHeartbeats 400000 in
theorem c116 (i : Nat) (w : World) (hT : Tab w) (hi : i ≤ 1000000) : Calls Tryd.prog 116 #[.int .i64 (i : Nat)] w fun e w' => e = .returned (sv (Gf.pw i)) ∧ w = w' := by
  have h1 := hT.po (i % 15) (Nat.mod_lt _ (by decide))
  have h2 : Gf.pw (i % 15) = Gf.pw i := by unfold Gf.pw; rw [Nat.mod_mod]
  rw [h2] at h1
  obtain ⟨k, hk⟩ : ∃ k, k = i % 15 := ⟨_, rfl⟩
  have hk2 : k < 15 := by omega
  have h3 : ((i : Int) % 15) = (k : Int) := by omega
  rw [← hk] at h1
  clear hT h2 hk
  go_enter Tryd.func116, Tryd.ntmps116
  go_wp2_with fail
  go_ret
  exact ⟨rfl, rfl⟩
end Go.Proofs.YtnndhibhnakdoaaDoor
