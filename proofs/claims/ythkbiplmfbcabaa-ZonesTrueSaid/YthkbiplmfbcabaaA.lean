/- Stage 1: the disk, and the small functions. -/
import Derived.Test.YthkbiplmfbcabaaRows
import Derived.WalkKit
import Derived.WalkSpells
import Derived.WalkLawsBesides
import Derived.BigQuiet
import Derived.Handy
set_option linter.unusedSimpArgs false
set_option linter.unusedVariables false
namespace Go.Proofs.Ythkbiplmfbcabaa
open Go.RowKit

theorem hid {p : Prop} (h : p) : Hid p := h

theorem bcell {W w1 : World} {B : Nat} (hb : Below B W w1) : (∀ b o, b < B → w1.cell? ⟨b, o, none⟩ = W.cell? ⟨b, o, none⟩) ∧ (∀ b o, b < B → w1.frozen? ⟨b, o, none⟩ = W.frozen? ⟨b, o, none⟩) :=
  ⟨fun b o h => hb.cell (p := ⟨b, o, none⟩) h, fun b o h => hb.frozen (p := ⟨b, o, none⟩) h⟩

/-- A disk: the numbers, and where its zones lie. -/
structure Dk where
  hd : Int
  tu : Int
  za : Option Addr
  zb : Nat
  zo : Nat
  zc : Nat
  zs : List (Int × Int)
  hs : Int
  cs : Int
  hl : Int
  hh : Int
  cl : Int
  ch : Int

/-- The zones, as memory holds them. -/
structure Zs (w : World) (d : Dk) : Prop where
  ad : ∀ k, k < d.zs.length → d.za = some ⟨d.zb, d.zo, none⟩
  lt : ∀ k, k < d.zs.length → d.zb < w.heap.size
  c1 : ∀ k, (h : k < d.zs.length) → w.cell? ⟨d.zb, d.zo + k * 2, none⟩ = some (.int .i64 d.zs[k].1)
  c2 : ∀ k, (h : k < d.zs.length) → w.cell? ⟨d.zb, d.zo + k * 2 + 1, none⟩ = some (.int .i64 d.zs[k].2)
  nl : d.za = none → d.zc = 0

theorem Zs.below {w w' : World} {B : Nat} {d : Dk} (h : Zs w d) (hb : Below B w w') (hB : w.heap.size ≤ B) : Zs w' d :=
  ⟨h.ad, fun k hk => Nat.lt_of_lt_of_le (h.lt k hk) hb.size,
   fun k hk => (hb.cell (p := ⟨d.zb, d.zo + k * 2, none⟩) (Nat.lt_of_lt_of_le (h.lt k hk) hB)).trans (h.c1 k hk),
   fun k hk => (hb.cell (p := ⟨d.zb, d.zo + k * 2 + 1, none⟩) (Nat.lt_of_lt_of_le (h.lt k hk) hB)).trans (h.c2 k hk), h.nl⟩

theorem Zs.ix {w : World} {d : Dk} (h : Zs w d) {k : Nat} (hk : k < d.zs.length) (w' : World) :
    (Instr.indexAt 22 (.slice d.za d.zs.length d.zc) (.int .i64 k)).run Try.prog w' = .ok (.pointer (some ⟨d.zb, d.zo + k * 2, none⟩)) w' := by
  have h2 : (k : Int) < (d.zs.length : Int) := by omega
  rw [h.ad k hk]
  go_simp

@[reducible] def Dk.v (d : Dk) : Value := .agg #[.int .i64 d.hd, .int .i64 d.tu, .slice d.za d.zs.length d.zc, .int .i64 d.hs, .int .i64 d.cs, .int .i64 d.hl, .int .i64 d.hh, .int .i64 d.cl, .int .i64 d.ch]

def okZ (tu : Int) (z : Int × Int) : Prop := 1 ≤ z.1 ∧ z.1 ≤ 20 ∧ 1 ≤ z.2 ∧ z.2 ≤ 16 ∧ tu % z.2 = 0
structure Dk.Ok (d : Dk) : Prop where
  hd1 : 1 ≤ d.hd
  hd4 : d.hd ≤ 4
  tu1 : 1 ≤ d.tu
  tu2 : d.tu ≤ 1000
  zl1 : 1 ≤ d.zs.length
  zl4 : d.zs.length ≤ 4
  hs0 : 0 ≤ d.hs
  hs1 : d.hs < d.tu
  cs0 : 0 ≤ d.cs
  cs1 : d.cs < d.tu
  zok : ∀ z ∈ d.zs, okZ d.tu z
  hl0 : 0 ≤ d.hl
  hl1 : d.hl ≤ d.hh
  hh2 : d.hh ≤ 2000
  cl0 : 0 ≤ d.cl
  cl1 : d.cl ≤ d.ch
  ch2 : d.ch ≤ 2000

open Classical in
noncomputable def Dk.err (d : Dk) : Int := if d.Ok then 0 else 10

theorem Dk.err_ok {d : Dk} (h : d.Ok) : d.err = 0 := if_pos h
theorem Dk.err_not {d : Dk} (h : ¬ d.Ok) : d.err = 10 := if_neg h

/-- A bool is handed back, and it says whether p holds; memory is as it was. -/
def RetB (p : Prop) (w : World) (e : Ending) (w' : World) : Prop := (p ∧ e = .returned (.bool true) ∧ w = w') ∨ (¬ p ∧ e = .returned (.bool false) ∧ w = w')
theorem RetB.yes {p : Prop} {w : World} (h : p) : RetB p w (.returned (.bool true)) w := .inl ⟨h, rfl, rfl⟩
theorem RetB.no {p : Prop} {w : World} (h : ¬ p) : RetB p w (.returned (.bool false)) w := .inr ⟨h, rfl, rfl⟩

set_option maxHeartbeats 400000 in
theorem c47 (n l h : Int) (w : World) : Calls Try.prog 47 #[.int .i64 n, .int .i64 l, .int .i64 h] w (RetB (l ≤ n ∧ n ≤ h) w) := by
  by_cases h1 : l ≤ n <;> by_cases h2 : n ≤ h <;> (go_enter Try.func47, Try.ntmps47; go_wp2; go_ret) <;> first | exact RetB.yes (by omega) | exact RetB.no (by omega)

theorem c47y {n l h : Int} (w : World) (p : l ≤ n ∧ n ≤ h) : Calls Try.prog 47 #[.int .i64 n, .int .i64 l, .int .i64 h] w fun e w' => e = .returned (.bool true) ∧ w = w' :=
  (c47 n l h w).mono fun _ _ hr => by
    rcases hr with ⟨_, h1⟩ | ⟨h1, _⟩
    · exact h1
    · exact absurd p h1
theorem c47n {n l h : Int} (w : World) (p : ¬ (l ≤ n ∧ n ≤ h)) : Calls Try.prog 47 #[.int .i64 n, .int .i64 l, .int .i64 h] w fun e w' => e = .returned (.bool false) ∧ w = w' :=
  (c47 n l h w).mono fun _ _ hr => by
    rcases hr with ⟨h1, _⟩ | ⟨_, h1⟩
    · exact absurd h1 p
    · exact h1

theorem okZ_snoc {tu : Int} {zs : List (Int × Int)} {k : Nat} (hlt : k < zs.length) (h : ∀ j, (hj : j < zs.length) → j < k → okZ tu zs[j]) (hk : okZ tu zs[k]) : ∀ j, (hj : j < zs.length) → j < k + 1 → okZ tu zs[j] := by
  intro j hj hj'
  by_cases e : j = k
  · subst e; exact hk
  · exact h j hj (by omega)

theorem okZ_all {tu : Int} {zs : List (Int × Int)} (h : ∀ j, (hj : j < zs.length) → okZ tu zs[j]) : ∀ z ∈ zs, okZ tu z := by
  intro z hz
  obtain ⟨j, hj, rfl⟩ := List.getElem_of_mem hz
  exact h j hj

theorem okZ_get {tu : Int} {zs : List (Int × Int)} (h : ∀ z ∈ zs, okZ tu z) {k : Nat} (hk : k < zs.length) : okZ tu zs[k] := h _ (List.getElem_mem hk)

theorem err_no {d : Dk} {p : Prop} {w w' : World} (h1 : d.Ok → p) (h2 : ¬ p) (h3 : Below w.heap.size w w') :
    Ending.returned (Value.int .i64 10) = Ending.returned (Value.int .i64 d.err) ∧ Below w.heap.size w w' := ⟨by rw [Dk.err_not (fun h => h2 (h1 h))], h3⟩

theorem err_yes {d : Dk} {w w' : World} (h1 : d.Ok) (h3 : Below w.heap.size w w') :
    Ending.returned (Value.int .i64 0) = Ending.returned (Value.int .i64 d.err) ∧ Below w.heap.size w w' := ⟨by rw [Dk.err_ok h1], h3⟩

set_option maxHeartbeats 1000000 in
theorem c17 (d : Dk) (w : World) (hz : Zs w d) (hm : d.zs.length ≤ 1000000) :
    Calls Try.prog 17 #[d.v] w fun e w' => e = .returned (.int .i64 d.err) ∧ Below w.heap.size w w' := by
  go_enter Try.func17, Try.ntmps17
  go_wp2_with (go_at_call 47; refine (c47 _ _ _ _).mono ?_; rintro e w' (⟨g, rfl, rfl⟩ | ⟨g, rfl, rfl⟩))
  · obtain ⟨W0, hW0⟩ : ∃ W0 : World, W0 = w.alloc (.cells #[.int .i64 d.hd, .int .i64 d.tu, .slice d.za d.zs.length d.zc, .int .i64 d.hs, .int .i64 d.cs, .int .i64 d.hl, .int .i64 d.hh, .int .i64 d.cl, .int .i64 d.ch] 26) := ⟨_, rfl⟩
    rw [← hW0]
    have hB0 : Below w.heap.size w W0 := by rw [hW0]; exact (Below.refl _ _).alloc (Nat.le_refl _) _
    have hs0 : W0.heap.size = w.heap.size + 1 := by rw [hW0]; simp
    go_loopw [3] (fun i wr => ∃ k : Nat, k ≤ d.zs.length ∧ i = .int .i64 k ∧ (∀ j, (hj : j < d.zs.length) → j < k → okZ d.tu d.zs[j]) ∧ Below (w.heap.size + 1) W0 wr) (fun i _ => d.zs.length - (intOf i).toNat)
    case atStart => exact ⟨0, Nat.zero_le _, rfl, fun j _ h => absurd h (Nat.not_lt_zero _), Below.refl _ _⟩
    case round =>
      obtain ⟨k, hk, rfl, hall, hB⟩ := hrel
      have hsz : w.heap.size < wr.heap.size := by have := hB.size; omega
      clear hs0
      have hall' := hid hall
      clear hall
      obtain ⟨hc, hf⟩ := bcell hB
      by_cases hlt : k < d.zs.length
      · have h1 := hz.c1 k hlt; have h2 := hz.c2 k hlt; have h3 := hz.lt k hlt; have h4 := hz.ix hlt
        go_wp2_with (go_at_call 47; refine (c47 _ _ _ _).mono ?_; rintro e w' (⟨g, rfl, rfl⟩ | ⟨g, rfl, rfl⟩))
        rotate_left
        · go_roundw
          case rel =>
            have hz5 : d.tu % d.zs[k].2 = 0 := by simp_all
            have hall2 := okZ_snoc hlt hall'.out ⟨by omega, by omega, by omega, by omega, hz5⟩
            have hB2 := hB.alloc (by omega) (.cells #[.int .i64 d.zs[k].1, .int .i64 d.zs[k].2] 78)
            exact ⟨k + 1, by omega, by go_num, hall2, hB2⟩
          case measure => simp [intOf]; omega
        all_goals
          go_returns
          clear hc hf
          refine err_no (fun h => okZ_get h.zok hlt) ?_ ((hB0.trans (hB.mono (by omega))).alloc (by omega) _)
          rintro ⟨z1, z2, z3, z4, z5⟩
          first | omega | simp_all
      · go_wp2_with fail
        all_goals (go_returns; clear hc hf; have hBw : Below w.heap.size w wr := hB0.trans (hB.mono (by omega)))
        rotate_left
        · exact err_yes ⟨by omega, by omega, by omega, by omega, by omega, by omega, by omega, by omega, by simp_all, by simp_all; omega, okZ_all (fun j hj => hall'.out j hj (by omega)), by omega, by omega, by omega, by omega, by omega, by omega⟩ hBw
        all_goals exact err_no (fun h => And.intro (And.intro h.hl0 h.hl1) (And.intro (And.intro h.hh2 h.cl0) (And.intro h.cl1 h.ch2))) (by omega) hBw
  all_goals (go_returns; exact err_no (fun h => And.intro (And.intro (And.intro h.hd1 h.hd4) (And.intro h.tu1 h.tu2)) (And.intro (And.intro (And.intro h.zl1 h.zl4) (And.intro h.hs0 h.hs1)) (And.intro h.cs0 h.cs1))) (by first | omega | (simp only [Bool.not_eq_true', Bool.not_eq_false', decide_eq_true_eq, decide_eq_false_iff_not] at *; omega)) (by go_grown))
end Go.Proofs.Ythkbiplmfbcabaa
