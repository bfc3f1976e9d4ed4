/- Stage 5: a code, a weave, words and noise, as a call is handed them. -/
import Derived.Test.YtnndhibhnakdoaaDoorA
import Derived.ProofKit
import Derived.Deep.Slices
import Derived.Deep.Fields
import Derived.ChangeSame
import Derived.Lib.SmallJoins
set_option linter.unusedSimpArgs false
set_option linter.unusedVariables false
namespace Go.Proofs.YtnndhibhnakdoaaDoor
open Go.ChangeShapes Go.WideShapes Go.ChangeAt Go.RowKit Go.Deep Go.Joins

section
variable {H : Type} {enc : TypeId × Value → H} {w : World} {base : Nat} {spare : Nat → Bool} {held : Bool}

theorem k3 : Tryd.prog.cellsOf 3 = 1 := by kernel_rfl
theorem k24 : Tryd.prog.cellsOf 24 = 1 := by kernel_rfl
theorem one_int {fuel : Nat} {c : Value} {y : DataW H × List MemPlace} (h : DataW.trod enc Tryd.prog w base spare held fuel 3 [c] = some y) : ∃ a : Int, c = .int .i64 a := by
  obtain ⟨a, e, _, _⟩ := DataW.trod_int Tryd.underlying3 h
  cases e
  exact ⟨a, rfl⟩
theorem addr_spot {a : Addr} {v : Value} (h : w.cell? (a.add 0) = some v) : a.spot = none := by
  have := World.cell?_spot h
  simpa [Addr.add] using this
theorem addr_lt {a : Addr} {v : Value} (h : w.cell? (a.add 0) = some v) : a.block < w.heap.size := by
  have := World.block_lt_of_cell? w _ h
  simpa [Addr.add] using this
theorem addr_at {a : Addr} (hs : a.spot = none) (i : Nat) : a.add i = ⟨a.block, a.off + i, none⟩ := by
  unfold Addr.add
  split
  · rename_i h0
    rw [h0]
    cases a
    simp only at hs
    rw [hs]
    rfl
  · rfl
set_option maxRecDepth 100000 in
/-- A slice of numbers that came in. -/
theorem in_ints {fuel : Nat} {c : Value} {x : DataW H × List MemPlace} (h : DataW.trod enc Tryd.prog w base spare held fuel 24 [c] = some x) :
    ∃ (A : Option Addr) (b o n k : Nat) (f : Nat → Int), c = .slice A n k ∧ Ints w A b o n f ∧ (A = none → k = 0) ∧ n ≤ 9223372036854775807 := by
  rcases open_slice Tryd.underlying24 h with ⟨hc, _⟩ | ⟨a, len, cap, m, n, D, Pl, hc, hb, hl, hcap, hm, _, hi⟩
  · cases hc
    exact ⟨none, 0, 0, 0, 0, fun _ => 0, rfl, ⟨fun k hk => absurd hk (Nat.not_lt_zero _), fun k hk => absurd hk (Nat.not_lt_zero _), fun k hk => absurd hk (Nat.not_lt_zero _)⟩, fun _ => rfl, by omega⟩
  · cases hc
    have hlm : len ≤ m := by rw [hm]; split <;> omega
    have key : ∀ i, ∃ z : Int, i < len → w.cell? (a.add i) = some (.int .i64 z) := by
      intro i
      by_cases hil : i < len
      · obtain ⟨cs', hcs, ht⟩ := hi i (by omega)
        rw [k3, Nat.mul_one] at hcs
        obtain ⟨_, hlen, hat⟩ := World.cells?_some hcs
        match cs', hlen with
        | [c0], _ =>
          obtain ⟨u, rfl⟩ := one_int ht
          exact ⟨u, fun _ => by simpa [Addr.add] using hat 0 (by omega)⟩
      · exact ⟨0, fun h => absurd h hil⟩
    obtain ⟨f, hf⟩ := Classical.axiomOfChoice key
    refine ⟨some a, a.block, a.off, len, cap, f, rfl, ⟨fun k hk => ?_, fun k hk => addr_lt (hf 0 (by omega)), fun k hk => ?_⟩, (fun h => by cases h), (by unfold maxLen at hcap; omega)⟩
    · have hs := addr_spot (hf 0 (by omega))
      cases a
      simp only at hs
      rw [hs]
    · have hs := addr_spot (hf 0 (by omega))
      rw [← addr_at hs]
      exact hf k hk
set_option maxRecDepth 100000 in
theorem two_ints {t : TypeId} {n0 n1 : String} {tg0 tg1 pp0 pp1 : String} {b0 b1 : Nat} (hs : Tryd.prog.underlying t = some (.struct #[{ name := n0, type := 3, offset := 0, embedded := false, tag := tg0, pkgPath := pp0, byteOffset := b0 }, { name := n1, type := 3, offset := 1, embedded := false, tag := tg1, pkgPath := pp1, byteOffset := b1 }]))
    {fuel : Nat} {cs : List Value} {x : DataW H × List MemPlace} (hC : Tryd.prog.cellsOf t = 2) (h : DataW.trod enc Tryd.prog w base spare held fuel t cs = some x) : ∃ a b : Int, cs = [.int .i64 a, .int .i64 b] := by
  obtain ⟨xs, n, _, _, hlen, hxl, hf⟩ := DataW.trod_struct hs h
  rw [hC] at hlen
  match cs, hlen with
  | [c0, c1], _ =>
    match xs, hxl with
    | [y0, y1], _ =>
      have h0 : DataW.trod enc Tryd.prog w base spare held n 3 (([c0, c1].drop 0).take (Tryd.prog.cellsOf 3)) = some y0 := hf 0 _ rfl
      have h1 : DataW.trod enc Tryd.prog w base spare held n 3 (([c0, c1].drop 1).take (Tryd.prog.cellsOf 3)) = some y1 := hf 1 _ rfl
      rw [k3] at h0 h1
      obtain ⟨a, rfl⟩ := one_int (show DataW.trod enc Tryd.prog w base spare held n 3 [c0] = some y0 from h0)
      obtain ⟨b, rfl⟩ := one_int (show DataW.trod enc Tryd.prog w base spare held n 3 [c1] = some y1 from h1)
      exact ⟨a, b, rfl⟩
set_option maxRecDepth 100000 in
theorem open_path {r : Reach} {b0 : Nat} {v : Value} {d : DataW H} {p : List MemPlace} (hv : Value.okWide Tryd.prog w r b0 24 v) (h : DataW.Trod enc Tryd.prog w base spare held 24 v d p) :
    ∃ (A : Option Addr) (b o n k : Nat) (f : Nat → Int), v = .slice A n k ∧ Ints w A b o n f ∧ (A = none → k = 0) ∧ n ≤ 9223372036854775807 := by
  obtain ⟨a, len, cap, rfl⟩ := okWide_slice Tryd.underlying24 hv
  obtain ⟨fuel, hf⟩ := h
  exact in_ints (show DataW.trod enc Tryd.prog w base spare held fuel 24 [.slice a len cap] = some (d, p) from hf)
set_option maxRecDepth 100000 in
theorem open_outer {r : Reach} {b0 : Nat} {v : Value} {d : DataW H} {p : List MemPlace} (hv : Value.okWide Tryd.prog w r b0 23 v) (h : DataW.Trod enc Tryd.prog w base spare held 23 v d p) : ∃ a b : Int, v = .agg #[.int .i64 a, .int .i64 b] := by
  obtain ⟨cs, rfl, hsz⟩ := okWide_struct Tryd.underlying23 hv
  have hC : Tryd.prog.cellsOf 23 = 2 := by kernel_rfl
  obtain ⟨l⟩ := cs
  obtain ⟨fuel, hf⟩ := h
  obtain ⟨a, b, e⟩ := two_ints Tryd.underlying23 hC (show DataW.trod enc Tryd.prog w base spare held fuel 23 l = some (d, p) from hf)
  subst e
  exact ⟨a, b, rfl⟩
set_option maxRecDepth 100000 in
theorem open_weave {r : Reach} {b0 : Nat} {v : Value} {d : DataW H} {p : List MemPlace} (hv : Value.okWide Tryd.prog w r b0 37 v) (h : DataW.Trod enc Tryd.prog w base spare held 37 v d p) : ∃ a b c : Int, v = .agg #[.int .i64 a, .int .i64 b, .int .i64 c] := by
  obtain ⟨cs, rfl, hsz⟩ := okWide_struct Tryd.underlying37 hv
  have hC : Tryd.prog.cellsOf 37 = 3 := by kernel_rfl
  have k23 : Tryd.prog.cellsOf 23 = 2 := by kernel_rfl
  obtain ⟨l⟩ := cs
  match l, hsz.trans hC with
  | [c0, c1, c2], _ =>
    obtain ⟨fuel, hf⟩ := h
    obtain ⟨xs, n, _, _, _, hlen, hg⟩ := DataW.trod_struct Tryd.underlying37 hf
    match xs, hlen with
    | [y0, y1], _ =>
      have g0 : DataW.trod enc Tryd.prog w base spare held n 23 (([c0, c1, c2].drop 0).take (Tryd.prog.cellsOf 23)) = some y0 := hg 0 _ rfl
      have g1 : DataW.trod enc Tryd.prog w base spare held n 3 (([c0, c1, c2].drop 2).take (Tryd.prog.cellsOf 3)) = some y1 := hg 1 _ rfl
      rw [k23] at g0
      rw [k3] at g1
      obtain ⟨a, b, e⟩ := two_ints Tryd.underlying23 k23 (show DataW.trod enc Tryd.prog w base spare held n 23 [c0, c1] = some y0 from g0)
      obtain ⟨c, rfl⟩ := one_int (show DataW.trod enc Tryd.prog w base spare held n 3 [c2] = some y1 from g1)
      cases e
      exact ⟨a, b, c, rfl⟩
set_option maxRecDepth 100000 in
theorem open_three {r : Reach} {b0 : Nat} {v : Value} {d : DataW H} {p : List MemPlace} (hv : Value.okWide Tryd.prog w r b0 51 v) (h : DataW.Trod enc Tryd.prog w base spare held 51 v d p) :
    ∃ (A : Option Addr) (b o n c : Nat) (f : Nat → Int) (A1 : Option Addr) (b1 o1 n1 c1 : Nat) (f1 : Nat → Int) (A2 : Option Addr) (b2 o2 n2 c2 : Nat) (f2 : Nat → Int), v = .agg #[.slice A n c, .slice A1 n1 c1, .slice A2 n2 c2] ∧ (Ints w A b o n f ∧ (A = none → c = 0) ∧ n ≤ 9223372036854775807) ∧ (Ints w A1 b1 o1 n1 f1 ∧ (A1 = none → c1 = 0) ∧ n1 ≤ 9223372036854775807) ∧ (Ints w A2 b2 o2 n2 f2 ∧ (A2 = none → c2 = 0) ∧ n2 ≤ 9223372036854775807) := by
  obtain ⟨cs, rfl, hsz⟩ := okWide_struct Tryd.underlying51 hv
  have hC : Tryd.prog.cellsOf 51 = 3 := by kernel_rfl
  obtain ⟨l⟩ := cs
  match l, hsz.trans hC with
  | [c0, c1, c2], _ =>
    obtain ⟨fuel, hf⟩ := h
    obtain ⟨xs, n, _, _, _, hlen, hg⟩ := DataW.trod_struct Tryd.underlying51 hf
    match xs, hlen with
    | [y0, y1, y2], _ =>
      have g0 : DataW.trod enc Tryd.prog w base spare held n 24 (([c0, c1, c2].drop 0).take (Tryd.prog.cellsOf 24)) = some y0 := hg 0 _ rfl
      have g1 : DataW.trod enc Tryd.prog w base spare held n 24 (([c0, c1, c2].drop 1).take (Tryd.prog.cellsOf 24)) = some y1 := hg 1 _ rfl
      have g2 : DataW.trod enc Tryd.prog w base spare held n 24 (([c0, c1, c2].drop 2).take (Tryd.prog.cellsOf 24)) = some y2 := hg 2 _ rfl
      rw [k24] at g0 g1 g2
      obtain ⟨A, b, o, m, k, f, rfl, hi, hk⟩ := in_ints (show DataW.trod enc Tryd.prog w base spare held n 24 [c0] = some y0 from g0)
      obtain ⟨A', b', o', m', k', f', rfl, hi', hk'⟩ := in_ints (show DataW.trod enc Tryd.prog w base spare held n 24 [c1] = some y1 from g1)
      obtain ⟨B, bb, oo, mm, kk, ff, rfl, hii, hkk⟩ := in_ints (show DataW.trod enc Tryd.prog w base spare held n 24 [c2] = some y2 from g2)
      exact ⟨A, b, o, m, k, f, A', b', o', m', k', f', B, bb, oo, mm, kk, ff, rfl, ⟨hi, hk⟩, ⟨hi', hk'⟩, ⟨hii, hkk⟩⟩
set_option maxRecDepth 100000 in
theorem open_word {r : Reach} {b0 : Nat} {v : Value} {d : DataW H} {p : List MemPlace} (hv : Value.okWide Tryd.prog w r b0 26 v) (h : DataW.Trod enc Tryd.prog w base spare held 26 v d p) :
    ∃ (A : Option Addr) (b o n c : Nat) (f : Nat → Int) (A1 : Option Addr) (b1 o1 n1 c1 : Nat) (f1 : Nat → Int) (A2 : Option Addr) (b2 o2 n2 c2 : Nat) (f2 : Nat → Int), v = .agg #[.slice A n c, .slice A1 n1 c1, .slice A2 n2 c2] ∧ (Ints w A b o n f ∧ (A = none → c = 0) ∧ n ≤ 9223372036854775807) ∧ (Ints w A1 b1 o1 n1 f1 ∧ (A1 = none → c1 = 0) ∧ n1 ≤ 9223372036854775807) ∧ (Ints w A2 b2 o2 n2 f2 ∧ (A2 = none → c2 = 0) ∧ n2 ≤ 9223372036854775807) := by
  obtain ⟨cs, rfl, hsz⟩ := okWide_struct Tryd.underlying26 hv
  have hC : Tryd.prog.cellsOf 26 = 3 := by kernel_rfl
  obtain ⟨l⟩ := cs
  match l, hsz.trans hC with
  | [c0, c1, c2], _ =>
    obtain ⟨fuel, hf⟩ := h
    obtain ⟨xs, n, _, _, _, hlen, hg⟩ := DataW.trod_struct Tryd.underlying26 hf
    match xs, hlen with
    | [y0, y1, y2], _ =>
      have g0 : DataW.trod enc Tryd.prog w base spare held n 24 (([c0, c1, c2].drop 0).take (Tryd.prog.cellsOf 24)) = some y0 := hg 0 _ rfl
      have g1 : DataW.trod enc Tryd.prog w base spare held n 24 (([c0, c1, c2].drop 1).take (Tryd.prog.cellsOf 24)) = some y1 := hg 1 _ rfl
      have g2 : DataW.trod enc Tryd.prog w base spare held n 24 (([c0, c1, c2].drop 2).take (Tryd.prog.cellsOf 24)) = some y2 := hg 2 _ rfl
      rw [k24] at g0 g1 g2
      obtain ⟨A, b, o, m, k, f, rfl, hi, hk⟩ := in_ints (show DataW.trod enc Tryd.prog w base spare held n 24 [c0] = some y0 from g0)
      obtain ⟨A', b', o', m', k', f', rfl, hi', hk'⟩ := in_ints (show DataW.trod enc Tryd.prog w base spare held n 24 [c1] = some y1 from g1)
      obtain ⟨B, bb, oo, mm, kk, ff, rfl, hii, hkk⟩ := in_ints (show DataW.trod enc Tryd.prog w base spare held n 24 [c2] = some y2 from g2)
      exact ⟨A, b, o, m, k, f, A', b', o', m', k', f', B, bb, oo, mm, kk, ff, rfl, ⟨hi, hk⟩, ⟨hi', hk'⟩, ⟨hii, hkk⟩⟩
end
end Go.Proofs.YtnndhibhnakdoaaDoor
