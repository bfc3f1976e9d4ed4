/- Stage 2: a servo, wedges, a path, a walk and the rest, as a call is handed them. -/
import Derived.Test.YtfpfnjdnfiihhaaA
import Derived.ProofKit
import Derived.Deep.Slices
import Derived.Deep.Fields
import Derived.ChangeSame
import Derived.Lib.SmallJoins
set_option linter.unusedSimpArgs false
set_option linter.unusedVariables false
namespace Go.Proofs.Ytfpfnjdnfiihhaa
open Go.ChangeShapes Go.WideShapes Go.ChangeAt Go.RowKit Go.Deep Go.Joins

section
variable {H : Type} {enc : TypeId × Value → H} {w : World} {base : Nat} {spare : Nat → Bool} {held : Bool}

theorem k3 : Try.prog.cellsOf 3 = 1 := by kernel_rfl
theorem k28 : Try.prog.cellsOf 28 = 1 := by kernel_rfl
theorem one_int {fuel : Nat} {c : Value} {y : DataW H × List MemPlace} (h : DataW.trod enc Try.prog w base spare held fuel 3 [c] = some y) : ∃ a : Int, c = .int .i64 a := by
  obtain ⟨a, e, _, _⟩ := DataW.trod_int Try.underlying3 h
  cases e
  exact ⟨a, rfl⟩
theorem addr_spot {a : Addr} {v : Value} (h : w.cell? (a.add 0) = some v) : a.spot = none := by
  have := World.cell?_spot h
  simpa [Addr.add] using this
theorem addr_lt {a : Addr} {v : Value} (h : w.cell? (a.add 0) = some v) : a.block < w.heap.size := by
  have := World.block_lt_of_cell? w _ h
  simpa [Addr.add] using this
theorem addr_at {a : Addr} (hs : a.spot = none) (i : Nat) : a.add i = ⟨a.block, a.off + i, none⟩ := by
  unfold Addr.add
  split
  · rename_i h0
    rw [h0]
    cases a
    simp only at hs
    rw [hs]
    rfl
  · rfl
set_option maxRecDepth 100000 in
/-- A slice of numbers that came in. -/
theorem in_ints {fuel : Nat} {c : Value} {x : DataW H × List MemPlace} (h : DataW.trod enc Try.prog w base spare held fuel 28 [c] = some x) :
    ∃ (A : Option Addr) (b o n k : Nat) (f : Nat → Int), c = .slice A n k ∧ Ints w A b o n f ∧ (A = none → k = 0) := by
  rcases open_slice Try.underlying28 h with ⟨hc, _⟩ | ⟨a, len, cap, m, n, D, Pl, hc, hb, hl, hcap, hm, _, hi⟩
  · cases hc
    exact ⟨none, 0, 0, 0, 0, fun _ => 0, rfl, ⟨fun k hk => absurd hk (Nat.not_lt_zero _), fun k hk => absurd hk (Nat.not_lt_zero _), fun k hk => absurd hk (Nat.not_lt_zero _)⟩, fun _ => rfl⟩
  · cases hc
    have hlm : len ≤ m := by rw [hm]; split <;> omega
    have key : ∀ i, ∃ z : Int, i < len → w.cell? (a.add i) = some (.int .i64 z) := by
      intro i
      by_cases hil : i < len
      · obtain ⟨cs', hcs, ht⟩ := hi i (by omega)
        rw [k3, Nat.mul_one] at hcs
        obtain ⟨_, hlen, hat⟩ := World.cells?_some hcs
        match cs', hlen with
        | [c0], _ =>
          obtain ⟨u, rfl⟩ := one_int ht
          exact ⟨u, fun _ => by simpa [Addr.add] using hat 0 (by omega)⟩
      · exact ⟨0, fun h => absurd h hil⟩
    obtain ⟨f, hf⟩ := Classical.axiomOfChoice key
    refine ⟨some a, a.block, a.off, len, cap, f, rfl, ⟨fun k hk => ?_, fun k hk => addr_lt (hf 0 (by omega)), fun k hk => ?_⟩, fun h => by cases h⟩
    · have hs := addr_spot (hf 0 (by omega))
      cases a
      simp only at hs
      rw [hs]
    · have hs := addr_spot (hf 0 (by omega))
      rw [← addr_at hs]
      exact hf k hk
set_option maxRecDepth 100000 in
theorem two_ints {t : TypeId} {n0 n1 : String} {tg0 tg1 pp0 pp1 : String} {b0 b1 : Nat} (hs : Try.prog.underlying t = some (.struct #[{ name := n0, type := 3, offset := 0, embedded := false, tag := tg0, pkgPath := pp0, byteOffset := b0 }, { name := n1, type := 3, offset := 1, embedded := false, tag := tg1, pkgPath := pp1, byteOffset := b1 }]))
    {fuel : Nat} {cs : List Value} {x : DataW H × List MemPlace} (hC : Try.prog.cellsOf t = 2) (h : DataW.trod enc Try.prog w base spare held fuel t cs = some x) : ∃ a b : Int, cs = [.int .i64 a, .int .i64 b] := by
  obtain ⟨xs, n, _, _, hlen, hxl, hf⟩ := DataW.trod_struct hs h
  rw [hC] at hlen
  match cs, hlen with
  | [c0, c1], _ =>
    match xs, hxl with
    | [y0, y1], _ =>
      have h0 : DataW.trod enc Try.prog w base spare held n 3 (([c0, c1].drop 0).take (Try.prog.cellsOf 3)) = some y0 := hf 0 _ rfl
      have h1 : DataW.trod enc Try.prog w base spare held n 3 (([c0, c1].drop 1).take (Try.prog.cellsOf 3)) = some y1 := hf 1 _ rfl
      rw [k3] at h0 h1
      obtain ⟨a, rfl⟩ := one_int (show DataW.trod enc Try.prog w base spare held n 3 [c0] = some y0 from h0)
      obtain ⟨b, rfl⟩ := one_int (show DataW.trod enc Try.prog w base spare held n 3 [c1] = some y1 from h1)
      exact ⟨a, b, rfl⟩
set_option maxRecDepth 100000 in
/-- A slice of wedges that came in. -/
theorem in_weds {fuel : Nat} {c : Value} {x : DataW H × List MemPlace} (h : DataW.trod enc Try.prog w base spare held fuel 31 [c] = some x) :
    ∃ g : Wg, c = g.v ∧ g.In w ∧ (g.wa = none → g.wk = 0) := by
  rcases open_slice Try.underlying31 h with ⟨hc, _⟩ | ⟨a, len, cap, m, n, D, Pl, hc, hb, hl, hcap, hm, _, hi⟩
  · cases hc
    exact ⟨⟨none, 0, 0, 0, 0, fun _ => 0, fun _ => 0⟩, rfl, ⟨fun k hk => absurd hk (Nat.not_lt_zero _), fun k hk => absurd hk (Nat.not_lt_zero _), fun k hk => absurd hk (Nat.not_lt_zero _), fun k hk => absurd hk (Nat.not_lt_zero _)⟩, fun _ => rfl⟩
  · cases hc
    have hC : Try.prog.cellsOf 46 = 2 := by kernel_rfl
    have hlm : len ≤ m := by rw [hm]; split <;> omega
    have key : ∀ i, ∃ z : Int × Int, i < len → w.cell? (a.add (i * 2)) = some (.int .i64 z.1) ∧ w.cell? ((a.add (i * 2)).add 1) = some (.int .i64 z.2) := by
      intro i
      by_cases hil : i < len
      · obtain ⟨cs', hcs, ht⟩ := hi i (by omega)
        rw [hC] at hcs
        obtain ⟨u, v, rfl⟩ := two_ints Try.underlying46 hC ht
        obtain ⟨_, _, hat⟩ := World.cells?_some hcs
        exact ⟨(u, v), fun _ => ⟨by simpa [Addr.add] using hat 0 (by omega), by simpa using hat 1 (by omega)⟩⟩
      · exact ⟨(0, 0), fun h => absurd h hil⟩
    obtain ⟨f, hf⟩ := Classical.axiomOfChoice key
    have hadd : ∀ i, i < len → a.add (i * 2) = ⟨a.block, a.off + i * 2, none⟩ := fun i hi => addr_at (addr_spot (by have := (hf 0 (by omega)).1; rwa [Nat.zero_mul] at this)) _
    refine ⟨⟨some a, a.block, a.off, len, cap, fun k => (f k).1, fun k => (f k).2⟩, rfl, ⟨fun k hk => ?_, fun k hk => addr_lt (by have := (hf 0 (by have : k < len := hk; omega)).1; rwa [Nat.zero_mul] at this), fun k hk => ?_, fun k hk => ?_⟩, fun h => by cases h⟩
    · have hs := addr_spot (by have := (hf 0 (by have : k < len := hk; omega)).1; rwa [Nat.zero_mul] at this)
      cases a
      simp only at hs
      show some _ = some _
      rw [hs]
    · have := (hf k hk).1
      rw [hadd k hk] at this
      exact this
    · have := (hf k hk).2
      rw [hadd k hk] at this
      exact this
set_option maxRecDepth 100000 in
theorem open_path {r : Reach} {b0 : Nat} {v : Value} {d : DataW H} {p : List MemPlace} (hv : Value.okWide Try.prog w r b0 28 v) (h : DataW.Trod enc Try.prog w base spare held 28 v d p) :
    ∃ (A : Option Addr) (b o n k : Nat) (f : Nat → Int), v = .slice A n k ∧ Ints w A b o n f ∧ (A = none → k = 0) := by
  obtain ⟨a, len, cap, rfl⟩ := okWide_slice Try.underlying28 hv
  obtain ⟨fuel, hf⟩ := h
  exact in_ints (show DataW.trod enc Try.prog w base spare held fuel 28 [.slice a len cap] = some (d, p) from hf)
set_option maxRecDepth 100000 in
theorem open_weds {r : Reach} {b0 : Nat} {v : Value} {d : DataW H} {p : List MemPlace} (hv : Value.okWide Try.prog w r b0 31 v) (h : DataW.Trod enc Try.prog w base spare held 31 v d p) :
    ∃ g : Wg, v = g.v ∧ g.In w ∧ (g.wa = none → g.wk = 0) := by
  obtain ⟨a, len, cap, rfl⟩ := okWide_slice Try.underlying31 hv
  obtain ⟨fuel, hf⟩ := h
  exact in_weds (show DataW.trod enc Try.prog w base spare held fuel 31 [.slice a len cap] = some (d, p) from hf)
set_option maxRecDepth 100000 in
theorem open_servo {r : Reach} {b0 : Nat} {v : Value} {d : DataW H} {p : List MemPlace} (hv : Value.okWide Try.prog w r b0 30 v) (h : DataW.Trod enc Try.prog w base spare held 30 v d p) :
    ∃ s : Sv, v = s.v ∧ s.In w ∧ (s.ra = none → s.rc = 0) := by
  obtain ⟨cs, rfl, hsz⟩ := okWide_struct Try.underlying30 hv
  have hC : Try.prog.cellsOf 30 = 6 := by kernel_rfl
  obtain ⟨l⟩ := cs
  match l, hsz.trans hC with
  | [c0, c1, c2, c3, c4, c5], _ =>
    obtain ⟨fuel, hf⟩ := h
    obtain ⟨xs, n, _, _, _, hlen, hg⟩ := DataW.trod_struct Try.underlying30 hf
    match xs, hlen with
    | [y0, y1, y2, y3, y4, y5], _ =>
      have g0 : DataW.trod enc Try.prog w base spare held n 3 (([c0, c1, c2, c3, c4, c5].drop 0).take (Try.prog.cellsOf 3)) = some y0 := hg 0 _ rfl
      have g1 : DataW.trod enc Try.prog w base spare held n 3 (([c0, c1, c2, c3, c4, c5].drop 1).take (Try.prog.cellsOf 3)) = some y1 := hg 1 _ rfl
      have g2 : DataW.trod enc Try.prog w base spare held n 3 (([c0, c1, c2, c3, c4, c5].drop 2).take (Try.prog.cellsOf 3)) = some y2 := hg 2 _ rfl
      have g3 : DataW.trod enc Try.prog w base spare held n 3 (([c0, c1, c2, c3, c4, c5].drop 3).take (Try.prog.cellsOf 3)) = some y3 := hg 3 _ rfl
      have g4 : DataW.trod enc Try.prog w base spare held n 3 (([c0, c1, c2, c3, c4, c5].drop 4).take (Try.prog.cellsOf 3)) = some y4 := hg 4 _ rfl
      have g5 : DataW.trod enc Try.prog w base spare held n 28 (([c0, c1, c2, c3, c4, c5].drop 5).take (Try.prog.cellsOf 28)) = some y5 := hg 5 _ rfl
      rw [k3] at g0 g1 g2 g3 g4
      rw [k28] at g5
      obtain ⟨a0, rfl⟩ := one_int (show DataW.trod enc Try.prog w base spare held n 3 [c0] = some y0 from g0)
      obtain ⟨a1, rfl⟩ := one_int (show DataW.trod enc Try.prog w base spare held n 3 [c1] = some y1 from g1)
      obtain ⟨a2, rfl⟩ := one_int (show DataW.trod enc Try.prog w base spare held n 3 [c2] = some y2 from g2)
      obtain ⟨a3, rfl⟩ := one_int (show DataW.trod enc Try.prog w base spare held n 3 [c3] = some y3 from g3)
      obtain ⟨a4, rfl⟩ := one_int (show DataW.trod enc Try.prog w base spare held n 3 [c4] = some y4 from g4)
      obtain ⟨A, b, o, m, k, f, rfl, hi, hk⟩ := in_ints (show DataW.trod enc Try.prog w base spare held n 28 [c5] = some y5 from g5)
      exact ⟨⟨a0, a1, a2, a3, a4, A, b, o, m, k, f⟩, rfl, hi, hk⟩
set_option maxRecDepth 100000 in
theorem open_goal {r : Reach} {b0 : Nat} {v : Value} {d : DataW H} {p : List MemPlace} (hv : Value.okWide Try.prog w r b0 49 v) (h : DataW.Trod enc Try.prog w base spare held 49 v d p) : ∃ a b : Int, v = .agg #[.int .i64 a, .int .i64 b] := by
  obtain ⟨cs, rfl, hsz⟩ := okWide_struct Try.underlying49 hv
  have hC : Try.prog.cellsOf 49 = 2 := by kernel_rfl
  obtain ⟨l⟩ := cs
  obtain ⟨fuel, hf⟩ := h
  obtain ⟨a, b, e⟩ := two_ints Try.underlying49 hC (show DataW.trod enc Try.prog w base spare held fuel 49 l = some (d, p) from hf)
  subst e
  exact ⟨a, b, rfl⟩
set_option maxRecDepth 100000 in
theorem in_walk {fuel : Nat} {l : List Value} {x : DataW H × List MemPlace} (hl : l.length = 2) (h : DataW.trod enc Try.prog w base spare held fuel 33 l = some x) :
    ∃ (A : Option Addr) (b o n c : Nat) (f : Nat → Int) (A' : Option Addr) (b' o' m c' : Nat) (g : Nat → Int), l = [.slice A n c, .slice A' m c'] ∧ Ints w A b o n f ∧ (A = none → c = 0) ∧ Ints w A' b' o' m g ∧ (A' = none → c' = 0) := by
  match l, hl with
  | [c0, c1], _ =>
    obtain ⟨xs, n, _, _, _, hlen, hg⟩ := DataW.trod_struct Try.underlying33 h
    match xs, hlen with
    | [y0, y1], _ =>
      have g0 : DataW.trod enc Try.prog w base spare held n 28 (([c0, c1].drop 0).take (Try.prog.cellsOf 28)) = some y0 := hg 0 _ rfl
      have g1 : DataW.trod enc Try.prog w base spare held n 28 (([c0, c1].drop 1).take (Try.prog.cellsOf 28)) = some y1 := hg 1 _ rfl
      rw [k28] at g0 g1
      obtain ⟨A, b, o, m, k, f, rfl, hi, hk⟩ := in_ints (show DataW.trod enc Try.prog w base spare held n 28 [c0] = some y0 from g0)
      obtain ⟨A', b', o', m', k', f', rfl, hi', hk'⟩ := in_ints (show DataW.trod enc Try.prog w base spare held n 28 [c1] = some y1 from g1)
      exact ⟨A, b, o, m, k, f, A', b', o', m', k', f', rfl, hi, hk, hi', hk'⟩
set_option maxRecDepth 100000 in
theorem open_walk {r : Reach} {b0 : Nat} {v : Value} {d : DataW H} {p : List MemPlace} (hv : Value.okWide Try.prog w r b0 33 v) (h : DataW.Trod enc Try.prog w base spare held 33 v d p) :
    ∃ (A : Option Addr) (b o n c : Nat) (f : Nat → Int) (A' : Option Addr) (b' o' m c' : Nat) (g : Nat → Int), v = .agg #[.slice A n c, .slice A' m c'] ∧ Ints w A b o n f ∧ (A = none → c = 0) ∧ Ints w A' b' o' m g ∧ (A' = none → c' = 0) := by
  obtain ⟨cs, rfl, hsz⟩ := okWide_struct Try.underlying33 hv
  have hC : Try.prog.cellsOf 33 = 2 := by kernel_rfl
  obtain ⟨l⟩ := cs
  obtain ⟨fuel, hf⟩ := h
  obtain ⟨A, b, o, m, k, f, A', b', o', m', k', f', e, hi, hk, hi', hk'⟩ := in_walk (hsz.trans hC) (show DataW.trod enc Try.prog w base spare held fuel 33 l = some (d, p) from hf)
  subst e
  exact ⟨A, b, o, m, k, f, A', b', o', m', k', f', rfl, hi, hk, hi', hk'⟩
set_option maxRecDepth 100000 in
theorem open_gated {r : Reach} {b0 : Nat} {v : Value} {d : DataW H} {p : List MemPlace} (hv : Value.okWide Try.prog w r b0 51 v) (h : DataW.Trod enc Try.prog w base spare held 51 v d p) :
    ∃ (A : Option Addr) (b o n c : Nat) (f : Nat → Int) (A' : Option Addr) (b' o' m c' : Nat) (g : Nat → Int) (t e : Int), v = .agg #[.slice A n c, .slice A' m c', .int .i64 t, .int .i64 e] ∧ Ints w A b o n f ∧ (A = none → c = 0) ∧ Ints w A' b' o' m g ∧ (A' = none → c' = 0) := by
  obtain ⟨cs, rfl, hsz⟩ := okWide_struct Try.underlying51 hv
  have hC : Try.prog.cellsOf 51 = 4 := by kernel_rfl
  have k33 : Try.prog.cellsOf 33 = 2 := by kernel_rfl
  have k49 : Try.prog.cellsOf 49 = 2 := by kernel_rfl
  obtain ⟨l⟩ := cs
  match l, hsz.trans hC with
  | [c0, c1, c2, c3], _ =>
    obtain ⟨fuel, hf⟩ := h
    obtain ⟨xs, n, _, _, _, hlen, hg⟩ := DataW.trod_struct Try.underlying51 hf
    match xs, hlen with
    | [y0, y1], _ =>
      have g0 : DataW.trod enc Try.prog w base spare held n 33 (([c0, c1, c2, c3].drop 0).take (Try.prog.cellsOf 33)) = some y0 := hg 0 _ rfl
      have g1 : DataW.trod enc Try.prog w base spare held n 49 (([c0, c1, c2, c3].drop 2).take (Try.prog.cellsOf 49)) = some y1 := hg 1 _ rfl
      rw [k33] at g0
      rw [k49] at g1
      obtain ⟨A, b, o, m, k, f, A', b', o', m', k', f', e, hi, hk, hi', hk'⟩ := in_walk rfl (show DataW.trod enc Try.prog w base spare held n 33 [c0, c1] = some y0 from g0)
      obtain ⟨t, u, e'⟩ := two_ints Try.underlying49 k49 (show DataW.trod enc Try.prog w base spare held n 49 [c2, c3] = some y1 from g1)
      cases e
      cases e'
      exact ⟨A, b, o, m, k, f, A', b', o', m', k', f', t, u, rfl, hi, hk, hi', hk'⟩
set_option maxRecDepth 100000 in
theorem open_wide {r : Reach} {b0 : Nat} {v : Value} {d : DataW H} {p : List MemPlace} (hv : Value.okWide Try.prog w r b0 62 v) (h : DataW.Trod enc Try.prog w base spare held 62 v d p) : ∃ a b c e : Int, v = .agg #[.int .i64 a, .int .i64 b, .int .i64 c, .int .i64 e] := by
  obtain ⟨cs, rfl, hsz⟩ := okWide_struct Try.underlying62 hv
  have hC : Try.prog.cellsOf 62 = 4 := by kernel_rfl
  obtain ⟨l⟩ := cs
  match l, hsz.trans hC with
  | [c0, c1, c2, c3], _ =>
    obtain ⟨fuel, hf⟩ := h
    obtain ⟨xs, n, _, _, _, hlen, hg⟩ := DataW.trod_struct Try.underlying62 hf
    match xs, hlen with
    | [y0, y1, y2, y3], _ =>
      have g0 : DataW.trod enc Try.prog w base spare held n 3 (([c0, c1, c2, c3].drop 0).take (Try.prog.cellsOf 3)) = some y0 := hg 0 _ rfl
      have g1 : DataW.trod enc Try.prog w base spare held n 3 (([c0, c1, c2, c3].drop 1).take (Try.prog.cellsOf 3)) = some y1 := hg 1 _ rfl
      have g2 : DataW.trod enc Try.prog w base spare held n 3 (([c0, c1, c2, c3].drop 2).take (Try.prog.cellsOf 3)) = some y2 := hg 2 _ rfl
      have g3 : DataW.trod enc Try.prog w base spare held n 3 (([c0, c1, c2, c3].drop 3).take (Try.prog.cellsOf 3)) = some y3 := hg 3 _ rfl
      rw [k3] at g0 g1 g2 g3
      obtain ⟨a0, rfl⟩ := one_int (show DataW.trod enc Try.prog w base spare held n 3 [c0] = some y0 from g0)
      obtain ⟨a1, rfl⟩ := one_int (show DataW.trod enc Try.prog w base spare held n 3 [c1] = some y1 from g1)
      obtain ⟨a2, rfl⟩ := one_int (show DataW.trod enc Try.prog w base spare held n 3 [c2] = some y2 from g2)
      obtain ⟨a3, rfl⟩ := one_int (show DataW.trod enc Try.prog w base spare held n 3 [c3] = some y3 from g3)
      exact ⟨a0, a1, a2, a3, rfl⟩
end
end Go.Proofs.Ytfpfnjdnfiihhaa
