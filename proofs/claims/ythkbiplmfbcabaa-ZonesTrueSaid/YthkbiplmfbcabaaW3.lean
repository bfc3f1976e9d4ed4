/- Stage 1: a run with skews (type 51) as a call is handed it. -/
import Derived.Test.YthkbiplmfbcabaaV2
import Derived.Test.YthkbiplmfbcabaaI3
set_option linter.unusedSimpArgs false
set_option linter.unusedVariables false
namespace Go.Proofs.Ythkbiplmfbcabaa
open Go.ChangeShapes Go.WideShapes Go.ChangeAt Go.RowKit Go.Deep Go.Joins

section
variable {H : Type} {enc : TypeId × Value → H} {w : World} {base : Nat} {spare : Nat → Bool} {held : Bool}

theorem open_intsl {fuel : Nat} {c : Value} {x : DataW H × List MemPlace} (h : DataW.trod enc Try.prog w base spare held fuel 49 [c] = some x) :
    ∃ (za : Option Addr) (zb zo zc : Nat) (xs : List Int), c = .slice za xs.length zc ∧ Ints w za zb zo xs := by
  rcases open_slice Try.underlying49 h with ⟨hc, _⟩ | ⟨a, len, cap, m, n, D, Pl, hc, hb, hl, hcap, hm, _, hi⟩
  · cases hc
    exact ⟨none, 0, 0, 0, [], rfl, fun k hk => absurd hk (Nat.not_lt_zero _), fun k hk => absurd hk (Nat.not_lt_zero _), fun k hk => absurd hk (Nat.not_lt_zero _)⟩
  · cases hc
    have hC : Try.prog.cellsOf 3 = 1 := by kernel_rfl
    have hlm : len ≤ m := by rw [hm]; split <;> omega
    have key : ∀ i, i < len → ∃ z : Int, w.cell? (a.add i) = some (.int .i64 z) := by
      intro i hil
      obtain ⟨cs', hcs, ht⟩ := hi i (by omega)
      rw [hC, Nat.mul_one] at hcs
      obtain ⟨hlen, _, hat⟩ := World.cells?_some hcs
      obtain ⟨u, rfl⟩ : ∃ u, cs' = [u] := by
        match cs', hlen with
        | [u], _ => exact ⟨u, rfl⟩
      obtain ⟨b, e1, _, _⟩ := DataW.trod_int Try.underlying3 ht
      cases e1
      exact ⟨b, by simpa [Addr.add] using hat 0 (by omega)⟩
    have hf : ∃ f : Nat → Int, ∀ i, i < len → w.cell? (a.add i) = some (.int .i64 (f i)) := by
      refine ⟨fun i => if hi : i < len then (key i hi).choose else 0, fun i hi => ?_⟩
      dsimp only
      rw [dif_pos hi]
      exact (key i hi).choose_spec
    obtain ⟨f, hf⟩ := hf
    have hsp : 0 < len → a.spot = none := fun h0 => by
      have := World.cell?_spot (hf 0 h0)
      simpa [Addr.add] using this
    have hadd : ∀ i, i < len → a.add i = ⟨a.block, a.off + i, none⟩ := by
      intro i hi
      have hs := hsp (by omega)
      unfold Addr.add
      split
      · rename_i h0
        rw [h0]
        cases a
        simp only at hs
        rw [hs]
        rfl
      · rfl
    have hcell : ∀ k, k < len → w.cell? ⟨a.block, a.off + k, none⟩ = some (.int .i64 (f k)) := fun k hk => by rw [← hadd k hk]; exact hf k hk
    refine ⟨some a, a.block, a.off, cap, (List.range len).map f, by simp, fun k hk => ?_, fun k hk => ?_, fun k hk => ?_⟩
    · have hs := hsp (by simp at hk; omega)
      cases a
      simp only at hs
      rw [hs]
    · exact World.block_lt_of_cell? w ⟨a.block, a.off + k, none⟩ (hcell k (by simpa using hk))
    · have hk' : k < len := by simpa using hk
      simp only [List.getElem_map, List.getElem_range]
      exact hcell k hk'

theorem open_trip {r : Reach} {b0 : Nat} {v : Value} {d : DataW H} {p : List MemPlace} (hv : Value.okWide Try.prog w r b0 51 v) (h : DataW.Trod enc Try.prog w base spare held 51 v d p) : ∃ (a b : Int) (za : Option Addr) (zb zo zc : Nat) (xs : List Int), v = .agg #[.int .i64 a, .int .i64 b, .slice za xs.length zc] ∧ Ints w za zb zo xs := by
  obtain ⟨cs, rfl, hsz⟩ := okWide_struct Try.underlying51 hv
  have hC : Try.prog.cellsOf 51 = 3 := by kernel_rfl
  have k3 : Try.prog.cellsOf 3 = 1 := by kernel_rfl
  have k49 : Try.prog.cellsOf 49 = 1 := by kernel_rfl
  obtain ⟨l⟩ := cs
  match l, hsz.trans hC with
  | [c0, c1, c2], _ =>
    obtain ⟨fuel, hf⟩ := h
    obtain ⟨xs, n, _, _, _, hlen, hg⟩ := DataW.trod_struct Try.underlying51 hf
    match xs, hlen with
    | [y0, y1, y2], _ =>
      have g0 : DataW.trod enc Try.prog w base spare held n 3 (([c0, c1, c2].drop 0).take (Try.prog.cellsOf 3)) = some y0 := hg 0 _ rfl
      have g1 : DataW.trod enc Try.prog w base spare held n 3 (([c0, c1, c2].drop 1).take (Try.prog.cellsOf 3)) = some y1 := hg 1 _ rfl
      have g2 : DataW.trod enc Try.prog w base spare held n 49 (([c0, c1, c2].drop 2).take (Try.prog.cellsOf 49)) = some y2 := hg 2 _ rfl
      rw [k3] at g0 g1
      rw [k49] at g2
      obtain ⟨a0, e0, _, _⟩ := DataW.trod_int Try.underlying3 (show DataW.trod enc Try.prog w base spare held n 3 [c0] = some y0 from g0)
      obtain ⟨a1, e1, _, _⟩ := DataW.trod_int Try.underlying3 (show DataW.trod enc Try.prog w base spare held n 3 [c1] = some y1 from g1)
      obtain ⟨za, zb, zo, zc, zs, e2, hz⟩ := open_intsl (show DataW.trod enc Try.prog w base spare held n 49 [c2] = some y2 from g2)
      cases e0; cases e1
      subst e2
      exact ⟨a0, a1, za, zb, zo, zc, zs, rfl, hz⟩
end
end Go.Proofs.Ythkbiplmfbcabaa
