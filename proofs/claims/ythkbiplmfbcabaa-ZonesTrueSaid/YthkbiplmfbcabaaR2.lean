/- Stage 1: both sides' answers as functions of the disk. -/
import Derived.Test.YthkbiplmfbcabaaP2
import Derived.Test.YthkbiplmfbcabaaL2
import Derived.Test.YthkbiplmfbcabaaI2
import Derived.Test.YthkbiplmfbcabaaA2
import Derived.Test.YthkbiplmfbcabaaP
import Derived.Test.YthkbiplmfbcabaaX
set_option linter.unusedSimpArgs false
set_option linter.unusedVariables false
namespace Go.Proofs.Ythkbiplmfbcabaa
open Go.RowKit

/-- The same disk, whose zones lie elsewhere. -/
@[reducible] def Dk.re (d : Dk) (za : Option Addr) (zb zo zc : Nat) : Dk := { d with za := za, zb := zb, zo := zo, zc := zc }
theorem Dk.re_ok {d : Dk} {za : Option Addr} {zb zo zc : Nat} : (d.re za zb zo zc).Ok ↔ d.Ok :=
  ⟨fun h => ⟨h.hd1, h.hd4, h.tu1, h.tu2, h.zl1, h.zl4, h.hs0, h.hs1, h.cs0, h.cs1, h.zok, h.hl0, h.hl1, h.hh2, h.cl0, h.cl1, h.ch2⟩, fun h => ⟨h.hd1, h.hd4, h.tu1, h.tu2, h.zl1, h.zl4, h.hs0, h.hs1, h.cs0, h.cs1, h.zok, h.hl0, h.hl1, h.hh2, h.cl0, h.cl1, h.ch2⟩⟩
theorem Dk.re_err (d : Dk) (za : Option Addr) (zb zo zc : Nat) : (d.re za zb zo zc).err = d.err := by
  unfold Dk.err
  by_cases h : d.Ok
  · rw [if_pos h, if_pos (Dk.re_ok.2 h)]
  · rw [if_neg h, if_neg (fun h' => h (Dk.re_ok.1 h'))]
theorem Dk.re_secErr (d : Dk) (za : Option Addr) (zb zo zc : Nat) (n : Int) : (d.re za zb zo zc).secErr n = d.secErr n := by
  unfold Dk.secErr
  by_cases h : d.Ok
  · rw [if_pos h, if_pos (Dk.re_ok.2 h)]; rfl
  · rw [if_neg h, if_neg (fun h' => h (Dk.re_ok.1 h'))]
theorem far_len {d : Dk} (h : ¬ d.far) : d.zs.length ≤ 1000000 := by
  rcases Nat.lt_or_ge 20 d.zs.length with h1 | h1
  · exact absurd (.inl h1) h
  · omega
theorem Dk.secErr_zero {d : Dk} {n : Int} (h : d.secErr n = 0) : d.Ok ∧ 0 ≤ n ∧ n < d.count := by
  unfold Dk.secErr at h
  split at h
  · rename_i ok
    split at h
    · rename_i hn; exact ⟨ok, hn⟩
    · cases h
  · cases h
theorem Dk.sec_len {d : Dk} {n : Int} (h : d.secErr n = 0) : n.toNat < (places d).length ∧ (n.toNat : Int) = n := by
  obtain ⟨ok, h0, h1⟩ := Dk.secErr_zero h
  have := ok.lenPl
  unfold lenPlaces at this
  omega

theorem places_pos {d : Dk} (ok : d.Ok) : 0 < (places d).length := by
  have hcnt : 0 < d.count := by
    have h1 := ok.zl1
    have hk : ∀ k, k ≤ d.zs.length → (k : Int) ≤ psum (cntF d.hd) d.zs k := by
      intro k
      induction k with
      | zero => intro _; simp [psum_zero]
      | succ k ih =>
        intro hk
        have h2 := ih (by omega)
        rw [psum_succ _ (show k < d.zs.length by omega)]
        obtain ⟨z1, z2, z3, z4, _⟩ := ok.zok _ (List.getElem_mem (show k < d.zs.length by omega))
        have h3 : 1 ≤ cntF d.hd d.zs[k] := by
          unfold cntF
          have g1 : 0 < d.zs[k].1 * d.zs[k].2 := Int.mul_pos (by omega) (by omega)
          have := Int.mul_pos g1 (show 0 < d.hd by have := ok.hd1; omega)
          omega
        omega
    have := hk d.zs.length (Nat.le_refl _)
    unfold Dk.count
    omega
  have := ok.lenPl
  unfold lenPlaces at this
  omega

noncomputable def Dk.sizeR (d : Dk) : Int := if d.err = 0 then d.count else 0
open Classical in
noncomputable def Dk.numR (d : Dk) (p : Pl) : Int × Int := if d.Ok then (numOf d p, numErr d p) else (0, 10)
def Dk.plAt (d : Dk) (n : Int) : Pl := (places d).getD n.toNat (0, 0, 0)
noncomputable def Dk.plR (d : Dk) (n : Int) : Pl := if d.secErr n = 0 then d.plAt n else (0, 0, 0)

theorem u18 (d : Dk) (w : World) (hz : Zs w d) (hm : d.zs.length ≤ 1000000) : Calls Try.prog 18 #[d.v] w fun e w' => e = .returned (.tuple #[.int .i64 d.sizeR, .int .i64 d.err]) ∧ Below w.heap.size w w' := c18 d w hz hm
theorem u19 (d : Dk) (w : World) (hz : Zs w d) (hm : d.zs.length ≤ 1000000) : Calls Try.prog 19 #[d.v] w fun e w' => e = .returned (.tuple #[.int .i64 d.sizeR, .int .i64 d.err]) ∧ Below w.heap.size w w' := c19 d w hz hm
theorem u20 (d : Dk) (a b s : Int) (w : World) (hz : Zs w d) (hm : d.zs.length ≤ 1000000) : Calls Try.prog 20 #[d.v, .agg #[.int .i64 a, .int .i64 b, .int .i64 s]] w fun e w' => e = .returned (.tuple #[.int .i64 (d.numR (a, b, s)).1, .int .i64 (d.numR (a, b, s)).2]) ∧ Below w.heap.size w w' := by
  unfold Dk.numR
  by_cases ok : d.Ok
  · rw [if_pos ok]; exact c20_ok d ok a b s w hz
  · rw [if_neg ok]; exact c20_err d ok hm a b s w hz
theorem u21 (d : Dk) (a b s : Int) (w : World) (hz : Zs w d) (hm : d.zs.length ≤ 1000000) : Calls Try.prog 21 #[d.v, .agg #[.int .i64 a, .int .i64 b, .int .i64 s]] w fun e w' => e = .returned (.tuple #[.int .i64 (d.numR (a, b, s)).1, .int .i64 (d.numR (a, b, s)).2]) ∧ Below w.heap.size w w' := by
  unfold Dk.numR
  by_cases ok : d.Ok
  · rw [if_pos ok]; exact c21_ok d a b s w hz ok (places_pos ok)
  · rw [if_neg ok]; exact c21_err d a b s w hz hm ok
theorem u22 (d : Dk) (n : Int) (w : World) (hz : Zs w d) (hm : d.zs.length ≤ 1000000) : Calls Try.prog 22 #[d.v, .int .i64 n] w fun e w' => e = .returned (.tuple #[.agg #[.int .i64 (d.plR n).1, .int .i64 (d.plR n).2.1, .int .i64 (d.plR n).2.2], .int .i64 (d.secErr n)]) ∧ Below w.heap.size w w' := by
  unfold Dk.plR
  by_cases h : d.secErr n = 0
  · obtain ⟨h1, h2⟩ := Dk.sec_len h
    rw [if_pos h, h]
    have := c22_ok d n.toNat w hz (Dk.secErr_zero h).1 h1
    rw [h2] at this
    unfold Dk.plAt
    rw [List.getD_eq_getElem?_getD, List.getElem?_eq_getElem h1]
    exact this
  · rw [if_neg h]; exact c22_err d n w hz hm h
theorem u23 (d : Dk) (n : Int) (w : World) (hz : Zs w d) (hm : d.zs.length ≤ 1000000) : Calls Try.prog 23 #[d.v, .int .i64 n] w fun e w' => e = .returned (.tuple #[.agg #[.int .i64 (d.plR n).1, .int .i64 (d.plR n).2.1, .int .i64 (d.plR n).2.2], .int .i64 (d.secErr n)]) ∧ Below w.heap.size w w' := by
  unfold Dk.plR
  by_cases h : d.secErr n = 0
  · obtain ⟨h1, h2⟩ := Dk.sec_len h
    rw [if_pos h, h]
    have := c23_ok d n.toNat w hz (Dk.secErr_zero h).1 h1 (Dk.secErr_zero h).1.lenPl
    rw [h2] at this
    unfold Dk.plAt
    rw [List.getD_eq_getElem?_getD, List.getElem?_eq_getElem h1]
    exact this
  · rw [if_neg h]; exact c23_err d n w hz hm h
theorem Dk.re_sizeR (d : Dk) (za : Option Addr) (zb zo zc : Nat) : (d.re za zb zo zc).sizeR = d.sizeR := by unfold Dk.sizeR; rw [Dk.re_err]; rfl
theorem Dk.re_numR (d : Dk) (za : Option Addr) (zb zo zc : Nat) (p : Pl) : (d.re za zb zo zc).numR p = d.numR p := by
  unfold Dk.numR
  by_cases h : d.Ok
  · rw [if_pos h, if_pos (Dk.re_ok.2 h)]; rfl
  · rw [if_neg h, if_neg (fun h' => h (Dk.re_ok.1 h'))]
theorem Dk.re_plR (d : Dk) (za : Option Addr) (zb zo zc : Nat) (n : Int) : (d.re za zb zo zc).plR n = d.plR n := by unfold Dk.plR; rw [Dk.re_secErr]; rfl

/-- What a call on a copy answers. -/
theorem v16 (d : Dk) (za : Option Addr) (zb zo zc : Nat) (w : World) (hz : Zs w (d.re za zb zo zc)) (hm : d.zs.length ≤ 1000000) : Calls Try.prog 16 #[(d.re za zb zo zc).v] w fun e w' => e = .returned (.int .i64 d.err) ∧ Below w.heap.size w w' := by
  have := c16 (d.re za zb zo zc) w hz hm
  rwa [Dk.re_err] at this
theorem v18 (d : Dk) (za : Option Addr) (zb zo zc : Nat) (w : World) (hz : Zs w (d.re za zb zo zc)) (hm : d.zs.length ≤ 1000000) : Calls Try.prog 18 #[(d.re za zb zo zc).v] w fun e w' => e = .returned (.tuple #[.int .i64 d.sizeR, .int .i64 d.err]) ∧ Below w.heap.size w w' := by
  have := u18 (d.re za zb zo zc) w hz hm
  rwa [Dk.re_err, Dk.re_sizeR] at this
theorem v20 (d : Dk) (za : Option Addr) (zb zo zc : Nat) (a b s : Int) (w : World) (hz : Zs w (d.re za zb zo zc)) (hm : d.zs.length ≤ 1000000) : Calls Try.prog 20 #[(d.re za zb zo zc).v, .agg #[.int .i64 a, .int .i64 b, .int .i64 s]] w fun e w' => e = .returned (.tuple #[.int .i64 (d.numR (a, b, s)).1, .int .i64 (d.numR (a, b, s)).2]) ∧ Below w.heap.size w w' := by
  have := u20 (d.re za zb zo zc) a b s w hz hm
  rwa [Dk.re_numR] at this
theorem v22 (d : Dk) (za : Option Addr) (zb zo zc : Nat) (n : Int) (w : World) (hz : Zs w (d.re za zb zo zc)) (hm : d.zs.length ≤ 1000000) : Calls Try.prog 22 #[(d.re za zb zo zc).v, .int .i64 n] w fun e w' => e = .returned (.tuple #[.agg #[.int .i64 (d.plR n).1, .int .i64 (d.plR n).2.1, .int .i64 (d.plR n).2.2], .int .i64 (d.secErr n)]) ∧ Below w.heap.size w w' := by
  have := u22 (d.re za zb zo zc) n w hz hm
  rwa [Dk.re_plR, Dk.re_secErr] at this
end Go.Proofs.Ythkbiplmfbcabaa
