/- Stage 1: from one place to the next. -/
import Derived.Test.YthkbiplmfbcabaaC2
import Derived.Test.YthkbiplmfbcabaaA3
import Derived.Test.YthkbiplmfbcabaaR2
set_option linter.unusedSimpArgs false
set_option linter.unusedVariables false
namespace Go.Proofs.Ythkbiplmfbcabaa
open Go.RowKit

theorem plN_mem {d : Dk} {i : Nat} (h : i < (places d).length) : plN d i ∈ places d := by rw [← plN_get h]; exact List.getElem_mem h

theorem next_place {d : Dk} (ok : d.Ok) {i : Nat} (hi : i + 1 < (places d).length) :
    (plN d (i + 1) = ((plN d i).1, (plN d i).2.1, (plN d i).2.2 + 1) ∧ (plN d i).2.2 + 1 < secOf d.zs (plN d i).1) ∨
    ((plN d i).2.2 + 1 = secOf d.zs (plN d i).1 ∧ (plN d i).2.1 + 1 < d.hd ∧ plN d (i + 1) = ((plN d i).1, (plN d i).2.1 + 1, 0)) ∨
    ((plN d i).2.2 + 1 = secOf d.zs (plN d i).1 ∧ (plN d i).2.1 + 1 = d.hd ∧ (plN d i).1 + 1 < d.cyls ∧ plN d (i + 1) = ((plN d i).1 + 1, 0, 0)) := by
  have hcnt := ok.lenPl
  have hB := ok.cntB
  have hd1 := ok.hd1
  unfold lenPlaces at hcnt
  obtain ⟨y, h, hy, hh, _, hhas⟩ := coverD ok (i : Int) (by omega) (by omega)
  obtain ⟨hl, hp⟩ := place_atD ok hy hh hhas
  rw [plN_get hl] at hp
  rw [hp]
  dsimp only
  have h3 : firstOf d.ck y h ≤ (i : Int) := hhas.1
  have h4 : (i : Int) < firstOf d.ck y h + secOf d.zs y := hhas.2
  have hs := ok.sec (c := (y : Int)) (by omega) hy
  by_cases hsame : (i : Int) + 1 < firstOf d.ck y h + secOf d.zs y
  · left
    obtain ⟨hl2, hp2⟩ := place_atD ok hy hh (n := i + 1) ⟨by show firstOf d.ck y h ≤ _; omega, by show _ < firstOf d.ck y h + secOf d.zs y; omega⟩
    rw [plN_get hl2] at hp2
    rw [hp2]
    refine ⟨?_, by omega⟩
    simp only [Prod.mk.injEq, true_and]
    omega
  · right
    have hf : firstOf d.ck y (h + 1) = firstOf d.ck y h + secOf d.zs y := firstOf_succ d.ck y h (show 0 ≤ secOf d.zs y by omega)
    by_cases hh2 : (h : Int) + 1 < d.hd
    · left
      obtain ⟨hl2, hp2⟩ := place_atD ok hy (h := h + 1) (by omega) (n := i + 1) ⟨by show firstOf d.ck y (h + 1) ≤ _; omega, by show _ < firstOf d.ck y (h + 1) + secOf d.zs y; omega⟩
      rw [plN_get hl2] at hp2
      rw [hp2]
      refine ⟨by omega, hh2, ?_⟩
      simp only [Prod.mk.injEq, true_and]
      omega
    · right
      have hhe : h + 1 = d.hd.toNat := by omega
      have hfn : firstOf d.ck y (h + 1) = firstOf d.ck (y + 1) 0 := by rw [hhe]; exact firstOf_next d.ck y
      have hy2 : (y : Int) + 1 < d.cyls := by
        rcases Int.lt_or_le ((y : Int) + 1) d.cyls with h5 | h5
        · exact h5
        · exfalso
          have hye : y + 1 = d.cyls.toNat := by omega
          have h6 : firstOf d.ck (y + 1) 0 = (places d).length := by
            rw [hye]
            unfold firstOf places
            rw [plH_zero, List.append_nil]
            rfl
          omega
      have hs2 := ok.sec (c := ((y + 1 : Nat) : Int)) (by omega) (by omega)
      obtain ⟨hl2, hp2⟩ := place_atD ok (y := y + 1) (h := 0) (by omega) (by omega) (n := i + 1) ⟨by show firstOf d.ck (y + 1) 0 ≤ _; omega, by show _ < firstOf d.ck (y + 1) 0 + secOf d.zs ((y + 1 : Nat) : Int); omega⟩
      rw [plN_get hl2] at hp2
      rw [hp2]
      refine ⟨by omega, by omega, hy2, ?_⟩
      simp only [Prod.mk.injEq]
      omega

theorem sec_ticks {d : Dk} (ok : d.Ok) {c : Int} (h0 : 0 ≤ c) (h1 : c < d.cyls) : secOf d.zs c * (d.tu / secOf d.zs c) = d.tu := by
  obtain ⟨s1, s2, s3⟩ := ok.sec h0 h1
  have := Int.mul_ediv_add_emod d.tu (secOf d.zs c)
  omega
def skewK (d : Dk) (k : Int) : Int := if k = 1 then d.hs else if k = 2 then d.cs else 0
theorem mod_n0 (tu A X T : Int) : ((((A % tu + X) % tu + T) % tu) + 0) % tu = (A % tu + (X + T)) % tu := by
  rw [Int.add_zero, Int.emod_emod, Int.emod_add_emod, Int.add_assoc]
theorem mod_n1 {tu X T : Int} (A k : Int) (h : X + T = tu) : ((((A % tu + X) % tu + T) % tu) + k) % tu = (A + k) % tu := by
  have e1 : ((A % tu + X) % tu + T) % tu = A % tu := by rw [Int.emod_add_emod, Int.add_assoc, h, Int.add_emod_right, Int.emod_emod]
  rw [e1, Int.emod_add_emod]
/-- The next sector begins at the end of this one, and the skew of the switch behind it. -/
theorem next_begins {d : Dk} (ok : d.Ok) {i : Nat} (hi : i + 1 < (places d).length) :
    ((begAt d (plN d i) + d.tu / secOf d.zs (plN d i).1) % d.tu + skewK d (kindAt d i)) % d.tu = begAt d (plN d (i + 1)) := by
  obtain ⟨m1, m2, m3, m4, m5, m6⟩ := mem_places (plN_mem (d := d) (i := i) (by omega))
  have hst := sec_ticks ok m1 m2
  have tu1 := ok.tu1
  unfold kindAt
  rcases next_place ok hi with ⟨hq, h1⟩ | ⟨h1, h2, hq⟩ | ⟨h1, h2, h3, hq⟩
  · rw [hq]
    unfold kindOf skewK
    rw [if_pos rfl, if_pos rfl, if_neg (by omega), if_neg (by omega)]
    refine (mod_n0 _ _ _ _).trans ?_
    unfold begAt begV
    dsimp only
    rw [show ((plN d i).2.2 + 1) * (d.tu / secOf d.zs (plN d i).1) = (plN d i).2.2 * (d.tu / secOf d.zs (plN d i).1) + d.tu / secOf d.zs (plN d i).1 by rw [Int.add_mul, Int.one_mul]]
  · rw [hq]
    have e : (plN d i).2.1 + 1 ≠ (plN d i).2.1 := by omega
    have e2 : (plN d i).2.2 * (d.tu / secOf d.zs (plN d i).1) + d.tu / secOf d.zs (plN d i).1 = d.tu := by
      have : ((plN d i).2.2 + 1) * (d.tu / secOf d.zs (plN d i).1) = d.tu := by rw [h1]; exact hst
      rw [Int.add_mul, Int.one_mul] at this
      exact this
    unfold kindOf skewK
    dsimp only
    rw [if_pos rfl, if_neg e, if_pos rfl]
    refine (mod_n1 _ _ e2).trans ?_
    unfold begAt begV
    dsimp only
    rw [Int.zero_mul, Int.add_zero, Int.emod_emod]
    congr 1
    rw [show (plN d i).1 * (d.hd - 1) + ((plN d i).2.1 + 1) = ((plN d i).1 * (d.hd - 1) + (plN d i).2.1) + 1 by omega, Int.add_mul _ 1 d.hs]
    omega
  · rw [hq]
    have e : (plN d i).1 + 1 ≠ (plN d i).1 := by omega
    have e2 : (plN d i).2.2 * (d.tu / secOf d.zs (plN d i).1) + d.tu / secOf d.zs (plN d i).1 = d.tu := by
      have : ((plN d i).2.2 + 1) * (d.tu / secOf d.zs (plN d i).1) = d.tu := by rw [h1]; exact hst
      rw [Int.add_mul, Int.one_mul] at this
      exact this
    unfold kindOf skewK
    dsimp only
    rw [if_neg e, if_neg (by omega), if_pos rfl]
    refine (mod_n1 _ _ e2).trans ?_
    unfold begAt begV
    dsimp only
    rw [Int.zero_mul, Int.add_zero, Int.emod_emod]
    congr 1
    have e3 : (plN d i).2.1 = d.hd - 1 := by omega
    rw [e3, Int.add_mul (plN d i).1 1 d.cs, Int.add_mul (plN d i).1 1 (d.hd - 1), Int.add_zero, Int.one_mul, Int.one_mul]
    omega
end Go.Proofs.Ythkbiplmfbcabaa
