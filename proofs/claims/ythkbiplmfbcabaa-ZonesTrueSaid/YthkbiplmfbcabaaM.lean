/- Stage 1: plain facts on places: how many there are, and what they are. -/
import Derived.Test.YthkbiplmfbcabaaE
set_option linter.unusedSimpArgs false
set_option linter.unusedVariables false
namespace Go.Proofs.Ythkbiplmfbcabaa
open Go.RowKit

theorem mem_places {d : Dk} {p : Pl} (h : p ∈ places d) : 0 ≤ p.1 ∧ p.1 < d.cyls ∧ 0 ≤ p.2.1 ∧ p.2.1 < d.hd ∧ 0 ≤ p.2.2 ∧ p.2.2 < secOf d.zs p.1 := by
  simp only [places, plC, plH, plS, List.mem_flatMap, List.mem_map, List.mem_range] at h
  obtain ⟨c, hc, h, hh, s, hs, rfl⟩ := h
  simp only
  omega

def sumSec (zs : List (Int × Int)) : Nat → Nat
  | 0 => 0
  | c + 1 => sumSec zs c + (secOf zs c).toNat

theorem plH_length (d : Dk) (c h : Nat) : (plH d c h).length = h * (secOf d.zs c).toNat := by
  induction h with
  | zero => simp [plH]
  | succ h ih => rw [plH_succ, List.length_append, plS_len, ih, Nat.succ_mul]
theorem plC_length (d : Dk) (c : Nat) : (plC d c).length = sumSec d.zs c * d.hd.toNat := by
  induction c with
  | zero => simp [plC, sumSec]
  | succ c ih => rw [plC_succ, List.length_append, ih, plH_length, sumSec, Nat.add_mul, Nat.mul_comm d.hd.toNat]

theorem sumSec_in (z : Int × Int) (r : List (Int × Int)) (c : Nat) (h : (c : Int) ≤ z.1) : sumSec (z :: r) c = c * z.2.toNat := by
  induction c with
  | zero => simp [sumSec]
  | succ c ih =>
    rw [sumSec, ih (by omega), secOf, if_pos (by omega), Nat.succ_mul]
theorem sumSec_out (z : Int × Int) (r : List (Int × Int)) (h0 : 0 ≤ z.1) (b : Nat) : sumSec (z :: r) (z.1.toNat + b) = z.1.toNat * z.2.toNat + sumSec r b := by
  induction b with
  | zero => rw [Nat.add_zero, sumSec_in _ _ _ (by omega)]; rfl
  | succ b ih =>
    rw [← Nat.add_assoc, sumSec, ih, secOf, if_neg (by omega), sumSec]
    have : ((z.1.toNat + b : Nat) : Int) - z.1 = (b : Int) := by omega
    rw [this]; omega

theorem sumSec_all (hd : Int) (hh : 0 ≤ hd) (zs : List (Int × Int)) (h : ∀ z ∈ zs, 0 ≤ z.1 ∧ 0 ≤ z.2) :
    ((sumSec zs (psum cylF zs zs.length).toNat * hd.toNat : Nat) : Int) = psum (cntF hd) zs zs.length ∧ 0 ≤ psum cylF zs zs.length := by
  induction zs with
  | nil => simp [psum, sumSec]
  | cons z r ih =>
    obtain ⟨i1, i2⟩ := ih (fun x hx => h x (List.mem_cons_of_mem _ hx))
    obtain ⟨z1, z2⟩ := h z List.mem_cons_self
    have e1 : psum cylF (z :: r) (z :: r).length = z.1 + psum cylF r r.length := by simp [psum, cylF]
    have e2 : psum (cntF hd) (z :: r) (z :: r).length = z.1 * z.2 * hd + psum (cntF hd) r r.length := by simp [psum, cntF]
    rw [e1, e2]
    refine ⟨?_, by omega⟩
    have e3 : (z.1 + psum cylF r r.length).toNat = z.1.toNat + (psum cylF r r.length).toNat := by omega
    rw [e3, sumSec_out _ _ z1, Nat.add_mul, Int.natCast_add, i1]
    congr 1
    rw [Int.natCast_mul, Int.natCast_mul, Int.toNat_of_nonneg z1, Int.toNat_of_nonneg z2, Int.toNat_of_nonneg hh]

theorem Dk.Ok.lenPl {d : Dk} (ok : d.Ok) : lenPlaces d := by
  have hd := ok.hd1
  have h := (sumSec_all d.hd (by omega) d.zs (fun z hz => by obtain ⟨z1, _, z3, _⟩ := ok.zok z hz; omega)).1
  unfold lenPlaces places
  rw [plC_length]
  unfold Dk.count Dk.cyls
  omega
end Go.Proofs.Ythkbiplmfbcabaa
