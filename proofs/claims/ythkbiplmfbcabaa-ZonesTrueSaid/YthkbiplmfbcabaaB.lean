/- Stage 1: the small functions of the reference. -/
import Derived.Test.YthkbiplmfbcabaaA
import Derived.Deep.QuietTactic
set_option linter.unusedSimpArgs false
set_option linter.unusedVariables false
namespace Go.Proofs.Ythkbiplmfbcabaa
open Go.RowKit

def psum (f : Int × Int → Int) (zs : List (Int × Int)) (k : Nat) : Int := ((zs.take k).map f).sum

theorem psum_zero (f : Int × Int → Int) (zs : List (Int × Int)) : psum f zs 0 = 0 := by simp [psum]
theorem psum_succ (f : Int × Int → Int) {zs : List (Int × Int)} {k : Nat} (h : k < zs.length) : psum f zs (k + 1) = psum f zs k + f zs[k] := by
  unfold psum
  rw [List.take_succ_eq_append_getElem h, List.map_append, List.sum_append]
  simp
theorem psum_bd {f : Int × Int → Int} {zs : List (Int × Int)} {M : Int} (hM : 0 ≤ M) (h : ∀ z ∈ zs, 0 ≤ f z ∧ f z ≤ M) (k : Nat) (hk : k ≤ zs.length) : 0 ≤ psum f zs k ∧ psum f zs k ≤ M * k := by
  induction k with
  | zero => simp [psum_zero]
  | succ k ih =>
    have h1 := ih (by omega)
    have h2 := h _ (List.getElem_mem (show k < zs.length by omega))
    rw [psum_succ f (show k < zs.length by omega)]
    have : M * ((k + 1 : Nat) : Int) = M * k + M := by rw [Int.natCast_succ, Int.mul_add, Int.mul_one]
    omega

def cntF (hd : Int) (z : Int × Int) : Int := z.1 * z.2 * hd
def cylF (z : Int × Int) : Int := z.1
def Dk.count (d : Dk) : Int := psum (cntF d.hd) d.zs d.zs.length
def Dk.cyls (d : Dk) : Int := psum cylF d.zs d.zs.length

theorem mul_le_mul_of {a b A B : Int} (ha : 0 ≤ a) (hb : 0 ≤ b) (h1 : a ≤ A) (h2 : b ≤ B) : 0 ≤ a * b ∧ a * b ≤ A * B :=
  ⟨Int.mul_nonneg ha hb, Int.mul_le_mul h1 h2 hb (by omega)⟩

theorem Dk.Ok.cnt {d : Dk} (ok : d.Ok) : ∀ z ∈ d.zs, 0 ≤ cntF d.hd z ∧ cntF d.hd z ≤ 1280 := by
  intro z hz
  obtain ⟨z1, z2, z3, z4, _⟩ := ok.zok z hz
  have h1 := mul_le_mul_of (show 0 ≤ z.1 by omega) (show 0 ≤ z.2 by omega) z2 z4
  have h2 := mul_le_mul_of h1.1 (show 0 ≤ d.hd by have := ok.hd1; omega) h1.2 ok.hd4
  exact h2
theorem Dk.Ok.cyl {d : Dk} (ok : d.Ok) : ∀ z ∈ d.zs, 0 ≤ cylF z ∧ cylF z ≤ 20 := by
  intro z hz
  obtain ⟨z1, z2, z3, z4, _⟩ := ok.zok z hz
  exact ⟨by unfold cylF; omega, z2⟩

set_option maxHeartbeats 1000000 in
theorem c42 (d : Dk) (w : World) (hz : Zs w d) (ok : d.Ok) :
    Calls Try.prog 42 #[d.v] w fun e w' => e = .returned (.int .i64 d.count) ∧ Below w.heap.size w w' := by
  have hl4 := ok.zl4
  have hcb := ok.cnt
  have hd1 := ok.hd1; have hd4 := ok.hd4
  obtain ⟨W0, hW0⟩ : ∃ W0 : World, W0 = w.alloc (.cells #[.int .i64 d.hd, .int .i64 d.tu, .slice d.za d.zs.length d.zc, .int .i64 d.hs, .int .i64 d.cs, .int .i64 d.hl, .int .i64 d.hh, .int .i64 d.cl, .int .i64 d.ch] 26) := ⟨_, rfl⟩
  have hB0 : Below w.heap.size w W0 := by rw [hW0]; exact (Below.refl _ _).alloc (Nat.le_refl _) _
  have hs0 : W0.heap.size = w.heap.size + 1 := by rw [hW0]; simp
  have okh := hid ok
  have hcbh := hid hcb
  clear ok hcb
  go_enter Try.func42, Try.ntmps42
  go_wp2
  rw [← hW0]
  go_loopw [3, 4] (fun n i wr => ∃ k : Nat, k ≤ d.zs.length ∧ i = .int .i64 k ∧ n = .int .i64 (psum (cntF d.hd) d.zs k) ∧ Below (w.heap.size + 1) W0 wr) (fun _ i _ => d.zs.length - (intOf i).toNat)
  case atStart => exact ⟨0, Nat.zero_le _, rfl, by rw [psum_zero], Below.refl _ _⟩
  case round =>
    obtain ⟨k, hk, rfl, rfl, hB⟩ := hrel
    have hsz : w.heap.size < wr.heap.size := by have := hB.size; omega
    clear hs0
    obtain ⟨hc, hf⟩ := bcell hB
    by_cases hlt : k < d.zs.length
    · have h1 := hz.c1 k hlt; have h2 := hz.c2 k hlt; have h3 := hz.lt k hlt; have h4 := hz.ix hlt
      have hp := psum_bd (by omega) hcbh.out k hk
      have hzz := hcbh.out _ (List.getElem_mem hlt)
      unfold cntF at hzz
      have hok := okZ_get okh.out.zok hlt
      have hm1 := mul_le_mul_of (show 0 ≤ d.zs[k].1 by have := hok.1; omega) (show 0 ≤ d.zs[k].2 by have := hok.2.2.1; omega) hok.2.1 hok.2.2.2.1
      have hps := hid (psum_succ (cntF d.hd) hlt)
      clear hok
      go_wp2_with fail
      go_quiet (fail)
      go_wp2
      go_roundw
      case rel => exact ⟨k + 1, by omega, by go_num, by rw [hps.out]; rfl, below_drewN hB _⟩
      case measure => simp [intOf]; omega
    · go_wp2_with fail
      go_returns
      obtain rfl : k = d.zs.length := by omega
      exact ⟨rfl, hB0.trans (hB.mono (by omega))⟩

theorem Dk.Ok.cntB {d : Dk} (ok : d.Ok) : 0 ≤ d.count ∧ d.count ≤ 5120 := by
  have h := psum_bd (by omega) ok.cnt d.zs.length (Nat.le_refl _)
  have := ok.zl4
  unfold Dk.count
  omega
theorem Dk.Ok.cylB {d : Dk} (ok : d.Ok) : 0 ≤ d.cyls ∧ d.cyls ≤ 80 := by
  have h := psum_bd (by omega) ok.cyl d.zs.length (Nat.le_refl _)
  have := ok.zl4
  unfold Dk.cyls
  omega

set_option maxHeartbeats 1000000 in
theorem c65 (d : Dk) (w : World) (hz : Zs w d) (ok : d.Ok) :
    Calls Try.prog 65 #[d.v] w fun e w' => e = .returned (.int .i64 d.cyls) ∧ Below w.heap.size w w' := by
  have hl4 := ok.zl4
  have hcb := ok.cyl
  obtain ⟨W0, hW0⟩ : ∃ W0 : World, W0 = w.alloc (.cells #[.int .i64 d.hd, .int .i64 d.tu, .slice d.za d.zs.length d.zc, .int .i64 d.hs, .int .i64 d.cs, .int .i64 d.hl, .int .i64 d.hh, .int .i64 d.cl, .int .i64 d.ch] 26) := ⟨_, rfl⟩
  have hB0 : Below w.heap.size w W0 := by rw [hW0]; exact (Below.refl _ _).alloc (Nat.le_refl _) _
  have hs0 : W0.heap.size = w.heap.size + 1 := by rw [hW0]; simp
  have hcbh := hid hcb
  clear ok hcb
  go_enter Try.func65, Try.ntmps65
  go_wp2
  rw [← hW0]
  go_loopw [3, 4] (fun n i wr => ∃ k : Nat, k ≤ d.zs.length ∧ i = .int .i64 k ∧ n = .int .i64 (psum cylF d.zs k) ∧ Below (w.heap.size + 1) W0 wr) (fun _ i _ => d.zs.length - (intOf i).toNat)
  case atStart => exact ⟨0, Nat.zero_le _, rfl, by rw [psum_zero], Below.refl _ _⟩
  case round =>
    obtain ⟨k, hk, rfl, rfl, hB⟩ := hrel
    have hsz : w.heap.size < wr.heap.size := by have := hB.size; omega
    clear hs0
    obtain ⟨hc, hf⟩ := bcell hB
    by_cases hlt : k < d.zs.length
    · have h1 := hz.c1 k hlt; have h3 := hz.lt k hlt; have h4 := hz.ix hlt
      have hp := psum_bd (by omega) hcbh.out k hk
      have hzz := hcbh.out _ (List.getElem_mem hlt)
      unfold cylF at hzz
      have hps := hid (psum_succ cylF hlt)
      go_wp2
      go_roundw
      case rel => exact ⟨k + 1, by omega, by go_num, by rw [hps.out]; rfl, hB⟩
      case measure => simp [intOf]; omega
    · go_wp2_with fail
      go_returns
      obtain rfl : k = d.zs.length := by omega
      exact ⟨rfl, hB0.trans (hB.mono (by omega))⟩

/-- The zone of a cylinder, and how many sectors its tracks have. -/
def zoneIx : List (Int × Int) → Int → Nat
  | [], _ => 0
  | z :: r, c => if c < z.1 then 0 else zoneIx r (c - z.1) + 1
def secOf : List (Int × Int) → Int → Int
  | [], _ => 0
  | z :: r, c => if c < z.1 then z.2 else secOf r (c - z.1)

theorem zoneIx_step {zs : List (Int × Int)} {c : Int} {k : Nat} (h : k < zs.length) :
    zoneIx (zs.drop k) c = if c < zs[k].1 then 0 else zoneIx (zs.drop (k + 1)) (c - zs[k].1) + 1 := by
  rw [List.drop_eq_getElem_cons h]; rfl
theorem secOf_zoneIx (zs : List (Int × Int)) (c : Int) (h : zoneIx zs c < zs.length) : zs[zoneIx zs c].2 = secOf zs c := by
  induction zs generalizing c with
  | nil => simp at h
  | cons z r ih =>
    by_cases hc : c < z.1
    · simp [zoneIx, secOf, hc]
    · simp only [zoneIx, secOf, hc, if_false] at h ⊢
      simp only [List.getElem_cons_succ]
      exact ih _ (by simpa using h)
theorem zoneIx_lt (zs : List (Int × Int)) (c : Int) (h : c < psum cylF zs zs.length) (h0 : 0 ≤ c) : zoneIx zs c < zs.length := by
  induction zs generalizing c with
  | nil => simp [psum] at h; omega
  | cons z r ih =>
    by_cases hc : c < z.1
    · simp [zoneIx, hc]
    · simp only [zoneIx, hc, if_false, List.length_cons]
      have := ih (c - z.1) (by simp [psum, cylF] at h ⊢; omega) (by omega)
      omega

set_option maxHeartbeats 1000000 in
theorem c69 (d : Dk) (c : Int) (w : World) (hz : Zs w d) (ok : d.Ok) (h0 : 0 ≤ c) (h9 : c < d.cyls) :
    Calls Try.prog 69 #[d.v, .int .i64 c] w fun e w' => e = .returned (.int .i64 (zoneIx d.zs c)) ∧ Below w.heap.size w w' := by
  have hl4 := ok.zl4
  have hcb := ok.cyl
  have hcB := ok.cylB
  have hZ := zoneIx_lt d.zs c h9 h0
  obtain ⟨W0, hW0⟩ : ∃ W0 : World, W0 = w.alloc (.cells #[.int .i64 d.hd, .int .i64 d.tu, .slice d.za d.zs.length d.zc, .int .i64 d.hs, .int .i64 d.cs, .int .i64 d.hl, .int .i64 d.hh, .int .i64 d.cl, .int .i64 d.ch] 26) := ⟨_, rfl⟩
  have hB0 : Below w.heap.size w W0 := by rw [hW0]; exact (Below.refl _ _).alloc (Nat.le_refl _) _
  have hs0 : W0.heap.size = w.heap.size + 1 := by rw [hW0]; simp
  have hcbh := hid hcb
  clear ok hcb
  go_enter Try.func69, Try.ntmps69
  go_wp2
  rw [← hW0]
  go_loopw [1, 5] (fun c' i wr => ∃ (k : Nat) (x : Int), k ≤ d.zs.length ∧ i = .int .i64 k ∧ c' = .int .i64 x ∧ 0 ≤ x ∧ x ≤ 80 ∧ zoneIx d.zs c = k + zoneIx (d.zs.drop k) x ∧ Below (w.heap.size + 1) W0 wr) (fun _ i _ => d.zs.length - (intOf i).toNat)
  case atStart => exact ⟨0, c, Nat.zero_le _, rfl, rfl, h0, by omega, by simp, Below.refl _ _⟩
  case round =>
    obtain ⟨k, x, hk, rfl, rfl, hx0, hx1, hx, hB⟩ := hrel
    have hsz : w.heap.size < wr.heap.size := by have := hB.size; omega
    clear hs0
    obtain ⟨hc, hf⟩ := bcell hB
    by_cases hlt : k < d.zs.length
    · have h1 := hz.c1 k hlt; have h3 := hz.lt k hlt; have h4 := hz.ix hlt
      rw [zoneIx_step hlt] at hx
      have hxx := hid hx
      clear hx
      have hzz := hcbh.out _ (List.getElem_mem hlt)
      unfold cylF at hzz
      by_cases hxz : x < d.zs[k].1
      · go_wp2
        go_returns
        have hx := hxx.out
        rw [if_pos hxz] at hx
        exact ⟨by rw [hx]; go_num, hB0.trans (hB.mono (by omega))⟩
      · go_wp2
        go_roundw
        case rel =>
          have hx := hxx.out
          rw [if_neg hxz] at hx
          exact ⟨k + 1, x - d.zs[k].1, by omega, by go_num, rfl, by omega, by omega, by omega, hB⟩
        case measure => simp [intOf]; omega
    · exfalso
      obtain rfl : k = d.zs.length := by omega
      simp [zoneIx] at hx
      omega
end Go.Proofs.Ythkbiplmfbcabaa
