/- Stage 2, plain mathematics: the code of a number. -/
import Derived.Laws.BitsAllLaws
import Derived.Laws.BitsLemmas
set_option linter.unusedSimpArgs false
set_option linter.unusedVariables false
namespace Go.Proofs.Ytfpfnjdnfiihhaa

def gray (n : Nat) : Nat := n ^^^ (n / 2)
def trkGo : Nat → Nat → Nat → Nat
  | 0, acc, _ => acc
  | k + 1, acc, c => if c = 0 then acc else trkGo k (acc ^^^ c) (c / 2)
/-- The number that has a code. -/
def trk (c : Nat) : Nat := trkGo 8 0 c
theorem gray_all : ∀ n : Fin 128, gray n.val < 128 ∧ trk (gray n.val) = n.val := by decide +kernel
theorem trk_all : ∀ n : Fin 128, trk n.val < 128 ∧ gray (trk n.val) = n.val := by decide +kernel
theorem gray_lt {n : Nat} (h : n < 128) : gray n < 128 := (gray_all ⟨n, h⟩).1
theorem trk_gray {n : Nat} (h : n < 128) : trk (gray n) = n := (gray_all ⟨n, h⟩).2
theorem trk_lt {n : Nat} (h : n < 128) : trk n < 128 := (trk_all ⟨n, h⟩).1
theorem gray_trk {n : Nat} (h : n < 128) : gray (trk n) = n := (trk_all ⟨n, h⟩).2
theorem trkGo_step {k acc c : Nat} (h : 0 < c) : trkGo (k + 1) acc c = trkGo k (acc ^^^ c) (c / 2) := by
  simp only [trkGo]
  rw [if_neg (by omega)]
theorem trkGo_zero (k acc : Nat) : trkGo k acc 0 = acc := by cases k <;> simp [trkGo]
theorem xor_lt128 {a b : Nat} (ha : a < 128) (hb : b < 128) : a ^^^ b < 128 := Nat.xor_lt_two_pow (n := 7) ha hb

theorem nat_i64 (a : Nat) (ha : a < 9223372036854775808) : (BitVec.ofInt 64 (a : Int)).toNat = a := by
  rw [BitVec.ofInt_natCast, BitVec.toNat_ofNat]
  exact Nat.mod_eq_of_lt (by omega)
theorem xor_i64 {a b : Nat} (ha : a < 9223372036854775808) (hb : b < 9223372036854775808) : bits .xor .i64 (a : Int) (b : Int) = ((a ^^^ b : Nat) : Int) := by
  have hx : a ^^^ b < 2 ^ 63 := Nat.xor_lt_two_pow (by omega) (by omega)
  show IntKind.i64.wrap ((BitVec.ofInt 64 (a : Int) ^^^ BitVec.ofInt 64 (b : Int)).toNat : Int) = _
  rw [BitVec.toNat_xor, nat_i64 a ha, nat_i64 b hb, IntKind.wrap_i64]
  omega
end Go.Proofs.Ytfpfnjdnfiihhaa
