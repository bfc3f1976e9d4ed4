/- Stage 2, plain mathematics: the code of a number. -/
import Derived.Laws.BitsAllLaws
import Derived.Laws.BitsLemmas
import Derived.IntWalk
set_option linter.unusedSimpArgs false
set_option linter.unusedVariables false
namespace Go.Proofs.Ytfpfnjdnfiihhaa

def gray (n : Nat) : Nat := n ^^^ (n / 2)
def trkGo : Nat → Nat → Nat → Nat
  | 0, acc, _ => acc
  | k + 1, acc, c => if c = 0 then acc else trkGo k (acc ^^^ c) (c / 2)
/-- The number that has a code. -/
def trk (c : Nat) : Nat := trkGo 8 0 c
theorem gray_all : ∀ n : Fin 128, gray n.val < 128 ∧ trk (gray n.val) = n.val := by decide +kernel
theorem trk_all : ∀ n : Fin 128, trk n.val < 128 ∧ gray (trk n.val) = n.val := by decide +kernel
theorem gray_lt {n : Nat} (h : n < 128) : gray n < 128 := (gray_all ⟨n, h⟩).1
theorem trk_gray {n : Nat} (h : n < 128) : trk (gray n) = n := (gray_all ⟨n, h⟩).2
theorem trk_lt {n : Nat} (h : n < 128) : trk n < 128 := (trk_all ⟨n, h⟩).1
theorem gray_trk {n : Nat} (h : n < 128) : gray (trk n) = n := (trk_all ⟨n, h⟩).2
theorem trkGo_step {k acc c : Nat} (h : 0 < c) : trkGo (k + 1) acc c = trkGo k (acc ^^^ c) (c / 2) := by
  simp only [trkGo]
  rw [if_neg (by omega)]
theorem trkGo_zero (k acc : Nat) : trkGo k acc 0 = acc := by cases k <;> simp [trkGo]
theorem xor_lt128 {a b : Nat} (ha : a < 128) (hb : b < 128) : a ^^^ b < 128 := Nat.xor_lt_two_pow (n := 7) ha hb

/-- The bits of two numbers that are not negative, in a machine's word. -/
theorem xor_i64 {a b : Nat} (ha : a < 9223372036854775808) (hb : b < 9223372036854775808) : bits .xor .i64 (a : Int) (b : Int) = ((a ^^^ b : Nat) : Int) := by
  have h : a ^^^ b < 2 ^ 63 := Nat.xor_lt_two_pow (by omega) (by omega)
  simp only [bits, BitVec.ofInt_natCast, BitVec.toNat_xor, BitVec.toNat_ofNat]
  rw [Nat.mod_eq_of_lt (show a < 2 ^ IntKind.i64.bits by show a < 2 ^ 64; omega), Nat.mod_eq_of_lt (show b < 2 ^ IntKind.i64.bits by show b < 2 ^ 64; omega)]
  exact IntWalk.i64_in _ (by omega)
theorem and_i64 {a b : Nat} (ha : a < 9223372036854775808) (hb : b < 9223372036854775808) : bits .and .i64 (a : Int) (b : Int) = ((a &&& b : Nat) : Int) :=
  (bits_nat .i64 63 (by decide) (fun n h1 h2 => IntWalk.i64_in n (by omega)) a b (by omega) (by omega)).1
theorem or_i64 {a b : Nat} (ha : a < 9223372036854775808) (hb : b < 9223372036854775808) : bits .or .i64 (a : Int) (b : Int) = ((a ||| b : Nat) : Int) :=
  (bits_nat .i64 63 (by decide) (fun n h1 h2 => IntWalk.i64_in n (by omega)) a b (by omega) (by omega)).2
theorem bv_andnot (x y : BitVec 64) : x &&& ~~~y = x ^^^ (x &&& y) := by
  ext i
  simp
  cases x[i] <;> cases y[i] <;> rfl
theorem andnot_i64 {a b : Nat} (ha : a < 9223372036854775808) (hb : b < 9223372036854775808) : bits .andNot .i64 (a : Int) (b : Int) = ((a ^^^ (a &&& b) : Nat) : Int) := by
  have h : a ^^^ (a &&& b) < 2 ^ 63 := Nat.xor_lt_two_pow (by omega) (Nat.and_lt_two_pow _ (by omega))
  simp only [bits, BitVec.ofInt_natCast]
  show IntKind.i64.wrap ((BitVec.ofNat 64 a &&& ~~~BitVec.ofNat 64 b).toNat : Int) = _
  rw [bv_andnot (BitVec.ofNat 64 a) (BitVec.ofNat 64 b)]
  simp only [BitVec.toNat_xor, BitVec.toNat_and, BitVec.toNat_ofNat]
  rw [Nat.mod_eq_of_lt (show a < 2 ^ 64 by omega), Nat.mod_eq_of_lt (show b < 2 ^ 64 by omega)]
  exact IntWalk.i64_in _ (by omega)
/-- How many bits are set, of those below the place i. -/
def pc (x : Nat) : Nat → Nat
  | 0 => 0
  | i + 1 => pc x i + x / 2 ^ i % 2
theorem pc_le (x : Nat) : ∀ i, pc x i ≤ i
  | 0 => Nat.le_refl _
  | i + 1 => by have := pc_le x i; simp only [pc]; omega
theorem pc_gray : ∀ n : Fin 127, pc (gray n.val ^^^ gray (n.val + 1)) 7 = 1 := by decide +kernel
theorem low_and {a M : Nat} (ha : a < 128) : a &&& M = a &&& (M % 128) := by
  have h1 : M % 128 = M &&& 127 := (Nat.and_two_pow_sub_one_eq_mod M 7).symm
  have h2 : a &&& 127 = a := by
    have := Nat.and_two_pow_sub_one_eq_mod a 7
    rw [show (2 ^ 7 - 1 : Nat) = 127 by rfl] at this
    rw [this]; omega
  rw [h1, Nat.and_comm M 127, ← Nat.and_assoc, h2]
/-- A mixture of the bits of two numbers. -/
def mixB (a b M : Nat) : Nat := (a &&& M) ||| (b ^^^ (b &&& M))
theorem mix_gray0 : ∀ n : Fin 127, ∀ m : Fin 128, mixB (gray n.val) (gray (n.val + 1)) m.val = gray n.val ∨ mixB (gray n.val) (gray (n.val + 1)) m.val = gray (n.val + 1) := by decide +kernel
theorem mix_gray {n : Nat} (M : Nat) (h : n < 127) : mixB (gray n) (gray (n + 1)) M = gray n ∨ mixB (gray n) (gray (n + 1)) M = gray (n + 1) := by
  have h0 := mix_gray0 ⟨n, h⟩ ⟨M % 128, Nat.mod_lt _ (by omega)⟩
  unfold mixB at h0 ⊢
  rw [low_and (M := M) (gray_lt (by omega)), low_and (a := gray (n + 1)) (M := M) (gray_lt (by omega))]
  exact h0
end Go.Proofs.Ytfpfnjdnfiihhaa
