/- Stage 2: the closure that tells whether a wedge agrees with a position. -/
import Derived.Test.YtfpfnjdnfiihhaaG
set_option linter.unusedSimpArgs false
set_option linter.unusedVariables false
namespace Go.Proofs.Ytfpfnjdnfiihhaa
open Go.RowKit

/-- The cells that the closure has captured. -/
structure AgC (s : Sv) (g : Wg) (i base : Nat) (w : World) (t h u : Nat) : Prop where
  t1 : base ≤ t
  h1 : base ≤ h
  u1 : base ≤ u
  t2 : t < w.heap.size
  h2 : h < w.heap.size
  u2 : u < w.heap.size
  ct : w.cell? ⟨t, 0, none⟩ = some (.int .i64 (s.at_ (trk (g.wc i).toNat) i))
  c1 : w.cell? ⟨h, 1, none⟩ = some (.int .i64 s.st)
  c3 : w.cell? ⟨h, 3, none⟩ = some (.int .i64 s.no)
  cu : w.cell? ⟨u, 1, none⟩ = some (.int .i64 (g.wu i))
  ag : ∀ p : Nat, agr s g i p = true ↔ ((-s.st ≤ 2 * ((p : Int) - s.at_ (trk (g.wc i).toNat) i) ∧ 2 * ((p : Int) - s.at_ (trk (g.wc i).toNat) i) ≤ s.st) ∧ (-s.no ≤ g.wu i - ((p : Int) - s.at_ (trk (g.wc i).toNat) i) ∧ g.wu i - ((p : Int) - s.at_ (trk (g.wc i).toNat) i) ≤ s.no))
  bd : -16 ≤ s.at_ (trk (g.wc i).toNat) i ∧ s.at_ (trk (g.wc i).toNat) i ≤ 1024
  bu : -100 ≤ g.wu i ∧ g.wu i ≤ 100
theorem AgC.below {s : Sv} {g : Wg} {i base : Nat} {w w' : World} {B t h u : Nat} (a : AgC s g i base w t h u) (hb : Below B w w') (hB : w.heap.size ≤ B) : AgC s g i base w' t h u := by
  have k : ∀ b o, b < w.heap.size → w'.cell? ⟨b, o, none⟩ = w.cell? ⟨b, o, none⟩ := fun b o h => hb.cell (p := ⟨b, o, none⟩) (by show b < B; omega)
  have hs := hb.size
  exact ⟨a.t1, a.h1, a.u1, by have := a.t2; omega, by have := a.h2; omega, by have := a.u2; omega, (k _ _ a.t2).trans a.ct, (k _ _ a.h2).trans a.c1, (k _ _ a.h2).trans a.c3, (k _ _ a.u2).trans a.cu, a.ag, a.bd, a.bu⟩
theorem AgC.setCell {s : Sv} {g : Wg} {i base : Nat} {w : World} {t h u : Nat} (a : AgC s g i base w t h u) {x : Addr} (hx : x.block ≠ t ∧ x.block ≠ h ∧ x.block ≠ u) (v : Value) : AgC s g i base (w.setCell x v) t h u := by
  have k : ∀ b o, b ≠ x.block → (w.setCell x v).cell? ⟨b, o, none⟩ = w.cell? ⟨b, o, none⟩ := fun b o h => World.cell?_of_block (w := w) (Below.heap_setCell w x v b h)
  exact ⟨a.t1, a.h1, a.u1, by simpa using a.t2, by simpa using a.h2, by simpa using a.u2, (k _ _ (fun e => hx.1 e.symm)).trans a.ct, (k _ _ (fun e => hx.2.1 e.symm)).trans a.c1, (k _ _ (fun e => hx.2.1 e.symm)).trans a.c3, (k _ _ (fun e => hx.2.2 e.symm)).trans a.cu, a.ag, a.bd, a.bu⟩
/-- The closure, in its three forms. -/
def AgF (s : Sv) (g : Wg) (i base : Nat) (w : World) (v : Value) : Prop :=
  (v = .func (.func 73) #[] #[] ∧ ∀ p, agr s g i p = true) ∨ (v = .func (.func 74) #[] #[] ∧ ∀ p, agr s g i p = false) ∨
  ∃ t h u : Nat, v = .func (.func 75) #[] #[.pointer (some ⟨t, 0, none⟩), .pointer (some ⟨h, 0, none⟩), .pointer (some ⟨u, 0, none⟩)] ∧ AgC s g i base w t h u

set_option maxHeartbeats 400000 in
theorem c73 (p : Int) (w : World) : Calls Try.prog 73 #[.int .i64 p] w fun e w' => e = .returned (.bool true) ∧ w = w' := by
  go_enter Try.func73, Try.ntmps73
  go_wp2
  go_ret
  exact ⟨rfl, rfl⟩
set_option maxHeartbeats 400000 in
theorem c74 (p : Int) (w : World) : Calls Try.prog 74 #[.int .i64 p] w fun e w' => e = .returned (.bool false) ∧ w = w' := by
  go_enter Try.func74, Try.ntmps74
  go_wp2
  go_ret
  exact ⟨rfl, rfl⟩
set_option maxHeartbeats 400000 in
theorem c75y {s : Sv} {g : Wg} {i base : Nat} {w : World} {t h u : Nat} (a : AgC s g i base w t h u) (ok : s.Ok) (p : Nat) (hp : p ≤ 1009) (y : agr s g i p = true) :
    Calls Try.prog 75 #[.int .i64 (p : Int), .pointer (some ⟨t, 0, none⟩), .pointer (some ⟨h, 0, none⟩), .pointer (some ⟨u, 0, none⟩)] w fun e w' => e = .returned (.bool true) ∧ w = w' := by
  have hy := (a.ag p).1 y
  have k1 := a.ct; have k2 := a.c1; have k3 := a.c3; have k4 := a.cu
  have s1 := ok.s1; have s2 := ok.s2; have n0 := ok.n0; have n1 := ok.n1
  have hb := a.bd; have hu := a.bu
  obtain ⟨x, hx⟩ : ∃ x, x = s.at_ (trk (g.wc i).toNat) i := ⟨_, rfl⟩
  rw [← hx] at hy hb k1
  clear hx a ok
  have hyh := hid hy
  clear hy y
  go_enter Try.func75, Try.ntmps75
  go_wp2_with (go_at_call 46; refine (c46y _ (by have := hyh.out; omega)).mono ?_; rintro e w' ⟨rfl, rfl⟩)
  go_returns
  exact ⟨rfl, rfl⟩
set_option maxHeartbeats 400000 in
theorem c75n {s : Sv} {g : Wg} {i base : Nat} {w : World} {t h u : Nat} (a : AgC s g i base w t h u) (ok : s.Ok) (p : Nat) (hp : p ≤ 1009) (y : agr s g i p = false) :
    Calls Try.prog 75 #[.int .i64 (p : Int), .pointer (some ⟨t, 0, none⟩), .pointer (some ⟨h, 0, none⟩), .pointer (some ⟨u, 0, none⟩)] w fun e w' => e = .returned (.bool false) ∧ w = w' := by
  have hy := mt (a.ag p).2 (by rw [y]; simp)
  have k1 := a.ct; have k2 := a.c1; have k3 := a.c3; have k4 := a.cu
  have s1 := ok.s1; have s2 := ok.s2; have n0 := ok.n0; have n1 := ok.n1
  have hb := a.bd; have hu := a.bu
  obtain ⟨x, hx⟩ : ∃ x, x = s.at_ (trk (g.wc i).toNat) i := ⟨_, rfl⟩
  rw [← hx] at hy hb k1
  clear hx a ok y
  by_cases hy1 : -s.st ≤ 2 * ((p : Int) - x) ∧ 2 * ((p : Int) - x) ≤ s.st
  · have hy2 : ¬ (-s.no ≤ g.wu i - ((p : Int) - x) ∧ g.wu i - ((p : Int) - x) ≤ s.no) := fun h => hy ⟨hy1, h⟩
    have h1 := hid hy1
    have h2 := hid hy2
    clear hy hy1 hy2
    go_enter Try.func75, Try.ntmps75
    go_wp2_with (first | (go_at_call 46; refine (c46y _ (by have := h1.out; omega)).mono ?_; rintro e w' ⟨rfl, rfl⟩) | (go_at_call 46; refine (c46n _ (by have := h2.out; omega)).mono ?_; rintro e w' ⟨rfl, rfl⟩))
    go_returns
    exact ⟨rfl, rfl⟩
  · have h1 := hid hy1
    clear hy hy1
    go_enter Try.func75, Try.ntmps75
    go_wp2_with (go_at_call 46; refine (c46n _ (by have := h1.out; omega)).mono ?_; rintro e w' ⟨rfl, rfl⟩)
    go_returns
    exact ⟨rfl, rfl⟩
end Go.Proofs.Ytfpfnjdnfiihhaa
