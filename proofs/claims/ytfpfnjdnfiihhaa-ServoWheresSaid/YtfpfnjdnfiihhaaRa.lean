/- Stage 2: the small functions of the reference. -/
import Derived.Test.YtfpfnjdnfiihhaaY
set_option linter.unusedSimpArgs false
set_option linter.unusedVariables false
namespace Go.Proofs.Ytfpfnjdnfiihhaa
open Go.RowKit

set_option maxHeartbeats 400000 in
theorem c27 (s : Sv) (w : World) (ok : s.Ok) : Calls Try.prog 27 #[s.v] w fun e w' => e = .returned (.int .i64 ((s.N : Int) - 1)) ∧ Below w.heap.size w w' := by
  have hN := ok.Nb
  have t1 := ok.t1; have t2 := ok.t2; have s1 := ok.s1; have s2 := ok.s2
  have b1 := hN.2.2.2.1; have b2 := hN.2.2.2.2; have e1 := hid hN.2.2.1
  clear hN ok
  go_enter Try.func27, Try.ntmps27
  go_wp2_with fail
  go_returns
  exact ⟨ret_eq (by have := e1.out; omega), by (repeat' (first | (with_reducible exact Below.refl _ _) | (with_reducible assumption) | (with_reducible refine Below.alloc ?_ ?_ _) | (with_reducible refine Below.drew ?_) | (with_reducible refine below_drewN ?_ _) | (with_reducible refine Below.setCell ?_ ?_ _) | (with_reducible refine Below.trans ?_ (Below.mono (by with_reducible assumption) ?_)) | go_size))⟩
def absI (n : Int) : Int := if n < 0 then -n else n
theorem absI_le {n m : Int} : absI n ≤ m ↔ (-m ≤ n ∧ n ≤ m) := by unfold absI; split <;> omega
theorem absI_bd {n m : Int} (h : -m ≤ n ∧ n ≤ m) : 0 ≤ absI n ∧ absI n ≤ m := by unfold absI; split <;> omega
set_option maxHeartbeats 400000 in
theorem c55 (n : Int) (w : World) (h : -1000000 ≤ n ∧ n ≤ 1000000) : Calls Try.prog 55 #[.int .i64 n] w fun e w' => e = .returned (.int .i64 (absI n)) ∧ w' = w := by
  by_cases hn : n < 0
  · have e1 := hid (show absI n = -n by unfold absI; rw [if_pos hn])
    go_enter Try.func55, Try.ntmps55
    go_wp2_with fail
    go_returns
    exact ⟨ret_eq e1.out.symm, rfl⟩
  · have e1 := hid (show absI n = n by unfold absI; rw [if_neg hn])
    by_cases h0 : n = 0
    · subst h0
      go_enter Try.func55, Try.ntmps55
      go_wp2_with fail
      go_returns
      exact ⟨ret_eq e1.out.symm, rfl⟩
    · have h1 : 0 < n := by omega
      clear h0
      go_enter Try.func55, Try.ntmps55
      go_wp2_with fail
      go_returns
      exact ⟨ret_eq e1.out.symm, rfl⟩
set_option maxHeartbeats 1000000 in
theorem c26 (s : Sv) (t x : Int) (i : Nat) (w : World) (hx : (x = i) ∨ (x < 0 ∧ -1000 ≤ x ∧ i = 0)) (hz : s.In w) (ok : s.Ok) (h0 : 0 ≤ t) (h1 : t ≤ 127) (hi : i ≤ 1000) :
    Calls Try.prog 26 #[s.v, .int .i64 t, .int .i64 x] w fun e w' => e = .returned (.int .i64 (s.at_ t i)) ∧ Below w.heap.size w w' := by
  have r1 := ok.r1; have r2 := ok.r2
  have hlt : i % s.rn < s.rn := Nat.mod_lt _ (by omega)
  have hb : 0 ≤ t * s.st ∧ t * s.st ≤ 2032 := ⟨Int.mul_nonneg h0 (by have := ok.s1; omega), by have h2 : t * s.st ≤ 127 * 16 := Int.mul_le_mul h1 ok.s2 (by have := ok.s1; omega) (by omega); omega⟩
  have hr := ok.ro _ hlt
  have e1 : IntKind.i64.wrap (t * s.st) = t * s.st := IntWalk.i64_in _ (by omega)
  have e2 : IntKind.i64.wrap (t * s.st + s.rf (i % s.rn)) = t * s.st + s.rf (i % s.rn) := IntWalk.i64_in _ (by omega)
  have e3 : (i : Int).tmod (s.rn : Int) = ((i % s.rn : Nat) : Int) := by rw [Int.tmod_eq_emod_of_nonneg (by omega)]; omega
  have c1 := hz.ce _ hlt; have c3 := hz.lt _ hlt; have c4 := @Ints.ix _ _ _ _ _ s.rc _ hz _ hlt
  have hrn : ¬ s.rn = 0 := by omega
  have hrn2 : ((s.rn : Int) == 0) = false := by simpa using hrn
  rcases hx with rfl | ⟨hx0, hx2, rfl⟩
  · rw [Int.natCast_emod] at e3
    have c4' : ∀ w', (Instr.indexAt 28 (.slice s.ra s.rn s.rc) (.int .i64 ((i : Int) % (s.rn : Int)))).run Try.prog w' = .ok (.pointer (some ⟨s.rb, s.ro + i % s.rn, none⟩)) w' := by intro w'; rw [← Int.natCast_emod]; exact c4 w'
    clear ok hb hr hlt c4
    by_cases hi0 : i = 0
    · subst hi0
      simp only [Nat.zero_mod, Nat.add_zero] at e2 e3 c1 c4'
      rw [show ((0 : Nat) : Int) = 0 by rfl] at e3 c4' ⊢
      have e4 : (0 : Int) % (s.rn : Int) = 0 := by simp
      rw [e4] at e3 c4'
      go_enter Try.func26, Try.ntmps26
      go_wp2_with fail
      go_quiet (fail)
      go_wp2
      go_returns
      exact ⟨ret_eq (by unfold Sv.at_; rw [Nat.zero_mod]), by (repeat' (first | (with_reducible exact Below.refl _ _) | (with_reducible assumption) | (with_reducible refine Below.alloc ?_ ?_ _) | (with_reducible refine Below.drew ?_) | (with_reducible refine below_drewN ?_ _) | (with_reducible refine Below.setCell ?_ ?_ _) | (with_reducible refine Below.trans ?_ (Below.mono (by with_reducible assumption) ?_)) | go_size))⟩
    · have hi1 : 0 < i := by omega
      clear hi0
      go_enter Try.func26, Try.ntmps26
      go_wp2_with fail
      go_quiet (fail)
      go_wp2
      go_returns
      exact ⟨rfl, by (repeat' (first | (with_reducible exact Below.refl _ _) | (with_reducible assumption) | (with_reducible refine Below.alloc ?_ ?_ _) | (with_reducible refine Below.drew ?_) | (with_reducible refine below_drewN ?_ _) | (with_reducible refine Below.setCell ?_ ?_ _) | (with_reducible refine Below.trans ?_ (Below.mono (by with_reducible assumption) ?_)) | go_size))⟩
  · have e4 : (0 : Int).tmod (s.rn : Int) = 0 := by simp
    simp only [Nat.zero_mod, Nat.add_zero] at e2 e3 c1 c4
    have hif : (if 0 < x then x else 0) = 0 := by rw [if_neg (by omega)]
    rw [show ((0 : Nat) : Int) = 0 by rfl] at e3 c4
    clear ok hb hr hlt
    go_enter Try.func26, Try.ntmps26
    go_wp2_with fail
    go_quiet (fail)
    go_wp2
    go_returns
    exact ⟨ret_eq (by unfold Sv.at_; rw [Nat.zero_mod]), by (repeat' (first | (with_reducible exact Below.refl _ _) | (with_reducible assumption) | (with_reducible refine Below.alloc ?_ ?_ _) | (with_reducible refine Below.drew ?_) | (with_reducible refine below_drewN ?_ _) | (with_reducible refine Below.setCell ?_ ?_ _) | (with_reducible refine Below.trans ?_ (Below.mono (by with_reducible assumption) ?_)) | go_size))⟩

/-- Whether a wedge agrees, over the numbers of the wedge. -/
theorem agr_ref {s : Sv} {g : Wg} {i p : Nat} : agr s g i p = true ↔ (g.wc i = -1 ∨ ((trk (g.wc i).toNat : Int) < s.tr ∧ 2 * absI ((p : Int) - s.at_ (trk (g.wc i).toNat) i) ≤ s.st ∧ absI (g.wu i - ((p : Int) - s.at_ (trk (g.wc i).toNat) i)) ≤ s.no)) := by
  by_cases h : g.wc i = -1
  · simp [agr_nothing h, h]
  · by_cases h2 : (trk (g.wc i).toNat : Int) < s.tr
    · rw [agr_iff h h2]
      simp only [h, h2, false_or, true_and, absI_le]
      constructor
      · rintro ⟨h3, h4⟩; refine ⟨?_, h4⟩; have := absI_le.2 (show -(absI ((p : Int) - s.at_ (trk (g.wc i).toNat) i)) ≤ ((p : Int) - s.at_ (trk (g.wc i).toNat) i) ∧ ((p : Int) - s.at_ (trk (g.wc i).toNat) i) ≤ absI ((p : Int) - s.at_ (trk (g.wc i).toNat) i) by unfold absI; split <;> omega); unfold absI; split <;> omega
      · rintro ⟨h3, h4⟩; refine ⟨?_, h4⟩; unfold absI at h3; split at h3 <;> omega
    · simp [agr_other h h2, h, h2]
end Go.Proofs.Ytfpfnjdnfiihhaa
