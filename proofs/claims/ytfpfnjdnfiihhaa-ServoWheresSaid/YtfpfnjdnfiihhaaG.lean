/- Stage 2: positions, where a track lies, whether a wedge agrees. -/
import Derived.Test.YtfpfnjdnfiihhaaF
import Derived.IntWalk
set_option linter.unusedSimpArgs false
set_option linter.unusedVariables false
namespace Go.Proofs.Ytfpfnjdnfiihhaa
open Go.RowKit

set_option maxHeartbeats 400000 in
theorem c52 (s : Sv) (g : Wg) (w : World) (ok : s.Ok) : Calls Try.prog 52 #[hdv s g] w fun e w' => e = .returned (.int .i64 (s.N : Nat)) ∧ Below w.heap.size w w' := by
  have hN := ok.Nb
  have t1 := ok.t1; have t2 := ok.t2; have s1 := ok.s1; have s2 := ok.s2
  have b1 := hN.2.2.2.1; have b2 := hN.2.2.2.2; have e1 := hid hN.2.2.1
  clear hN ok
  go_enter Try.func52, Try.ntmps52
  go_wp2_with fail
  go_returns
  exact ⟨ret_eq e1.out.symm, by (repeat' (first | (with_reducible exact Below.refl _ _) | (with_reducible assumption) | (with_reducible refine Below.alloc ?_ ?_ _) | (with_reducible refine Below.drew ?_) | (with_reducible refine below_drewN ?_ _) | (with_reducible refine Below.setCell ?_ ?_ _) | (with_reducible refine Below.trans ?_ (Below.mono (by with_reducible assumption) ?_)) | go_size))⟩

theorem Sv.Ok.tb {s : Sv} (ok : s.Ok) {t : Int} (h0 : 0 ≤ t) (h1 : t < s.tr) : 0 ≤ t * s.st ∧ t * s.st ≤ 1008 := by
  have h2 : t * s.st ≤ 63 * 16 := Int.mul_le_mul (by have := ok.t2; omega) ok.s2 (by have := ok.s1; omega) (by omega)
  exact ⟨Int.mul_nonneg h0 (by have := ok.s1; omega), by omega⟩
set_option maxHeartbeats 400000 in
theorem c59 (s : Sv) (g : Wg) (t : Int) (i : Nat) (w : World) (hz : s.In w) (ok : s.Ok) (h0 : 0 ≤ t) (h1 : t < s.tr) (hi : i ≤ 1000) :
    Calls Try.prog 59 #[hdv s g, .int .i64 t, .int .i64 (i : Int)] w fun e w' => e = .returned (.int .i64 (s.at_ t i)) ∧ Below w.heap.size w w' := by
  have r1 := ok.r1; have r2 := ok.r2
  have hlt : i % s.rn < s.rn := Nat.mod_lt _ (by omega)
  have hb := ok.tb h0 h1
  have hr := ok.ro _ hlt
  have e1 : IntKind.i64.wrap (t * s.st) = t * s.st := IntWalk.i64_in _ (by omega)
  have e2 : IntKind.i64.wrap (t * s.st + s.rf (i % s.rn)) = t * s.st + s.rf (i % s.rn) := IntWalk.i64_in _ (by omega)
  have e3 : (i : Int).tmod (s.rn : Int) = ((i % s.rn : Nat) : Int) := by rw [Int.tmod_eq_emod_of_nonneg (by omega)]; omega
  have c1 := hz.ce _ hlt; have c3 := hz.lt _ hlt; have c4 := @Ints.ix _ _ _ _ _ s.rc _ hz _ hlt
  rw [Int.natCast_emod] at e3
  have c4' : ∀ w', (Instr.indexAt 28 (.slice s.ra s.rn s.rc) (.int .i64 ((i : Int) % (s.rn : Int)))).run Try.prog w' = .ok (.pointer (some ⟨s.rb, s.ro + i % s.rn, none⟩)) w' := by intro w'; rw [← Int.natCast_emod]; exact c4 w'
  clear c4
  have hrn : ¬ s.rn = 0 := by omega
  have hrn2 : ((s.rn : Int) == 0) = false := by simpa using hrn
  clear ok hb hr hlt
  go_enter Try.func59, Try.ntmps59
  go_wp2_with fail
  go_quiet (fail)
  go_wp2
  go_returns
  exact ⟨rfl, by (repeat' (first | (with_reducible exact Below.refl _ _) | (with_reducible assumption) | (with_reducible refine Below.alloc ?_ ?_ _) | (with_reducible refine Below.drew ?_) | (with_reducible refine below_drewN ?_ _) | (with_reducible refine Below.setCell ?_ ?_ _) | (with_reducible refine Below.trans ?_ (Below.mono (by with_reducible assumption) ?_)) | go_size))⟩
end Go.Proofs.Ytfpfnjdnfiihhaa
