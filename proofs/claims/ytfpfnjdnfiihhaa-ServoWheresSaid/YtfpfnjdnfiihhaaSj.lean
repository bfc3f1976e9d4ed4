/- Stage 2: the law of what the servo and the reference say, and of what came in. -/
import Derived.Test.YtfpfnjdnfiihhaaSi
import Derived.Test.YtfpfnjdnfiihhaaSa
import Derived.Test.YtfpfnjdnfiihhaaRo
set_option linter.unusedSimpArgs false
set_option linter.unusedVariables false
namespace Go.Proofs.Ytfpfnjdnfiihhaa
open Go.RowKit Go.Sort Go.BigFrame

theorem cp_ok (s : Sv) (x c : Nat) : (cpS s x c).Ok ↔ s.Ok :=
  ⟨fun h => ⟨h.t1, h.t2, h.s1, h.s2, h.m0, h.m1, h.n0, h.n1, h.w0, h.w1, h.r1, h.r2, h.ro⟩, fun h => ⟨h.t1, h.t2, h.s1, h.s2, h.m0, h.m1, h.n0, h.n1, h.w0, h.w1, h.r1, h.r2, h.ro⟩⟩
theorem own_ok (g : Wg) (y d : Nat) : (ownG y g.wn d g.wc g.wu).Ok ↔ g.Ok :=
  ⟨fun h => ⟨h.n2, h.c, h.u⟩, fun h => ⟨h.n2, h.c, h.u⟩⟩
theorem ckE_own (s : Sv) (g : Wg) (x c y d : Nat) : ckE (cpS s x c) (ownG y g.wn d g.wc g.wu) = ckE s g := by
  by_cases h1 : s.Ok
  · by_cases h2 : g.Ok
    · rw [ckE_ok h1 h2]; exact ckE_ok ((cp_ok s x c).2 h1) ((own_ok g y d).2 h2)
    · rw [ckE_wg h1 h2]; exact ckE_wg ((cp_ok s x c).2 h1) (fun h => h2 ((own_ok g y d).1 h))
  · rw [ckE_sv h1]; exact ckE_sv (fun h => h1 ((cp_ok s x c).1 h))
theorem fl_own (s : Sv) (g : Wg) (x c y d : Nat) : fl (cpS s x c) (ownG y g.wn d g.wc g.wu) = fl s g := rfl
theorem ahE_own (s : Sv) (g : Wg) (x c y d : Nat) (told : Prop) : ahE (cpS s x c) (ownG y g.wn d g.wc g.wu) told = ahE s g told := by
  unfold ahE
  rw [ckE_own, fl_own]
  rfl
theorem ahL_own (s : Sv) (g : Wg) (x c y d : Nat) (told : Prop) (t : Nat) : ahL (cpS s x c) (ownG y g.wn d g.wc g.wu) told t = ahL s g told t := by
  unfold ahL
  rw [ahE_own]
  rfl
theorem fwA_own (s : Sv) (g : Wg) (x c y d : Nat) : fwA (cpS s x c) (ownG y g.wn d g.wc g.wu) = fwA s g := by
  unfold fwA
  rw [ckE_own, fl_own]
  rfl
theorem ahL_len (s : Sv) (g : Wg) (told : Prop) (t : Nat) : (ahL s g told t).length ≤ 10000 := by
  by_cases h : ahE s g told = 0
  · obtain ⟨ok, _, _, _⟩ := ahE_inv h
    rw [ahL_ok h]
    have h1 := ok.Nb.2.1
    have h2 := spn_len (fun p => decide (mvn s.N s.m (fl s g) t p ≤ s.wr)) s.N
    unfold aheadL
    omega
  · rw [ahL_no h]; simp
end Go.Proofs.Ytfpfnjdnfiihhaa
