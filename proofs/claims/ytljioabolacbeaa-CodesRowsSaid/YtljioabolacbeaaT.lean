/- Stage 4: the law of the rows. -/
import Derived.Test.YtljioabolacbeaaS
set_option linter.unusedSimpArgs false
set_option linter.unusedVariables false
namespace Go.Proofs.Ytljioabolacbeaa
open Go.RowKit

theorem c12 (s : Int) (A : Option Addr) (b o n c : Nat) (f : Nat → Int) (w : World) (hz : Ints w A b o n f) (hk : A = none → c = 0) :
    Calls Try.prog 12 #[.int .i64 s, .slice A n c] w fun e w' => e = .returned (.bool true) ∧ Below w.heap.size w w' :=
  c12w c14 s A b o n c f w hz (fun h => ⟨hz.nil_ h, hk h⟩)
end Go.Proofs.Ytljioabolacbeaa
