/-
  No cell of these rows narrows 'for every input' (looked for: loops, veiled, ifaces, maps, wideKeys, modest, calm, conditions, laid).
  DERIVED. THE GIVEN ROWS OF THIS SEAT. 9 by the template 'for every input the law returns true; each argument reads behind the call as it read before'; 0 by the template 'total and deterministic' (their statements: YtajllhjoagldkaaTotals.lean).
  GIVEN WITH THE SEED: the statements are not yours to turn. If you find one false, say at which input.
  Laid BY PROGRAM, IN A SANDBOX (cutbox-rows.mjs): the forced cells as the released guide's own fill.sh prints them over the translation d592ef9b5fd30fb3… (all of the seat's roots in one cut). By AI agents, Wed Nov 11 2026. No macro, syntax, notation, axiom, sorry.
-/
import Derived.Test.YtajllhjoagldkaaChecked
import GoSem.Claim
import GoSem.ClaimJoined
import GoSem.ClaimMapViews
import Derived.JoinedTies
import Derived.KernelRfl
namespace Go.Proofs.Ytajllhjoagldkaa
/- THE CELL 'sum', in the pinned program and in every row, IS THE sha256 OF THE DUMP (.gsa) THAT YtajllhjoagldkaaProg.lean LOADS. Nothing in Lean hashes anything: it is a label: what it is worth is what the hold of that sum in a sandbox is worth. -/
noncomputable def Try.pinned : Pinned := { name := "ytajllhjoagldkaa", sum := "d592ef9b5fd30fb306c94e18a8269e9a356b2c85f8c7b083aea9b142e921c476", checked := Try.checked }
namespace Rows
def none {H : Type} : Left H := { results := [], args := [] }

/-- 'platterlaw06.ArmInTime': WHATEVER THE INPUT: true; the input reads as it did. -/
def armInTimeSpec : ChangeSpec := { name := "armInTime", fn := fun _ => fun
  | [d1, d2] => { results := [.lit (.bool true)], args := [d1, d2] }
  | _ => none }
def armInTimeRow : OpenClaim := { program := "ytajllhjoagldkaa", sum := "d592ef9b5fd30fb306c94e18a8269e9a356b2c85f8c7b083aea9b142e921c476", func := "platter/platterlaw06.ArmInTime", spec := "armInTime", unfollowed := true, recurses := true, plainKeys := false, apart := false }
def ArmInTimeSaid : Prop := armInTimeRow.holds Try.pinned (OpenSpec.ofChange armInTimeSpec)

/-- ITS FALSE NEIGHBOUR: 'it returns false'. Refute it at one input. -/
def armInTimeWrong : ChangeSpec := { name := "armInTime", fn := fun _ => fun
  | [d1, d2] => { results := [.lit (.bool false)], args := [d1, d2] }
  | _ => none }
def ArmInTimeWrongFalsely : Prop := armInTimeRow.holds Try.pinned (OpenSpec.ofChange armInTimeWrong)

/-- 'platterlaw06.ArmFastest': WHATEVER THE INPUT: true; the input reads as it did. -/
def armFastestSpec : ChangeSpec := { name := "armFastest", fn := fun _ => fun
  | [d1, d2, d3] => { results := [.lit (.bool true)], args := [d1, d2, d3] }
  | _ => none }
def armFastestRow : OpenClaim := { program := "ytajllhjoagldkaa", sum := "d592ef9b5fd30fb306c94e18a8269e9a356b2c85f8c7b083aea9b142e921c476", func := "platter/platterlaw06.ArmFastest", spec := "armFastest", unfollowed := true, recurses := true, plainKeys := false, apart := false }
def ArmFastestSaid : Prop := armFastestRow.holds Try.pinned (OpenSpec.ofChange armFastestSpec)

/-- ITS FALSE NEIGHBOUR: 'it returns false'. Refute it at one input. -/
def armFastestWrong : ChangeSpec := { name := "armFastest", fn := fun _ => fun
  | [d1, d2, d3] => { results := [.lit (.bool false)], args := [d1, d2, d3] }
  | _ => none }
def ArmFastestWrongFalsely : Prop := armFastestRow.holds Try.pinned (OpenSpec.ofChange armFastestWrong)

/-- 'platterlaw06.ArmEasier': WHATEVER THE INPUT: true; the input reads as it did. -/
def armEasierSpec : ChangeSpec := { name := "armEasier", fn := fun _ => fun
  | [d1, d2, d3] => { results := [.lit (.bool true)], args := [d1, d2, d3] }
  | _ => none }
def armEasierRow : OpenClaim := { program := "ytajllhjoagldkaa", sum := "d592ef9b5fd30fb306c94e18a8269e9a356b2c85f8c7b083aea9b142e921c476", func := "platter/platterlaw06.ArmEasier", spec := "armEasier", unfollowed := true, recurses := true, plainKeys := false, apart := false }
def ArmEasierSaid : Prop := armEasierRow.holds Try.pinned (OpenSpec.ofChange armEasierSpec)

/-- ITS FALSE NEIGHBOUR: 'it returns false'. Refute it at one input. -/
def armEasierWrong : ChangeSpec := { name := "armEasier", fn := fun _ => fun
  | [d1, d2, d3] => { results := [.lit (.bool false)], args := [d1, d2, d3] }
  | _ => none }
def ArmEasierWrongFalsely : Prop := armEasierRow.holds Try.pinned (OpenSpec.ofChange armEasierWrong)

/-- 'platterlaw06.ArmMirror': WHATEVER THE INPUT: true; the input reads as it did. -/
def armMirrorSpec : ChangeSpec := { name := "armMirror", fn := fun _ => fun
  | [d1, d2, d3] => { results := [.lit (.bool true)], args := [d1, d2, d3] }
  | _ => none }
def armMirrorRow : OpenClaim := { program := "ytajllhjoagldkaa", sum := "d592ef9b5fd30fb306c94e18a8269e9a356b2c85f8c7b083aea9b142e921c476", func := "platter/platterlaw06.ArmMirror", spec := "armMirror", unfollowed := true, recurses := true, plainKeys := false, apart := false }
def ArmMirrorSaid : Prop := armMirrorRow.holds Try.pinned (OpenSpec.ofChange armMirrorSpec)

/-- ITS FALSE NEIGHBOUR: 'it returns false'. Refute it at one input. -/
def armMirrorWrong : ChangeSpec := { name := "armMirror", fn := fun _ => fun
  | [d1, d2, d3] => { results := [.lit (.bool false)], args := [d1, d2, d3] }
  | _ => none }
def ArmMirrorWrongFalsely : Prop := armMirrorRow.holds Try.pinned (OpenSpec.ofChange armMirrorWrong)

/-- 'platterlaw06.ArmNoCrash': WHATEVER THE INPUT: true; the input reads as it did. -/
def armNoCrashSpec : ChangeSpec := { name := "armNoCrash", fn := fun _ => fun
  | [d1, d2, d3] => { results := [.lit (.bool true)], args := [d1, d2, d3] }
  | _ => none }
def armNoCrashRow : OpenClaim := { program := "ytajllhjoagldkaa", sum := "d592ef9b5fd30fb306c94e18a8269e9a356b2c85f8c7b083aea9b142e921c476", func := "platter/platterlaw06.ArmNoCrash", spec := "armNoCrash", unfollowed := true, recurses := true, plainKeys := false, apart := false }
def ArmNoCrashSaid : Prop := armNoCrashRow.holds Try.pinned (OpenSpec.ofChange armNoCrashSpec)

/-- ITS FALSE NEIGHBOUR: 'it returns false'. Refute it at one input. -/
def armNoCrashWrong : ChangeSpec := { name := "armNoCrash", fn := fun _ => fun
  | [d1, d2, d3] => { results := [.lit (.bool false)], args := [d1, d2, d3] }
  | _ => none }
def ArmNoCrashWrongFalsely : Prop := armNoCrashRow.holds Try.pinned (OpenSpec.ofChange armNoCrashWrong)

/-- 'platterlaw06.ArmStays': WHATEVER THE INPUT: true; the input reads as it did. -/
def armStaysSpec : ChangeSpec := { name := "armStays", fn := fun _ => fun
  | [d1, d2] => { results := [.lit (.bool true)], args := [d1, d2] }
  | _ => none }
def armStaysRow : OpenClaim := { program := "ytajllhjoagldkaa", sum := "d592ef9b5fd30fb306c94e18a8269e9a356b2c85f8c7b083aea9b142e921c476", func := "platter/platterlaw06.ArmStays", spec := "armStays", unfollowed := true, recurses := true, plainKeys := false, apart := false }
def ArmStaysSaid : Prop := armStaysRow.holds Try.pinned (OpenSpec.ofChange armStaysSpec)

/-- ITS FALSE NEIGHBOUR: 'it returns false'. Refute it at one input. -/
def armStaysWrong : ChangeSpec := { name := "armStays", fn := fun _ => fun
  | [d1, d2] => { results := [.lit (.bool false)], args := [d1, d2] }
  | _ => none }
def ArmStaysWrongFalsely : Prop := armStaysRow.holds Try.pinned (OpenSpec.ofChange armStaysWrong)

/-- 'platterlaw06.ArmSteps': WHATEVER THE INPUT: true; the input reads as it did. -/
def armStepsSpec : ChangeSpec := { name := "armSteps", fn := fun _ => fun
  | [d1, d2] => { results := [.lit (.bool true)], args := [d1, d2] }
  | _ => none }
def armStepsRow : OpenClaim := { program := "ytajllhjoagldkaa", sum := "d592ef9b5fd30fb306c94e18a8269e9a356b2c85f8c7b083aea9b142e921c476", func := "platter/platterlaw06.ArmSteps", spec := "armSteps", unfollowed := true, recurses := true, plainKeys := false, apart := false }
def ArmStepsSaid : Prop := armStepsRow.holds Try.pinned (OpenSpec.ofChange armStepsSpec)

/-- ITS FALSE NEIGHBOUR: 'it returns false'. Refute it at one input. -/
def armStepsWrong : ChangeSpec := { name := "armSteps", fn := fun _ => fun
  | [d1, d2] => { results := [.lit (.bool false)], args := [d1, d2] }
  | _ => none }
def ArmStepsWrongFalsely : Prop := armStepsRow.holds Try.pinned (OpenSpec.ofChange armStepsWrong)

/-- 'platterlaw06.ArmTable': WHATEVER THE INPUT: true; the input reads as it did. -/
def armTableSpec : ChangeSpec := { name := "armTable", fn := fun _ => fun
  | [d] => { results := [.lit (.bool true)], args := [d] }
  | _ => none }
def armTableRow : OpenClaim := { program := "ytajllhjoagldkaa", sum := "d592ef9b5fd30fb306c94e18a8269e9a356b2c85f8c7b083aea9b142e921c476", func := "platter/platterlaw06.ArmTable", spec := "armTable", unfollowed := true, recurses := true, plainKeys := false, apart := false }
def ArmTableSaid : Prop := armTableRow.holds Try.pinned (OpenSpec.ofChange armTableSpec)

/-- ITS FALSE NEIGHBOUR: 'it returns false'. Refute it at one input. -/
def armTableWrong : ChangeSpec := { name := "armTable", fn := fun _ => fun
  | [d] => { results := [.lit (.bool false)], args := [d] }
  | _ => none }
def ArmTableWrongFalsely : Prop := armTableRow.holds Try.pinned (OpenSpec.ofChange armTableWrong)

/-- 'plattertop.TopTracked': WHATEVER THE INPUT: true; the input reads as it did. -/
def topTrackedSpec : ChangeSpec := { name := "topTracked", fn := fun _ => fun
  | [d1, d2, d3] => { results := [.lit (.bool true)], args := [d1, d2, d3] }
  | _ => none }
def topTrackedRow : OpenClaim := { program := "ytajllhjoagldkaa", sum := "d592ef9b5fd30fb306c94e18a8269e9a356b2c85f8c7b083aea9b142e921c476", func := "platter/plattertop.TopTracked", spec := "topTracked", unfollowed := true, recurses := true, plainKeys := false, apart := false }
def TopTrackedSaid : Prop := topTrackedRow.holds Try.pinned (OpenSpec.ofChange topTrackedSpec)

/-- ITS FALSE NEIGHBOUR: 'it returns false'. Refute it at one input. -/
def topTrackedWrong : ChangeSpec := { name := "topTracked", fn := fun _ => fun
  | [d1, d2, d3] => { results := [.lit (.bool false)], args := [d1, d2, d3] }
  | _ => none }
def TopTrackedWrongFalsely : Prop := topTrackedRow.holds Try.pinned (OpenSpec.ofChange topTrackedWrong)

/- THE SECOND FORM. 'bulk': how many values and letters a reading holds, each counted each time it is reached (what is shared counts as often as it is met; a slice's spare places count too). A statement '..UptoSaid' is the law's where the arguments, and the package variables that the reading takes, are together of bulk at most 1048576: NARROWER than '..Said'. Prove '..Said' where nothing that the law and all that it calls make is longer than what came in: it says more and counts as full. Else prove '..UptoSaid'. A law counts once. -/
mutual
def uptoBulk {H : Type} : DataW H → Nat
  | .lit (.string bytes) => bytes.length + 1
  | .lit _ => 1
  | .nil => 1
  | .ptr d => uptoBulk d + 1
  | .slice elems spare => uptoBulkAll elems + uptoBulkAll spare + 1
  | .agg parts => uptoBulkAll parts + 1
  | .iface _ d => uptoBulk d + 1
  | .map entries => uptoBulkEntries entries + 1
  | .held _ => 1
def uptoBulkAll {H : Type} : List (DataW H) → Nat
  | [] => 0
  | d :: r => uptoBulk d + uptoBulkAll r
def uptoBulkEntries {H : Type} : List (Lit × DataW H) → Nat
  | [] => 0
  | x :: r => uptoBulkEntry x + uptoBulkEntries r
def uptoBulkEntry {H : Type} : Lit × DataW H → Nat
  | (.string bytes, d) => bytes.length + uptoBulk d + 1
  | (_, d) => uptoBulk d + 1
 end
def uptoSmall : (H : Type) → List (DataW H) → Bool := fun _ ds => decide (uptoBulkAll ds ≤ 1048576)
def OpenSpec.upto (s : _root_.Go.ChangeSpec) : _root_.Go.OpenSpec := { _root_.Go.OpenSpec.ofChange s with cond := some uptoSmall }

/-- 'platterlaw06.ArmInTime', WHERE WHAT IT READS IS OF BULK AT MOST 1048576: true; the input reads as it did. -/
def armInTimeUptoRow : OpenClaim := { program := "ytajllhjoagldkaa", sum := "d592ef9b5fd30fb306c94e18a8269e9a356b2c85f8c7b083aea9b142e921c476", func := "platter/platterlaw06.ArmInTime", spec := "armInTime", unfollowed := true, recurses := true, plainKeys := false, apart := false, narrowed := true }
def ArmInTimeUptoSaid : Prop := armInTimeUptoRow.holds Try.pinned (OpenSpec.upto armInTimeSpec)

/-- 'platterlaw06.ArmFastest', WHERE WHAT IT READS IS OF BULK AT MOST 1048576: true; the input reads as it did. -/
def armFastestUptoRow : OpenClaim := { program := "ytajllhjoagldkaa", sum := "d592ef9b5fd30fb306c94e18a8269e9a356b2c85f8c7b083aea9b142e921c476", func := "platter/platterlaw06.ArmFastest", spec := "armFastest", unfollowed := true, recurses := true, plainKeys := false, apart := false, narrowed := true }
def ArmFastestUptoSaid : Prop := armFastestUptoRow.holds Try.pinned (OpenSpec.upto armFastestSpec)

/-- 'platterlaw06.ArmEasier', WHERE WHAT IT READS IS OF BULK AT MOST 1048576: true; the input reads as it did. -/
def armEasierUptoRow : OpenClaim := { program := "ytajllhjoagldkaa", sum := "d592ef9b5fd30fb306c94e18a8269e9a356b2c85f8c7b083aea9b142e921c476", func := "platter/platterlaw06.ArmEasier", spec := "armEasier", unfollowed := true, recurses := true, plainKeys := false, apart := false, narrowed := true }
def ArmEasierUptoSaid : Prop := armEasierUptoRow.holds Try.pinned (OpenSpec.upto armEasierSpec)

/-- 'platterlaw06.ArmMirror', WHERE WHAT IT READS IS OF BULK AT MOST 1048576: true; the input reads as it did. -/
def armMirrorUptoRow : OpenClaim := { program := "ytajllhjoagldkaa", sum := "d592ef9b5fd30fb306c94e18a8269e9a356b2c85f8c7b083aea9b142e921c476", func := "platter/platterlaw06.ArmMirror", spec := "armMirror", unfollowed := true, recurses := true, plainKeys := false, apart := false, narrowed := true }
def ArmMirrorUptoSaid : Prop := armMirrorUptoRow.holds Try.pinned (OpenSpec.upto armMirrorSpec)

/-- 'platterlaw06.ArmNoCrash', WHERE WHAT IT READS IS OF BULK AT MOST 1048576: true; the input reads as it did. -/
def armNoCrashUptoRow : OpenClaim := { program := "ytajllhjoagldkaa", sum := "d592ef9b5fd30fb306c94e18a8269e9a356b2c85f8c7b083aea9b142e921c476", func := "platter/platterlaw06.ArmNoCrash", spec := "armNoCrash", unfollowed := true, recurses := true, plainKeys := false, apart := false, narrowed := true }
def ArmNoCrashUptoSaid : Prop := armNoCrashUptoRow.holds Try.pinned (OpenSpec.upto armNoCrashSpec)

/-- 'platterlaw06.ArmStays', WHERE WHAT IT READS IS OF BULK AT MOST 1048576: true; the input reads as it did. -/
def armStaysUptoRow : OpenClaim := { program := "ytajllhjoagldkaa", sum := "d592ef9b5fd30fb306c94e18a8269e9a356b2c85f8c7b083aea9b142e921c476", func := "platter/platterlaw06.ArmStays", spec := "armStays", unfollowed := true, recurses := true, plainKeys := false, apart := false, narrowed := true }
def ArmStaysUptoSaid : Prop := armStaysUptoRow.holds Try.pinned (OpenSpec.upto armStaysSpec)

/-- 'platterlaw06.ArmSteps', WHERE WHAT IT READS IS OF BULK AT MOST 1048576: true; the input reads as it did. -/
def armStepsUptoRow : OpenClaim := { program := "ytajllhjoagldkaa", sum := "d592ef9b5fd30fb306c94e18a8269e9a356b2c85f8c7b083aea9b142e921c476", func := "platter/platterlaw06.ArmSteps", spec := "armSteps", unfollowed := true, recurses := true, plainKeys := false, apart := false, narrowed := true }
def ArmStepsUptoSaid : Prop := armStepsUptoRow.holds Try.pinned (OpenSpec.upto armStepsSpec)

/-- 'platterlaw06.ArmTable', WHERE WHAT IT READS IS OF BULK AT MOST 1048576: true; the input reads as it did. -/
def armTableUptoRow : OpenClaim := { program := "ytajllhjoagldkaa", sum := "d592ef9b5fd30fb306c94e18a8269e9a356b2c85f8c7b083aea9b142e921c476", func := "platter/platterlaw06.ArmTable", spec := "armTable", unfollowed := true, recurses := true, plainKeys := false, apart := false, narrowed := true }
def ArmTableUptoSaid : Prop := armTableUptoRow.holds Try.pinned (OpenSpec.upto armTableSpec)

/-- 'plattertop.TopTracked', WHERE WHAT IT READS IS OF BULK AT MOST 1048576: true; the input reads as it did. -/
def topTrackedUptoRow : OpenClaim := { program := "ytajllhjoagldkaa", sum := "d592ef9b5fd30fb306c94e18a8269e9a356b2c85f8c7b083aea9b142e921c476", func := "platter/plattertop.TopTracked", spec := "topTracked", unfollowed := true, recurses := true, plainKeys := false, apart := false, narrowed := true }
def TopTrackedUptoSaid : Prop := topTrackedUptoRow.holds Try.pinned (OpenSpec.upto topTrackedSpec)

end Rows
end Go.Proofs.Ytajllhjoagldkaa
