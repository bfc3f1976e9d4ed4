/- A region that draws its order, whose operations only read and whose callees leave alone what was there, but for its last operation, a store behind all others: walked once. -/
import Derived.Test.YtnndhibhnakdoaaDoorQ
import Derived.TacticsIn
import Derived.Deep.LoopGhost
set_option linter.unusedSimpArgs false
set_option linter.unusedVariables false
namespace Go.Proofs.YtnndhibhnakdoaaDoor
open Go Go.Sort Go.RowKit
variable {F : Fence} {n : Nat} {P : Program}

def stub : List Oper → List Oper
  | [] => []
  | [o] => [{ o with op := .move (.const undef) }]
  | o :: p :: r => o :: stub (p :: r)
def lastOp : List Oper → Oper
  | [] => default
  | [o] => o
  | _ :: p :: r => lastOp (p :: r)
/-- Every edge goes back; the last operation stands behind all others, writes no slot and has no guard. -/
def tailB (l : List Oper) : Bool :=
  (l.zipIdx.all fun x => x.1.after.toList.all fun e => decide (e.on < x.2)) && (List.range (l.length - 1)).all (fun j => (lastOp l).after.toList.any fun e => e.on == j && Region.binds .any e) && (lastOp l).dst.isNone && (lastOp l).guard.isNone && decide (0 < l.length)

theorem stub_length (l : List Oper) : (stub l).length = l.length := by
  induction l with
  | nil => rfl
  | cons o r ih => cases r with
    | nil => rfl
    | cons p r => simp only [stub, List.length_cons] at ih ⊢; omega
theorem stub_get (l : List Oper) (i : Nat) (h : i + 1 < l.length) : (stub l)[i]? = l[i]? := by
  induction l generalizing i with
  | nil => simp at h
  | cons o r ih => cases r with
    | nil => simp at h
    | cons p r => cases i with
      | zero => rfl
      | succ i => simp only [stub, List.getElem?_cons_succ]; exact ih i (by simpa using h)
theorem stub_last (l : List Oper) (i : Nat) (h : i + 1 = l.length) : (stub l)[i]? = some { lastOp l with op := .move (.const undef) } ∧ l[i]? = some (lastOp l) := by
  induction l generalizing i with
  | nil => simp at h
  | cons o r ih => cases r with
    | nil => obtain rfl : i = 0 := by simpa using h
             exact ⟨rfl, rfl⟩
    | cons p r => cases i with
      | zero => simp at h
      | succ i => simp only [stub, lastOp, List.getElem?_cons_succ]; exact ih i (by simpa using h)
theorem stub_rel (l : List Oper) (i : Nat) : ((stub l)[i]?).map (·.after) = (l[i]?).map (·.after) ∧ ((stub l)[i]?).bind (·.dst) = (l[i]?).bind (·.dst) := by
  rcases Nat.lt_trichotomy (i + 1) l.length with h | h | h
  · rw [stub_get l i h]; exact ⟨rfl, rfl⟩
  · obtain ⟨h1, h2⟩ := stub_last l i h
    rw [h1, h2]; exact ⟨rfl, rfl⟩
  · rw [List.getElem?_eq_none (by rw [stub_length]; omega), List.getElem?_eq_none (by omega)]; exact ⟨rfl, rfl⟩
theorem stub_ready (md : Region.Mode) (l : List Oper) (listed : Array Bool) : Region.ready md (stub l).toArray listed = Region.ready md l.toArray listed := by
  unfold Region.ready
  simp only [List.size_toArray, stub_length, List.getElem?_toArray]
  congr 1
  funext i
  have h := (stub_rel l i).1
  have e : ∀ x : Option Oper, (x.map fun o => o.after.all fun e => !Region.binds md e || listed.getD e.on false) = (x.map (·.after)).map fun a => a.all fun e => !Region.binds md e || listed.getD e.on false := fun x => by cases x <;> rfl
  rw [e, e, h]
theorem stub_yielded (l : List Oper) (tmps : Array Value) : yielded (stub l).toArray tmps = yielded l.toArray tmps := by
  funext j
  unfold yielded
  simp only [List.getElem?_toArray]
  rw [(stub_rel l j).2]

structure TailOk (l : List Oper) : Prop where
  back : ∀ (i : Nat) (o : Oper), l[i]? = some o → ∀ e ∈ o.after, e.on < i
  behind : ∀ j : Nat, j + 1 < l.length → ∃ e ∈ (lastOp l).after, e.on = j ∧ Region.binds .any e = true
  dst : (lastOp l).dst = none
  guard : (lastOp l).guard = none
  pos : 0 < l.length
theorem tailB_ok {l : List Oper} (h : tailB l = true) : TailOk l := by
  simp only [tailB, Bool.and_eq_true, List.all_eq_true, decide_eq_true_eq, Option.isNone_iff_eq_none, List.mem_range, List.any_eq_true, beq_iff_eq] at h
  obtain ⟨⟨⟨⟨h1, h2⟩, h3⟩, h4⟩, h5⟩ := h
  refine ⟨fun i o ho e he => ?_, fun j hj => ?_, h3, h4, h5⟩
  · exact h1 (o, i) (List.mem_zipIdx_iff_getElem?.2 ho) e (Array.mem_toList_iff.2 he)
  · obtain ⟨e, he, h6, h7⟩ := h2 j (by omega)
    exact ⟨e, Array.mem_toList_iff.1 he, h6, h7⟩

/-- As long as one is not listed, one is ready. -/
theorem ready_some {l : List Oper} (ok : TailOk l) (md : Region.Mode) (listed : Array Bool) (hsz : listed.size = l.length) {i : Nat} (hi : i < l.length) (hl : listed.getD i true = false) : Region.ready md l.toArray listed ≠ [] := by
  obtain ⟨k, hk, hmin⟩ := exists_least (p := fun k => k < l.length ∧ listed.getD k true = false) ⟨i, hi, hl⟩
  intro he
  have hmem : k ∈ Region.ready md l.toArray listed := by
    unfold Region.ready
    simp only [List.size_toArray, List.getElem?_toArray, List.mem_filter, List.mem_range, Bool.and_eq_true, Bool.not_eq_true']
    refine ⟨hk.1, hk.2, ?_⟩
    rw [List.getElem?_eq_getElem hk.1]
    simp only [Option.map_some, Option.getD_some]
    rw [Array.all_eq_true_iff_forall_mem]
    intro e hme
    have hlt := ok.back k _ (List.getElem?_eq_getElem hk.1) e hme
    cases hb : listed.getD e.on true with
    | false => have := hmin e.on ⟨by omega, hb⟩; omega
    | true =>
      have h8 : e.on < listed.size := by have := hk.1; omega
      have h9 : listed.getD e.on false = true := by
        simp only [Array.getD, h8, dif_pos] at hb ⊢
        exact hb
      simp [h9]
  rw [he] at hmem
  exact absurd hmem (by simp)

theorem ready_mem {md : Region.Mode} {ops : Array Oper} {listed : Array Bool} {i : Nat} (h : i ∈ Region.ready md ops listed) : i < ops.size ∧ listed.getD i true = false ∧ ∃ o, ops[i]? = some o ∧ ∀ e ∈ o.after, Region.binds md e = true → listed.getD e.on false = true := by
  unfold Region.ready at h
  simp only [List.mem_filter, List.mem_range, Bool.and_eq_true, Bool.not_eq_true'] at h
  obtain ⟨h1, h2, h3⟩ := h
  refine ⟨h1, h2, ops[i], Array.getElem?_eq_getElem h1, fun e he hb => ?_⟩
  rw [Array.getElem?_eq_getElem h1] at h3
  simp only [Option.map_some, Option.getD_some] at h3
  have := Array.all_eq_true_iff_forall_mem.1 h3 e he
  simpa [hb] using this

/-- Where the last one is listed too, nothing is ready. -/
theorem ready_none {l : List Oper} {md : Region.Mode} {listed : Array Bool} (h : ∀ j, j < l.length → listed.getD j true = true) : Region.ready md l.toArray listed = [] := by
  rw [List.eq_nil_iff_forall_not_mem]
  intro i hi
  obtain ⟨h1, h2, _⟩ := ready_mem hi
  rw [h i (by simpa using h1)] at h2
  cases h2

theorem getD_set_ne {a : Array Bool} {i j : Nat} (h : j ≠ i) (v d : Bool) : (a.setIfInBounds i v).getD j d = a.getD j d := by
  simp only [Array.getD_eq_getD_getElem?, Array.getElem?_setIfInBounds_ne (Ne.symm h)]

theorem tail_any {C : World → Prop} {l : List Oper} (ok : TailOk l) {Q : Exit → Act → World → Prop} {QL : Act → Prop}
    (hQ : ∀ a w, C w → QL a → (lastOp l).wpIn F n P a w (fun a' w' => Q .normal a' w') Q) :
    ∀ (fuel : Nat) (listed : Array Bool) (a : Act) (w : World), listed.size = l.length → listed.getD (l.length - 1) true = false → C w →
      wpAnyQIn F n P .any (stub l).toArray C QL fuel listed a → wpAnyIn F n P .any l.toArray Q fuel listed a w
  | 0, listed, a, w, hsz, hN, hw, h => by
    have := h.1
    rw [stub_ready] at this
    exact absurd this (ready_some ok .any listed hsz (show l.length - 1 < l.length by have := ok.pos; omega) hN)
  | fuel + 1, listed, a, w, hsz, hN, hw, h => by
    have hpos := ok.pos
    refine ⟨fun h0 => absurd h0 (ready_some ok .any listed hsz (show l.length - 1 < l.length by omega) hN), fun i hi => ?_⟩
    have hq := h.2 i (by rw [stub_ready]; exact hi)
    obtain ⟨h1, h2, o, ho, h3⟩ := ready_mem hi
    have hil : i < l.length := by simpa using h1
    by_cases hlast : i + 1 = l.length
    · obtain ⟨e1, e2⟩ := stub_last l i hlast
      have hall : ∀ j, j < l.length → (listed.setIfInBounds i true).getD j true = true := by
        intro j hj
        by_cases hji : j = i
        · subst hji; simp [Array.getD, hsz, hj]
        · obtain ⟨e, he, hej, hb⟩ := ok.behind j (by omega)
          rw [List.getElem?_toArray, e2] at ho
          cases ho
          have h4 := h3 e he hb
          rw [hej] at h4
          rw [getD_set_ne hji]
          simp only [Array.getD, hsz, hj, dif_pos] at h4 ⊢
          exact h4
      have hnone := ready_none (md := .any) hall
      unfold qOpIn at hq
      rw [List.getElem?_toArray, e1] at hq
      simp only [Region.wanted, ok.guard, if_true] at hq
      obtain ⟨_, v, _, hv⟩ := hq
      have hdst : ({ lastOp l with op := Op.move (.const undef) } : Oper).dst = none := ok.dst
      rw [hdst] at hv
      have hQL : QL a := by
        cases fuel with
        | zero => exact hv.2
        | succ f => exact hv.1 (by rw [stub_ready]; exact hnone)
      unfold wpOpIn
      rw [List.getElem?_toArray, e2]
      simp only [Region.wanted, ok.guard, if_true]
      refine Oper.wpIn_mono (fun a' w' hq' => ?_) (hQ a w hw hQL)
      cases fuel with
      | zero => exact ⟨hnone, hq'⟩
      | succ f => exact ⟨fun _ => hq', fun k hk => by rw [hnone] at hk; cases hk⟩
    · have e1 := stub_get l i (by omega)
      have hop : ∀ K : Act → Prop, qOpIn F n P (stub l).toArray C i K a = qOpIn F n P l.toArray C i K a := by
        intro K
        unfold qOpIn
        rw [List.getElem?_toArray, List.getElem?_toArray, e1, stub_yielded]
      rw [hop] at hq
      refine round_op_of_quiet hw (fun a' w' hw' hk => ?_) hq
      refine tail_any ok hQ fuel _ a' w' (by simpa using hsz) ?_ hw' hk
      have hne : l.length - 1 ≠ i := by omega
      rw [getD_set_ne hne]
      exact hN

theorem region_tail {C : World → Prop} {l : List Oper} {id : Nat} {Q : Exit → Act → World → Prop} {a : Act} {w : World} (hm : P.follows .mixedOrders = true) (hB : Region.lexB .any (stub l).toArray = true) (hT : tailB l = true) (hC : C { w with drawn := w.drawn + 1 })
    (h : wpQuietIn F n P (stub l).toArray C (fun a' => ∀ w', C w' → (lastOp l).wpIn F n P a' w' (fun a'' w'' => Q .normal a'' w'') Q) (stub l) a) : (Code.region id l.toArray true).wpIn F n P Q a w := by
  have ok := tailB_ok hT
  simp only [Region.lexB, Bool.and_eq_true] at hB
  refine wpIn_region_any hm ?_
  have h2 := wpAnyQIn_lex (F := F) (n := n) (C := C) (md := .any) hB.1 (stub l) 0 (Array.replicate (stub l).length false) a (by simp) (by simpa using hB.2) h
  rw [stub_length] at h2
  simp only [List.size_toArray]
  exact tail_any ok (fun a w hw hq => hq w hw) l.length _ a _ (by simp) (by have := ok.pos; simp [Array.getD]; omega) hC h2

theorem round_region_tail {id : Nat} {Q : Exit → Act → World → Prop} {a : Act} {w : World} {l : List Oper} (hm : P.follows .mixedOrders = true) (hB : Region.lexB .any (stub l).toArray = true) (hT : tailB l = true)
    (h : wpQuietIn F n P (stub l).toArray (fun w' => ∃ p : Regrown, w' = grow (redrawn w p.d) p.os) (fun a' => ∀ w', (∃ p : Regrown, w' = grow (redrawn w p.d) p.os) → (lastOp l).wpIn F n P a' w' (fun a'' w'' => Q .normal a'' w'') Q) (stub l) a) : (Code.region id l.toArray true).wpIn F n P Q a w :=
  region_tail (C := fun w' => ∃ p : Regrown, w' = grow (redrawn w p.d) p.os) hm hB hT ⟨⟨w.drawn + 1, #[]⟩, by rw [grow_empty]; rfl⟩ h
end Go.Proofs.YtnndhibhnakdoaaDoor
