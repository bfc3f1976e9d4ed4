/- Texts put together: Tb, Q, Q2. -/
import Derived.Test.YtkafjlhmbiaicaaG00
import Derived.Test.YtkafjlhmbiaicaaG03
import Derived.RegionIn
import Derived.BigRegionIn
import Derived.Lib.QuietBelowIn
import Derived.WalkKit
import Derived.TacticsIn
import Derived.Deep.LoopGhost
/- Stage 2: the iterators that go backward through a slice. -/
set_option linter.unusedSimpArgs false
set_option linter.unusedVariables false
namespace Go.Proofs.Ytkafjlhmbiaicaa
open Go.RowKit Go.Shelf

/-- The first j of the numbers below n, from the greatest one down. -/
def dw (n j : Nat) : List Nat := (List.range j).map fun t => n - 1 - t
theorem dw_len (n j : Nat) : (dw n j).length = j := by simp [dw]
theorem dw_succ (n j : Nat) : dw n (j + 1) = dw n j ++ [n - 1 - j] := by simp [dw, List.range_succ]
theorem dw_prefix (n : Nat) {j k : Nat} (h : j ≤ k) : dw n j <+: dw n k := by
  induction k with
  | zero => obtain rfl : j = 0 := by omega
            exact List.prefix_refl _
  | succ k ih =>
    rcases Nat.lt_or_ge k j with h1 | h1
    · obtain rfl : j = k + 1 := by omega
      exact List.prefix_refl _
    · rw [dw_succ]; exact (ih h1).trans (List.prefix_append _ _)
theorem dw_at {n : Nat} {pre : List Nat} {x : Nat} (h : pre ++ [x] <+: dw n n) : pre.length < n ∧ x = n - 1 - pre.length := by
  have hl := h.length_le
  rw [dw_len, List.length_append, List.length_singleton] at hl
  refine ⟨by omega, ?_⟩
  obtain ⟨t, ht⟩ := h
  have h3 : (dw n n)[pre.length]? = some x := by rw [← ht]; simp
  simp only [dw, List.getElem?_map, List.getElem?_range (show pre.length < n by omega), Option.map_some, Option.some.injEq] at h3
  exact h3.symm

attribute [local go_sem] Oper.semAt_some

/-- What the iterator over a slice of slices reads. -/
structure RdS (bx x n c : Nat) (V : World) : Prop where
  bc : V.cell? ⟨bx, 0, none⟩ = some (.slice (some ⟨x, 0, none⟩) n c)
  el : ∀ k, k < n → ∃ A m c', V.cell? ⟨x, k, none⟩ = some (.slice A m c')
/-- What the iterator over a slice of numbers reads. -/
structure RdI (bx x n c : Nat) (V : World) : Prop where
  bc : V.cell? ⟨bx, 0, none⟩ = some (.slice (some ⟨x, 0, none⟩) n c)
  el : ∀ k, k < n → ∃ i : Int, V.cell? ⟨x, k, none⟩ = some (.int .i64 i)
theorem ixInt {x n c k : Nat} (hk : k < n) (w' : World) : (Instr.indexAt 28 (.slice (some ⟨x, 0, none⟩) n c) (.int .i64 k)).run Try.prog w' = .ok (.pointer (some ⟨x, k, none⟩)) w' := by
  have h2 : (k : Int) < (n : Int) := by omega
  go_simp

set_option maxRecDepth 100000 in
set_option maxHeartbeats 2000000 in
theorem back83 (bx x n c : Nat) (S : Nat → Prop) (W0 : World) (hn : n ≤ 1000000) :
    Iter2 Try.prog 83 #[] #[.pointer (some ⟨bx, 0, none⟩)] (fun (k : Nat) args => ∃ v, args = #[.int .i64 k, v]) (dw n n) S (RdS bx x n c) W0 := by
  intro l J Jx hl hRd hY h0
  have hYh := hid hY
  have h0h := hid h0
  have hRdh := hid hRd
  have b0 := (hRd _ _ h0).bc
  clear hRd hY h0
  show CallsIn Fence.wide 0 Try.prog 83 #[.func (.yield l) #[] #[], .pointer (some ⟨bx, 0, none⟩)] W0 _
  refine callsIn_of_wp Try.func83 rfl trivial ?_
  simp only [Try.ntmps83, List.size_toArray, List.length_cons, List.length_nil, Nat.reduceAdd, Nat.reduceSub, Array.replicate_succ, Array.replicate_zero, List.push_toArray, List.append_toArray, List.nil_append, List.cons_append]
  gi_wp2
  clear b0
  gi_loopw [3] (fun i wr => ∃ (j : Nat) (k : Int), j ≤ n ∧ k = (n : Int) - 1 - j ∧ i = .int .i64 k ∧ J (dw n j) wr ∧ W0.heap.size ≤ wr.heap.size) (fun i _ => ((intOf i) + 1).toNat)
  case atStart => exact ⟨0, _, Nat.zero_le _, by omega, rfl, h0h.out, Nat.le_refl _⟩
  case round =>
    obtain ⟨j, k, hj, hk, rfl, hJ, hsz⟩ := hrel
    have hJh := hid hJ
    clear hJ
    by_cases hlt : j < n
    · obtain ⟨q, rfl⟩ : ∃ q : Nat, k = q := ⟨k.toNat, by omega⟩
      have hq : q < n := by omega
      have hqe : Hid (q = n - 1 - j) := hid (by omega)
      have hkh := hid hk
      clear hk
      have b0 := (hRdh.out _ _ hJh.out).bc
      obtain ⟨A, m, c', hv⟩ := (hRdh.out _ _ hJh.out).el q hq
      have hix := @ixRows x n c q hq
      obtain ⟨fn, tmps, assign, body, hy, hR⟩ := hYh.out (dw n j) q wr hJh.out (by rw [hqe.out, ← dw_succ]; exact dw_prefix n (by omega)) hsz #[.int .i64 q, .slice A m c'] ⟨_, rfl⟩
      have hRh := hid hR
      clear hR
      gi_wp2
      refine ⟨rfl, hRh.out.mono ?_⟩
      rintro e W' ⟨hkp, (⟨rfl, hJ'⟩ | ⟨rfl, hJx'⟩)⟩
      · have hs' := hkp.size
        clear b0 hv hix hy hkp
        gi_wp2
        refine ⟨⟨j + 1, _, by omega, ?_, by go_num, by rw [dw_succ, ← hqe.out]; exact hJ', by omega⟩, by first | (simp [intOf]; done) | (simp [intOf]; omega)⟩
        have := hkh.out; omega
      · gi_wp2
        refine bodyPost_ret (results_none rfl _ _ _) rfl ?_
        exact ⟨⟨_, rfl⟩, .inr hJx'⟩
    · have hkn : k < 0 := by omega
      clear hk
      gi_wp2
      go_end0
      obtain rfl : j = n := by omega
      exact ⟨⟨_, rfl⟩, .inl hJh.out⟩
set_option maxRecDepth 100000 in
set_option maxHeartbeats 2000000 in
theorem back84 (bx x n c : Nat) (S : Nat → Prop) (W0 : World) (hn : n ≤ 1000000) :
    Iter2 Try.prog 84 #[] #[.pointer (some ⟨bx, 0, none⟩)] (fun (k : Nat) args => ∃ v, args = #[.int .i64 k, v]) (dw n n) S (RdI bx x n c) W0 := by
  intro l J Jx hl hRd hY h0
  have hYh := hid hY
  have h0h := hid h0
  have hRdh := hid hRd
  have b0 := (hRd _ _ h0).bc
  clear hRd hY h0
  show CallsIn Fence.wide 0 Try.prog 84 #[.func (.yield l) #[] #[], .pointer (some ⟨bx, 0, none⟩)] W0 _
  refine callsIn_of_wp Try.func84 rfl trivial ?_
  simp only [Try.ntmps84, List.size_toArray, List.length_cons, List.length_nil, Nat.reduceAdd, Nat.reduceSub, Array.replicate_succ, Array.replicate_zero, List.push_toArray, List.append_toArray, List.nil_append, List.cons_append]
  gi_wp2
  clear b0
  gi_loopw [3] (fun i wr => ∃ (j : Nat) (k : Int), j ≤ n ∧ k = (n : Int) - 1 - j ∧ i = .int .i64 k ∧ J (dw n j) wr ∧ W0.heap.size ≤ wr.heap.size) (fun i _ => ((intOf i) + 1).toNat)
  case atStart => exact ⟨0, _, Nat.zero_le _, by omega, rfl, h0h.out, Nat.le_refl _⟩
  case round =>
    obtain ⟨j, k, hj, hk, rfl, hJ, hsz⟩ := hrel
    have hJh := hid hJ
    clear hJ
    by_cases hlt : j < n
    · obtain ⟨q, rfl⟩ : ∃ q : Nat, k = q := ⟨k.toNat, by omega⟩
      have hq : q < n := by omega
      have hqe : Hid (q = n - 1 - j) := hid (by omega)
      have hkh := hid hk
      clear hk
      have b0 := (hRdh.out _ _ hJh.out).bc
      obtain ⟨i, hv⟩ := (hRdh.out _ _ hJh.out).el q hq
      have hix := @ixInt x n c q hq
      obtain ⟨fn, tmps, assign, body, hy, hR⟩ := hYh.out (dw n j) q wr hJh.out (by rw [hqe.out, ← dw_succ]; exact dw_prefix n (by omega)) hsz #[.int .i64 q, .int .i64 i] ⟨_, rfl⟩
      have hRh := hid hR
      clear hR
      gi_wp2
      refine ⟨rfl, hRh.out.mono ?_⟩
      rintro e W' ⟨hkp, (⟨rfl, hJ'⟩ | ⟨rfl, hJx'⟩)⟩
      · have hs' := hkp.size
        clear b0 hv hix hy hkp
        gi_wp2
        refine ⟨⟨j + 1, _, by omega, ?_, by go_num, by rw [dw_succ, ← hqe.out]; exact hJ', by omega⟩, by first | (simp [intOf]; done) | (simp [intOf]; omega)⟩
        have := hkh.out; omega
      · gi_wp2
        refine bodyPost_ret (results_none rfl _ _ _) rfl ?_
        exact ⟨⟨_, rfl⟩, .inr hJx'⟩
    · have hkn : k < 0 := by omega
      clear hk
      gi_wp2
      go_end0
      obtain rfl : j = n := by omega
      exact ⟨⟨_, rfl⟩, .inl hJh.out⟩
set_option maxHeartbeats 400000 in
theorem c72 (A : Option Addr) (n c : Nat) (w : World) :
    Calls Try.prog 72 #[.slice A n c] w fun e w' => e = .returned (.func (.func 83) #[] #[.pointer (some ⟨w.heap.size, 0, none⟩)]) ∧ w' = w.alloc (.cells #[.slice A n c] 79) := by
  go_enter Try.func72, Try.ntmps72
  go_wp2
  go_ret
  exact ⟨rfl, rfl⟩
set_option maxHeartbeats 400000 in
theorem c76 (A : Option Addr) (n c : Nat) (w : World) :
    Calls Try.prog 76 #[.slice A n c] w fun e w' => e = .returned (.func (.func 84) #[] #[.pointer (some ⟨w.heap.size, 0, none⟩)]) ∧ w' = w.alloc (.cells #[.slice A n c] 28) := by
  go_enter Try.func76, Try.ntmps76
  go_wp2
  go_ret
  exact ⟨rfl, rfl⟩
end Go.Proofs.Ytkafjlhmbiaicaa

/- A region that draws its order, whose operations only read and whose callees leave alone what was there: walked once, also in a round of a loop over a function. -/
set_option linter.unusedSimpArgs false
set_option linter.unusedVariables false
namespace Go.Proofs.Ytkafjlhmbiaicaa
open Go Go.Sort Go.RowKit
variable {F : Fence} {n : Nat} {P : Program}

/-- In a round too: an operation that is quiet is no defer statement. -/
theorem quiet_semAt {C : World → Prop} {o : Oper} {a : Act} {w : World} {v : Value} (h : o.quietAtIn F n P a C w v) : (o.semAt F.round a.eval).run P w = (execOp a.eval o).run P w := by
  by_cases hd : ∃ c, o.op = .defer c
  · exfalso
    obtain ⟨c, hc⟩ := hd
    unfold Oper.quietAtIn at h
    simp only [execOp, hc, Sem.run_bind] at h
    cases hr : (resolve a.eval c o.type).run P w with
    | ok x w' => rw [hr] at h; simp [Result.andThen, Oper.quietUponIn] at h
    | halt x w' => rw [hr] at h; simp [Result.andThen, Oper.quietUponIn] at h
  · rw [Oper.semAt_eq _ _ _ (fun c hc => hd ⟨c, hc⟩)]

theorem round_wp_of_quiet {C : World → Prop} {o : Oper} {a : Act} {K : Act → Prop} {K' : Act → World → Prop} {Q' : Exit → Act → World → Prop} {w : World} (hw : C w) (h : ∀ a w', C w' → K a → K' a w')
    (ha : o.askedIn F P a C) (hh : o.quietIn F n P a C K) : o.wpIn F n P a w K' Q' := by
  obtain ⟨v, h1, h2⟩ := hh
  have h3 := h1 w hw
  unfold Oper.wpIn
  refine ⟨ha w hw, ?_⟩
  rw [quiet_semAt h3]
  unfold Oper.quietAtIn at h3
  generalize (execOp a.eval o).run P w = r at h3 ⊢
  match r, h3 with
  | .ok (.value u) w', h3 => obtain ⟨rfl, rfl⟩ := h3; exact h _ _ hw h2
  | .ok .skip w', h3 => obtain ⟨rfl, rfl⟩ := h3; exact h _ _ hw h2
  | .ok (.enter f args) w', h3 =>
    obtain ⟨rfl, hd, hc⟩ := h3
    exact ⟨hd, hc.mono fun e w'' ⟨he, hw''⟩ => by subst he; exact h _ _ hw'' h2⟩

theorem round_op_of_quiet {C : World → Prop} {ops : Array Oper} {i : Nat} {a : Act} {K : Act → Prop} {K' : Act → World → Prop} {Q' : Exit → Act → World → Prop} {w : World} (hC : C w) (h : ∀ a w', C w' → K a → K' a w')
    (hh : qOpIn F n P ops C i K a) : wpOpIn F n P ops Q' i K' a w := by
  unfold qOpIn at hh
  unfold wpOpIn
  cases ho : ops[i]? with
  | none => rw [ho] at hh; exact h _ _ hC hh
  | some o =>
    rw [ho] at hh
    obtain ⟨ha, hh⟩ := hh
    dsimp only
    by_cases hw : Region.wanted o (yielded ops a.tmps) = true
    · rw [if_pos hw] at hh ⊢; exact round_wp_of_quiet hC h ha hh
    · rw [if_neg hw] at hh ⊢; exact ⟨ha w hC, h _ _ hC hh⟩

theorem round_any_of_quiet {C : World → Prop} {md : Region.Mode} {ops : Array Oper} {Q : Act → Prop} {Q' : Exit → Act → World → Prop} (hQ : ∀ a w, C w → Q a → Q' .normal a w) : ∀ (fuel : Nat) (listed : Array Bool) (a : Act) (w : World), C w →
    wpAnyQIn F n P md ops C Q fuel listed a → wpAnyIn F n P md ops Q' fuel listed a w
  | 0, _, _, _, hw, h => ⟨h.1, hQ _ _ hw h.2⟩
  | fuel + 1, _, _, _, hw, h => ⟨fun h0 => hQ _ _ hw (h.1 h0), fun i hi => round_op_of_quiet hw (fun a' w' hw' => round_any_of_quiet hQ fuel _ a' w' hw') (h.2 i hi)⟩

theorem round_region_quiet {C : World → Prop} {ops : Array Oper} {id : Nat} {Q : Exit → Act → World → Prop} {a : Act} {w : World} (hm : P.follows .mixedOrders = true) (hB : Region.lexB .any ops = true) (hC : C { w with drawn := w.drawn + 1 })
    (h : wpQuietIn F n P ops C (fun a' => ∀ w', C w' → Q .normal a' w') ops.toList a) : (Code.region id ops true).wpIn F n P Q a w := by
  simp only [Region.lexB, Bool.and_eq_true] at hB
  refine wpIn_region_any hm (round_any_of_quiet (Q := fun a' => ∀ w', C w' → Q .normal a' w') (fun _ w' hw' h => h w' hw') _ _ _ _ hC ?_)
  have := wpAnyQIn_lex (F := F) (n := n) (C := C) (md := .any) hB.1 ops.toList 0 (Array.replicate ops.size false) a (by simp) (by simpa using hB.2) h
  simpa using this

theorem round_region_below {id : Nat} {Q : Exit → Act → World → Prop} {a : Act} {w : World} {l : List Oper} (hm : P.follows .mixedOrders = true) (hB : Region.lexB .any l.toArray = true)
    (h : wpQuietIn F n P l.toArray (fun w' => ∃ p : Regrown, w' = grow (redrawn w p.d) p.os) (fun a' => ∀ w', (∃ p : Regrown, w' = grow (redrawn w p.d) p.os) → Q .normal a' w') l a) : (Code.region id l.toArray true).wpIn F n P Q a w :=
  round_region_quiet (C := fun w' => ∃ p : Regrown, w' = grow (redrawn w p.d) p.os) hm hB ⟨⟨w.drawn + 1, #[]⟩, by rw [grow_empty]; rfl⟩ (by simpa using h)

/-- A cell of an old block, at every offset, in every world of the class. -/
theorem cells_regrown {w : World} {b : Nat} {cs : Array Value} {e : TypeId} {f : Nat × Nat} (h : w.heap[b]? = some (.cells cs e f)) (d : Nat) (os : Array Obj) (j : Nat) : (grow (redrawn w d) os).cell? ⟨b, j, none⟩ = cs[j]? := by
  have hb : b < w.heap.size := (Array.getElem?_eq_some_iff.1 h).1
  rw [(below_regrown w d os).cell (p := ⟨b, j, none⟩) hb]
  simp [World.cell?, h]
end Go.Proofs.Ytkafjlhmbiaicaa

/- A region that draws its order, whose operations only read and whose callees leave alone what was there, but for its last operation, a store behind all others: walked once. -/
set_option linter.unusedSimpArgs false
set_option linter.unusedVariables false
namespace Go.Proofs.Ytkafjlhmbiaicaa
open Go Go.Sort Go.RowKit
variable {F : Fence} {n : Nat} {P : Program}

def stub : List Oper → List Oper
  | [] => []
  | [o] => [{ o with op := .move (.const undef) }]
  | o :: p :: r => o :: stub (p :: r)
def lastOp : List Oper → Oper
  | [] => default
  | [o] => o
  | _ :: p :: r => lastOp (p :: r)
/-- Every edge goes back; the last operation stands behind all others, writes no slot and has no guard. -/
def tailB (l : List Oper) : Bool :=
  (l.zipIdx.all fun x => x.1.after.toList.all fun e => decide (e.on < x.2)) && (List.range (l.length - 1)).all (fun j => (lastOp l).after.toList.any fun e => e.on == j && Region.binds .any e) && (lastOp l).dst.isNone && (lastOp l).guard.isNone && decide (0 < l.length)

theorem stub_length (l : List Oper) : (stub l).length = l.length := by
  induction l with
  | nil => rfl
  | cons o r ih => cases r with
    | nil => rfl
    | cons p r => simp only [stub, List.length_cons] at ih ⊢; omega
theorem stub_get (l : List Oper) (i : Nat) (h : i + 1 < l.length) : (stub l)[i]? = l[i]? := by
  induction l generalizing i with
  | nil => simp at h
  | cons o r ih => cases r with
    | nil => simp at h
    | cons p r => cases i with
      | zero => rfl
      | succ i => simp only [stub, List.getElem?_cons_succ]; exact ih i (by simpa using h)
theorem stub_last (l : List Oper) (i : Nat) (h : i + 1 = l.length) : (stub l)[i]? = some { lastOp l with op := .move (.const undef) } ∧ l[i]? = some (lastOp l) := by
  induction l generalizing i with
  | nil => simp at h
  | cons o r ih => cases r with
    | nil => obtain rfl : i = 0 := by simpa using h
             exact ⟨rfl, rfl⟩
    | cons p r => cases i with
      | zero => simp at h
      | succ i => simp only [stub, lastOp, List.getElem?_cons_succ]; exact ih i (by simpa using h)
theorem stub_rel (l : List Oper) (i : Nat) : ((stub l)[i]?).map (·.after) = (l[i]?).map (·.after) ∧ ((stub l)[i]?).bind (·.dst) = (l[i]?).bind (·.dst) := by
  rcases Nat.lt_trichotomy (i + 1) l.length with h | h | h
  · rw [stub_get l i h]; exact ⟨rfl, rfl⟩
  · obtain ⟨h1, h2⟩ := stub_last l i h
    rw [h1, h2]; exact ⟨rfl, rfl⟩
  · rw [List.getElem?_eq_none (by rw [stub_length]; omega), List.getElem?_eq_none (by omega)]; exact ⟨rfl, rfl⟩
theorem stub_ready (md : Region.Mode) (l : List Oper) (listed : Array Bool) : Region.ready md (stub l).toArray listed = Region.ready md l.toArray listed := by
  unfold Region.ready
  simp only [List.size_toArray, stub_length, List.getElem?_toArray]
  congr 1
  funext i
  have h := (stub_rel l i).1
  have e : ∀ x : Option Oper, (x.map fun o => o.after.all fun e => !Region.binds md e || listed.getD e.on false) = (x.map (·.after)).map fun a => a.all fun e => !Region.binds md e || listed.getD e.on false := fun x => by cases x <;> rfl
  rw [e, e, h]
theorem stub_yielded (l : List Oper) (tmps : Array Value) : yielded (stub l).toArray tmps = yielded l.toArray tmps := by
  funext j
  unfold yielded
  simp only [List.getElem?_toArray]
  rw [(stub_rel l j).2]

structure TailOk (l : List Oper) : Prop where
  back : ∀ (i : Nat) (o : Oper), l[i]? = some o → ∀ e ∈ o.after, e.on < i
  behind : ∀ j : Nat, j + 1 < l.length → ∃ e ∈ (lastOp l).after, e.on = j ∧ Region.binds .any e = true
  dst : (lastOp l).dst = none
  guard : (lastOp l).guard = none
  pos : 0 < l.length
theorem tailB_ok {l : List Oper} (h : tailB l = true) : TailOk l := by
  simp only [tailB, Bool.and_eq_true, List.all_eq_true, decide_eq_true_eq, Option.isNone_iff_eq_none, List.mem_range, List.any_eq_true, beq_iff_eq] at h
  obtain ⟨⟨⟨⟨h1, h2⟩, h3⟩, h4⟩, h5⟩ := h
  refine ⟨fun i o ho e he => ?_, fun j hj => ?_, h3, h4, h5⟩
  · exact h1 (o, i) (List.mem_zipIdx_iff_getElem?.2 ho) e (Array.mem_toList_iff.2 he)
  · obtain ⟨e, he, h6, h7⟩ := h2 j (by omega)
    exact ⟨e, Array.mem_toList_iff.1 he, h6, h7⟩

/-- As long as one is not listed, one is ready. -/
theorem ready_some {l : List Oper} (ok : TailOk l) (md : Region.Mode) (listed : Array Bool) (hsz : listed.size = l.length) {i : Nat} (hi : i < l.length) (hl : listed.getD i true = false) : Region.ready md l.toArray listed ≠ [] := by
  obtain ⟨k, hk, hmin⟩ := exists_least (p := fun k => k < l.length ∧ listed.getD k true = false) ⟨i, hi, hl⟩
  intro he
  have hmem : k ∈ Region.ready md l.toArray listed := by
    unfold Region.ready
    simp only [List.size_toArray, List.getElem?_toArray, List.mem_filter, List.mem_range, Bool.and_eq_true, Bool.not_eq_true']
    refine ⟨hk.1, hk.2, ?_⟩
    rw [List.getElem?_eq_getElem hk.1]
    simp only [Option.map_some, Option.getD_some]
    rw [Array.all_eq_true_iff_forall_mem]
    intro e hme
    have hlt := ok.back k _ (List.getElem?_eq_getElem hk.1) e hme
    cases hb : listed.getD e.on true with
    | false => have := hmin e.on ⟨by omega, hb⟩; omega
    | true =>
      have h8 : e.on < listed.size := by have := hk.1; omega
      have h9 : listed.getD e.on false = true := by
        simp only [Array.getD, h8, dif_pos] at hb ⊢
        exact hb
      simp [h9]
  rw [he] at hmem
  exact absurd hmem (by simp)

theorem ready_mem {md : Region.Mode} {ops : Array Oper} {listed : Array Bool} {i : Nat} (h : i ∈ Region.ready md ops listed) : i < ops.size ∧ listed.getD i true = false ∧ ∃ o, ops[i]? = some o ∧ ∀ e ∈ o.after, Region.binds md e = true → listed.getD e.on false = true := by
  unfold Region.ready at h
  simp only [List.mem_filter, List.mem_range, Bool.and_eq_true, Bool.not_eq_true'] at h
  obtain ⟨h1, h2, h3⟩ := h
  refine ⟨h1, h2, ops[i], Array.getElem?_eq_getElem h1, fun e he hb => ?_⟩
  rw [Array.getElem?_eq_getElem h1] at h3
  simp only [Option.map_some, Option.getD_some] at h3
  have := Array.all_eq_true_iff_forall_mem.1 h3 e he
  simpa [hb] using this

/-- Where the last one is listed too, nothing is ready. -/
theorem ready_none {l : List Oper} {md : Region.Mode} {listed : Array Bool} (h : ∀ j, j < l.length → listed.getD j true = true) : Region.ready md l.toArray listed = [] := by
  rw [List.eq_nil_iff_forall_not_mem]
  intro i hi
  obtain ⟨h1, h2, _⟩ := ready_mem hi
  rw [h i (by simpa using h1)] at h2
  cases h2

theorem getD_set_ne {a : Array Bool} {i j : Nat} (h : j ≠ i) (v d : Bool) : (a.setIfInBounds i v).getD j d = a.getD j d := by
  simp only [Array.getD_eq_getD_getElem?, Array.getElem?_setIfInBounds_ne (Ne.symm h)]

theorem tail_any {C : World → Prop} {l : List Oper} (ok : TailOk l) {Q : Exit → Act → World → Prop} {QL : Act → Prop}
    (hQ : ∀ a w, C w → QL a → (lastOp l).wpIn F n P a w (fun a' w' => Q .normal a' w') Q) :
    ∀ (fuel : Nat) (listed : Array Bool) (a : Act) (w : World), listed.size = l.length → listed.getD (l.length - 1) true = false → C w →
      wpAnyQIn F n P .any (stub l).toArray C QL fuel listed a → wpAnyIn F n P .any l.toArray Q fuel listed a w
  | 0, listed, a, w, hsz, hN, hw, h => by
    have := h.1
    rw [stub_ready] at this
    exact absurd this (ready_some ok .any listed hsz (show l.length - 1 < l.length by have := ok.pos; omega) hN)
  | fuel + 1, listed, a, w, hsz, hN, hw, h => by
    have hpos := ok.pos
    refine ⟨fun h0 => absurd h0 (ready_some ok .any listed hsz (show l.length - 1 < l.length by omega) hN), fun i hi => ?_⟩
    have hq := h.2 i (by rw [stub_ready]; exact hi)
    obtain ⟨h1, h2, o, ho, h3⟩ := ready_mem hi
    have hil : i < l.length := by simpa using h1
    by_cases hlast : i + 1 = l.length
    · obtain ⟨e1, e2⟩ := stub_last l i hlast
      have hall : ∀ j, j < l.length → (listed.setIfInBounds i true).getD j true = true := by
        intro j hj
        by_cases hji : j = i
        · subst hji; simp [Array.getD, hsz, hj]
        · obtain ⟨e, he, hej, hb⟩ := ok.behind j (by omega)
          rw [List.getElem?_toArray, e2] at ho
          cases ho
          have h4 := h3 e he hb
          rw [hej] at h4
          rw [getD_set_ne hji]
          simp only [Array.getD, hsz, hj, dif_pos] at h4 ⊢
          exact h4
      have hnone := ready_none (md := .any) hall
      unfold qOpIn at hq
      rw [List.getElem?_toArray, e1] at hq
      simp only [Region.wanted, ok.guard, if_true] at hq
      obtain ⟨_, v, _, hv⟩ := hq
      have hdst : ({ lastOp l with op := Op.move (.const undef) } : Oper).dst = none := ok.dst
      rw [hdst] at hv
      have hQL : QL a := by
        cases fuel with
        | zero => exact hv.2
        | succ f => exact hv.1 (by rw [stub_ready]; exact hnone)
      unfold wpOpIn
      rw [List.getElem?_toArray, e2]
      simp only [Region.wanted, ok.guard, if_true]
      refine Oper.wpIn_mono (fun a' w' hq' => ?_) (hQ a w hw hQL)
      cases fuel with
      | zero => exact ⟨hnone, hq'⟩
      | succ f => exact ⟨fun _ => hq', fun k hk => by rw [hnone] at hk; cases hk⟩
    · have e1 := stub_get l i (by omega)
      have hop : ∀ K : Act → Prop, qOpIn F n P (stub l).toArray C i K a = qOpIn F n P l.toArray C i K a := by
        intro K
        unfold qOpIn
        rw [List.getElem?_toArray, List.getElem?_toArray, e1, stub_yielded]
      rw [hop] at hq
      refine round_op_of_quiet hw (fun a' w' hw' hk => ?_) hq
      refine tail_any ok hQ fuel _ a' w' (by simpa using hsz) ?_ hw' hk
      have hne : l.length - 1 ≠ i := by omega
      rw [getD_set_ne hne]
      exact hN

theorem region_tail {C : World → Prop} {l : List Oper} {id : Nat} {Q : Exit → Act → World → Prop} {a : Act} {w : World} (hm : P.follows .mixedOrders = true) (hB : Region.lexB .any (stub l).toArray = true) (hT : tailB l = true) (hC : C { w with drawn := w.drawn + 1 })
    (h : wpQuietIn F n P (stub l).toArray C (fun a' => ∀ w', C w' → (lastOp l).wpIn F n P a' w' (fun a'' w'' => Q .normal a'' w'') Q) (stub l) a) : (Code.region id l.toArray true).wpIn F n P Q a w := by
  have ok := tailB_ok hT
  simp only [Region.lexB, Bool.and_eq_true] at hB
  refine wpIn_region_any hm ?_
  have h2 := wpAnyQIn_lex (F := F) (n := n) (C := C) (md := .any) hB.1 (stub l) 0 (Array.replicate (stub l).length false) a (by simp) (by simpa using hB.2) h
  rw [stub_length] at h2
  simp only [List.size_toArray]
  exact tail_any ok (fun a w hw hq => hq w hw) l.length _ a _ (by simp) (by have := ok.pos; simp [Array.getD]; omega) hC h2

theorem round_region_tail {id : Nat} {Q : Exit → Act → World → Prop} {a : Act} {w : World} {l : List Oper} (hm : P.follows .mixedOrders = true) (hB : Region.lexB .any (stub l).toArray = true) (hT : tailB l = true)
    (h : wpQuietIn F n P (stub l).toArray (fun w' => ∃ p : Regrown, w' = grow (redrawn w p.d) p.os) (fun a' => ∀ w', (∃ p : Regrown, w' = grow (redrawn w p.d) p.os) → (lastOp l).wpIn F n P a' w' (fun a'' w'' => Q .normal a'' w'') Q) (stub l) a) : (Code.region id l.toArray true).wpIn F n P Q a w :=
  region_tail (C := fun w' => ∃ p : Regrown, w' = grow (redrawn w p.d) p.os) hm hB hT ⟨⟨w.drawn + 1, #[]⟩, by rw [grow_empty]; rfl⟩ h
end Go.Proofs.Ytkafjlhmbiaicaa
