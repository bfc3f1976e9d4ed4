/- Stage 6: a loop that ranges over a function value, where the iterator lays memory of its own: the law for the caller, the contract of the iterator over all states; what is left when a function that held such loops ends. -/
import Derived.Test.YtajllhjoagldkaaMa
import Derived.RangeFuncNested
import Derived.RangeFuncBound
import Derived.RangeFuncCalls
import Derived.RangeFuncLeaves
import Derived.Shelf.Abstract
import Derived.Shelf.RegionOpen
import Derived.OwnWalkIn
import Derived.TacticsInMore
import Derived.LoopNIn
import Derived.LoopIn
import Derived.RegionIn
import Derived.BigRegionIn
set_option linter.unusedSimpArgs false
set_option linter.unusedVariables false
namespace Go.Proofs.Ytajllhjoagldkaa
open Go.RowKit Go.Shelf Go.Maps Go.WideMaps
/-- From w to w' only blocks of S have turned, and new ones have been laid. -/
structure Keep (S : Nat → Prop) (w w' : World) : Prop where
  os : w'.os = w.os
  tape : w'.tape = w.tape
  output : w'.output = w.output
  size : w.heap.size ≤ w'.heap.size
  block : ∀ k, k < w.heap.size → ¬ S k → w'.heap[k]? = w.heap[k]?

theorem Keep.refl (S : Nat → Prop) (w : World) : Keep S w w := ⟨rfl, rfl, rfl, Nat.le_refl _, fun _ _ _ => rfl⟩
theorem Keep.trans {S : Nat → Prop} {a b c : World} (h : Keep S a b) (k : Keep S b c) : Keep S a c :=
  ⟨k.os.trans h.os, k.tape.trans h.tape, k.output.trans h.output, Nat.le_trans h.size k.size, fun i hi hs => (k.block i (Nat.lt_of_lt_of_le hi h.size) hs).trans (h.block i hi hs)⟩
theorem Keep.imp {S T : Nat → Prop} {a b : World} (h : Keep S a b) (hst : ∀ k, k < a.heap.size → S k → T k) : Keep T a b :=
  ⟨h.os, h.tape, h.output, h.size, fun i hi hs => h.block i hi (fun e => hs (hst i hi e))⟩
theorem Keep.drew {S : Nat → Prop} {a b : World} (h : Keep S a b) : Keep S a b.drew := ⟨h.os, h.tape, h.output, h.size, h.block⟩
theorem Keep.drewN {S : Nat → Prop} {a b : World} (h : Keep S a b) (n : Nat) : Keep S a (b.drewN n) := h.trans ⟨rfl, rfl, rfl, Nat.le_refl _, fun _ _ _ => rfl⟩
theorem Keep.alloc {S : Nat → Prop} {a b : World} (h : Keep S a b) (o : Obj) : Keep S a (b.alloc o) :=
  h.trans ⟨rfl, rfl, rfl, by simp, fun k hk _ => Below.heap_alloc _ _ _ hk⟩
theorem Keep.setCell {S : Nat → Prop} {a b : World} (h : Keep S a b) {p : Addr} (hp : S p.block ∨ a.heap.size ≤ p.block) (u : Value) : Keep S a (b.setCell p u) := by
  refine ⟨h.os, h.tape, h.output, by simpa [World.setCell] using h.size, fun k hk hs => ?_⟩
  rw [Below.heap_setCell _ _ _ _ (by rintro rfl; rcases hp with hp | hp; exact hs hp; omega)]
  exact h.block k hk hs
theorem Keep.below {S : Nat → Prop} {a b c : World} {B : Nat} (h : Keep S a b) (k : Below B b c) (hB : a.heap.size ≤ B) : Keep S a c :=
  ⟨k.os.trans h.os, k.tape.trans h.tape, k.output.trans h.output, Nat.le_trans h.size k.size, fun i hi hs => (k.block i (by omega)).trans (h.block i hi hs)⟩
theorem Keep.of_below {S : Nat → Prop} {a b : World} {B : Nat} (k : Below B a b) (hB : a.heap.size ≤ B) : Keep S a b := (Keep.refl S a).below k hB
/-- What S leaves alone below B is as it was below B. -/
theorem Keep.to_below {S : Nat → Prop} {a b : World} {B : Nat} (h : Keep S a b) (hB : B ≤ a.heap.size) (hS : ∀ k, S k → B ≤ k) : Below B a b :=
  ⟨h.os, h.tape, h.output, h.size, fun k hk => h.block k (by omega) (fun e => by have := hS k e; omega)⟩
theorem Keep.putObj {S : Nat → Prop} {a b : World} (h : Keep S a b) (l : Nat) (o : Obj) (hl : S l ∨ a.heap.size ≤ l) : Keep S a (b.putObj l o) := by
  refine ⟨h.os, h.tape, h.output, by simpa using h.size, fun k hk hs => ?_⟩
  rw [World.putObj_heap_other (by rintro rfl; rcases hl with hp | hp; exact hs hp; omega)]
  exact h.block k hk hs
theorem Below.putObj' {B : Nat} {a b : World} (h : Below B a b) (l : Nat) (o : Obj) (hl : B ≤ l) : Below B a (b.putObj l o) :=
  ⟨h.os, h.tape, h.output, by simpa using h.size, fun k hk => by rw [World.putObj_heap_other (by omega)]; exact h.block k hk⟩

/-- How the body of a round may be left. -/
def rfPost {α : Type} (S : Nat → Prop) (I : List α → World → Prop) (Ix : Code → World → Prop) (s : List α) (W : World) : Exit → Act → World → Prop
  | .normal, _, W' => Keep S W W' ∧ I s W'
  | .ret, _, W' => Keep S W W' ∧ Ix .ret W'
  | .exit id, _, W' => Keep S W W' ∧ Ix (.exit id) W'
  | .goto t, _, W' => Keep S W W' ∧ Ix (.goto t) W'
  | _, _, _ => False

/-- The iterator's contract, at a call in the world W: it hands xs to yield, one after the other, each as the arguments that R says, till a round says no more. It may lay new memory. A round may write the blocks of S and its own record l. -/
def Iter3 {α : Type} (P : Program) (gf : Nat) (la lb : Array Value) (R : α → Array Value → Prop) (xs : List α) (S : Nat → Prop) (W : World) : Prop :=
  ∀ (l : Nat) (J : List α → World → Prop) (Jx : World → Prop), (∃ r, W.heap[l]? = some (.loop r)) →
    (∀ s A B, J s A → Keep (fun _ => False) A B → J s B) →
    (∀ pre x W1, J pre W1 → pre ++ [x] <+: xs → W.heap.size < W1.heap.size → ∀ args, R x args → YieldAt Fence.wide 0 P l args W1 fun e W' =>
      Keep (fun k => S k ∨ k = l) W1 W' ∧ ((e = .returned (.bool true) ∧ J (pre ++ [x]) W') ∨ (e = .returned (.bool false) ∧ Jx W'))) →
    J [] W →
    CallsIn Fence.wide 0 P gf (la ++ #[.func (.yield l) #[] #[]] ++ lb) W fun e W' => (∃ v, e = .returned v) ∧ (J xs W' ∨ Jx W')

theorem rf_law3 {α : Type} {P : Program} {g : Operand} {ps : Array Tmp} {assign body : Code} {Q : Exit → Act → World → Prop} {a : Act} {w : World}
    {gf : Nat} {la lb : Array Value} (hg : a.eval g = .func (.func gf) la lb) (eg : ∀ args w, (callFunc gf args).run P w = .ok (.enter gf args) w)
    {R : α → Array Value → Prop} (hps : ∀ x args, R x args → args.size = ps.size) {xs : List α} {S : Nat → Prop} (hS0 : ¬ S w.heap.size) (hS1 : ¬ S (w.heap.size + 1))
    (iter : ∀ W, Below w.heap.size w W → W.heap.size = w.heap.size + 2 → Iter3 P gf la lb R xs S W)
    (I : List α → World → Prop) (Ix : Code → World → Prop) (hI : ∀ s A B, I s A → Keep (fun k => k = w.heap.size + 1) A B → I s B) (hIx : ∀ c A B, Ix c A → Keep (fun k => k = w.heap.size + 1) A B → Ix c B) (h0 : I [] w)
    (hround : ∀ (pre : List α) (x : α) (W : World), I pre W → pre ++ [x] <+: xs → w.heap.size + 3 ≤ W.heap.size → (∃ r, W.heap[w.heap.size + 1]? = some (.loop r)) → ∀ args, R x args →
      assign.wpIn (Fence.wide.inRound (w.heap.size + 1)) 0 P (Exit.then (fun a₁ W₁ => Keep S W W₁ ∧ I pre W₁ ∧ ∀ W₂, W₂.heap.size = W₁.heap.size → (∀ k, k ≠ w.heap.size + 1 → W₂.heap[k]? = W₁.heap[k]?) → (∃ r, W₂.heap[w.heap.size + 1]? = some (.loop r)) → I pre W₂ →
          body.wpIn (Fence.wide.inRound (w.heap.size + 1)) 0 P (rfPost S I Ix (pre ++ [x]) W₂) a₁ W₂) (fun _ _ _ => False))
        { tmps := (ps.zip args).foldl (fun t (p, v) => t.setIfInBounds p v) a.tmps, defers := [] } W)
    (hdone : ∀ (W : World), I xs W → W.heap[w.heap.size]? = some (.deferred (some [])) → w.heap.size + 2 ≤ W.heap.size → Q .normal { a with defers := { target := .collected w.heap.size, args := #[] } :: a.defers } W)
    (hstop : ∀ (c : Code) (W : World), Ix c W → W.heap[w.heap.size]? = some (.deferred (some [])) → w.heap.size + 2 ≤ W.heap.size → c.wpIn Fence.wide 0 P Q { a with defers := { target := .collected w.heap.size, args := #[] } :: a.defers } W) :
    (Code.rangeFunc g ps assign body).wpIn Fence.wide 0 P Q a w := by
  refine wpIn_rangeFunc ?_
  intro fn hfn
  obtain ⟨rec, hrec⟩ : ∃ rec : LoopState → Option Code → Loop, rec = fun st pe => { state := st, pending := pe, fn, tmps := a.tmps, params := ps, assign, body, defers := w.heap.size } := ⟨_, rfl⟩
  obtain ⟨W1, hW1⟩ : ∃ W1, (w.alloc (.deferred (some []))).alloc (.loop (rec .ready none)) = W1 := ⟨_, rfl⟩
  have hsz : W1.heap.size = w.heap.size + 2 := by rw [← hW1]; simp
  have hL1 : W1.heap[w.heap.size + 1]? = some (.loop (rec .ready none)) := by
    rw [← hW1]; have := World.alloc_heap_new (w.alloc (.deferred (some []))) (.loop (rec .ready none)); rwa [World.size_alloc] at this
  have hK1 : W1.heap[w.heap.size]? = some (.deferred (some [])) := by
    rw [← hW1]; exact (Below.heap_alloc _ _ _ (by simp)).trans (World.alloc_heap_new w _)
  have hb1 : Below w.heap.size w W1 := by rw [← hW1]; exact ((Below.refl _ w).alloc (Nat.le_refl _) _).alloc (by simp) _
  refine ⟨w.heap.size + 1, [{ target := .collected w.heap.size, args := #[] }], W1, { target := .fn (.func gf) lb, args := la ++ #[.func (.yield (w.heap.size + 1)) #[] #[]] }, W1, gf,
    la ++ #[.func (.yield (w.heap.size + 1)) #[] #[]] ++ lb, W1, ?_, ?_, ?_, ?_, fun h => by simp [Fence.wide] at h, ?_⟩
  · rw [← hW1, hrec]; exact run_enterLoop_outer _ _ _ _ _
  · simp only [resolve, hg]
    simp [go_sem]
  · intro f' _; trivial
  · simp [invoke, go_sem, eg]
  · have hnS := hS1
    have hnS0 := hS0
    refine (iter W1 hb1 hsz (w.heap.size + 1)
      (fun pre W => I pre W ∧ W.heap[w.heap.size + 1]? = some (.loop (rec .ready none)) ∧ W.heap[w.heap.size]? = some (.deferred (some [])) ∧ w.heap.size + 2 ≤ W.heap.size)
      (fun W => ∃ c, Ix c W ∧ W.heap[w.heap.size + 1]? = some (.loop (rec .done (some c))) ∧ W.heap[w.heap.size]? = some (.deferred (some [])) ∧ w.heap.size + 2 ≤ W.heap.size)
      ⟨_, hL1⟩
      (fun s A B hs hk => ⟨hI s A B hs.1 (hk.imp fun _ _ h => h.elim), (hk.block _ (Array.getElem?_eq_some_iff.1 hs.2.1).1 id).trans hs.2.1, (hk.block _ (Array.getElem?_eq_some_iff.1 hs.2.2.1).1 id).trans hs.2.2.1, Nat.le_trans hs.2.2.2 hk.size⟩)
      ?_ ⟨hI _ _ _ h0 (Keep.of_below hb1 (Nat.le_refl _)), hL1, hK1, by omega⟩).mono ?_
    · -- one round
      rintro pre x W ⟨hi, hl, hk, hs2⟩ hpre hs33 args hR
      have hs3 : w.heap.size + 3 ≤ W.heap.size := by omega
      have hy := run_yield (P := P) (args := args) hl (by rw [hrec]; exact hps x args hR)
      rw [hrec] at hy
      refine ⟨fn, _, assign, body, hy, roundIn_of_wpIn (F := Fence.wide) trivial ?_⟩
      refine wpIn_mono (hround pre x W hi hpre hs3 ⟨_, hl⟩ args hR) ?_
      rintro e a₁ W₁ hq
      cases e with
      | normal =>
        obtain ⟨hkw, hi1, hbody⟩ := hq
        have hl1 : W₁.heap[w.heap.size + 1]? = some (.loop (rec .ready none)) := (hkw.block _ (by omega) hnS).trans hl
        have hd1 : W₁.heap[w.heap.size]? = some (.deferred (some [])) := (hkw.block _ (by omega) hnS0).trans hk
        have hs1 : w.heap.size + 2 ≤ W₁.heap.size := Nat.le_trans hs2 hkw.size
        refine ⟨_, run_beginRound hl1 (by rw [hrec]), ?_⟩
        obtain ⟨W₂, hW₂⟩ : ∃ W₂, W₁.putObj (w.heap.size + 1) (.loop { rec .ready none with state := .busy }) = W₂ := ⟨_, rfl⟩
        rw [hW₂]
        have hl2 : W₂.heap[w.heap.size + 1]? = some (.loop { rec .ready none with state := .busy }) := by rw [← hW₂]; exact World.putObj_heap_same (by omega)
        have hd2 : W₂.heap[w.heap.size]? = some (.deferred (some [])) := by rw [← hW₂]; exact (World.putObj_heap_other (by omega)).trans hd1
        have hs3 : W₂.heap.size = W₁.heap.size := by rw [← hW₂]; simp
        have hb12 : Keep (fun k => k = w.heap.size + 1) W₁ W₂ := by rw [← hW₂]; exact (Keep.refl _ _).putObj _ _ (.inl rfl)
        have hk12 : Keep (fun k => S k ∨ k = w.heap.size + 1) W W₂ := by
          rw [← hW₂]; exact Keep.putObj (hkw.imp (fun k _ h => .inl h)) _ _ (.inl (.inr rfl))
        refine wpIn_mono (hbody W₂ hs3 (fun k hk' => by rw [← hW₂]; exact World.putObj_heap_other hk') ⟨_, hl2⟩ (hI _ _ _ hi1 hb12)) ?_
        have fin : ∀ (jump : Option Code) (W3 : World), Keep S W₂ W3 →
            ∃ W4, (Instr.endRound (w.heap.size + 1) jump).run P W3 = .ok (.bool jump.isNone) W4 ∧ W4.heap[w.heap.size + 1]? = some (.loop (rec (if jump.isNone then .ready else .done) jump)) ∧
              W4.heap[w.heap.size]? = some (.deferred (some [])) ∧ w.heap.size + 2 ≤ W4.heap.size ∧ Keep (fun k => k = w.heap.size + 1) W3 W4 ∧ Keep (fun k => S k ∨ k = w.heap.size + 1) W W4 := fun jump W3 hk3 => by
          have hl3 : W3.heap[w.heap.size + 1]? = some (.loop { rec .ready none with state := .busy }) := (hk3.block _ (by omega) hnS).trans hl2
          have hd3 : W3.heap[w.heap.size]? = some (.deferred (some [])) := (hk3.block _ (by omega) hnS0).trans hd2
          have hs4 : w.heap.size + 2 ≤ W3.heap.size := Nat.le_trans (by omega) hk3.size
          have hr := run_endRound (P := P) jump hl3
          refine ⟨_, hr, ?_, ?_, ?_, ?_, ?_⟩
          · rw [World.putObj_heap_same (by omega), hrec]
          · exact (World.putObj_heap_other (by omega)).trans hd3
          · simpa using hs4
          · exact (Keep.refl _ _).putObj _ _ (.inl rfl)
          · exact Keep.putObj (hk12.trans (hk3.imp (fun k _ h => .inl h))) _ _ (.inl (.inr rfl))
        rintro e3 a3 W3 hp
        cases e3 with
        | normal =>
          obtain ⟨hk3, hi3⟩ := hp
          obtain ⟨W4, hr, hl4, hd4, hs4, hb4, hk4⟩ := fin none W3 hk3
          exact ⟨_, W4, hr, hk4, .inl ⟨rfl, hI _ _ _ hi3 hb4, hl4, hd4, hs4⟩⟩
        | ret =>
          obtain ⟨hk3, hi3⟩ := hp
          obtain ⟨W4, hr, hl4, hd4, hs4, hb4, hk4⟩ := fin (some .ret) W3 hk3
          exact ⟨_, W4, hr, hk4, .inr ⟨rfl, .ret, hIx _ _ _ hi3 hb4, hl4, hd4, hs4⟩⟩
        | exit id =>
          obtain ⟨hk3, hi3⟩ := hp
          obtain ⟨W4, hr, hl4, hd4, hs4, hb4, hk4⟩ := fin (some (.exit id)) W3 hk3
          exact ⟨_, W4, hr, hk4, .inr ⟨rfl, .exit id, hIx _ _ _ hi3 hb4, hl4, hd4, hs4⟩⟩
        | goto t =>
          obtain ⟨hk3, hi3⟩ := hp
          obtain ⟨W4, hr, hl4, hd4, hs4, hb4, hk4⟩ := fin (some (.goto t)) W3 hk3
          exact ⟨_, W4, hr, hk4, .inr ⟨rfl, .goto t, hIx _ _ _ hi3 hb4, hl4, hd4, hs4⟩⟩
        | panic ch => exact hp.elim
        | outgrown => exact hp.elim
      | exit id => exact hq.elim
      | goto t => exact hq.elim
      | ret => exact hq.elim
      | panic ch => exact hq.elim
      | outgrown => exact hq.elim
    · -- behind the iterator
      rintro e W2 ⟨⟨v, rfl⟩, (⟨hi, hl, hk, hs2⟩ | ⟨c, hi, hl, hk, hs2⟩)⟩
      · refine ⟨none, _, (by have := run_endLoop (P := P) hl (by rw [hrec]; simp); rw [hrec] at this; exact this), ?_⟩
        exact hdone _ (hI _ _ _ hi ((Keep.refl _ _).putObj _ _ (.inl rfl))) ((World.putObj_heap_other (by omega)).trans hk) (by simpa using hs2)
      · refine ⟨some c, _, (by have := run_endLoop (P := P) hl (by rw [hrec]; simp); rw [hrec] at this; exact this), ?_⟩
        exact hstop c _ (hIx _ _ _ hi ((Keep.refl _ _).putObj _ _ (.inl rfl))) ((World.putObj_heap_other (by omega)).trans hk) (by simpa using hs2)

/-- The first j rows of states, and i states of the next row. -/
def pf (a : Ar) (j i : Nat) : List (Int × Int) := ((List.range j).flatMap fun p : Nat => (List.range (2 * a.sp + 1)).map fun v : Nat => ((p : Int), (v : Int) - (a.sp : Int))) ++ (List.range i).map fun v : Nat => ((j : Int), (v : Int) - (a.sp : Int))
theorem pf_zero (a : Ar) : pf a 0 0 = [] := by simp [pf]
theorem pf_snoc (a : Ar) (j i : Nat) : pf a j i ++ [((j : Int), (i : Int) - (a.sp : Int))] = pf a j (i + 1) := by simp [pf, List.range_succ]
theorem pf_row (a : Ar) (j : Nat) : pf a j (2 * a.sp + 1) = pf a (j + 1) 0 := by simp [pf, List.range_succ]
theorem pf_all (a : Ar) : pf a (a.la + 1) 0 = sts a := by simp [pf, sts]
theorem pf_in (a : Ar) (j : Nat) {i k : Nat} (h : i ≤ k) : pf a j i <+: pf a j k := by
  induction k with
  | zero => obtain rfl : i = 0 := by omega
            exact List.prefix_refl _
  | succ k ih =>
    rcases Nat.lt_or_ge k i with h1 | h1
    · obtain rfl : i = k + 1 := by omega
      exact List.prefix_refl _
    · rw [← pf_snoc]; exact (ih h1).trans (List.prefix_append _ _)
theorem pf_up (a : Ar) {j k : Nat} (h : j ≤ k) : pf a j 0 <+: pf a k 0 := by
  induction k with
  | zero => obtain rfl : j = 0 := by omega
            exact List.prefix_refl _
  | succ k ih =>
    rcases Nat.lt_or_ge k j with h1 | h1
    · obtain rfl : j = k + 1 := by omega
      exact List.prefix_refl _
    · exact (ih h1).trans (by rw [← pf_row]; exact pf_in a k (Nat.zero_le _))
theorem pf_sts (a : Ar) {j i : Nat} (hj : j ≤ a.la) (hi : i ≤ 2 * a.sp + 1) : pf a j i <+: sts a := by
  rw [← pf_all]
  exact (pf_in a j hi).trans (by rw [pf_row]; exact pf_up a (by omega))

attribute [local go_sem] Oper.semAt_some
theorem keep_cell {S : Nat → Prop} {A B : World} (h : Keep S A B) {b o : Nat} (hb : b < A.heap.size) (hs : ¬ S b) : B.cell? ⟨b, o, none⟩ = A.cell? ⟨b, o, none⟩ := World.cell?_of_block (h.block b hb hs)
theorem Abx.keepK {S : Nat → Prop} {a : Ar} {A B : World} {b : Nat} (h : Abx a A b) (k : Keep S A B) (hb : b < A.heap.size) (hs : ¬ S b) : Abx a B b := h.keep fun o => keep_cell k hb hs
set_option maxRecDepth 100000 in
set_option maxHeartbeats 4000000 in
theorem it68 (a : Ar) (S : Nat → Prop) (W0 : World) (ok : a.Ok) (hS : ¬ S W0.heap.size) :
    Iter3 Try.prog 68 #[a.v] #[] (fun (x : Int × Int) args => args = #[.agg #[.int .i64 x.1, .int .i64 x.2]]) (sts a) S W0 := by
  intro l J Jx hl hst hY h0
  have o1 := ok.l; have o2 := ok.p
  have hll : l < W0.heap.size := by obtain ⟨r, hr⟩ := hl; exact (Array.getElem?_eq_some_iff.1 hr).1
  have hYh := hid hY
  have h0h := hid (hst _ _ _ h0 ((Keep.refl _ _).alloc (.cells #[.int .i64 (a.la : Nat), .int .i64 (a.sp : Nat), .int .i64 (a.fo : Nat), .int .i64 (a.sh : Nat), .int .i64 (a.ga : Nat), .int .i64 (a.sl : Nat)] 77)))
  clear hY h0 ok
  show CallsIn Fence.wide 0 Try.prog 68 #[a.v, .func (.yield l) #[] #[]] W0 _
  refine callsIn_of_wp Try.func68 rfl trivial ?_
  simp only [Try.ntmps68, List.size_toArray, List.length_cons, List.length_nil, Nat.reduceAdd, Nat.reduceSub, Array.replicate_succ, Array.replicate_zero, List.push_toArray, List.append_toArray, List.nil_append, List.cons_append]
  have hb0 := Abx.newk a W0
  have hs0 : W0.heap.size < (W0.alloc (.cells #[.int .i64 (a.la : Nat), .int .i64 (a.sp : Nat), .int .i64 (a.fo : Nat), .int .i64 (a.sh : Nat), .int .i64 (a.ga : Nat), .int .i64 (a.sl : Nat)] 77)).heap.size := by simp
  gi_wp2
  generalize W0.alloc (.cells #[.int .i64 (a.la : Nat), .int .i64 (a.sp : Nat), .int .i64 (a.fo : Nat), .int .i64 (a.sh : Nat), .int .i64 (a.ga : Nat), .int .i64 (a.sl : Nat)] 77) = w0 at hb0 hs0 h0h ⊢
  gi_loopw [10] (fun i wr => ∃ j : Nat, j ≤ a.la + 1 ∧ i = .int .i64 (j : Nat) ∧ J (pf a j 0) wr ∧ W0.heap.size < wr.heap.size ∧ Abx a wr W0.heap.size) (fun i _ => a.la + 1 - (intOf i).toNat)
  case atStart => exact ⟨0, Nat.zero_le _, rfl, by rw [pf_zero]; exact h0h.out, hs0, hb0⟩
  case round =>
    clear hb0 hs0 h0h
    obtain ⟨j, hj, rfl, hJ, hsz, hb⟩ := hrel
    have hJh := hid hJ
    have hbh := hid hb
    obtain ⟨y0, y1, y2, y3, y4, y5⟩ := hb.all
    clear hJ hb
    by_cases hlt : j < a.la + 1
    · have hjl : j ≤ a.la := by omega
      have t1 : decide ((j : Int) < (a.la : Int) + 1) = true := decide_eq_true (by omega)
      gi_wp2
      clear y0 y1 y2 y3 y4 y5
      gi_loopw [5] (fun s wr => ∃ (i : Nat) (v : Int), i ≤ 2 * a.sp + 1 ∧ v = (i : Int) - (a.sp : Int) ∧ s = .int .i64 v ∧ J (pf a j i) wr ∧ W0.heap.size < wr.heap.size ∧ Abx a wr W0.heap.size) (fun s _ => ((a.sp : Int) + 1 - intOf s).toNat)
      case atStart => exact ⟨0, -(a.sp : Int), Nat.zero_le _, by omega, by go_num, hJh.out, hsz, hbh.out⟩
      case round =>
        clear hJh hbh hsz
        obtain ⟨i, v, hi, hv, rfl, hJ, hsz, hb⟩ := hrel
        rename World => wr
        have hJh := hid hJ
        have hbh := hid hb
        obtain ⟨y0, y1, y2, y3, y4, y5⟩ := hb.all
        have hvh := hid hv
        by_cases hil : i < 2 * a.sp + 1
        · have hvl : v ≤ (a.sp : Int) := by omega
          have hvg : -(a.sp : Int) ≤ v := by omega
          clear hJ hb hv
          obtain ⟨fn, tmps, assign, body, hy, hR⟩ := hYh.out (pf a j i) ((j : Int), v) wr hJh.out (by rw [hvh.out, pf_snoc]; exact pf_sts a hjl (by omega)) (by omega) #[.agg #[.int .i64 (j : Nat), .int .i64 v]] rfl
          have hRh := hid hR
          clear hR
          gi_wp2
          refine ⟨rfl, hRh.out.mono ?_⟩
          rintro e W' ⟨hkp, (⟨rfl, hJ'⟩ | ⟨rfl, hJx'⟩)⟩
          · have hs' := hkp.size
            have hb' := hbh.out.keepK hkp hsz (by rintro (h | h); exact hS h; omega)
            have hJ2 := hid hJ'
            have hb2 := hid hb'
            obtain ⟨y0, y1, y2, y3, y4, y5⟩ := hb'.all
            clear hy hkp hJ' hb'
            gi_wp2
            go_roundw
            case rel => exact ⟨i + 1, v + 1, by omega, by have := hvh.out; omega, by go_num, by rw [← pf_snoc, ← hvh.out]; exact hJ2.out, by omega, hb2.out⟩
            case measure => simp [intOf]; omega
          · gi_wp2
            refine bodyPost_ret (results_none rfl _ _ _) rfl ?_
            exact ⟨⟨_, rfl⟩, .inr hJx'⟩
        · have hvl : (a.sp : Int) < v := by omega
          clear hJ hb hv
          gi_wp2
          have hie : i = 2 * a.sp + 1 := by have := hvh.out; omega
          go_roundw
          case rel => exact ⟨j + 1, by omega, by go_num, by rw [← pf_row, ← hie]; exact hJh.out, hsz, hbh.out⟩
          case measure => simp [intOf]; omega
    · gi_wp2
      go_end0
      obtain rfl : j = a.la + 1 := by omega
      exact ⟨⟨_, rfl⟩, .inl (by rw [← pf_all]; exact hJh.out)⟩
/-- The marks that loops over functions leave behind. -/
def mks (rs : List Nat) : List Deferred := rs.map fun r => { target := .collected r, args := #[] }
/-- A function that ends behind such loops. -/
theorem leaves_marks {F : Fence} {n : Nat} {P : Program} {fn : Func} {tmps : Array Value} {R : Ending → World → Prop} : ∀ (rs : List Nat) (W : World), rs.Nodup → (∀ r ∈ rs, W.heap[r]? = some (.deferred (some []))) →
    (∀ W', Keep (fun k => k ∈ rs) W W' → LeavesInM F n P fn tmps R [] .returning W') → LeavesInM F n P fn tmps R (mks rs) .returning W
  | [], W, _, _, h => h W (Keep.refl _ _)
  | r :: rs, W, hn, hm, h => by
    have hr := hm r List.mem_cons_self
    refine ⟨by simp, .inl ⟨r, _, rfl, run_takeDeferred (ds := []) hr, ?_⟩⟩
    have hnr := (List.nodup_cons.1 hn).1
    refine leaves_marks rs _ (List.nodup_cons.1 hn).2 (fun q hq => ?_) (fun W' hk => ?_)
    · exact (World.putObj_heap_other (by rintro rfl; exact hnr hq)).trans (hm q (List.mem_cons_of_mem _ hq))
    · refine h W' (((Keep.refl (fun k => k ∈ r :: rs) W).putObj _ _ (.inl List.mem_cons_self)).trans (hk.imp fun k _ hk => List.mem_cons_of_mem _ hk))
end Go.Proofs.Ytajllhjoagldkaa
