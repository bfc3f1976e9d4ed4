/- A loop that ranges over a function value, a method value of a receiver among them: one law for the caller, one form of contract for the iterator. What a round may write is a set of blocks. -/
import Derived.RangeFuncNested
import Derived.RangeFuncBound
import Derived.RangeFuncCalls
import Derived.RangeFuncLeaves
import Derived.Shelf.Abstract
import Derived.Shelf.RegionOpen
import Derived.WalkKit
import Derived.OwnWalkIn
import Derived.TacticsInMore
import Derived.LoopNIn
import Derived.LoopIn
set_option linter.unusedSimpArgs false
set_option linter.unusedVariables false
namespace Go.Proofs.Ythkbiplmfbcabaa
open Go.RowKit Go.Shelf

/-- From w to w' only blocks of S have turned, and new ones have been laid. -/
structure Keep (S : Nat → Prop) (w w' : World) : Prop where
  os : w'.os = w.os
  tape : w'.tape = w.tape
  output : w'.output = w.output
  size : w.heap.size ≤ w'.heap.size
  block : ∀ k, k < w.heap.size → ¬ S k → w'.heap[k]? = w.heap[k]?

theorem Keep.refl (S : Nat → Prop) (w : World) : Keep S w w := ⟨rfl, rfl, rfl, Nat.le_refl _, fun _ _ _ => rfl⟩
theorem Keep.trans {S : Nat → Prop} {a b c : World} (h : Keep S a b) (k : Keep S b c) : Keep S a c :=
  ⟨k.os.trans h.os, k.tape.trans h.tape, k.output.trans h.output, Nat.le_trans h.size k.size, fun i hi hs => (k.block i (Nat.lt_of_lt_of_le hi h.size) hs).trans (h.block i hi hs)⟩
theorem Keep.imp {S T : Nat → Prop} {a b : World} (h : Keep S a b) (hst : ∀ k, k < a.heap.size → S k → T k) : Keep T a b :=
  ⟨h.os, h.tape, h.output, h.size, fun i hi hs => h.block i hi (fun e => hs (hst i hi e))⟩
theorem Keep.drew {S : Nat → Prop} {a b : World} (h : Keep S a b) : Keep S a b.drew := ⟨h.os, h.tape, h.output, h.size, h.block⟩
theorem Keep.drewN {S : Nat → Prop} {a b : World} (h : Keep S a b) (n : Nat) : Keep S a (b.drewN n) := h.trans ⟨rfl, rfl, rfl, Nat.le_refl _, fun _ _ _ => rfl⟩
theorem Keep.alloc {S : Nat → Prop} {a b : World} (h : Keep S a b) (o : Obj) : Keep S a (b.alloc o) :=
  h.trans ⟨rfl, rfl, rfl, by simp, fun k hk _ => Below.heap_alloc _ _ _ hk⟩
theorem Keep.setCell {S : Nat → Prop} {a b : World} (h : Keep S a b) {p : Addr} (hp : S p.block ∨ a.heap.size ≤ p.block) (u : Value) : Keep S a (b.setCell p u) := by
  refine ⟨h.os, h.tape, h.output, by simpa [World.setCell] using h.size, fun k hk hs => ?_⟩
  rw [Below.heap_setCell _ _ _ _ (by rintro rfl; rcases hp with hp | hp; exact hs hp; omega)]
  exact h.block k hk hs
theorem Keep.below {S : Nat → Prop} {a b c : World} {B : Nat} (h : Keep S a b) (k : Below B b c) (hB : a.heap.size ≤ B) : Keep S a c :=
  ⟨k.os.trans h.os, k.tape.trans h.tape, k.output.trans h.output, Nat.le_trans h.size k.size, fun i hi hs => (k.block i (by omega)).trans (h.block i hi hs)⟩
theorem Keep.of_below {S : Nat → Prop} {a b : World} {B : Nat} (k : Below B a b) (hB : a.heap.size ≤ B) : Keep S a b := (Keep.refl S a).below k hB
/-- What S leaves alone below B is as it was below B. -/
theorem Keep.to_below {S : Nat → Prop} {a b : World} {B : Nat} (h : Keep S a b) (hB : B ≤ a.heap.size) (hS : ∀ k, S k → B ≤ k) : Below B a b :=
  ⟨h.os, h.tape, h.output, h.size, fun k hk => h.block k (by omega) (fun e => by have := hS k e; omega)⟩
theorem Keep.putObj {S : Nat → Prop} {a b : World} (h : Keep S a b) (l : Nat) (o : Obj) (hl : S l ∨ a.heap.size ≤ l) : Keep S a (b.putObj l o) := by
  refine ⟨h.os, h.tape, h.output, by simpa using h.size, fun k hk hs => ?_⟩
  rw [World.putObj_heap_other (by rintro rfl; rcases hl with hp | hp; exact hs hp; omega)]
  exact h.block k hk hs
theorem Below.putObj' {B : Nat} {a b : World} (h : Below B a b) (l : Nat) (o : Obj) (hl : B ≤ l) : Below B a (b.putObj l o) :=
  ⟨h.os, h.tape, h.output, by simpa using h.size, fun k hk => by rw [World.putObj_heap_other (by omega)]; exact h.block k hk⟩

/-- How the body of a round may be left. -/
def rfPost {α : Type} (S : Nat → Prop) (I : List α → World → Prop) (Ix : Code → World → Prop) (s : List α) (W : World) : Exit → Act → World → Prop
  | .normal, _, W' => Keep S W W' ∧ I s W'
  | .ret, _, W' => Keep S W W' ∧ Ix .ret W'
  | .exit id, _, W' => Keep S W W' ∧ Ix (.exit id) W'
  | .goto t, _, W' => Keep S W W' ∧ Ix (.goto t) W'
  | _, _, _ => False

/-- The iterator's contract, at a call in the world W: it hands xs to yield, one after the other, till a round says no more. A round may write the blocks of S and its own record l. -/
def Iterates {α : Type} (P : Program) (gf : Nat) (la lb : Array Value) (encs : α → Array Value) (xs : List α) (S : Nat → Prop) (W : World) : Prop :=
  ∀ (l : Nat) (J : List α → World → Prop) (Jx : World → Prop), (∃ r, W.heap[l]? = some (.loop r)) →
    (∀ s A B, J s A → Below W.heap.size A B → J s B) → (∀ A B, Jx A → Below W.heap.size A B → Jx B) →
    (∀ pre x W1, J pre W1 → pre ++ [x] <+: xs → W.heap.size ≤ W1.heap.size → YieldAt Fence.wide 0 P l (encs x) W1 fun e W' =>
      Keep (fun k => S k ∨ k = l) W1 W' ∧ ((e = .returned (.bool true) ∧ J (pre ++ [x]) W') ∨ (e = .returned (.bool false) ∧ Jx W'))) →
    J [] W →
    CallsIn Fence.wide 0 P gf (la ++ #[.func (.yield l) #[] #[]] ++ lb) W fun e W' => (∃ v, e = .returned v) ∧ (J xs W' ∨ Jx W')

theorem rf_law {α : Type} {P : Program} {g : Operand} {ps : Array Tmp} {assign body : Code} {Q : Exit → Act → World → Prop} {a : Act} {w : World}
    {gf : Nat} {la lb : Array Value} (hg : a.eval g = .func (.func gf) la lb) (eg : ∀ args w, (callFunc gf args).run P w = .ok (.enter gf args) w)
    {encs : α → Array Value} (hps : ∀ x, (encs x).size = ps.size) {xs : List α} {S : Nat → Prop} (hS : ∀ k, S k → k < w.heap.size)
    (iter : ∀ W, Below w.heap.size w W → W.heap.size = w.heap.size + 2 → Iterates P gf la lb encs xs S W)
    (I : List α → World → Prop) (Ix : Code → World → Prop) (hI : ∀ s A B, I s A → Below w.heap.size A B → I s B) (hIx : ∀ c A B, Ix c A → Below w.heap.size A B → Ix c B) (h0 : I [] w)
    (hround : ∀ (pre : List α) (x : α) (W : World), I pre W → pre ++ [x] <+: xs → w.heap.size + 2 ≤ W.heap.size →
      assign.wpIn (Fence.wide.inRound (w.heap.size + 1)) 0 P (Exit.then (fun a₁ W₁ => Keep S W W₁ ∧ I pre W₁ ∧ ∀ W₂, W₂.heap.size = W₁.heap.size → (∀ k, k ≠ w.heap.size + 1 → W₂.heap[k]? = W₁.heap[k]?) → I pre W₂ →
          body.wpIn (Fence.wide.inRound (w.heap.size + 1)) 0 P (rfPost S I Ix (pre ++ [x]) W₂) a₁ W₂) (fun _ _ _ => False))
        { tmps := (ps.zip (encs x)).foldl (fun t (p, v) => t.setIfInBounds p v) a.tmps, defers := [] } W)
    (hdone : ∀ (W : World), I xs W → W.heap[w.heap.size]? = some (.deferred (some [])) → w.heap.size + 2 ≤ W.heap.size → Q .normal { a with defers := { target := .collected w.heap.size, args := #[] } :: a.defers } W)
    (hstop : ∀ (c : Code) (W : World), Ix c W → W.heap[w.heap.size]? = some (.deferred (some [])) → w.heap.size + 2 ≤ W.heap.size → c.wpIn Fence.wide 0 P Q { a with defers := { target := .collected w.heap.size, args := #[] } :: a.defers } W) :
    (Code.rangeFunc g ps assign body).wpIn Fence.wide 0 P Q a w := by
  refine wpIn_rangeFunc ?_
  intro fn hfn
  obtain ⟨rec, hrec⟩ : ∃ rec : LoopState → Option Code → Loop, rec = fun st pe => { state := st, pending := pe, fn, tmps := a.tmps, params := ps, assign, body, defers := w.heap.size } := ⟨_, rfl⟩
  obtain ⟨W1, hW1⟩ : ∃ W1, (w.alloc (.deferred (some []))).alloc (.loop (rec .ready none)) = W1 := ⟨_, rfl⟩
  have hsz : W1.heap.size = w.heap.size + 2 := by rw [← hW1]; simp
  have hL1 : W1.heap[w.heap.size + 1]? = some (.loop (rec .ready none)) := by
    rw [← hW1]; have := World.alloc_heap_new (w.alloc (.deferred (some []))) (.loop (rec .ready none)); rwa [World.size_alloc] at this
  have hK1 : W1.heap[w.heap.size]? = some (.deferred (some [])) := by
    rw [← hW1]; exact (Below.heap_alloc _ _ _ (by simp)).trans (World.alloc_heap_new w _)
  have hb1 : Below w.heap.size w W1 := by rw [← hW1]; exact ((Below.refl _ w).alloc (Nat.le_refl _) _).alloc (by simp) _
  refine ⟨w.heap.size + 1, [{ target := .collected w.heap.size, args := #[] }], W1, { target := .fn (.func gf) lb, args := la ++ #[.func (.yield (w.heap.size + 1)) #[] #[]] }, W1, gf,
    la ++ #[.func (.yield (w.heap.size + 1)) #[] #[]] ++ lb, W1, ?_, ?_, ?_, ?_, fun h => by simp [Fence.wide] at h, ?_⟩
  · rw [← hW1, hrec]; exact run_enterLoop_outer _ _ _ _ _
  · simp only [resolve, hg]
    simp [go_sem]
  · intro f' _; trivial
  · simp [invoke, go_sem, eg]
  · have hnS : ¬ S (w.heap.size + 1) := fun h => by have := hS _ h; omega
    have hnS0 : ¬ S w.heap.size := fun h => by have := hS _ h; omega
    refine (iter W1 hb1 hsz (w.heap.size + 1)
      (fun pre W => I pre W ∧ W.heap[w.heap.size + 1]? = some (.loop (rec .ready none)) ∧ W.heap[w.heap.size]? = some (.deferred (some [])) ∧ w.heap.size + 2 ≤ W.heap.size)
      (fun W => ∃ c, Ix c W ∧ W.heap[w.heap.size + 1]? = some (.loop (rec .done (some c))) ∧ W.heap[w.heap.size]? = some (.deferred (some [])) ∧ w.heap.size + 2 ≤ W.heap.size)
      ⟨_, hL1⟩
      (fun s A B hs hb => ⟨hI s A B hs.1 (hb.mono (by omega)), (hb.block _ (by omega)).trans hs.2.1, (hb.block _ (by omega)).trans hs.2.2.1, Nat.le_trans hs.2.2.2 hb.size⟩)
      (fun A B hs hb => by
        obtain ⟨c, h1, h2, h3, h4⟩ := hs
        exact ⟨c, hIx c A B h1 (hb.mono (by omega)), (hb.block _ (by omega)).trans h2, (hb.block _ (by omega)).trans h3, Nat.le_trans h4 hb.size⟩)
      ?_ ⟨hI _ _ _ h0 hb1, hL1, hK1, by omega⟩).mono ?_
    · -- one round
      rintro pre x W ⟨hi, hl, hk, hs2⟩ hpre _
      have hy := run_yield (P := P) (args := encs x) hl (by rw [hrec]; exact hps x)
      rw [hrec] at hy
      refine ⟨fn, _, assign, body, hy, roundIn_of_wpIn (F := Fence.wide) trivial ?_⟩
      refine wpIn_mono (hround pre x W hi hpre hs2) ?_
      rintro e a₁ W₁ hq
      cases e with
      | normal =>
        obtain ⟨hkw, hi1, hbody⟩ := hq
        have hl1 : W₁.heap[w.heap.size + 1]? = some (.loop (rec .ready none)) := (hkw.block _ (by omega) hnS).trans hl
        have hd1 : W₁.heap[w.heap.size]? = some (.deferred (some [])) := (hkw.block _ (by omega) hnS0).trans hk
        have hs1 : w.heap.size + 2 ≤ W₁.heap.size := Nat.le_trans hs2 hkw.size
        refine ⟨_, run_beginRound hl1 (by rw [hrec]), ?_⟩
        obtain ⟨W₂, hW₂⟩ : ∃ W₂, W₁.putObj (w.heap.size + 1) (.loop { rec .ready none with state := .busy }) = W₂ := ⟨_, rfl⟩
        rw [hW₂]
        have hl2 : W₂.heap[w.heap.size + 1]? = some (.loop { rec .ready none with state := .busy }) := by rw [← hW₂]; exact World.putObj_heap_same (by omega)
        have hd2 : W₂.heap[w.heap.size]? = some (.deferred (some [])) := by rw [← hW₂]; exact (World.putObj_heap_other (by omega)).trans hd1
        have hs3 : W₂.heap.size = W₁.heap.size := by rw [← hW₂]; simp
        have hb12 : Below w.heap.size W₁ W₂ := by rw [← hW₂]; exact Below.putObj' (Below.refl _ _) _ _ (by omega)
        have hk12 : Keep (fun k => S k ∨ k = w.heap.size + 1) W W₂ := by
          rw [← hW₂]; exact Keep.putObj (hkw.imp (fun k _ h => .inl h)) _ _ (.inl (.inr rfl))
        refine wpIn_mono (hbody W₂ hs3 (fun k hk' => by rw [← hW₂]; exact World.putObj_heap_other hk') (hI _ _ _ hi1 hb12)) ?_
        have fin : ∀ (jump : Option Code) (W3 : World), Keep S W₂ W3 →
            ∃ W4, (Instr.endRound (w.heap.size + 1) jump).run P W3 = .ok (.bool jump.isNone) W4 ∧ W4.heap[w.heap.size + 1]? = some (.loop (rec (if jump.isNone then .ready else .done) jump)) ∧
              W4.heap[w.heap.size]? = some (.deferred (some [])) ∧ w.heap.size + 2 ≤ W4.heap.size ∧ Below w.heap.size W3 W4 ∧ Keep (fun k => S k ∨ k = w.heap.size + 1) W W4 := fun jump W3 hk3 => by
          have hl3 : W3.heap[w.heap.size + 1]? = some (.loop { rec .ready none with state := .busy }) := (hk3.block _ (by omega) hnS).trans hl2
          have hd3 : W3.heap[w.heap.size]? = some (.deferred (some [])) := (hk3.block _ (by omega) hnS0).trans hd2
          have hs4 : w.heap.size + 2 ≤ W3.heap.size := Nat.le_trans (by omega) hk3.size
          have hr := run_endRound (P := P) jump hl3
          refine ⟨_, hr, ?_, ?_, ?_, ?_, ?_⟩
          · rw [World.putObj_heap_same (by omega), hrec]
          · exact (World.putObj_heap_other (by omega)).trans hd3
          · simpa using hs4
          · exact Below.putObj' (Below.refl _ _) _ _ (by omega)
          · exact Keep.putObj (hk12.trans (hk3.imp (fun k _ h => .inl h))) _ _ (.inl (.inr rfl))
        rintro e3 a3 W3 hp
        cases e3 with
        | normal =>
          obtain ⟨hk3, hi3⟩ := hp
          obtain ⟨W4, hr, hl4, hd4, hs4, hb4, hk4⟩ := fin none W3 hk3
          exact ⟨_, W4, hr, hk4, .inl ⟨rfl, hI _ _ _ hi3 hb4, hl4, hd4, hs4⟩⟩
        | ret =>
          obtain ⟨hk3, hi3⟩ := hp
          obtain ⟨W4, hr, hl4, hd4, hs4, hb4, hk4⟩ := fin (some .ret) W3 hk3
          exact ⟨_, W4, hr, hk4, .inr ⟨rfl, .ret, hIx _ _ _ hi3 hb4, hl4, hd4, hs4⟩⟩
        | exit id =>
          obtain ⟨hk3, hi3⟩ := hp
          obtain ⟨W4, hr, hl4, hd4, hs4, hb4, hk4⟩ := fin (some (.exit id)) W3 hk3
          exact ⟨_, W4, hr, hk4, .inr ⟨rfl, .exit id, hIx _ _ _ hi3 hb4, hl4, hd4, hs4⟩⟩
        | goto t =>
          obtain ⟨hk3, hi3⟩ := hp
          obtain ⟨W4, hr, hl4, hd4, hs4, hb4, hk4⟩ := fin (some (.goto t)) W3 hk3
          exact ⟨_, W4, hr, hk4, .inr ⟨rfl, .goto t, hIx _ _ _ hi3 hb4, hl4, hd4, hs4⟩⟩
        | panic ch => exact hp.elim
        | outgrown => exact hp.elim
      | exit id => exact hq.elim
      | goto t => exact hq.elim
      | ret => exact hq.elim
      | panic ch => exact hq.elim
      | outgrown => exact hq.elim
    · -- behind the iterator
      rintro e W2 ⟨⟨v, rfl⟩, (⟨hi, hl, hk, hs2⟩ | ⟨c, hi, hl, hk, hs2⟩)⟩
      · refine ⟨none, _, (by have := run_endLoop (P := P) hl (by rw [hrec]; simp); rw [hrec] at this; exact this), ?_⟩
        exact hdone _ (hI _ _ _ hi (Below.putObj' (Below.refl _ _) _ _ (by omega))) ((World.putObj_heap_other (by omega)).trans hk) (by simpa using hs2)
      · refine ⟨some c, _, (by have := run_endLoop (P := P) hl (by rw [hrec]; simp); rw [hrec] at this; exact this), ?_⟩
        exact hstop c _ (hIx _ _ _ hi (Below.putObj' (Below.refl _ _) _ _ (by omega))) ((World.putObj_heap_other (by omega)).trans hk) (by simpa using hs2)
end Go.Proofs.Ythkbiplmfbcabaa
