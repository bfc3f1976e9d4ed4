/- Texts put together: Ta, M1, M2. -/
import Derived.RangeFuncNested
import Derived.RangeFuncBound
import Derived.RangeFuncCalls
import Derived.RangeFuncLeaves
import Derived.Shelf.Abstract
import Derived.Shelf.RegionOpen
import Derived.WalkKit
import Derived.OwnWalkIn
import Derived.TacticsInMore
import Derived.LoopNIn
import Derived.LoopIn
import Derived.Handy
import Derived.Laws.BitsAllLaws
import Derived.Laws.BitsLemmas
import Derived.IntWalk
/- A loop that ranges over a function value, where the iterator writes nothing, and what it hands on is known only in part: one law for the caller, one form of contract for the iterator. What a round may write is a set of blocks. -/
set_option linter.unusedSimpArgs false
set_option linter.unusedVariables false
namespace Go.Proofs.Ytkafjlhmbiaicaa
open Go.RowKit Go.Shelf

/-- From w to w' only blocks of S have turned, and new ones have been laid. -/
structure Keep (S : Nat → Prop) (w w' : World) : Prop where
  os : w'.os = w.os
  tape : w'.tape = w.tape
  output : w'.output = w.output
  size : w.heap.size ≤ w'.heap.size
  block : ∀ k, k < w.heap.size → ¬ S k → w'.heap[k]? = w.heap[k]?

theorem Keep.refl (S : Nat → Prop) (w : World) : Keep S w w := ⟨rfl, rfl, rfl, Nat.le_refl _, fun _ _ _ => rfl⟩
theorem Keep.trans {S : Nat → Prop} {a b c : World} (h : Keep S a b) (k : Keep S b c) : Keep S a c :=
  ⟨k.os.trans h.os, k.tape.trans h.tape, k.output.trans h.output, Nat.le_trans h.size k.size, fun i hi hs => (k.block i (Nat.lt_of_lt_of_le hi h.size) hs).trans (h.block i hi hs)⟩
theorem Keep.imp {S T : Nat → Prop} {a b : World} (h : Keep S a b) (hst : ∀ k, k < a.heap.size → S k → T k) : Keep T a b :=
  ⟨h.os, h.tape, h.output, h.size, fun i hi hs => h.block i hi (fun e => hs (hst i hi e))⟩
theorem Keep.drew {S : Nat → Prop} {a b : World} (h : Keep S a b) : Keep S a b.drew := ⟨h.os, h.tape, h.output, h.size, h.block⟩
theorem Keep.drewN {S : Nat → Prop} {a b : World} (h : Keep S a b) (n : Nat) : Keep S a (b.drewN n) := h.trans ⟨rfl, rfl, rfl, Nat.le_refl _, fun _ _ _ => rfl⟩
theorem Keep.alloc {S : Nat → Prop} {a b : World} (h : Keep S a b) (o : Obj) : Keep S a (b.alloc o) :=
  h.trans ⟨rfl, rfl, rfl, by simp, fun k hk _ => Below.heap_alloc _ _ _ hk⟩
theorem Keep.setCell {S : Nat → Prop} {a b : World} (h : Keep S a b) {p : Addr} (hp : S p.block ∨ a.heap.size ≤ p.block) (u : Value) : Keep S a (b.setCell p u) := by
  refine ⟨h.os, h.tape, h.output, by simpa [World.setCell] using h.size, fun k hk hs => ?_⟩
  rw [Below.heap_setCell _ _ _ _ (by rintro rfl; rcases hp with hp | hp; exact hs hp; omega)]
  exact h.block k hk hs
theorem Keep.below {S : Nat → Prop} {a b c : World} {B : Nat} (h : Keep S a b) (k : Below B b c) (hB : a.heap.size ≤ B) : Keep S a c :=
  ⟨k.os.trans h.os, k.tape.trans h.tape, k.output.trans h.output, Nat.le_trans h.size k.size, fun i hi hs => (k.block i (by omega)).trans (h.block i hi hs)⟩
theorem Keep.of_below {S : Nat → Prop} {a b : World} {B : Nat} (k : Below B a b) (hB : a.heap.size ≤ B) : Keep S a b := (Keep.refl S a).below k hB
/-- What S leaves alone below B is as it was below B. -/
theorem Keep.to_below {S : Nat → Prop} {a b : World} {B : Nat} (h : Keep S a b) (hB : B ≤ a.heap.size) (hS : ∀ k, S k → B ≤ k) : Below B a b :=
  ⟨h.os, h.tape, h.output, h.size, fun k hk => h.block k (by omega) (fun e => by have := hS k e; omega)⟩
theorem Keep.putObj {S : Nat → Prop} {a b : World} (h : Keep S a b) (l : Nat) (o : Obj) (hl : S l ∨ a.heap.size ≤ l) : Keep S a (b.putObj l o) := by
  refine ⟨h.os, h.tape, h.output, by simpa using h.size, fun k hk hs => ?_⟩
  rw [World.putObj_heap_other (by rintro rfl; rcases hl with hp | hp; exact hs hp; omega)]
  exact h.block k hk hs
theorem Below.putObj' {B : Nat} {a b : World} (h : Below B a b) (l : Nat) (o : Obj) (hl : B ≤ l) : Below B a (b.putObj l o) :=
  ⟨h.os, h.tape, h.output, by simpa using h.size, fun k hk => by rw [World.putObj_heap_other (by omega)]; exact h.block k hk⟩

/-- How the body of a round may be left. -/
def rfPost {α : Type} (S : Nat → Prop) (I : List α → World → Prop) (Ix : Code → World → Prop) (s : List α) (W : World) : Exit → Act → World → Prop
  | .normal, _, W' => Keep S W W' ∧ I s W'
  | .ret, _, W' => Keep S W W' ∧ Ix .ret W'
  | .exit id, _, W' => Keep S W W' ∧ Ix (.exit id) W'
  | .goto t, _, W' => Keep S W W' ∧ Ix (.goto t) W'
  | _, _, _ => False

/-- The iterator's contract, at a call in the world W: it hands xs to yield, one after the other, each as one of the arguments that R says, till a round says no more. Between the rounds it only reads (what Rd says). A round may write the blocks of S and its own record l. -/
def Iter2 {α : Type} (P : Program) (gf : Nat) (la lb : Array Value) (R : α → Array Value → Prop) (xs : List α) (S : Nat → Prop) (Rd : World → Prop) (W : World) : Prop :=
  ∀ (l : Nat) (J : List α → World → Prop) (Jx : World → Prop), (∃ r, W.heap[l]? = some (.loop r)) →
    (∀ pre V, J pre V → Rd V) →
    (∀ pre x W1, J pre W1 → pre ++ [x] <+: xs → W.heap.size ≤ W1.heap.size → ∀ args, R x args → YieldAt Fence.wide 0 P l args W1 fun e W' =>
      Keep (fun k => S k ∨ k = l) W1 W' ∧ ((e = .returned (.bool true) ∧ J (pre ++ [x]) W') ∨ (e = .returned (.bool false) ∧ Jx W'))) →
    J [] W →
    CallsIn Fence.wide 0 P gf (la ++ #[.func (.yield l) #[] #[]] ++ lb) W fun e W' => (∃ v, e = .returned v) ∧ (J xs W' ∨ Jx W')

theorem rf_law2 {α : Type} {P : Program} {g : Operand} {ps : Array Tmp} {assign body : Code} {Q : Exit → Act → World → Prop} {a : Act} {w : World}
    {gf : Nat} {la lb : Array Value} (hg : a.eval g = .func (.func gf) la lb) (eg : ∀ args w, (callFunc gf args).run P w = .ok (.enter gf args) w)
    {R : α → Array Value → Prop} (hps : ∀ x args, R x args → args.size = ps.size) {xs : List α} {S : Nat → Prop} (hS : ∀ k, S k → k < w.heap.size) {Rd : World → Prop}
    (iter : ∀ W, Below w.heap.size w W → W.heap.size = w.heap.size + 2 → Iter2 P gf la lb R xs S Rd W)
    (I : List α → World → Prop) (Ix : Code → World → Prop) (hI : ∀ s A B, I s A → Keep (fun k => k = w.heap.size + 1) A B → I s B) (hIx : ∀ c A B, Ix c A → Keep (fun k => k = w.heap.size + 1) A B → Ix c B) (hRd : ∀ s A, I s A → Rd A) (h0 : I [] w)
    (hround : ∀ (pre : List α) (x : α) (W : World), I pre W → pre ++ [x] <+: xs → w.heap.size + 2 ≤ W.heap.size → (∃ r, W.heap[w.heap.size + 1]? = some (.loop r)) → ∀ args, R x args →
      assign.wpIn (Fence.wide.inRound (w.heap.size + 1)) 0 P (Exit.then (fun a₁ W₁ => Keep S W W₁ ∧ I pre W₁ ∧ ∀ W₂, W₂.heap.size = W₁.heap.size → (∀ k, k ≠ w.heap.size + 1 → W₂.heap[k]? = W₁.heap[k]?) → (∃ r, W₂.heap[w.heap.size + 1]? = some (.loop r)) → I pre W₂ →
          body.wpIn (Fence.wide.inRound (w.heap.size + 1)) 0 P (rfPost S I Ix (pre ++ [x]) W₂) a₁ W₂) (fun _ _ _ => False))
        { tmps := (ps.zip args).foldl (fun t (p, v) => t.setIfInBounds p v) a.tmps, defers := [] } W)
    (hdone : ∀ (W : World), I xs W → W.heap[w.heap.size]? = some (.deferred (some [])) → w.heap.size + 2 ≤ W.heap.size → Q .normal { a with defers := { target := .collected w.heap.size, args := #[] } :: a.defers } W)
    (hstop : ∀ (c : Code) (W : World), Ix c W → W.heap[w.heap.size]? = some (.deferred (some [])) → w.heap.size + 2 ≤ W.heap.size → c.wpIn Fence.wide 0 P Q { a with defers := { target := .collected w.heap.size, args := #[] } :: a.defers } W) :
    (Code.rangeFunc g ps assign body).wpIn Fence.wide 0 P Q a w := by
  refine wpIn_rangeFunc ?_
  intro fn hfn
  obtain ⟨rec, hrec⟩ : ∃ rec : LoopState → Option Code → Loop, rec = fun st pe => { state := st, pending := pe, fn, tmps := a.tmps, params := ps, assign, body, defers := w.heap.size } := ⟨_, rfl⟩
  obtain ⟨W1, hW1⟩ : ∃ W1, (w.alloc (.deferred (some []))).alloc (.loop (rec .ready none)) = W1 := ⟨_, rfl⟩
  have hsz : W1.heap.size = w.heap.size + 2 := by rw [← hW1]; simp
  have hL1 : W1.heap[w.heap.size + 1]? = some (.loop (rec .ready none)) := by
    rw [← hW1]; have := World.alloc_heap_new (w.alloc (.deferred (some []))) (.loop (rec .ready none)); rwa [World.size_alloc] at this
  have hK1 : W1.heap[w.heap.size]? = some (.deferred (some [])) := by
    rw [← hW1]; exact (Below.heap_alloc _ _ _ (by simp)).trans (World.alloc_heap_new w _)
  have hb1 : Below w.heap.size w W1 := by rw [← hW1]; exact ((Below.refl _ w).alloc (Nat.le_refl _) _).alloc (by simp) _
  refine ⟨w.heap.size + 1, [{ target := .collected w.heap.size, args := #[] }], W1, { target := .fn (.func gf) lb, args := la ++ #[.func (.yield (w.heap.size + 1)) #[] #[]] }, W1, gf,
    la ++ #[.func (.yield (w.heap.size + 1)) #[] #[]] ++ lb, W1, ?_, ?_, ?_, ?_, fun h => by simp [Fence.wide] at h, ?_⟩
  · rw [← hW1, hrec]; exact run_enterLoop_outer _ _ _ _ _
  · simp only [resolve, hg]
    simp [go_sem]
  · intro f' _; trivial
  · simp [invoke, go_sem, eg]
  · have hnS : ¬ S (w.heap.size + 1) := fun h => by have := hS _ h; omega
    have hnS0 : ¬ S w.heap.size := fun h => by have := hS _ h; omega
    refine (iter W1 hb1 hsz (w.heap.size + 1)
      (fun pre W => I pre W ∧ W.heap[w.heap.size + 1]? = some (.loop (rec .ready none)) ∧ W.heap[w.heap.size]? = some (.deferred (some [])) ∧ w.heap.size + 2 ≤ W.heap.size)
      (fun W => ∃ c, Ix c W ∧ W.heap[w.heap.size + 1]? = some (.loop (rec .done (some c))) ∧ W.heap[w.heap.size]? = some (.deferred (some [])) ∧ w.heap.size + 2 ≤ W.heap.size)
      ⟨_, hL1⟩
      (fun s A hs => hRd s A hs.1)
      ?_ ⟨hI _ _ _ h0 (Keep.of_below hb1 (Nat.le_refl _)), hL1, hK1, by omega⟩).mono ?_
    · -- one round
      rintro pre x W ⟨hi, hl, hk, hs2⟩ hpre _ args hR
      have hy := run_yield (P := P) (args := args) hl (by rw [hrec]; exact hps x args hR)
      rw [hrec] at hy
      refine ⟨fn, _, assign, body, hy, roundIn_of_wpIn (F := Fence.wide) trivial ?_⟩
      refine wpIn_mono (hround pre x W hi hpre hs2 ⟨_, hl⟩ args hR) ?_
      rintro e a₁ W₁ hq
      cases e with
      | normal =>
        obtain ⟨hkw, hi1, hbody⟩ := hq
        have hl1 : W₁.heap[w.heap.size + 1]? = some (.loop (rec .ready none)) := (hkw.block _ (by omega) hnS).trans hl
        have hd1 : W₁.heap[w.heap.size]? = some (.deferred (some [])) := (hkw.block _ (by omega) hnS0).trans hk
        have hs1 : w.heap.size + 2 ≤ W₁.heap.size := Nat.le_trans hs2 hkw.size
        refine ⟨_, run_beginRound hl1 (by rw [hrec]), ?_⟩
        obtain ⟨W₂, hW₂⟩ : ∃ W₂, W₁.putObj (w.heap.size + 1) (.loop { rec .ready none with state := .busy }) = W₂ := ⟨_, rfl⟩
        rw [hW₂]
        have hl2 : W₂.heap[w.heap.size + 1]? = some (.loop { rec .ready none with state := .busy }) := by rw [← hW₂]; exact World.putObj_heap_same (by omega)
        have hd2 : W₂.heap[w.heap.size]? = some (.deferred (some [])) := by rw [← hW₂]; exact (World.putObj_heap_other (by omega)).trans hd1
        have hs3 : W₂.heap.size = W₁.heap.size := by rw [← hW₂]; simp
        have hb12 : Keep (fun k => k = w.heap.size + 1) W₁ W₂ := by rw [← hW₂]; exact (Keep.refl _ _).putObj _ _ (.inl rfl)
        have hk12 : Keep (fun k => S k ∨ k = w.heap.size + 1) W W₂ := by
          rw [← hW₂]; exact Keep.putObj (hkw.imp (fun k _ h => .inl h)) _ _ (.inl (.inr rfl))
        refine wpIn_mono (hbody W₂ hs3 (fun k hk' => by rw [← hW₂]; exact World.putObj_heap_other hk') ⟨_, hl2⟩ (hI _ _ _ hi1 hb12)) ?_
        have fin : ∀ (jump : Option Code) (W3 : World), Keep S W₂ W3 →
            ∃ W4, (Instr.endRound (w.heap.size + 1) jump).run P W3 = .ok (.bool jump.isNone) W4 ∧ W4.heap[w.heap.size + 1]? = some (.loop (rec (if jump.isNone then .ready else .done) jump)) ∧
              W4.heap[w.heap.size]? = some (.deferred (some [])) ∧ w.heap.size + 2 ≤ W4.heap.size ∧ Keep (fun k => k = w.heap.size + 1) W3 W4 ∧ Keep (fun k => S k ∨ k = w.heap.size + 1) W W4 := fun jump W3 hk3 => by
          have hl3 : W3.heap[w.heap.size + 1]? = some (.loop { rec .ready none with state := .busy }) := (hk3.block _ (by omega) hnS).trans hl2
          have hd3 : W3.heap[w.heap.size]? = some (.deferred (some [])) := (hk3.block _ (by omega) hnS0).trans hd2
          have hs4 : w.heap.size + 2 ≤ W3.heap.size := Nat.le_trans (by omega) hk3.size
          have hr := run_endRound (P := P) jump hl3
          refine ⟨_, hr, ?_, ?_, ?_, ?_, ?_⟩
          · rw [World.putObj_heap_same (by omega), hrec]
          · exact (World.putObj_heap_other (by omega)).trans hd3
          · simpa using hs4
          · exact (Keep.refl _ _).putObj _ _ (.inl rfl)
          · exact Keep.putObj (hk12.trans (hk3.imp (fun k _ h => .inl h))) _ _ (.inl (.inr rfl))
        rintro e3 a3 W3 hp
        cases e3 with
        | normal =>
          obtain ⟨hk3, hi3⟩ := hp
          obtain ⟨W4, hr, hl4, hd4, hs4, hb4, hk4⟩ := fin none W3 hk3
          exact ⟨_, W4, hr, hk4, .inl ⟨rfl, hI _ _ _ hi3 hb4, hl4, hd4, hs4⟩⟩
        | ret =>
          obtain ⟨hk3, hi3⟩ := hp
          obtain ⟨W4, hr, hl4, hd4, hs4, hb4, hk4⟩ := fin (some .ret) W3 hk3
          exact ⟨_, W4, hr, hk4, .inr ⟨rfl, .ret, hIx _ _ _ hi3 hb4, hl4, hd4, hs4⟩⟩
        | exit id =>
          obtain ⟨hk3, hi3⟩ := hp
          obtain ⟨W4, hr, hl4, hd4, hs4, hb4, hk4⟩ := fin (some (.exit id)) W3 hk3
          exact ⟨_, W4, hr, hk4, .inr ⟨rfl, .exit id, hIx _ _ _ hi3 hb4, hl4, hd4, hs4⟩⟩
        | goto t =>
          obtain ⟨hk3, hi3⟩ := hp
          obtain ⟨W4, hr, hl4, hd4, hs4, hb4, hk4⟩ := fin (some (.goto t)) W3 hk3
          exact ⟨_, W4, hr, hk4, .inr ⟨rfl, .goto t, hIx _ _ _ hi3 hb4, hl4, hd4, hs4⟩⟩
        | panic ch => exact hp.elim
        | outgrown => exact hp.elim
      | exit id => exact hq.elim
      | goto t => exact hq.elim
      | ret => exact hq.elim
      | panic ch => exact hq.elim
      | outgrown => exact hq.elim
    · -- behind the iterator
      rintro e W2 ⟨⟨v, rfl⟩, (⟨hi, hl, hk, hs2⟩ | ⟨c, hi, hl, hk, hs2⟩)⟩
      · refine ⟨none, _, (by have := run_endLoop (P := P) hl (by rw [hrec]; simp); rw [hrec] at this; exact this), ?_⟩
        exact hdone _ (hI _ _ _ hi ((Keep.refl _ _).putObj _ _ (.inl rfl))) ((World.putObj_heap_other (by omega)).trans hk) (by simpa using hs2)
      · refine ⟨some c, _, (by have := run_endLoop (P := P) hl (by rw [hrec]; simp); rw [hrec] at this; exact this), ?_⟩
        exact hstop c _ (hIx _ _ _ hi ((Keep.refl _ _).putObj _ _ (.inl rfl))) ((World.putObj_heap_other (by omega)).trans hk) (by simpa using hs2)
end Go.Proofs.Ytkafjlhmbiaicaa

/- Stage 2, plain mathematics: least values in windows, faults, paths. -/
set_option linter.unusedSimpArgs false
set_option linter.unusedVariables false
namespace Go.Proofs.Ytkafjlhmbiaicaa

def wmin (f : Nat → Int) (a : Nat) : Nat → Int
  | 0 => f a
  | k + 1 => min (wmin f a k) (f (a + k + 1))
theorem wmin_le (f : Nat → Int) (a : Nat) (c : Int) : ∀ k, wmin f a k ≤ c ↔ ∃ q, a ≤ q ∧ q ≤ a + k ∧ f q ≤ c
  | 0 => by
    constructor
    · intro h; exact ⟨a, Nat.le_refl _, by omega, h⟩
    · rintro ⟨q, h1, h2, h3⟩
      obtain rfl : q = a := by omega
      exact h3
  | k + 1 => by
    have ih := wmin_le f a c k
    have e : wmin f a (k + 1) ≤ c ↔ (wmin f a k ≤ c ∨ f (a + k + 1) ≤ c) := by
      simp only [wmin]; omega
    rw [e, ih]
    constructor
    · rintro (⟨q, h1, h2, h3⟩ | h)
      · exact ⟨q, h1, by omega, h3⟩
      · exact ⟨a + k + 1, by omega, by omega, h⟩
    · rintro ⟨q, h1, h2, h3⟩
      by_cases hq : q = a + k + 1
      · subst hq; exact .inr h3
      · exact .inl ⟨q, h1, by omega, h3⟩
theorem wmin_congr {f g : Nat → Int} {a : Nat} : ∀ {k : Nat}, (∀ q, a ≤ q → q ≤ a + k → f q = g q) → wmin f a k = wmin g a k
  | 0, h => h a (Nat.le_refl _) (by omega)
  | k + 1, h => by
    simp only [wmin]
    rw [wmin_congr (k := k) (fun q h1 h2 => h q h1 (by omega)), h (a + k + 1) (by omega) (by omega)]
theorem wmin_bd {f : Nat → Int} {a : Nat} {lo hi : Int} : ∀ {k : Nat}, (∀ q, a ≤ q → q ≤ a + k → lo ≤ f q ∧ f q ≤ hi) → lo ≤ wmin f a k ∧ wmin f a k ≤ hi
  | 0, h => h a (Nat.le_refl _) (by omega)
  | k + 1, h => by
    have h1 := wmin_bd (k := k) (fun q h1 h2 => h q h1 (by omega))
    have h2 := h (a + k + 1) (by omega) (by omega)
    simp only [wmin]
    omega
theorem wmin_shift (f : Nat → Int) (a : Nat) : ∀ k, wmin (fun q => f (a + q)) 0 k = wmin f a k
  | 0 => rfl
  | k + 1 => by
    simp only [wmin]
    rw [wmin_shift f a k, show a + (0 + k + 1) = a + k + 1 by omega]

def mvd (N m : Nat) (f : Nat → Int) (p : Nat) : Int := wmin f (p - m) (min (p + m) (N - 1) - (p - m))
theorem mvd_le {N m p : Nat} {f : Nat → Int} {c : Int} (hp : p < N) : mvd N m f p ≤ c ↔ ∃ q, q < N ∧ q ≤ p + m ∧ p ≤ q + m ∧ f q ≤ c := by
  unfold mvd
  rw [wmin_le]
  constructor
  · rintro ⟨q, h1, h2, h3⟩; exact ⟨q, by omega, by omega, by omega, h3⟩
  · rintro ⟨q, h1, h2, h3, h4⟩; exact ⟨q, by omega, by omega, h4⟩
theorem mvd_congr {N m p : Nat} {f g : Nat → Int} (hp : p < N) (h : ∀ q, q < N → f q = g q) : mvd N m f p = mvd N m g p :=
  wmin_congr fun q _ h2 => h q (by omega)
theorem mvd_bd {N m p : Nat} {f : Nat → Int} {lo hi : Int} (hp : p < N) (h : ∀ q, q < N → lo ≤ f q ∧ f q ≤ hi) : lo ≤ mvd N m f p ∧ mvd N m f p ≤ hi :=
  wmin_bd fun q _ h2 => h q (by omega)

def jdg (ag : Nat → Bool) (f : Nat → Int) (p : Nat) : Int := f p + (if ag p = true then 0 else 1)
theorem jdg_bd {ag : Nat → Bool} {f : Nat → Int} {p : Nat} {lo hi : Int} (h : lo ≤ f p ∧ f p ≤ hi) : lo ≤ jdg ag f p ∧ jdg ag f p ≤ hi + 1 := by
  unfold jdg
  split <;> omega
/-- The faults before each wedge. -/
def Fb (N m : Nat) (ag : Nat → Nat → Bool) : Nat → Nat → Int
  | 0 => fun _ => 0
  | i + 1 => mvd N m (jdg (ag i) (Fb N m ag i))
/-- The faults behind a wedge, by how many are behind it. -/
def Bh (N m : Nat) (ag : Nat → Nat → Bool) (n : Nat) : Nat → Nat → Int
  | 0 => fun _ => 0
  | d + 1 => mvd N m (jdg (ag (n - 1 - d)) (Bh N m ag n d))
def flt (N m : Nat) (ag : Nat → Nat → Bool) (n : Nat) : Nat → Int := if n = 0 then fun _ => 0 else jdg (ag (n - 1)) (Fb N m ag (n - 1))
theorem Fb_bd {N m : Nat} {ag : Nat → Nat → Bool} : ∀ (i p : Nat), p < N → 0 ≤ Fb N m ag i p ∧ Fb N m ag i p ≤ i
  | 0, p, _ => by simp [Fb]
  | i + 1, p, hp => by
    have h := mvd_bd (m := m) (f := jdg (ag i) (Fb N m ag i)) hp (fun q hq => jdg_bd (ag := ag i) (Fb_bd (m := m) (ag := ag) i q hq))
    exact ⟨h.1, by have := h.2; show mvd N m (jdg (ag i) (Fb N m ag i)) p ≤ _; omega⟩
theorem Bh_bd {N m : Nat} {ag : Nat → Nat → Bool} {n : Nat} : ∀ (i p : Nat), p < N → 0 ≤ Bh N m ag n i p ∧ Bh N m ag n i p ≤ i
  | 0, p, _ => by simp [Bh]
  | i + 1, p, hp => by
    have h := mvd_bd (m := m) (f := jdg (ag (n - 1 - i)) (Bh N m ag n i)) hp (fun q hq => jdg_bd (ag := ag (n - 1 - i)) (Bh_bd (m := m) (ag := ag) (n := n) i q hq))
    exact ⟨h.1, by have := h.2; show mvd N m (jdg (ag (n - 1 - i)) (Bh N m ag n i)) p ≤ _; omega⟩
theorem flt_bd {N m : Nat} {ag : Nat → Nat → Bool} {n p : Nat} (hp : p < N) : 0 ≤ flt N m ag n p ∧ flt N m ag n p ≤ n := by
  unfold flt
  split
  · simp
  · have h := jdg_bd (ag := ag (n - 1)) (Fb_bd (m := m) (ag := ag) (n - 1) p hp)
    omega

/-- A path of n positions. -/
def Pth (N m : Nat) (p : Nat → Nat) (n : Nat) : Prop := ∀ i, i < n → p i < N ∧ (0 < i → p i ≤ p (i - 1) + m ∧ p (i - 1) ≤ p i + m)
def cst (ag : Nat → Nat → Bool) (p : Nat → Nat) : Nat → Int
  | 0 => 0
  | i + 1 => cst ag p i + (if ag i (p i) = true then 0 else 1)
theorem cst_congr {ag : Nat → Nat → Bool} {p q : Nat → Nat} : ∀ {n : Nat}, (∀ i, i < n → p i = q i) → cst ag p n = cst ag q n
  | 0, _ => rfl
  | n + 1, h => by simp only [cst]; rw [cst_congr (n := n) (fun i hi => h i (by omega)), h n (by omega)]
theorem cst_nn {ag : Nat → Nat → Bool} {p : Nat → Nat} : ∀ n, 0 ≤ cst ag p n
  | 0 => by simp [cst]
  | n + 1 => by have := cst_nn (ag := ag) (p := p) n; simp only [cst]; split <;> omega
theorem Pth.le {N m : Nat} {p : Nat → Nat} {n k : Nat} (h : Pth N m p n) (hk : k ≤ n) : Pth N m p k := fun i hi => h i (by omega)
theorem Pth.snoc {N m : Nat} {p : Nat → Nat} {n x : Nat} (h : Pth N m p n) (hx : x < N) (hm : 0 < n → x ≤ p (n - 1) + m ∧ p (n - 1) ≤ x + m) :
    Pth N m (fun i => if i = n then x else p i) (n + 1) := by
  intro i hi
  by_cases e : i = n
  · subst e
    refine ⟨by simp [hx], fun h0 => ?_⟩
    have := hm h0
    have e2 : i - 1 ≠ i := by omega
    simp [e2, this]
  · have := h i (by omega)
    refine ⟨by simp [e, this.1], fun h0 => ?_⟩
    have e2 : i - 1 ≠ n := by omega
    simp [e, e2, this.2 h0]

theorem flt_succ2 {N m : Nat} {ag : Nat → Nat → Bool} {n : Nat} (p : Nat) : flt N m ag (n + 2) p = mvd N m (flt N m ag (n + 1)) p + (if ag (n + 1) p = true then 0 else 1) := by
  unfold flt
  rw [if_neg (by omega), if_neg (by omega)]
  simp only [show n + 2 - 1 = n + 1 by omega, show n + 1 - 1 = n by omega]
  rfl
theorem flt_one {N m : Nat} {ag : Nat → Nat → Bool} (p : Nat) : flt N m ag 1 p = (if ag 0 p = true then 0 else 1) := by
  unfold flt
  rw [if_neg (by omega)]
  simp [jdg, Fb]

/-- A position has at most c faults just when some path with at most c faults ends there. -/
theorem flt_path {N m : Nat} {ag : Nat → Nat → Bool} : ∀ (n x : Nat) (c : Int), x < N → (flt N m ag (n + 1) x ≤ c ↔ ∃ p, Pth N m p (n + 1) ∧ p n = x ∧ cst ag p (n + 1) ≤ c)
  | 0, x, c, hx => by
    rw [flt_one]
    constructor
    · intro h
      refine ⟨fun _ => x, fun i hi => ⟨hx, fun h0 => by omega⟩, rfl, ?_⟩
      simp only [cst]; omega
    · rintro ⟨p, _, rfl, h3⟩
      simp only [cst] at h3; omega
  | n + 1, x, c, hx => by
    rw [flt_succ2]
    have e : mvd N m (flt N m ag (n + 1)) x + (if ag (n + 1) x = true then 0 else 1) ≤ c ↔ mvd N m (flt N m ag (n + 1)) x ≤ c - (if ag (n + 1) x = true then 0 else 1) := by omega
    rw [e, mvd_le hx]
    constructor
    · rintro ⟨q, h1, h2, h3, h4⟩
      obtain ⟨p, g1, g2, g3⟩ := (flt_path n q _ h1).1 h4
      refine ⟨fun i => if i = n + 1 then x else p i, g1.snoc hx (fun _ => by simp [g2]; omega), by simp, ?_⟩
      have e1 : cst ag (fun i => if i = n + 1 then x else p i) (n + 1) = cst ag p (n + 1) := cst_congr fun i hi => by simp [show i ≠ n + 1 by omega]
      show cst ag _ (n + 1) + (if ag (n + 1) (if n + 1 = n + 1 then x else p (n + 1)) = true then 0 else 1) ≤ c
      rw [e1, if_pos rfl]
      omega
    · rintro ⟨p, g1, rfl, g3⟩
      have g4 : cst ag p (n + 1) + (if ag (n + 1) (p (n + 1)) = true then 0 else 1) ≤ c := g3
      have g5 := g1 (n + 1) (by omega)
      have g6 := g5.2 (by omega)
      have g7 := g1 n (by omega)
      simp only [show n + 1 - 1 = n by omega] at g6
      exact ⟨p n, g7.1, by omega, by omega, (flt_path n (p n) _ g7.1).2 ⟨p, g1.le (by omega), rfl, by omega⟩⟩
end Go.Proofs.Ytkafjlhmbiaicaa

/- Stage 2, plain mathematics: the code of a number. -/
set_option linter.unusedSimpArgs false
set_option linter.unusedVariables false
namespace Go.Proofs.Ytkafjlhmbiaicaa

def gray (n : Nat) : Nat := n ^^^ (n / 2)
def trkGo : Nat → Nat → Nat → Nat
  | 0, acc, _ => acc
  | k + 1, acc, c => if c = 0 then acc else trkGo k (acc ^^^ c) (c / 2)
/-- The number that has a code. -/
def trk (c : Nat) : Nat := trkGo 8 0 c
theorem gray_all : ∀ n : Fin 128, gray n.val < 128 ∧ trk (gray n.val) = n.val := by decide +kernel
theorem trk_all : ∀ n : Fin 128, trk n.val < 128 ∧ gray (trk n.val) = n.val := by decide +kernel
theorem gray_lt {n : Nat} (h : n < 128) : gray n < 128 := (gray_all ⟨n, h⟩).1
theorem trk_gray {n : Nat} (h : n < 128) : trk (gray n) = n := (gray_all ⟨n, h⟩).2
theorem trk_lt {n : Nat} (h : n < 128) : trk n < 128 := (trk_all ⟨n, h⟩).1
theorem gray_trk {n : Nat} (h : n < 128) : gray (trk n) = n := (trk_all ⟨n, h⟩).2
theorem trkGo_step {k acc c : Nat} (h : 0 < c) : trkGo (k + 1) acc c = trkGo k (acc ^^^ c) (c / 2) := by
  simp only [trkGo]
  rw [if_neg (by omega)]
theorem trkGo_zero (k acc : Nat) : trkGo k acc 0 = acc := by cases k <;> simp [trkGo]
theorem xor_lt128 {a b : Nat} (ha : a < 128) (hb : b < 128) : a ^^^ b < 128 := Nat.xor_lt_two_pow (n := 7) ha hb

/-- The bits of two numbers that are not negative, in a machine's word. -/
theorem xor_i64 {a b : Nat} (ha : a < 9223372036854775808) (hb : b < 9223372036854775808) : bits .xor .i64 (a : Int) (b : Int) = ((a ^^^ b : Nat) : Int) := by
  have h : a ^^^ b < 2 ^ 63 := Nat.xor_lt_two_pow (by omega) (by omega)
  simp only [bits, BitVec.ofInt_natCast, BitVec.toNat_xor, BitVec.toNat_ofNat]
  rw [Nat.mod_eq_of_lt (show a < 2 ^ IntKind.i64.bits by show a < 2 ^ 64; omega), Nat.mod_eq_of_lt (show b < 2 ^ IntKind.i64.bits by show b < 2 ^ 64; omega)]
  exact IntWalk.i64_in _ (by omega)
theorem and_i64 {a b : Nat} (ha : a < 9223372036854775808) (hb : b < 9223372036854775808) : bits .and .i64 (a : Int) (b : Int) = ((a &&& b : Nat) : Int) :=
  (bits_nat .i64 63 (by decide) (fun n h1 h2 => IntWalk.i64_in n (by omega)) a b (by omega) (by omega)).1
theorem or_i64 {a b : Nat} (ha : a < 9223372036854775808) (hb : b < 9223372036854775808) : bits .or .i64 (a : Int) (b : Int) = ((a ||| b : Nat) : Int) :=
  (bits_nat .i64 63 (by decide) (fun n h1 h2 => IntWalk.i64_in n (by omega)) a b (by omega) (by omega)).2
theorem bv_andnot (x y : BitVec 64) : x &&& ~~~y = x ^^^ (x &&& y) := by
  ext i
  simp
  cases x[i] <;> cases y[i] <;> rfl
theorem andnot_i64 {a b : Nat} (ha : a < 9223372036854775808) (hb : b < 9223372036854775808) : bits .andNot .i64 (a : Int) (b : Int) = ((a ^^^ (a &&& b) : Nat) : Int) := by
  have h : a ^^^ (a &&& b) < 2 ^ 63 := Nat.xor_lt_two_pow (by omega) (Nat.and_lt_two_pow _ (by omega))
  simp only [bits, BitVec.ofInt_natCast]
  show IntKind.i64.wrap ((BitVec.ofNat 64 a &&& ~~~BitVec.ofNat 64 b).toNat : Int) = _
  rw [bv_andnot (BitVec.ofNat 64 a) (BitVec.ofNat 64 b)]
  simp only [BitVec.toNat_xor, BitVec.toNat_and, BitVec.toNat_ofNat]
  rw [Nat.mod_eq_of_lt (show a < 2 ^ 64 by omega), Nat.mod_eq_of_lt (show b < 2 ^ 64 by omega)]
  exact IntWalk.i64_in _ (by omega)
/-- How many bits are set, of those below the place i. -/
def pc (x : Nat) : Nat → Nat
  | 0 => 0
  | i + 1 => pc x i + x / 2 ^ i % 2
theorem pc_le (x : Nat) : ∀ i, pc x i ≤ i
  | 0 => Nat.le_refl _
  | i + 1 => by have := pc_le x i; simp only [pc]; omega
theorem pc_gray : ∀ n : Fin 127, pc (gray n.val ^^^ gray (n.val + 1)) 7 = 1 := by decide +kernel
theorem low_and {a M : Nat} (ha : a < 128) : a &&& M = a &&& (M % 128) := by
  have h1 : M % 128 = M &&& 127 := (Nat.and_two_pow_sub_one_eq_mod M 7).symm
  have h2 : a &&& 127 = a := by
    have := Nat.and_two_pow_sub_one_eq_mod a 7
    rw [show (2 ^ 7 - 1 : Nat) = 127 by rfl] at this
    rw [this]; omega
  rw [h1, Nat.and_comm M 127, ← Nat.and_assoc, h2]
/-- A mixture of the bits of two numbers. -/
def mixB (a b M : Nat) : Nat := (a &&& M) ||| (b ^^^ (b &&& M))
theorem mix_gray0 : ∀ n : Fin 127, ∀ m : Fin 128, mixB (gray n.val) (gray (n.val + 1)) m.val = gray n.val ∨ mixB (gray n.val) (gray (n.val + 1)) m.val = gray (n.val + 1) := by decide +kernel
theorem mix_gray {n : Nat} (M : Nat) (h : n < 127) : mixB (gray n) (gray (n + 1)) M = gray n ∨ mixB (gray n) (gray (n + 1)) M = gray (n + 1) := by
  have h0 := mix_gray0 ⟨n, h⟩ ⟨M % 128, Nat.mod_lt _ (by omega)⟩
  unfold mixB at h0 ⊢
  rw [low_and (M := M) (gray_lt (by omega)), low_and (a := gray (n + 1)) (M := M) (gray_lt (by omega))]
  exact h0
end Go.Proofs.Ytkafjlhmbiaicaa
