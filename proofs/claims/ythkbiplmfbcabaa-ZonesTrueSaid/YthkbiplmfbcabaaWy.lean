/- Stage 1: an append of one number at a step of a region that draws its order; two rows that grow. -/
import Derived.Test.YthkbiplmfbcabaaWx
import Derived.Test.YthkbiplmfbcabaaI3
import Derived.Deep.AppendLies
import Derived.OwnWalkIn
set_option linter.unusedSimpArgs false
set_option linter.unusedVariables false
namespace Go.Proofs.Ythkbiplmfbcabaa
open Go Go.Sort Go.RowKit

theorem wpIn_app {F : Fence} {n : Nat} {o : Oper} {a : Act} {w : World} {K : Act → World → Prop} {Q : Exit → Act → World → Prop} (s x : Tmp)
    (hop : o.op = Op.call { callee := Callee.builtin Builtin.append, args := #[.tmp s, .tmp x], argTypes := #[49, 49] }) (base : Nat)
    (v : Value) (k : Nat) (xs : List Value) (hs : a.tmps[s]?.getD undef = v) (hown : w.ownsRow base 3 1 v k xs) (b : Nat) (u : Int) (hx : a.tmps[x]?.getD undef = .slice (some ⟨b, 0, none⟩) 1 1) (hb : w.heap[b]? = some (.cells #[.int .i64 u] 3 (0, 0)))
    (hk : k ≤ 100000) (hbase : base ≤ w.heap.size)
    (hK : ∀ g cap w', w'.ownsRow base 3 1 (.slice (some ⟨g, 0, none⟩) (k + 1) cap) (k + 1) (xs ++ [.int .i64 u]) → w.grownBy w' v.ownBlock → (v.ownBlock = some g ∨ g = w.heap.size) → g < w'.heap.size → K (a.put o.dst (.slice (some ⟨g, 0, none⟩) (k + 1) cap)) w') : o.wpIn F n Try.prog a w K Q := by
  obtain ⟨i0, ie0, ie1, ie2, ie3⟩ := info_parts Try.info3
  obtain ⟨g, cap, w', hrun, r1, r2, r3, r4⟩ := run_append_lies (P := Try.prog) w 49 o.type base 3 i0 (.int .i64 0) 1 8 Try.underlying49 ie0 ie1 ie2 ie3 rfl (by decide) v k xs hown ⟨b, 0, none⟩ 1 1 [.int .i64 u] rfl
    (World.news_of_block hb) (by simp [Value.oneCell']) (by decide) (by unfold maxLen; omega) (by omega) hbase _ rfl
  have e1 : a.eval (.tmp s) = v := by rw [← hs]; simp [Act.eval, Array.getD_eq_getD_getElem?]
  have e2 : a.eval (.tmp x) = .slice (some ⟨b, 0, none⟩) 1 1 := by rw [← hx]; simp [Act.eval, Array.getD_eq_getD_getElem?]
  unfold Oper.wpIn
  refine ⟨?_, ?_⟩
  · simp [Oper.about, hop, resolve, Target.leads, Sem.run_pure]
  · rw [Oper.semAt_plain F _ _ (by rw [hop]; intro c hc'; cases hc')]
    simp [execOp, hop, resolve, invoke, builtin, e1, e2, hrun, Result.andThen]
    exact hK g cap w' r1 r2 r3 r4

theorem grown_of_below {w w' : World} (hb : Below w.heap.size w w') : w.grownBy w' none := ⟨hb.os, hb.tape, hb.output, hb.size, fun k hk _ => hb.block k hk⟩
theorem Keep.grown {S : Nat → Prop} {a b c : World} {row : Option Nat} (h : Keep S a b) (hg : b.grownBy c row) (hr : ∀ k, row = some k → S k) : Keep S a c :=
  ⟨hg.os.trans h.os, hg.tape.trans h.tape, hg.output.trans h.output, Nat.le_trans h.size hg.size, fun k hk hs => (hg.block k (Nat.lt_of_lt_of_le hk h.size) (fun e => hs (hr k e.symm))).trans (h.block k hk hs)⟩

/-- What an append leaves. -/
def AppG (wr w' : World) (base : Nat) (o : Value) (k : Nat) (xs : List Value) (u : Value) : Prop :=
  ∃ g cap, u = .slice (some ⟨g, 0, none⟩) (k + 1) cap ∧ w'.ownsRow base 3 1 (.slice (some ⟨g, 0, none⟩) (k + 1) cap) (k + 1) xs ∧ (o.ownBlock = some g ∨ wr.heap.size ≤ g) ∧ g < w'.heap.size
theorem AppG.kept {wr a b : World} {base k : Nat} {o p u : Value} {xs : List Value} (h : AppG wr a base o k xs u) {row : Option Nat} (hg : a.grownBy b row) (hrow : row = none ∨ row = p.ownBlock) (sep : ∀ g, o.ownBlock = some g → p.ownBlock ≠ some g) (hp : ∀ g, p.ownBlock = some g → g < wr.heap.size) : AppG wr b base o k xs u := by
  obtain ⟨g, cap, h1, h2, h3, h4⟩ := h
  refine ⟨g, cap, h1, h2.kept hg ?_, h3, Nat.lt_of_lt_of_le h4 hg.size⟩
  right
  show some g ≠ row
  rcases hrow with rfl | rfl
  · intro e; cases e
  · intro e
    rcases h3 with h3 | h3
    · exact sep g h3 e.symm
    · have := hp g e.symm; omega
theorem row_kept {a b : World} {base k : Nat} {o p : Value} {xs : List Value} (h : a.ownsRow base 3 1 o k xs) {row : Option Nat} (hg : a.grownBy b row) (hrow : row = none ∨ row = p.ownBlock) (sep : ∀ g, o.ownBlock = some g → p.ownBlock ≠ some g) : b.ownsRow base 3 1 o k xs := by
  refine h.kept hg ?_
  cases ho : o.ownBlock with
  | none => exact .inl rfl
  | some g =>
    right
    rcases hrow with rfl | rfl
    · intro e; cases e
    · intro e
      exact sep g ho e.symm
/-- A block of one number behind all old ones. -/
def BlkG (wr w' : World) (x : Int) (u : Value) : Prop := ∃ b, u = .slice (some ⟨b, 0, none⟩) 1 1 ∧ wr.heap.size ≤ b ∧ w'.heap[b]? = some (.cells #[.int .i64 x] 3 (0, 0))
theorem BlkG.kept {wr a b : World} {x : Int} {u : Value} (h : BlkG wr a x u) {row : Option Nat} (hg : a.grownBy b row) (hp : ∀ g, row = some g → g < wr.heap.size) : BlkG wr b x u := by
  obtain ⟨c, h1, h2, h3⟩ := h
  refine ⟨c, h1, h2, (hg.block c (Array.getElem?_eq_some_iff.1 h3).1 (fun e => ?_)).trans h3⟩
  have := hp c e.symm
  omega
theorem app_sep {wr w : World} {base k k' : Nat} {o p u u' : Value} {xs : List Value} {g : Nat} {c : Nat} (h : AppG wr w base o k xs u) (hwr : wr.heap.size ≤ w.heap.size) (hu' : u' = .slice (some ⟨g, 0, none⟩) k' c) (hg : p.ownBlock = some g ∨ g = w.heap.size) (sep : ∀ g, o.ownBlock = some g → p.ownBlock ≠ some g) (ho : ∀ g, o.ownBlock = some g → g < wr.heap.size) (hp : ∀ g, p.ownBlock = some g → g < wr.heap.size) :
    ∀ b b', u.ownBlock = some b → u'.ownBlock = some b' → b ≠ b' := by
  obtain ⟨g0, cap, h1, _, h3, h4⟩ := h
  subst h1 hu'
  intro b b' hb hb' e
  have e1 : g0 = b := by simpa [Value.ownBlock] using hb
  have e2 : g = b' := by simpa [Value.ownBlock] using hb'
  subst e1 e2
  subst e
  rcases h3 with h3 | h3
  · rcases hg with hg | hg
    · exact sep _ h3 hg
    · have := ho _ h3; omega
  · rcases hg with hg | hg
    · have := hp _ hg; omega
    · omega
end Go.Proofs.Ythkbiplmfbcabaa
