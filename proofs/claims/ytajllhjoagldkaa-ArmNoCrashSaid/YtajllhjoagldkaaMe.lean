/- Stage 6: the two arms of the examples; easier arms (mathematics). -/
import Derived.Test.YtajllhjoagldkaaMb
set_option linter.unusedSimpArgs false
set_option linter.unusedVariables false
namespace Go.Proofs.Ytajllhjoagldkaa

def exA : Ar := ⟨6, 2, 3, 1, 1, 2⟩
def exB : Ar := ⟨6, 2, 3, 0, 0, 0⟩
theorem exA_ok : exA.Ok := ⟨by decide, by decide, by decide, by decide, by decide, by decide⟩
theorem exB_ok : exB.Ok := ⟨by decide, by decide, by decide, by decide, by decide, by decide⟩
/-- All wanted states are kept. -/
theorem gr_all {a : Ar} {g : Int → Int → Bool} (h : (sts a).all (fun s => !(stB a s.1 s.2 && g s.1 s.2) || cans a (fun p v => stB a p v && g p v) s.1 s.2) = true) {f : Int → Int → Bool} (hf : Gr a g f) : f = fun p v => stB a p v && g p v := by
  have h2 : Gr a g (fun p v => stB a p v && g p v) := by
    refine (Inv.start a g).done fun p v e => ?_
    have h3 : stB a p v = true := by rw [Bool.and_eq_true] at e; exact e.1
    have := List.all_eq_true.1 h (p, v) (mem_sts.2 h3)
    simp only [e, Bool.not_true, Bool.false_or] at this
    exact this
  funext p v
  exact hf.uniq h2 p v
set_option maxRecDepth 100000 in
theorem ex1 {f : Int → Int → Bool} (hf : Gr exA (trB exA 3) f) : (lst f (sts exA)).length = 15 := by
  rw [gr_all (by decide +kernel) hf]
  decide +kernel
set_option maxRecDepth 100000 in
theorem ex2 {f : Int → Int → Bool} (hf : Gr exB (trB exB 3) f) : lvl exB f 3 0 0 = true ∧ lvl exB f 2 0 0 = false ∧ low exB (lvl exB f 2) 0 0 = some 1 := by
  rw [gr_all (by decide +kernel) hf]
  decide +kernel
set_option maxRecDepth 100000 in
theorem ex3 {f : Int → Int → Bool} (hf : Gr exB (fun _ _ => true) f) : f = fun p v => stB exB p v := by
  rw [gr_all (by decide +kernel) hf]
  funext p v
  rw [Bool.and_true]
set_option maxRecDepth 100000 in
theorem ex4 {f : Int → Int → Bool} (hf : Gr exB (trB exB 0) f) : (∀ p v, stB exB p v = true → lvl exB f 5 p v = true) ∧ lvl exB f 4 6 2 = false := by
  rw [gr_all (by decide +kernel) hf]
  refine ⟨fun p v h => ?_, by decide +kernel⟩
  have : (sts exB).all (fun s => lvl exB (fun p v => stB exB p v && trB exB 0 p v) 5 s.1 s.2) = true := by decide +kernel
  exact List.all_eq_true.1 this (p, v) (mem_sts.2 h)

/-- b is an easier arm than a. -/
structure Eas (a b : Ar) : Prop where
  l : b.la = a.la
  p : b.sp = a.sp
  f : a.fo ≤ b.fo
  h : b.sh ≤ a.sh
  g : a.ga ≤ b.ga
  s : a.sl ≤ b.sl
theorem Eas.st {a b : Ar} (e : Eas a b) (p v : Int) : stB b p v = stB a p v := by unfold stB; rw [e.l, e.p]
theorem Eas.tr {a b : Ar} (e : Eas a b) {t p v : Int} (h : trB a t p v = true) : trB b t p v = true := by
  have := e.g; have := e.s
  simp only [trB, Bool.and_eq_true, decide_eq_true_eq] at h ⊢
  omega
theorem Eas.cans {a b : Ar} (e : Eas a b) {f : Int → Int → Bool} {p v : Int} (h : cans a f p v = true) : Go.Proofs.Ytajllhjoagldkaa.cans b f p v = true := by
  have := e.f; have := e.h
  rw [cans_iff] at h ⊢
  obtain ⟨c, h1, h2⟩ := h
  rw [okc_iff] at h2
  exact ⟨c, by omega, okc_iff.2 fun s s1 s2 => h2 s (by omega) (by omega)⟩
theorem Eas.gr {a b : Ar} (e : Eas a b) {t : Int} {f f' : Int → Int → Bool} (h : Gr a (trB a t) f) (h' : Gr b (trB b t) f') {p v : Int} (hf : f p v = true) : f' p v = true :=
  h'.2 f (fun p v h1 => ⟨by rw [e.st]; exact (h.1 p v h1).1, e.tr (h.1 p v h1).2.1, e.cans (h.1 p v h1).2.2⟩) p v hf
theorem Eas.lvl {a b : Ar} (e : Eas a b) {t : Int} {f f' : Int → Int → Bool} (h : Gr a (trB a t) f) (h' : Gr b (trB b t) f') : ∀ (n : Nat) (p v : Int), Go.Proofs.Ytajllhjoagldkaa.lvl a f n p v = true → Go.Proofs.Ytajllhjoagldkaa.lvl b f' n p v = true
  | 0, p, v, h1 => e.gr h h' h1
  | n + 1, p, v, h1 => by
    rcases lvl_succ.1 h1 with h1 | ⟨h1, h2⟩
    · exact lvl_succ.2 (.inl (Eas.lvl e h h' n p v h1))
    · exact lvl_succ.2 (.inr ⟨by rw [e.st]; exact h1, cans_mono (fun p v => Eas.lvl e h h' n p v) (e.cans h2)⟩)
end Go.Proofs.Ytajllhjoagldkaa
