/- Stage 6: safe states (mathematics). -/
import Derived.Test.YtajllhjoagldkaaMb
set_option linter.unusedSimpArgs false
set_option linter.unusedVariables false
namespace Go.Proofs.Ytajllhjoagldkaa

theorem lvl_post {a : Ar} {t : Int} {f0 : Int → Int → Bool} (h : Gr a (trB a t) f0) : ∀ (n : Nat), Post a (fun _ _ => true) (lvl a f0 n)
  | 0 => fun p v e => ⟨(h.1 p v e).1, rfl, (h.1 p v e).2.2⟩
  | n + 1 => fun p v e => by
    rcases lvl_succ.1 e with e | ⟨e1, e2⟩
    · have := lvl_post h n p v e
      exact ⟨this.1, rfl, cans_mono (fun p v e => lvl_mono (Nat.le_succ n) e) this.2.2⟩
    · exact ⟨e1, rfl, cans_mono (fun p v e => lvl_mono (Nat.le_succ n) e) e2⟩
/-- Each state that is not lost is safe. -/
theorem lvl_safe {a : Ar} {t : Int} {f0 fs : Int → Int → Bool} (h : Gr a (trB a t) f0) (hs : Gr a (fun _ _ => true) fs) {n : Nat} {p v : Int} (e : lvl a f0 n p v = true) : fs p v = true := hs.2 _ (lvl_post h n) p v e
/-- A state is safe just if some command surely leads to safe ones. -/
theorem safe_cans {a : Ar} {fs : Int → Int → Bool} (hs : Gr a (fun _ _ => true) fs) {p v : Int} (h : stB a p v = true) : fs p v = cans a fs p v := by
  cases e : cans a fs p v with
  | false =>
    cases e2 : fs p v with
    | false => rfl
    | true => have := (hs.1 p v e2).2.2; rw [e] at this; cases this
  | true =>
    refine hs.2 (fun p' v' => fs p' v' || decide (p' = p ∧ v' = v)) (fun p' v' h' => ?_) p v (by simp)
    have hmono : ∀ x y, fs x y = true → (fs x y || decide (x = p ∧ y = v)) = true := fun x y h => by rw [h]; rfl
    rw [Bool.or_eq_true, decide_eq_true_eq] at h'
    rcases h' with h' | ⟨rfl, rfl⟩
    · exact ⟨(hs.1 p' v' h').1, rfl, cans_mono hmono (hs.1 p' v' h').2.2⟩
    · exact ⟨h, rfl, cans_mono hmono e⟩
theorem lst_order (a : Ar) (f : Int → Int → Bool) : (lst f (sts a)).Pairwise before := (sts_order a).filter _
theorem order_at {L : List (Int × Int)} (h : L.Pairwise before) {j : Nat} (hj : j + 1 < L.length) : before L[j] L[j + 1] := List.pairwise_iff_getElem.1 h j (j + 1) (by omega) hj (by omega)
end Go.Proofs.Ytajllhjoagldkaa
