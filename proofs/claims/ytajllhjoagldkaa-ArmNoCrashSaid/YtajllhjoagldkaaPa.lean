/- Stage 6: one list of states is appended to another, also an empty one; what a count turns in the search. -/
import Derived.Test.YtajllhjoagldkaaMb
import Derived.Test.YtajllhjoagldkaaO
import Derived.Laws.OwnMore
import Derived.Deep.AppendLies
set_option linter.unusedSimpArgs false
set_option linter.unusedVariables false
namespace Go.Proofs.Ytajllhjoagldkaa
open Go.RowKit Go.Maps Go.WideMaps

theorem flS_app (L M : List (Int × Int)) : flS (L ++ M) = flS L ++ flS M := by simp [flS]
theorem flS_one (L : List (Int × Int)) : ∀ u ∈ flS L, u.oneCell' = true := by
  intro u hu
  unfold flS at hu
  obtain ⟨s, _, h⟩ := List.mem_flatMap.1 hu
  rcases List.mem_cons.1 h with rfl | h
  · rfl
  · rw [List.mem_singleton.1 h]; rfl
theorem grown_refl (w : World) (row : Option Nat) : w.grownBy w row := ⟨rfl, rfl, rfl, Nat.le_refl _, fun _ _ _ => rfl⟩
theorem step_append_rows {w : World} {ops : Array Oper} {o : Oper} {a : Act} {K : Act → World → Prop} {Q : Exit → Act → World → Prop} {E : Prop} (hgd : o.guard = none) (s x : Operand)
    (ho : o.op = .call { callee := .builtin .append, args := #[s, x], argTypes := #[32, 32] }) (base base2 : Nat) (v1 v2 : Value) (L1 L2 : List (Int × Int)) (hs : a.eval s = v1) (hx : a.eval x = v2)
    (h1 : w.ownsRow base 25 2 v1 L1.length (flS L1)) (h2 : w.ownsRow base2 25 2 v2 L2.length (flS L2)) (hb : L1.length + L2.length ≤ 100000) (hbase : base ≤ w.heap.size)
    (h : ∀ v' w', w'.ownsRow base 25 2 v' (L1 ++ L2).length (flS (L1 ++ L2)) → w.grownBy w' v1.ownBlock → (v'.ownBlock = v1.ownBlock ∨ v'.ownBlock = some w.heap.size) → K (a.put o.dst v') w') :
    if Region.wanted o (yielded ops a.tmps) = true then Oper.wp Try.prog o a w K Q else E := by
  have hw : Region.wanted o (yielded ops a.tmps) = true := by simp [Region.wanted, hgd]
  rw [if_pos hw]
  obtain ⟨i0, ie0, ie1, ie2, ie3⟩ := info_parts (P := Try.prog) (e := 25) (z := .agg #[.int .i64 0, .int .i64 0]) (size := 2) (bytes := 16) (by kernel_rfl)
  rcases id h2.2 with ⟨e1, e2⟩ | ⟨g, cap, cur, e1, _⟩
  · have hrun := run_append_owned_none (P := Try.prog) (w := w) base 32 o.type 25 i0 2 Try.underlying32 ie0 v1 _ _ h1
    obtain rfl : L2 = [] := List.eq_nil_of_length_eq_zero e2
    rw [List.append_nil] at h
    subst e1
    unfold Oper.wp execOp
    simp only [ho, resolve, invoke, builtin, Sem.run_bind, Sem.run_pure, Result.andThen_ok, List.map_toArray, List.map_cons, List.map_nil, hs, hx, hrun]
    exact h _ _ h1 (grown_refl _ _) (.inl rfl)
  · subst e1
    obtain ⟨v', w', hrun, r1, r2, _, r3⟩ := run_append_own_at (P := Try.prog) w base 32 o.type 25 i0 (.agg #[.int .i64 0, .int .i64 0]) 2 16 Try.underlying32 ie0 ie1 ie2 ie3 rfl (by decide) v1 _ _ h1 ⟨g, 0, none⟩ L2.length cap (flS L2) (flS_len L2) (h2.cells rfl) (flS_one L2) (by unfold maxLen; omega) (by omega) hbase
    unfold Oper.wp execOp
    simp only [ho, resolve, invoke, builtin, Sem.run_bind, Sem.run_pure, Result.andThen_ok, List.map_toArray, List.map_cons, List.map_nil, hs, hx, hrun]
    exact h _ _ (by rw [List.length_append, flS_app]; exact r1) r2 r3
end Go.Proofs.Ytajllhjoagldkaa
