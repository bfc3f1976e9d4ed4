/- Stage 6: one more is counted in a map: the entry that is looked up, or made, and then written. -/
import Derived.Test.YtajllhjoagldkaaN
import Derived.WideKeyEntry
set_option linter.unusedSimpArgs false
set_option linter.unusedVariables false
namespace Go.Proofs.Ytajllhjoagldkaa
open Go.RowKit Go.Maps Go.WideMaps
open Go.ChangeMaps Go.MapKept
open Go.WideElems (Fit rd rg pl entry_then_store)

set_option maxRecDepth 1000000 in
theorem klaw25 : KeyLaw Try.prog 25 := deep_law_laid laidOut' (m := 2) (by omega) row25 (by kernel_rfl) wide25

theorem modify_id {α : Type} (f : α → α) (l : Array α) (j : Nat) (x : α) (hj : l[j]? = some x) (hf : f x = x) : l.modify j f = l := by
  apply Array.ext
  · simp
  · intro i h1 h2
    rw [Array.getElem_modify]
    split
    · rename_i e
      subst e
      rw [Array.getElem?_eq_getElem h2] at hj
      injection hj with hj
      rw [hj, hf]
    · rfl
/-- An entry that is asked for to be written: the map is then as if its own number had been stored. -/
theorem entry_same {w : World} {b : Nat} {es : Array MapEntry} {clock : Nat} {R : Value → Option (DataW Unit × List MemPlace)} (hb : w.heap[b]? = some (.map es clock)) (F : Fit Try.prog 25 R es clock) {key : Value} {kl : Lit} (hkey : keyOf Try.prog 25 key = some kl) :
    ∃ (v0 : Value) (st : Nat) (w1 : World), (Instr.mapEntry 84 (.map (some b)) key).run Try.prog w = .ok (.tuple #[v0, .int .i64 st]) w1 ∧ (Instr.mapUpdate 84 (.map (some b)) key v0).run Try.prog w = .ok () w1 := by
  have hu := fun u => run_underlying (w := u) Try.underlying84
  rcases law25.find w hkey es.toList F.keys with ⟨h1, h2⟩ | ⟨j, e0, h1, h2, h3⟩
  · refine ⟨.int .i64 0, clock, setBlock w b (.map (es.push ⟨key, .int .i64 0, clock⟩) (clock + 1)), ?_, ?_⟩
    · simp [Instr.mapEntry, hu, MapKept.run_getObj_map hb, law25.check w false hkey, h1, zero3, MapKept.run_setObj_map _ hb, goInt, Result.andThen, setBlock]
    · simp [Instr.mapUpdate, hu, MapKept.run_getObj_map hb, law25.check w false hkey, h1, MapKept.run_setObj_map _ hb, Result.andThen, setBlock]
  · have hj : es[j]? = some e0 := by simpa using h2
    have e1 : (es.modify j fun e => { e with key := key }) = es := modify_id _ _ j e0 hj (by rw [← h3])
    have e2 : (es.modify j fun e => { e with key := key, val := e0.val }) = es := modify_id _ _ j e0 hj (by rw [← h3])
    refine ⟨e0.val, e0.born, setBlock w b (.map es clock), ?_, ?_⟩
    · simp [Instr.mapEntry, hu, MapKept.run_getObj_map hb, law25.check w false hkey, h1, hj, h3, law25.stays w hkey, e1, MapKept.run_setObj_map _ hb, goInt, Result.andThen, setBlock]
    · simp [Instr.mapUpdate, hu, MapKept.run_getObj_map hb, law25.check w false hkey, h1, hj, h3, law25.stays w hkey, e2, MapKept.run_setObj_map _ hb, Result.andThen, setBlock]
theorem setBlock_at {w : World} {b : Nat} {o : Obj} (h : b < w.heap.size) : (setBlock w b o).heap[b]? = some o := by simp [setBlock, h]
theorem keep_setBlock (w : World) (b : Nat) (o : Obj) : Keep (fun k => k = b) w (setBlock w b o) :=
  ⟨rfl, rfl, rfl, by simp [setBlock], fun k hk hn => by simp [setBlock, Ne.symm hn]⟩
set_option maxRecDepth 1000000 in
/-- 'm[k] = ..' in two steps, as it is done for 'm[k]++'. -/
theorem MapI.entry {w : World} {b n : Nat} {d : Int → Int → Bool} {g : Int → Int → Int} (h : MapI w b n d g) {p v : Int} (hp : Sm p) (hv : Sm v) (hn : n < 1000000) (hg : Sm (g p v)) :
    ∃ (v0 : Value) (st : Nat) (w1 : World), (Instr.mapEntry 84 (.map (some b)) (.agg #[.int .i64 p, .int .i64 v])).run Try.prog w = .ok (.tuple #[v0, .int .i64 st]) w1 ∧ Keep (fun k => k = b) w w1 ∧ MapI w1 b (n + 1) (fun p' v' => d p' v' || (p' == p && v' == v)) g ∧
      ∀ x : Int, Sm x → ∃ w2, (Instr.entryStore 84 (.map (some b)) (.int .i64 st) (.int .i64 x)).run Try.prog w1 = .ok () w2 ∧ Keep (fun k => k = b) w1 w2 ∧ MapI w2 b (n + 1) (fun p' v' => d p' v' || (p' == p && v' == v)) (fun p' v' => if p' = p ∧ v' = v then x else g p' v') := by
  have hlt := h.lt
  have hst := fun (x : Int) (hx : Sm x) => h.store hp hv hn hx
  have hlook := h.look hp hv
  obtain ⟨D, ⟨es, clock, hb, F, hs, hD⟩, h2⟩ := h
  obtain ⟨v0, st, w1, r1, r2⟩ := entry_same hb F (key_kS hp hv)
  obtain ⟨v0', st', es1, clock1, q1, q2, q3⟩ := entry_then_store klaw25 (t := 84) Try.underlying84 (z := .int .i64 0) (fun u => zero3 u) hb F (key_kS hp hv)
  rw [r1] at q1
  injection q1 with q1 qw
  have qw1 : w1 = setBlock w b (.map es1 clock1) := qw
  simp only [Value.tuple.injEq, Array.mk.injEq, List.cons.injEq, goInt, Value.int.injEq, and_true, true_and] at q1
  obtain ⟨rfl, q1b⟩ := q1
  have hes1 : w1.heap[b]? = some (.map es1 clock1) := by rw [qw1]; exact setBlock_at hlt
  -- the number that stands there
  have hv0 : v0 = .int .i64 (g p v) := by
    rcases law25.find w (key_kS hp hv) es.toList F.keys with ⟨f1, f2⟩ | ⟨j, e0, f1, f2, f3⟩
    · have e : (Instr.lookup 84 (.map (some b)) (.agg #[.int .i64 p, .int .i64 v]) false).run Try.prog w = .ok (.int .i64 0) w := by
        simp [Instr.lookup, run_underlying Try.underlying84, MapKept.run_getObj_map hb, law25.check w _ (key_kS hp hv), f1, zero3, Result.andThen]
      rw [hlook] at e
      rcases q2 with ⟨e1, he1, he2, _⟩ | ⟨_, q2⟩
      · exact absurd he2 (f2 e1 he1)
      · rw [q2]; injection e with e _; exact e.symm
    · have hj : es[j]? = some e0 := by simpa using f2
      have e : (Instr.lookup 84 (.map (some b)) (.agg #[.int .i64 p, .int .i64 v]) false).run Try.prog w = .ok e0.val w := by
        simp [Instr.lookup, run_underlying Try.underlying84, MapKept.run_getObj_map hb, law25.check w _ (key_kS hp hv), f1, Result.andThen]
      have r3 : (Instr.mapEntry 84 (.map (some b)) (.agg #[.int .i64 p, .int .i64 v])).run Try.prog w = .ok (.tuple #[e0.val, .int .i64 e0.born]) (setBlock w b (.map (es.modify j fun e => { e with key := .agg #[.int .i64 p, .int .i64 v] }) clock)) := by
        simp [Instr.mapEntry, run_underlying Try.underlying84, MapKept.run_getObj_map hb, law25.check w false (key_kS hp hv), f1, hj, f3, law25.stays w (key_kS hp hv), MapKept.run_setObj_map _ hb, goInt, Result.andThen, setBlock]
      rw [hlook] at e
      rw [r1] at r3
      injection e with e _
      injection r3 with r3 _
      simp only [Value.tuple.injEq, Array.mk.injEq, List.cons.injEq] at r3
      rw [r3.1, ← e]
  have qst : (st : Int) = ((st' : Nat) : Int) := q1b
  refine ⟨v0, st, w1, r1, by rw [qw1]; exact keep_setBlock _ _ _, ?_, fun x hx => ?_⟩
  · obtain ⟨w3, s1, s2, _⟩ := hst (g p v) hg
    rw [hv0, s1] at r2
    injection r2 with _ r2
    rw [← r2]
    exact s2.congr fun p' v' _ _ => ⟨rfl, by by_cases e : p' = p ∧ v' = v <;> simp [e]⟩
  · obtain ⟨es', clock', s3, s4⟩ := q3 w1 (.int .i64 x) hes1
    obtain ⟨w3, s1, s2, _⟩ := hst x hx
    rw [s1] at s4
    injection s4 with _ s4
    refine ⟨_, by rw [qst]; exact s3, keep_setBlock _ _ _, s2.of_block ?_⟩
    rw [s4, setBlock_at hlt, setBlock_at (by rw [qw1]; simpa [setBlock] using hlt)]
end Go.Proofs.Ytajllhjoagldkaa
