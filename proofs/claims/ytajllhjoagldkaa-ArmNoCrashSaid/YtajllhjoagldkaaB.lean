/- Stage 6: sets of states and numbers of states, as the program's maps hold them. -/
import Derived.Test.YtajllhjoagldkaaA
set_option linter.unusedSimpArgs false
set_option linter.unusedVariables false
namespace Go.Proofs.Ytajllhjoagldkaa
open Go.RowKit Go.Maps Go.WideMaps

theorem zero4 (w : World) : (zeroValue 4).run Try.prog w = .ok (.bool false) w := by kernel_rfl
theorem zero3 (w : World) : (zeroValue 3).run Try.prog w = .ok (.int .i64 0) w := by kernel_rfl
/-- An element that reads as a bool's datum is that bool. -/
theorem plainElem_bool_inv {P : Program} {e : TypeId} (he : P.underlying e = some .bool) {v : Value} {z : DataW Unit × List MemPlace} (h : plainElem P e v = some z) : ∃ a, v = .bool a ∧ z = (.lit (.bool a), []) := by
  unfold plainElem at h
  rw [he] at h
  cases v <;> simp at h
  exact ⟨_, rfl, h.symm⟩
theorem isKey (p v : Int) : WideAt.IsKeyLit (kS p v) := trivial
theorem kS_ne {p v p' v' : Int} (hp : Sm p) (hv : Sm v) (hp' : Sm p') (hv' : Sm v') (h : ¬ (p = p' ∧ v = v')) : kS p v ≠ kS p' v' := fun e => h (kS_inj hp hv hp' hv' e)

/-- Block b is a map of at most n states that reads as the set f. -/
def SetM (w : World) (b n : Nat) (f : Int → Int → Bool) : Prop := ∃ D : DataW Unit, w.ownsMap Try.prog 25 (plainElem Try.prog 4) b n D ∧ ∀ p v, Sm p → Sm v → D.atKey (kS p v) (.lit (.bool false)) = .lit (.bool (f p v))
section
variable {w w' : World} {b n : Nat} {f : Int → Int → Bool} {p v : Int}
theorem SetM.lt (h : SetM w b n f) : b < w.heap.size := by obtain ⟨D, h1, _⟩ := h; exact h1.lt
theorem SetM.made (w : World) : SetM (w.alloc (.map #[] 0)) w.heap.size 0 (fun _ _ => false) := ⟨_, World.ownsMap_made w _ _ _, fun _ _ _ _ => rfl⟩
theorem SetM.of_block (h : SetM w b n f) (e : w'.heap[b]? = w.heap[b]?) : SetM w' b n f := by
  obtain ⟨D, ⟨es, clock, hb, F, hs, hD⟩, h2⟩ := h
  exact ⟨D, ⟨es, clock, e.trans hb, F, hs, hD⟩, h2⟩
theorem SetM.below {B : Nat} (h : SetM w b n f) (hb : Below B w w') (hB : b < B) : SetM w' b n f := h.of_block (hb.block b hB)
theorem SetM.alloc (h : SetM w b n f) (o : Obj) : SetM (w.alloc o) b n f := h.of_block (Below.heap_alloc _ _ _ h.lt)
theorem SetM.congr {g : Int → Int → Bool} (h : SetM w b n f) (e : ∀ p v, f p v = g p v) : SetM w b n g := by
  obtain ⟨D, h1, h2⟩ := h
  exact ⟨D, h1, fun p v hp hv => by rw [← e]; exact h2 p v hp hv⟩
theorem SetM.look (h : SetM w b n f) (hp : Sm p) (hv : Sm v) : (Instr.lookup 82 (.map (some b)) (.agg #[.int .i64 p, .int .i64 v]) false).run Try.prog w = .ok (.bool (f p v)) w := by
  obtain ⟨D, h1, h2⟩ := h
  obtain ⟨x, ps, hr, hx⟩ := h1.lookup law25 (t := 82) Try.underlying82 (zero4 w) (plainElem_bool Try.underlying4 false) (key_kS hp hv)
  obtain ⟨y, rfl, hy⟩ := plainElem_bool_inv Try.underlying4 hx
  rw [h2 p v hp hv] at hy
  simp only [Prod.mk.injEq, DataW.lit.injEq, Lit.bool.injEq] at hy
  rw [hr, hy.1]
theorem SetM.store (h : SetM w b n f) (hp : Sm p) (hv : Sm v) (hn : n < 1000000) : ∃ w', (Instr.mapUpdate 82 (.map (some b)) (.agg #[.int .i64 p, .int .i64 v]) (.bool true)).run Try.prog w = .ok () w' ∧ SetM w' b (n + 1) (fun p' v' => f p' v' || (p' == p && v' == v)) ∧ w.mapTurned w' b := by
  obtain ⟨D, h1, h2⟩ := h
  obtain ⟨w', hr, h3, h4⟩ := h1.store law25 (t := 82) Try.underlying82 (by unfold maxLen; omega) (key_kS hp hv) (plainElem_bool Try.underlying4 true)
  refine ⟨w', hr, ⟨_, h3, fun p' v' hp' hv' => ?_⟩, h4⟩
  by_cases e : p' = p ∧ v' = v
  · obtain ⟨rfl, rfl⟩ := e
    rw [atKey_put_same h1.isMap (isKey _ _)]
    simp
  · rw [atKey_put_other (kS_ne hp' hv' hp hv e), h2 p' v' hp' hv']
    have : (p' == p && v' == v) = false := by
      rw [Bool.and_eq_false_iff]
      by_cases e1 : p' = p
      · right; simp only [beq_eq_false_iff_ne]; exact fun e2 => e ⟨e1, e2⟩
      · left; simpa using e1
    simp only [this, Bool.or_false]
theorem SetM.drop (h : SetM w b n f) (hp : Sm p) (hv : Sm v) (ty : TypeId) : ∃ w', (Builtin.delete_ #[82, 25] ty #[.map (some b), .agg #[.int .i64 p, .int .i64 v]]).run Try.prog w = .ok (.tuple #[]) w' ∧ SetM w' b n (fun p' v' => f p' v' && !(p' == p && v' == v)) ∧ w.mapTurned w' b := by
  obtain ⟨D, h1, h2⟩ := h
  obtain ⟨w', hr, h3, h4⟩ := h1.drop law25 (t := 82) Try.underlying82 (key_kS hp hv) ty
  refine ⟨w', hr, ⟨_, h3, fun p' v' hp' hv' => ?_⟩, h4⟩
  by_cases e : p' = p ∧ v' = v
  · obtain ⟨rfl, rfl⟩ := e
    rw [atKey_del_same]
    simp
  · rw [atKey_del_other (kS_ne hp' hv' hp hv e), h2 p' v' hp' hv']
    have : (p' == p && v' == v) = false := by
      rw [Bool.and_eq_false_iff]
      by_cases e1 : p' = p
      · right; simp only [beq_eq_false_iff_ne]; exact fun e2 => e ⟨e1, e2⟩
      · left; simpa using e1
    simp only [this, Bool.not_false, Bool.and_true]
end
/-- Block b is a map of at most n states: d says which have a number, g which one (0: none). -/
def MapI (w : World) (b n : Nat) (d : Int → Int → Bool) (g : Int → Int → Int) : Prop := ∃ D : DataW Unit, w.ownsMap Try.prog 25 (plainElem Try.prog 3) b n D ∧ ∀ p v, Sm p → Sm v → has D (kS p v) = d p v ∧ D.atKey (kS p v) (.lit (.int .i64 0)) = .lit (.int .i64 (g p v))
section
variable {w w' : World} {b n : Nat} {d : Int → Int → Bool} {g : Int → Int → Int} {p v : Int}
theorem MapI.lt (h : MapI w b n d g) : b < w.heap.size := by obtain ⟨D, h1, _⟩ := h; exact h1.lt
theorem MapI.made (w : World) : MapI (w.alloc (.map #[] 0)) w.heap.size 0 (fun _ _ => false) (fun _ _ => 0) := ⟨_, World.ownsMap_made w _ _ _, fun _ _ _ _ => ⟨rfl, rfl⟩⟩
theorem MapI.of_block (h : MapI w b n d g) (e : w'.heap[b]? = w.heap[b]?) : MapI w' b n d g := by
  obtain ⟨D, ⟨es, clock, hb, F, hs, hD⟩, h2⟩ := h
  exact ⟨D, ⟨es, clock, e.trans hb, F, hs, hD⟩, h2⟩
theorem MapI.below {B : Nat} (h : MapI w b n d g) (hb : Below B w w') (hB : b < B) : MapI w' b n d g := h.of_block (hb.block b hB)
theorem MapI.alloc (h : MapI w b n d g) (o : Obj) : MapI (w.alloc o) b n d g := h.of_block (Below.heap_alloc _ _ _ h.lt)
theorem MapI.mono (h : MapI w b n d g) {m : Nat} (hm : n ≤ m) : MapI w b m d g := by
  obtain ⟨D, h1, h2⟩ := h
  exact ⟨D, h1.mono hm, h2⟩
theorem MapI.congr {d' : Int → Int → Bool} {g' : Int → Int → Int} (h : MapI w b n d g) (e : ∀ p v, Sm p → Sm v → d p v = d' p v ∧ g p v = g' p v) : MapI w b n d' g' := by
  obtain ⟨D, h1, h2⟩ := h
  exact ⟨D, h1, fun p v hp hv => by rw [← (e p v hp hv).1, ← (e p v hp hv).2]; exact h2 p v hp hv⟩
theorem MapI.look (h : MapI w b n d g) (hp : Sm p) (hv : Sm v) : (Instr.lookup 84 (.map (some b)) (.agg #[.int .i64 p, .int .i64 v]) false).run Try.prog w = .ok (.int .i64 (g p v)) w := by
  obtain ⟨D, h1, h2⟩ := h
  obtain ⟨c, hr, hc, _⟩ := h1.lookup_int law25 (t := 84) Try.underlying84 Try.underlying3 (zero3 w) (key_kS hp hv)
  rw [(h2 p v hp hv).2] at hc
  simp only [DataW.lit.injEq, Lit.int.injEq, true_and] at hc
  rw [hr, hc]
theorem MapI.ask (h : MapI w b n d g) (hp : Sm p) (hv : Sm v) : (Instr.lookup 84 (.map (some b)) (.agg #[.int .i64 p, .int .i64 v]) true).run Try.prog w = .ok (.tuple #[.int .i64 (g p v), .bool (d p v)]) w := by
  obtain ⟨D, h1, h2⟩ := h
  obtain ⟨x, ps, hr, hx⟩ := h1.look_ok law25 (t := 84) Try.underlying84 (zero3 w) (plainElem_int Try.underlying3 (by decide)) (key_kS hp hv)
  obtain ⟨y, rfl, hy, _⟩ := plainElem_int_inv Try.underlying3 hx
  rw [(h2 p v hp hv).2] at hy
  simp only [Prod.mk.injEq, DataW.lit.injEq, Lit.int.injEq, true_and] at hy
  rw [hr, hy.1, (h2 p v hp hv).1]
theorem MapI.store (h : MapI w b n d g) (hp : Sm p) (hv : Sm v) (hn : n < 1000000) {x : Int} (hx : Sm x) : ∃ w', (Instr.mapUpdate 84 (.map (some b)) (.agg #[.int .i64 p, .int .i64 v]) (.int .i64 x)).run Try.prog w = .ok () w' ∧ MapI w' b (n + 1) (fun p' v' => d p' v' || (p' == p && v' == v)) (fun p' v' => if p' = p ∧ v' = v then x else g p' v') ∧ w.mapTurned w' b := by
  obtain ⟨D, h1, h2⟩ := h
  obtain ⟨w', hr, h3, h4⟩ := h1.store law25 (t := 84) Try.underlying84 (by unfold maxLen; omega) (key_kS hp hv) (plainElem_int Try.underlying3 (wfs hx))
  refine ⟨w', hr, ⟨_, h3, fun p' v' hp' hv' => ?_⟩, h4⟩
  by_cases e : p' = p ∧ v' = v
  · obtain ⟨rfl, rfl⟩ := e
    rw [atKey_put_same h1.isMap (isKey _ _), has_put_same h1.isMap (isKey _ _)]
    simp
  · rw [atKey_put_other (kS_ne hp' hv' hp hv e), has_put_other (kS_ne hp' hv' hp hv e), (h2 p' v' hp' hv').1, (h2 p' v' hp' hv').2]
    have : (p' == p && v' == v) = false := by
      rw [Bool.and_eq_false_iff]
      by_cases e1 : p' = p
      · right; simp only [beq_eq_false_iff_ne]; exact fun e2 => e ⟨e1, e2⟩
      · left; simpa using e1
    refine ⟨?_, ?_⟩
    · show d p' v' = (d p' v' || (p' == p && v' == v))
      rw [this, Bool.or_false]
    · show _ = DataW.lit (Lit.int .i64 (if p' = p ∧ v' = v then x else g p' v'))
      rw [if_neg e]
end
end Go.Proofs.Ytajllhjoagldkaa
