/- Stage 5: positions that are struck from a list. -/
import Derived.Test.YtnndhibhnakdoaaDoorG
set_option linter.unusedSimpArgs false
set_option linter.unusedVariables false
namespace Go.Proofs.YtnndhibhnakdoaaDoor
open Go.RowKit Go.BigFrame Go.Sort
open Gf (S)

/-- A list as a row. -/
def at_ (L : List Nat) (t : Nat) : Nat := L[t]!
theorem li_at (L : List Nat) : li (at_ L) L.length = L := by
  unfold li at_
  apply List.ext_getElem
  · simp
  · intro i h1 h2
    simp [h2]
/-- The positions of the first j but one. -/
def kp (p : Nat → Nat) (q j : Nat) : List Nat := (li p j).filter (fun o => !decide (o = q))
theorem kp_le (p : Nat → Nat) (q j : Nat) : (kp p q j).length ≤ j := by
  have := List.length_filter_le (fun o => !decide (o = q)) (li p j)
  rw [li_len] at this
  exact this
theorem kp_lt {p : Nat → Nat} {q j k : Nat} (hk : k < j) (e : p k = q) : (kp p q j).length < j := by
  refine Nat.lt_of_le_of_ne (kp_le p q j) fun h => ?_
  have h2 : (kp p q j).length = (li p j).length := by rw [li_len]; exact h
  have := List.length_filter_eq_length_iff.1 h2 (p k) (li_mem.2 ⟨k, hk, rfl⟩)
  simp [e] at this
theorem kp_step (p : Nat → Nat) (q j : Nat) (h : ¬ p j = q) : kp p q (j + 1) = kp p q j ++ [p j] := by
  unfold kp
  rw [li_succ, List.filter_append, List.filter_cons, if_pos (by simpa using h)]
  rfl
theorem kp_skip (p : Nat → Nat) (q j : Nat) (h : p j = q) : kp p q (j + 1) = kp p q j := by
  unfold kp
  rw [li_succ, List.filter_append, List.filter_cons, if_neg (by simpa using h)]
  simp
theorem kp_all {p : Nat → Nat} {q j : Nat} (h : ∀ k, k < j → ¬ p k = q) : kp p q j = li p j := List.filter_eq_self.2 fun a ha => by
  obtain ⟨k, hk, rfl⟩ := li_mem.1 ha
  simpa using h k hk
theorem at_app (L : List Nat) (x : Nat) {t : Nat} (h : t < L.length) : at_ (L ++ [x]) t = at_ L t := by
  unfold at_
  have h2 : t < (L ++ [x]).length := by simp; omega
  rw [getElem!_pos L t h, getElem!_pos (L ++ [x]) t h2, List.getElem_append_left h]
theorem at_last (L : List Nat) (x : Nat) : at_ (L ++ [x]) L.length = x := by
  unfold at_
  simp
theorem at_li {p : Nat → Nat} {k t : Nat} (h : t < k) : at_ (li p k) t = p t := by
  unfold at_
  have h2 : t < (li p k).length := by rw [li_len]; exact h
  rw [getElem!_pos (li p k) t h2]
  simp [li]
theorem z3 : ∀ w : World, (zeroValue 3).run Tryd.prog w = .ok (.int .i64 0) w := by intro w; kernel_rfl
set_option maxRecDepth 100000 in
set_option maxHeartbeats 4000000 in
theorem c102 (g m c q B : Nat) (p : Nat → Nat) (w : World) (hR : RowF w g m (fun k => (p k : Nat))) (hm : m ≤ 1000) (hc : m ≤ c) (hq : w.cell? ⟨B, 0, none⟩ = some (.int .i64 (q : Nat))) (hB : B < g) (hex : ∃ k, k < m ∧ p k = q) :
    Calls Tryd.prog 102 #[.slice (some ⟨g, 0, none⟩) m c, .func (.func 104) #[] #[.pointer (some ⟨B, 0, none⟩)]] w fun e w' => e = .returned (.slice (some ⟨g, 0, none⟩) (kp p q m).length c) ∧ RowF w' g (kp p q m).length (fun t => (at_ (kp p q m) t : Nat)) ∧ Below g w w' := by
  have hRh := hid hR
  have hqh := hid hq
  have hexh := hid hex
  have hlen : Hid ((kp p q m).length < m) := hid (by obtain ⟨k, hk, e⟩ := hex; exact kp_lt hk e)
  clear hR hex
  go_enter Tryd.func102, Tryd.ntmps102
  go_wp2_with (go_at_call 100; refine (c100_104 _ g 0 m c (q : Nat) B _ _ hRh.out.ints (by omega) hq).mono ?_; rintro e w' (⟨h1, rfl, rfl⟩ | ⟨k0, hk0, h1, h2, rfl, rfl⟩))
  · exfalso
    obtain ⟨k, hk, e⟩ := hexh.out
    exact h1 k hk (by rw [e])
  · replace h1 := hid (show p k0 = q by have := Classical.not_not.1 h1; omega)
    replace h2 := hid (show ∀ j, j < k0 → ¬ p j = q from fun j hj e => h2 j hj (by rw [e]))
    have hk0i : ((k0 : Int) == -1) = false := by simp
    go_wp2_with fail
    rw [hk0i]
    go_loopw [5, 6] (fun iv jv wr => ∃ j : Nat, j ≤ m ∧ k0 < j ∧ jv = .int .i64 j ∧ iv = .int .i64 ((kp p q j).length : Nat) ∧ (∃ F : Nat → Int, RowF wr g m F ∧ (∀ t, t < (kp p q j).length → F t = (at_ (kp p q j) t : Nat)) ∧ (∀ t, j ≤ t → t < m → F t = (p t : Nat))) ∧ Below g w wr) (fun _ jv _ => m - (intOf jv).toNat)
    case atStart =>
      have e1 : kp p q (k0 + 1) = li p k0 := by rw [kp_skip _ _ _ h1.out, kp_all h2.out]
      refine ⟨k0 + 1, by omega, by omega, by go_num, (by rw [e1, li_len]), ⟨_, hRh.out, fun t ht => ?_, fun t _ _ => rfl⟩, Below.refl _ _⟩
      rw [e1, li_len] at ht
      rw [e1, at_li ht]
    case round =>
      obtain ⟨j, hj, hkj, rfl, rfl, ⟨F, hR, hF1, hF2⟩, hBw⟩ := hrel
      have hij := kp_le p q j
      obtain ⟨i, hi⟩ : ∃ i, i = (kp p q j).length := ⟨_, rfl⟩
      rw [← hi] at hij ⊢
      have hih := hid hi
      clear hi
      have hF1h := hid hF1
      have hF2h := hid hF2
      have hBh := hid hBw
      clear hF1 hF2 hBw
      by_cases hlt : j < m
      · have a1 := hR.cell hlt
        rw [hF2h.out j (Nat.le_refl _) hlt] at a1
        have a2 := hR.cell (show i < m by omega)
        have a3 := hR.frozen i
        have b1 := @RowF.ix _ _ _ c _ hR _ hlt
        have b2 := @RowF.ix _ _ _ c _ hR i (by omega)
        have hq2 : wr.cell? ⟨B, 0, none⟩ = some (.int .i64 (q : Nat)) := (hBh.out.cell (p := ⟨B, 0, none⟩) hB).trans hqh.out
        have hRh2 := hid hR
        clear hR
        by_cases hpq : p j = q
        · have hph := hid hpq
          have hpi : Hid (((p j : Nat) : Int) = (q : Nat)) := hid (by rw [hpq])
          clear hpq
          go_wp2_with (go_at_call 104; refine (c104y _ hq2 hpi.out).mono ?_; rintro e w' ⟨rfl, rfl⟩)
          go_roundw
          case rel => exact ⟨j + 1, by omega, by omega, by go_num, by rw [kp_skip _ _ _ hph.out, hih.out], ⟨F, hRh2.out, by rw [kp_skip _ _ _ hph.out]; exact hF1h.out, fun t h1 h2 => hF2h.out t (by omega) h2⟩, hBh.out⟩
          case measure => simp [intOf]; omega
        · have hph := hid hpq
          have hpi : Hid (¬ ((p j : Nat) : Int) = (q : Nat)) := hid (by omega)
          clear hpq
          go_wp2_with (go_at_call 104; refine (c104n _ hq2 hpi.out).mono ?_; rintro e w' ⟨rfl, rfl⟩)
          go_roundw
          case rel =>
            refine ⟨j + 1, by omega, by omega, by go_num, ?_, ⟨_, hRh2.out.set i _, fun t ht => ?_, fun t h1 h2 => ?_⟩, hBh.out.setCell (Nat.le_refl _) _⟩
            · rw [kp_step _ _ _ hph.out, List.length_append, ← hih.out]
              go_num
            · rw [kp_step _ _ _ hph.out, List.length_append, ← hih.out] at ht
              rw [kp_step _ _ _ hph.out]
              by_cases e : t = i
              · subst e
                rw [if_pos rfl, hih.out, at_last]
              · rw [if_neg e, at_app _ _ (by rw [← hih.out]; simp at ht; omega)]
                exact hF1h.out t (by rw [← hih.out]; simp at ht; omega)
            · rw [if_neg (by omega)]
              exact hF2h.out t (by omega) h2
          case measure => simp [intOf]; omega
      · obtain rfl : j = m := by omega
        have him : i < j := by have := hlen.out; rw [hih.out]; exact this
        have hic : ¬ c = i := by omega
        have hcl : ∀ ty, (Builtin.clear_ #[24] ty #[.slice (some ⟨g, i, none⟩) (j - i) (c - i)]).run Tryd.prog wr = .ok (.tuple #[]) (wr.setCells g i (List.replicate (j - i) (.int .i64 0))) := fun ty =>
          Lib.run_clear_slice wr 24 3 ty (.int .i64 0) Tryd.underlying24 z3 rfl rfl g i (j - i) (c - i) (by omega) (fun t ht => by rw [hR.cell (show i + t < j by omega)]; rfl) (fun t ht => hR.frozen _)
        have hRh2 := hid hR
        clear hR
        go_wp2_with fail
        go_returns
        rw [← hih.out]
        refine ⟨rfl, ?_, below_setCells (Nat.le_refl _) _ _ _ hBh.out⟩
        obtain ⟨cc, F', r1, r2, r3⟩ := hRh2.out
        refine ⟨cc, _, rowIs_setCells _ _ _ _ r1, by omega, fun t ht => ?_⟩
        rw [if_neg (by omega), r3 t (by omega)]
        exact congrArg _ (hF1h.out t (by rw [← hih.out]; exact ht))
end Go.Proofs.YtnndhibhnakdoaaDoor
