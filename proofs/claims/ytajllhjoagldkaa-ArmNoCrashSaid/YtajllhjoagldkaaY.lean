/- Stage 6: whether a state is in a list; one step. -/
import Derived.Test.YtajllhjoagldkaaW
set_option linter.unusedSimpArgs false
set_option linter.unusedVariables false
namespace Go.Proofs.Ytajllhjoagldkaa
open Go.RowKit Go.Maps Go.WideMaps

theorem eq_sp (x y a b : Int) (w : World) : (binOp .eql 25 (.agg #[.int .i64 x, .int .i64 y]) (.agg #[.int .i64 a, .int .i64 b])).run Try.prog w = .ok (.bool (decide (x = a ∧ y = b))) w := by
  by_cases h1 : x = a <;> by_cases h2 : y = b <;> simp [go_sem, h1, h2]
set_option maxRecDepth 100000 in
set_option maxHeartbeats 4000000 in
theorem c19 (A : Option Addr) (b c : Nat) (L : List (Int × Int)) (p v : Int) (w : World) (hL : Sps w A b 0 L) (hn : L.length ≤ 1000) : Calls Try.prog 19 #[.slice A L.length c, .agg #[.int .i64 p, .int .i64 v]] w (Bool1 (decide ((p, v) ∈ L)) w) := by
  obtain ⟨W0, hW0⟩ : ∃ W0 : World, W0 = w.alloc (.cells #[.int .i64 p, .int .i64 v] 25) := ⟨_, rfl⟩
  have hB0 : Hid (Below w.heap.size w W0) := hid (by rw [hW0]; (repeat' (first | (with_reducible exact Below.refl _ _) | (with_reducible assumption) | (with_reducible refine Below.alloc ?_ ?_ _) | (with_reducible refine Below.drew ?_) | (with_reducible refine below_drewN ?_ _) | (with_reducible refine Below.setCell ?_ ?_ _) | (with_reducible refine Below.trans ?_ (Below.mono (by with_reducible assumption) ?_)) | go_size)))
  have hd0 : Hid (W0.heap[w.heap.size]? = some (.cells #[.int .i64 p, .int .i64 v] 25 (0, 0))) := hid (by rw [hW0]; exact heap_new _ _)
  have hLh := hid (hL.below hB0.out (Nat.le_refl _))
  have hs0 : W0.heap.size = w.heap.size + 1 := by rw [hW0]; simp
  clear hL
  go_enter Try.func19, Try.ntmps19
  go_wp2_with fail
  rw [← hW0]
  clear hW0
  go_loopw [5] (fun iv wr => ∃ k : Nat, k ≤ L.length ∧ iv = .int .i64 (k : Nat) ∧ Below W0.heap.size W0 wr ∧ Hid (∀ j (h : j < L.length), j < k → L[j] ≠ (p, v))) (fun iv _ => L.length - (intOf iv).toNat)
  case atStart => exact ⟨0, Nat.zero_le _, rfl, Below.refl _ _, hid fun j _ h => absurd h (Nat.not_lt_zero _)⟩
  case round =>
    obtain ⟨k, hk, rfl, hB, hall⟩ := hrel
    have hs := hB.size
    by_cases hlt : k < L.length
    · have hSp := hLh.out.below hB (Nat.le_refl _)
      obtain ⟨x, hx⟩ : ∃ x, x = L[k] := ⟨_, rfl⟩
      have g0 := hSp.c0 k hlt
      have g1 := hSp.c1 k hlt
      rw [Nat.zero_add] at g0 g1
      rw [← hx] at g0 g1
      have hix := @Sps.ix _ _ _ _ c _ hSp k hlt
      rw [Nat.zero_add] at hix
      have hd := (hB.block w.heap.size (by omega)).trans hd0.out
      have d0 : wr.cell? ⟨w.heap.size, 0, none⟩ = some (.int .i64 p) := (blk_cell hd).trans rfl
      have d1 : wr.cell? ⟨w.heap.size, 1, none⟩ = some (.int .i64 v) := (blk_cell hd).trans rfl
      have hS : Hid (∀ W : World, W.heap = wr.heap → (W.cell? ⟨b, k * 2, none⟩ = some (.int .i64 x.1) ∧ W.cell? ⟨b, k * 2 + 1, none⟩ = some (.int .i64 x.2)) ∧ W.cell? ⟨w.heap.size, 0, none⟩ = some (.int .i64 p) ∧ W.cell? ⟨w.heap.size, 1, none⟩ = some (.int .i64 v)) := hid fun W hW => by
        have key : ∀ a, W.cell? a = wr.cell? a := fun a => by unfold World.cell?; rw [hW]
        rw [key, key, key, key]
        exact ⟨⟨g0, g1⟩, d0, d1⟩
      have hk0 := hid (hS.out wr.drew rfl)
      have hxh := hid hx; have hBh := hid hB
      clear hSp hd hx hB hS
      by_cases he : x.1 = p ∧ x.2 = v
      · have hbe := fun W => eq_sp x.1 x.2 p v W
        rw [decide_eq_true he] at hbe
        have heh := hid he
        clear he
        go_wp2_with fail
        go_region_held3 (fun w' => (w'.cell? ⟨b, k * 2, none⟩ = some (.int .i64 x.1) ∧ w'.cell? ⟨b, k * 2 + 1, none⟩ = some (.int .i64 x.2)) ∧ w'.cell? ⟨w.heap.size, 0, none⟩ = some (.int .i64 p) ∧ w'.cell? ⟨w.heap.size, 1, none⟩ = some (.int .i64 v)) (first | exact hk0.out) (fail)
        go_wp2_with fail
        go_returns
        refine ⟨?_, hB0.out.trans ((hBh.out.drew).mono (by omega))⟩
        have hm : (p, v) ∈ L := by
          rw [show (p, v) = x from by rw [← heh.out.1, ← heh.out.2], hxh.out]
          exact List.getElem_mem hlt
        rw [decide_eq_true hm]
        rfl
      · have hbe := fun W => eq_sp x.1 x.2 p v W
        rw [decide_eq_false he] at hbe
        have heh := hid he
        clear he
        go_wp2_with fail
        go_region_held3 (fun w' => (w'.cell? ⟨b, k * 2, none⟩ = some (.int .i64 x.1) ∧ w'.cell? ⟨b, k * 2 + 1, none⟩ = some (.int .i64 x.2)) ∧ w'.cell? ⟨w.heap.size, 0, none⟩ = some (.int .i64 p) ∧ w'.cell? ⟨w.heap.size, 1, none⟩ = some (.int .i64 v)) (first | exact hk0.out) (fail)
        go_wp2_with fail
        go_roundw
        case rel =>
          refine ⟨k + 1, by omega, by go_num, hBh.out.drew, hid fun j hj hjk => ?_⟩
          by_cases e : j = k
          · subst e
            intro e2
            rw [← hxh.out] at e2
            exact heh.out ⟨by rw [e2], by rw [e2]⟩
          · exact hall.out j hj (by omega)
        case measure => simp [intOf]; omega
    · have hke : k = L.length := by omega
      clear hLh
      go_wp2_with fail
      go_returns
      refine ⟨?_, hB0.out.trans (hB.mono (by omega))⟩
      have hnm : ¬ (p, v) ∈ L := fun hm => by
        obtain ⟨j, hj, e⟩ := List.mem_iff_getElem.1 hm
        exact hall.out j hj (by omega) e
      rw [decide_eq_false hnm]
      rfl
theorem VSt_st {a : Ar} {p v : Int} : VSt (a.la : Nat) (a.sp : Nat) p v ↔ stB a p v = true := by rw [stB_iff]; exact Iff.rfl
theorem c18 (a : Ar) (p v : Int) (w : World) (ok : a.Ok) : Calls Try.prog 18 #[a.v, .agg #[.int .i64 p, .int .i64 v]] w (Bool1 (stB a p v) w) := by
  have o := ok.p
  cases h : stB a p v with
  | true => exact c18y _ _ _ _ _ _ p v w (VSt_st.2 h) (by omega)
  | false => exact c18n _ _ _ _ _ _ p v w (fun e => by rw [VSt_st, h] at e; cases e) (by omega)
set_option maxRecDepth 100000 in
set_option maxHeartbeats 4000000 in
theorem c20 (a : Ar) (p v c s : Int) (w : World) (ok : a.Ok) (hp : -100 ≤ p ∧ p ≤ 100) (hv : -100 ≤ v ∧ v ≤ 100) (hc : -100 ≤ c ∧ c ≤ 100) (hs : -100 ≤ s ∧ s ≤ 100) :
    Calls Try.prog 20 #[a.v, .agg #[.int .i64 p, .int .i64 v], .int .i64 c, .int .i64 s] w fun e w' => e = .returned (.tuple #[.agg #[.int .i64 (p + (v + c + s)), .int .i64 (v + c + s)], .bool (stB a (p + (v + c + s)) (v + c + s))]) ∧ Below w.heap.size w w' := by
  obtain ⟨q, hq⟩ : ∃ q, q = p + (v + c + s) := ⟨_, rfl⟩
  obtain ⟨u, hu⟩ : ∃ u, u = v + c + s := ⟨_, rfl⟩
  rw [← hq, ← hu]
  obtain ⟨W0, hW0⟩ : ∃ W0 : World, W0 = (((w.alloc (.cells #[.int .i64 (a.la : Nat), .int .i64 (a.sp : Nat), .int .i64 (a.fo : Nat), .int .i64 (a.sh : Nat), .int .i64 (a.ga : Nat), .int .i64 (a.sl : Nat)] 23)).alloc (.cells #[.int .i64 p, .int .i64 v] 25)).alloc (.cells #[.int .i64 0, .int .i64 0] 25)).alloc (.cells #[.int .i64 (p + (v + c + s)), .int .i64 (v + c + s)] 25) := ⟨_, rfl⟩
  have hB0 : Hid (Below w.heap.size w W0) := hid (by rw [hW0]; (repeat' (first | (with_reducible exact Below.refl _ _) | (with_reducible assumption) | (with_reducible refine Below.alloc ?_ ?_ _) | (with_reducible refine Below.drew ?_) | (with_reducible refine below_drewN ?_ _) | (with_reducible refine Below.setCell ?_ ?_ _) | (with_reducible refine Below.trans ?_ (Below.mono (by with_reducible assumption) ?_)) | go_size)))
  have hs0 : W0.heap.size = w.heap.size + 4 := by rw [hW0]; simp
  have hX0 : Hid (Abx a W0 w.heap.size) := hid (by rw [hW0]; exact (Abx.new a w).below (B := w.heap.size + 1) (Below.alloc (Below.alloc (Below.alloc (Below.refl _ _) (by simp) _) (by simp) _) (by simp) _) (by omega))
  have hr0 : Hid (W0.heap[w.heap.size + 1 + 1]? = some (.cells #[.int .i64 0, .int .i64 0] 25 (0, 0))) := hid (by
    have := heap_new ((w.alloc (.cells #[.int .i64 (a.la : Nat), .int .i64 (a.sp : Nat), .int .i64 (a.fo : Nat), .int .i64 (a.sh : Nat), .int .i64 (a.ga : Nat), .int .i64 (a.sl : Nat)] 23)).alloc (.cells #[.int .i64 p, .int .i64 v] 25)) (.cells #[.int .i64 0, .int .i64 0] 25)
    simp only [World.size_alloc] at this
    rw [hW0]; exact (Below.heap_alloc _ _ _ (by simp)).trans this)
  have hd0 : Hid (W0.heap[w.heap.size + 1 + 1 + 1]? = some (.cells #[.int .i64 q, .int .i64 u] 25 (0, 0))) := hid (by
    have := heap_new (((w.alloc (.cells #[.int .i64 (a.la : Nat), .int .i64 (a.sp : Nat), .int .i64 (a.fo : Nat), .int .i64 (a.sh : Nat), .int .i64 (a.ga : Nat), .int .i64 (a.sl : Nat)] 23)).alloc (.cells #[.int .i64 p, .int .i64 v] 25)).alloc (.cells #[.int .i64 0, .int .i64 0] 25)) (.cells #[.int .i64 (p + (v + c + s)), .int .i64 (v + c + s)] 25)
    simp only [World.size_alloc] at this
    rw [hW0, hq, hu]; exact this)
  have hqh := hid hq; have huh := hid hu
  clear hq hu
  go_enter Try.func20, Try.ntmps20
  go_wp2_with fail
  rw [← hW0]
  rw [← hqh.out, ← huh.out]
  have hs20 : Hid (∀ W : World, Abx a W w.heap.size → W.heap[w.heap.size + 1 + 1 + 1]? = some (.cells #[.int .i64 q, .int .i64 u] 25 (0, 0)) → (W.cell? ⟨w.heap.size, 0, none⟩ = some (.int .i64 (a.la : Nat)) ∧ W.cell? ⟨w.heap.size, 1, none⟩ = some (.int .i64 (a.sp : Nat)) ∧ W.cell? ⟨w.heap.size, 2, none⟩ = some (.int .i64 (a.fo : Nat)) ∧ W.cell? ⟨w.heap.size, 3, none⟩ = some (.int .i64 (a.sh : Nat)) ∧ W.cell? ⟨w.heap.size, 4, none⟩ = some (.int .i64 (a.ga : Nat)) ∧ W.cell? ⟨w.heap.size, 5, none⟩ = some (.int .i64 (a.sl : Nat))) ∧ W.cell? ⟨w.heap.size + 1 + 1 + 1, 0, none⟩ = some (.int .i64 q) ∧ W.cell? ⟨w.heap.size + 1 + 1 + 1, 1, none⟩ = some (.int .i64 u)) := hid fun W h1 h2 => ⟨h1.all, (blk_cell h2).trans rfl, (blk_cell h2).trans rfl⟩
  have hk0 := hid (hs20.out W0.drew hX0.out hd0.out)
  clear hW0
  go_region_held3 (fun w' => (w'.cell? ⟨w.heap.size, 0, none⟩ = some (.int .i64 (a.la : Nat)) ∧ w'.cell? ⟨w.heap.size, 1, none⟩ = some (.int .i64 (a.sp : Nat)) ∧ w'.cell? ⟨w.heap.size, 2, none⟩ = some (.int .i64 (a.fo : Nat)) ∧ w'.cell? ⟨w.heap.size, 3, none⟩ = some (.int .i64 (a.sh : Nat)) ∧ w'.cell? ⟨w.heap.size, 4, none⟩ = some (.int .i64 (a.ga : Nat)) ∧ w'.cell? ⟨w.heap.size, 5, none⟩ = some (.int .i64 (a.sl : Nat))) ∧ w'.cell? ⟨w.heap.size + 1 + 1 + 1, 0, none⟩ = some (.int .i64 q) ∧ w'.cell? ⟨w.heap.size + 1 + 1 + 1, 1, none⟩ = some (.int .i64 u)) (first | exact hk0.out | exact hk3.out | exact hk5.out) (first | (go_at_call 18; refine (c18 a q u _ ok).mono ?_; rintro e w3 ⟨rfl, hB3⟩; have hb3 : Below W0.heap.size W0 w3 := (Below.refl _ _).drew.trans hB3; have hx3 := hid (hX0.out.below hb3 (by omega)); have hd3 := hid ((hb3.block (w.heap.size + 1 + 1 + 1) (by omega)).trans hd0.out); have hr3 := hid ((hb3.block (w.heap.size + 1 + 1) (by omega)).trans hr0.out); have hk3 := hid (hs20.out _ hx3.out hd3.out); have z0 : w3.cell? ⟨w.heap.size + 1 + 1, 0, none⟩ = some (.int .i64 0) := (blk_cell hr3.out).trans rfl; have z1 : w3.cell? ⟨w.heap.size + 1 + 1, 1, none⟩ = some (.int .i64 0) := (blk_cell hr3.out).trans rfl; have y0 : w3.frozen? ⟨w.heap.size + 1 + 1, 0, none⟩ = false := blk_frozen hr3.out; have y1 : w3.frozen? ⟨w.heap.size + 1 + 1, 1, none⟩ = false := blk_frozen hr3.out; have hk5 := hid (hs20.out ((w3.setCell ⟨w.heap.size + 1 + 1, 0, none⟩ (.int .i64 q)).setCell ⟨w.heap.size + 1 + 1, 1, none⟩ (.int .i64 u)) (hx3.out.keep fun o => World.cell?_of_block (w := w3) ((Below.heap_setCell _ _ _ _ (by show ¬ w.heap.size = w.heap.size + 1 + 1; omega)).trans (Below.heap_setCell _ _ _ _ (by show ¬ w.heap.size = w.heap.size + 1 + 1; omega)))) (((Below.heap_setCell _ _ _ _ (by show ¬ w.heap.size + 1 + 1 + 1 = w.heap.size + 1 + 1; omega)).trans (Below.heap_setCell _ _ _ _ (by show ¬ w.heap.size + 1 + 1 + 1 = w.heap.size + 1 + 1; omega))).trans hd3.out))))
  have hz5 : w.heap.size + 1 + 1 < w3.heap.size := by have := hb3.size; omega
  go_wp2_with fail
  refine bodyPost_ret (v := .tuple #[.agg #[.int .i64 q, .int .i64 u], .bool (stB a q u)]) (by simp [results, Try.results20, go_sem, hz5, z0, z1]) rfl ⟨rfl, ?_⟩
  have hbz := hB0.out.trans (hb3.mono (by omega))
  exact (hbz.setCell (by show w.heap.size ≤ w.heap.size + 1 + 1; omega) _).setCell (by show w.heap.size ≤ w.heap.size + 1 + 1; omega) _
end Go.Proofs.Ytajllhjoagldkaa
