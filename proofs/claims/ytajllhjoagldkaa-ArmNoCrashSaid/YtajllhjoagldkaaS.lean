/- Stage 6: Steps. -/
import Derived.Test.YtajllhjoagldkaaP
import Derived.Test.YtajllhjoagldkaaR
set_option linter.unusedSimpArgs false
set_option linter.unusedVariables false
namespace Go.Proofs.Ytajllhjoagldkaa
open Go.RowKit Go.Maps Go.WideMaps

/-- The state is lost. -/
def Lost (a : Ar) (f0 : Int → Int → Bool) (p v : Int) : Prop := ∀ n, lvl a f0 n p v = false
/-- n is the least number of steps of the state. -/
def IsN (a : Ar) (f0 : Int → Int → Bool) (p v : Int) (n : Nat) : Prop := lvl a f0 n p v = true ∧ ∀ m, lvl a f0 m p v = true → n ≤ m
theorem near_lvl {a : Ar} {f0 : Int → Int → Bool} {L : List (Int × Int)} {lv : Int → Int → Nat} {t : Int} (h : Bfs a f0 L lv L.length t) (M : Nat) : nrB (dL L) (gL L lv) (M : Int) = lvl a f0 M := by
  funext p v
  unfold nrB dL gL
  by_cases hm : (p, v) ∈ L
  · rw [decide_eq_true hm, if_pos hm, Bool.true_and]
    cases e : lvl a f0 M p v with
    | true =>
      have := (h.done M p v e).2
      exact decide_eq_true (by omega)
    | false =>
      refine decide_eq_false fun hle => ?_
      have := lvl_mono (show lv p v ≤ M by omega) (h.sd p v hm)
      rw [e] at this
      cases this
  · rw [decide_eq_false hm, Bool.false_and]
    cases e : lvl a f0 M p v with
    | true => exact absurd (h.done M p v e).1 hm
    | false => rfl
theorem Bfs.isN {a : Ar} {f0 : Int → Int → Bool} {L : List (Int × Int)} {lv : Int → Int → Nat} {t : Int} (h : Bfs a f0 L lv L.length t) {p v : Int} (hm : (p, v) ∈ L) : IsN a f0 p v (lv p v) := ⟨h.sd p v hm, fun m hm2 => (h.done m p v hm2).2⟩
theorem Bfs.lost {a : Ar} {f0 : Int → Int → Bool} {L : List (Int × Int)} {lv : Int → Int → Nat} {t : Int} (h : Bfs a f0 L lv L.length t) {p v : Int} (hm : (p, v) ∉ L) : Lost a f0 p v := fun n => by
  cases e : lvl a f0 n p v with
  | true => exact absurd (h.done n p v e).1 hm
  | false => rfl
theorem lv_bound {a : Ar} {f0 : Int → Int → Bool} {L : List (Int × Int)} {lv : Int → Int → Nat} {i : Nat} {t : Int} (h : Bfs a f0 L lv i t) (ok : a.Ok) (hl : ∀ k (h : k < L.length), lv L[k].1 L[k].2 ≤ k) {p v : Int} (hm : (p, v) ∈ L) : lv p v ≤ 697 := by
  obtain ⟨k, hk, e⟩ := List.mem_iff_getElem.1 hm
  have h1 := hl k hk
  rw [e] at h1
  have := h.len ok
  have h2 : lv p v ≤ k := h1
  omega
/-- What Steps hands back. -/
def RetS (a : Ar) (t : Nat) (p v : Int) (w : World) (e : Ending) (w' : World) : Prop := ∃ f0, Gr a (trB a t) f0 ∧ ((Lost a f0 p v ∧ e = .returned (.tuple #[.int .i64 0, .int .i64 0, .int .i64 3])) ∨ ∃ n : Nat, n ≤ 697 ∧ IsN a f0 p v n ∧ e = .returned (.tuple #[.int .i64 (n : Nat), .int .i64 ((low a (lvl a f0 (n - 1)) p v).getD 0), .int .i64 0])) ∧ Below w.heap.size w w'
theorem sps_one (w : World) (p v : Int) (b : Nat) (h : w.heap[b]? = some (.cells #[.int .i64 p, .int .i64 v] 25 (0, 0))) : Sps w (some ⟨b, 0, none⟩) b 0 [(p, v)] :=
  ⟨fun _ _ => rfl, fun _ _ => blk_lt h, fun k hk => by
    obtain rfl : k = 0 := by simp at hk; omega
    exact (blk_cell h).trans rfl, fun k hk => by
    obtain rfl : k = 0 := by simp at hk; omega
    exact (blk_cell h).trans rfl⟩
theorem c43one (a : Ar) (t : Nat) (b : Nat) (p v : Int) (w : World) (ok : a.Ok) (ht : t ≤ a.la) (h : w.heap[b]? = some (.cells #[.int .i64 p, .int .i64 v] 25 (0, 0))) (hst : stB a p v = true) :
    Calls Try.prog 43 #[a.v, .int .i64 (t : Nat), .slice (some ⟨b, 0, none⟩) 1 1] w fun e w' => e = .returned (.tuple #[a.v, .int .i64 0]) ∧ Below w.heap.size w w' :=
  c43 a t (some ⟨b, 0, none⟩) b 0 1 [(p, v)] w ok ht (sps_one w p v b h) (fun k h => by
    obtain rfl : k = 0 := by simp at h; omega
    exact hst) (by simp)
theorem asks {w : World} {b n : Nat} {L : List (Int × Int)} {lv : Int → Int → Nat} {p v : Int} (h : MapI w b n (dL L) (gL L lv)) (hp : Sm p) (hv : Sm v) (o : Obj) :
    ((p, v) ∈ L ∧ (Instr.lookup 84 (.map (some b)) (.agg #[.int .i64 p, .int .i64 v]) true).run Try.prog (w.alloc o) = .ok (.tuple #[.int .i64 (lv p v : Nat), .bool true]) (w.alloc o)) ∨
    ((p, v) ∉ L ∧ (Instr.lookup 84 (.map (some b)) (.agg #[.int .i64 p, .int .i64 v]) true).run Try.prog (w.alloc o) = .ok (.tuple #[.int .i64 0, .bool false]) (w.alloc o)) := by
  have h1 := (h.alloc o).ask hp hv
  unfold dL gL at h1
  by_cases hm : (p, v) ∈ L
  · rw [if_pos hm, decide_eq_true hm] at h1; exact .inl ⟨hm, h1⟩
  · rw [if_neg hm, decide_eq_false hm] at h1; exact .inr ⟨hm, h1⟩
set_option maxRecDepth 100000 in
set_option maxHeartbeats 8000000 in
theorem c16 (a : Ar) (t : Nat) (p v : Int) (w : World) (ok : a.Ok) (ht : t ≤ a.la) (hst : stB a p v = true) : Calls Try.prog 16 #[a.v, .int .i64 (t : Nat), .agg #[.int .i64 p, .int .i64 v]] w (RetS a t p v w) := by
  have o1 := ok.l; have o2 := ok.p
  have hps := stB_iff.1 hst
  have hsm : Sm p ∧ Sm v := ⟨⟨by omega, by omega⟩, ⟨by omega, by omega⟩⟩
  obtain ⟨W0, hW0⟩ : ∃ W0 : World, W0 = ((w.alloc (.cells #[.int .i64 (a.la : Nat), .int .i64 (a.sp : Nat), .int .i64 (a.fo : Nat), .int .i64 (a.sh : Nat), .int .i64 (a.ga : Nat), .int .i64 (a.sl : Nat)] 23)).alloc (.cells #[.int .i64 p, .int .i64 v] 25)).alloc (.cells #[.int .i64 p, .int .i64 v] 25) := ⟨_, rfl⟩
  have hB0 : Hid (Below w.heap.size w W0) := hid (by rw [hW0]; (repeat' (first | (with_reducible exact Below.refl _ _) | (with_reducible assumption) | (with_reducible refine Below.alloc ?_ ?_ _) | (with_reducible refine Below.drew ?_) | (with_reducible refine below_drewN ?_ _) | (with_reducible refine Below.setCell ?_ ?_ _) | (with_reducible refine Below.trans ?_ (Below.mono (by with_reducible assumption) ?_)) | go_size)))
  have hs0 : Hid (W0.heap.size = w.heap.size + 3) := hid (by rw [hW0]; simp)
  have hd0 : Hid (W0.heap[w.heap.size + 1]? = some (.cells #[.int .i64 p, .int .i64 v] 25 (0, 0))) := hid (by
    have := heap_new (w.alloc (.cells #[.int .i64 (a.la : Nat), .int .i64 (a.sp : Nat), .int .i64 (a.fo : Nat), .int .i64 (a.sh : Nat), .int .i64 (a.ga : Nat), .int .i64 (a.sl : Nat)] 23)) (.cells #[.int .i64 p, .int .i64 v] 25)
    rw [World.size_alloc] at this
    rw [hW0]; exact (Below.heap_alloc _ _ _ (by simp)).trans this)
  have hd2 : Hid (W0.heap[w.heap.size + 1 + 1]? = some (.cells #[.int .i64 p, .int .i64 v] 25 (0, 0))) := hid (by
    have := heap_new ((w.alloc (.cells #[.int .i64 (a.la : Nat), .int .i64 (a.sp : Nat), .int .i64 (a.fo : Nat), .int .i64 (a.sh : Nat), .int .i64 (a.ga : Nat), .int .i64 (a.sl : Nat)] 23)).alloc (.cells #[.int .i64 p, .int .i64 v] 25)) (.cells #[.int .i64 p, .int .i64 v] 25)
    simp only [World.size_alloc] at this
    rw [hW0]; exact this)
  have hd2' := hid hd2.out
  rw [hW0] at hd2'
  have hsth := hid hst
  clear hst
  go_enter Try.func16, Try.ntmps16
  go_wp2_with (first | (go_at_call 43; refine (c43one a t (w.heap.size + 1 + 1) p v _ ok ht hd2'.out hsth.out).mono ?_; rintro e w1 ⟨rfl, hB1⟩; rw [← hW0] at hB1; have hs1 := hB1.size; rw [hs0.out] at hs1; have hBx := hid (hB0.out.trans (hB1.mono (by rw [hs0.out]; omega))); have hdx := hid ((hB1.block (w.heap.size + 1) (by rw [hs0.out]; omega)).trans hd0.out); obtain ⟨u0, u1, u2, u3, u4, u5⟩ := (Abx.newk a w1).all; clear hB1) | (go_at_call 46; refine (c46 a t _ ok (by omega)).mono ?_; rintro e w2 ⟨b, n, f0, L, lv, rfl, hG, ⟨t9, hBf⟩, hlb, hm, hb, hB2⟩; rw [World.size_alloc] at hb; have hs2 := hB2.size; rw [World.size_alloc] at hs2; have hmh := hid hm; have hGh := hid hG; have hBfh := hid hBf; have hlbh := hid hlb; have hB2h := hid ((hBx.out.alloc (by omega) (.cells #[.int .i64 (a.la : Nat), .int .i64 (a.sp : Nat), .int .i64 (a.fo : Nat), .int .i64 (a.sh : Nat), .int .i64 (a.ga : Nat), .int .i64 (a.sl : Nat)] 77)).trans (hB2.mono (by rw [World.size_alloc]; omega))); have hdy : w2.heap[w.heap.size + 1]? = some (.cells #[.int .i64 p, .int .i64 v] 25 (0, 0)) := (hB2.block (w.heap.size + 1) (by rw [World.size_alloc]; omega)).trans ((Below.heap_alloc w1 (.cells #[.int .i64 (a.la : Nat), .int .i64 (a.sp : Nat), .int .i64 (a.fo : Nat), .int .i64 (a.sh : Nat), .int .i64 (a.ga : Nat), .int .i64 (a.sl : Nat)] 77) (w.heap.size + 1) (by omega)).trans hdx.out); have e0 : w2.cell? ⟨w.heap.size + 1, 0, none⟩ = some (.int .i64 p) := (blk_cell hdy).trans rfl; have e1 : w2.cell? ⟨w.heap.size + 1, 1, none⟩ = some (.int .i64 v) := (blk_cell hdy).trans rfl; have hz2 : w.heap.size + 1 < w2.heap.size := (by omega); rcases asks hm hsm.1 hsm.2 (.cells #[.int .i64 (a.la : Nat), .int .i64 (a.sp : Nat), .int .i64 (a.fo : Nat), .int .i64 (a.sh : Nat), .int .i64 (a.ga : Nat), .int .i64 (a.sl : Nat), .map (some b)] 86) with ⟨hin, hask⟩ | ⟨hin, hask⟩ <;> (have hinh := hid hin; clear hin hm hG hBf hlb hB2 hdy u0 u1 u2 u3 u4 u5)) | (go_at_call 47; refine (c47 a b n (dL L) (gL L lv) p v _ ok (hmh.out.alloc _) (by omega) (by omega) (lv p v) (by unfold gL; rw [if_pos hinh.out]) (by have := lv_bound hBfh.out ok hlbh.out hinh.out; omega)).mono ?_; rintro e w5 ⟨rfl, hB5⟩))
  · go_returns
    refine ⟨f0, hGh.out, .inr ⟨lv p v, lv_bound hBfh.out ok hlbh.out hinh.out, hBfh.out.isN hinh.out, ?_⟩, ?_⟩
    · rw [near_lvl hBfh.out]; rfl
    · have := hB2h.out
      exact this.trans ((((Below.refl _ _).alloc (Nat.le_refl _) _).trans (hB5.mono (by simp))).mono this.size)
  · go_returns
    exact ⟨f0, hGh.out, .inl ⟨hBfh.out.lost hinh.out, rfl⟩, hB2h.out.alloc hB2h.out.size _⟩
end Go.Proofs.Ytajllhjoagldkaa
