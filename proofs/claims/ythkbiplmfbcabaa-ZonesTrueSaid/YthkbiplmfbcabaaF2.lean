/- Stage 1: the switches of a run of all sectors, in package zones. -/
import Derived.Test.YthkbiplmfbcabaaD2
set_option linter.unusedSimpArgs false
set_option linter.unusedVariables false
namespace Go.Proofs.Ythkbiplmfbcabaa
open Go.RowKit Go.Shelf Go.Sort

def swStep (size : Int) (r : Int × Int) (t : Tk) : Int × Int :=
  if t.fi + t.se < size then (if t.be = 0 then (r.1 + 1, r.2) else (r.1, r.2 + 1)) else r
def swOf (size : Int) (l : List Tk) : Int × Int := l.foldl (swStep size) (0, 0)
theorem swOf_snoc (size : Int) (l : List Tk) (t : Tk) : swOf size (l ++ [t]) = swStep size (swOf size l) t := by simp [swOf, List.foldl_append]
theorem swOf_bd (size : Int) (l : List Tk) : (0 ≤ (swOf size l).1 ∧ (swOf size l).1 ≤ l.length) ∧ (0 ≤ (swOf size l).2 ∧ (swOf size l).2 ≤ l.length) := by
  obtain ⟨m, hm⟩ : ∃ m, m = l.length := ⟨_, rfl⟩
  induction m generalizing l with
  | zero =>
    obtain rfl := List.length_eq_zero_iff.1 hm.symm
    simp [swOf]
  | succ m ih =>
    obtain ⟨l', t, rfl⟩ : ∃ l' t, l = l' ++ [t] := by
      have hne : l ≠ [] := by rintro rfl; simp at hm
      exact ⟨l.dropLast, l.getLast hne, (List.dropLast_concat_getLast hne).symm⟩
    have h1 := ih l' (by simpa using hm)
    rw [swOf_snoc, List.length_append, List.length_singleton]
    unfold swStep
    split
    · split <;> dsimp only <;> omega
    · omega

structure SwB (c : Ck) (w : World) (m : Nat) (a b : Int) (W : World) : Prop where
  bc : W.heap[w.heap.size]? = some (.cells c.cells 73 (0, 0))
  br : W.heap[w.heap.size + 1]? = some (.cells #[.int .i64 0, .int .i64 0] 93 (0, 0))
  bs : W.heap[w.heap.size + 2]? = some (.cells #[.int .i64 a, .int .i64 b] 93 (0, 0))
  bt : W.heap[m]? = some (.cells #[.int .i64 c.d.count] 3 (0, 0))
  bel : Below w.heap.size w W
theorem SwB.below {c : Ck} {w : World} {m : Nat} {a b : Int} {A B : World} {C : Nat} (h : SwB c w m a b A) (hb : Below C A B) (hm : w.heap.size + 3 ≤ m) (hC : m + 1 ≤ C) : SwB c w m a b B :=
  ⟨(hb.block _ (by omega)).trans h.bc, (hb.block _ (by omega)).trans h.br, (hb.block _ (by omega)).trans h.bs, (hb.block _ (by omega)).trans h.bt, h.bel.trans (hb.mono (by omega))⟩
theorem SwB.put0 {c : Ck} {w : World} {m : Nat} {a b : Int} {A : World} (h : SwB c w m a b A) (hm : w.heap.size + 3 ≤ m) (a' : Int) : SwB c w m a' b (A.setCell ⟨w.heap.size + 1 + 1, 0, none⟩ (.int .i64 a')) := by
  refine ⟨?_, ?_, ?_, ?_, ?_⟩
  · rw [Below.heap_setCell _ _ _ _ (by dsimp only; omega)]; exact h.bc
  · rw [Below.heap_setCell _ _ _ _ (by dsimp only; omega)]; exact h.br
  · exact heap_setCell_same (cs := #[.int .i64 a, .int .i64 b]) (e := 93) (f := (0, 0)) h.bs _
  · rw [Below.heap_setCell _ _ _ _ (by dsimp only; omega)]; exact h.bt
  · have := h.bel
    (repeat' (first | (with_reducible exact Below.refl _ _) | (with_reducible assumption) | (with_reducible refine Below.alloc ?_ ?_ _) | (with_reducible refine Below.drew ?_) | (with_reducible refine below_drewN ?_ _) | (with_reducible refine Below.setCell ?_ ?_ _) | (with_reducible refine Below.trans ?_ (Below.mono (by with_reducible assumption) ?_)) | go_size))
theorem SwB.put1 {c : Ck} {w : World} {m : Nat} {a b : Int} {A : World} (h : SwB c w m a b A) (hm : w.heap.size + 3 ≤ m) (b' : Int) : SwB c w m a b' (A.setCell ⟨w.heap.size + 1 + 1, 1, none⟩ (.int .i64 b')) := by
  refine ⟨?_, ?_, ?_, ?_, ?_⟩
  · rw [Below.heap_setCell _ _ _ _ (by dsimp only; omega)]; exact h.bc
  · rw [Below.heap_setCell _ _ _ _ (by dsimp only; omega)]; exact h.br
  · exact heap_setCell_same (cs := #[.int .i64 a, .int .i64 b]) (e := 93) (f := (0, 0)) h.bs _
  · rw [Below.heap_setCell _ _ _ _ (by dsimp only; omega)]; exact h.bt
  · have := h.bel
    (repeat' (first | (with_reducible exact Below.refl _ _) | (with_reducible assumption) | (with_reducible refine Below.alloc ?_ ?_ _) | (with_reducible refine Below.drew ?_) | (with_reducible refine below_drewN ?_ _) | (with_reducible refine Below.setCell ?_ ?_ _) | (with_reducible refine Below.trans ?_ (Below.mono (by with_reducible assumption) ?_)) | go_size))
def SwI (c : Ck) (w : World) (m : Nat) (s : List Tk) (W : World) : Prop := SwB c w m (swOf c.d.count s).1 (swOf c.d.count s).2 W

theorem leaves61 (tmps : Array Value) (w Wf : World) (a b : Int) (R : Ending → World → Prop) (h2 : tmps.getD 2 undef = .pointer (some ⟨w.heap.size + 1, 0, none⟩))
    (e1 : Wf.heap[w.heap.size + 1]? = some (.cells #[.int .i64 a, .int .i64 b] 93 (0, 0)))
    (hR : R (.returned (.agg #[.int .i64 a, .int .i64 b])) Wf) : LeavesInM Fence.wide 0 Try.prog Try.f61 tmps R [] .returning Wf := by
  have c1 := fun j => cell_at (j := j) e1
  refine ⟨_, ?_, hR⟩
  simp only [Array.getD_eq_getD_getElem?] at h2
  simp [results, Try.results61, go_sem, h2, c1]

attribute [local go_sem] Oper.semAt_some

set_option maxRecDepth 100000 in
set_option maxHeartbeats 1000000 in
theorem c61 (c : Ck) (cok : c.Ok) (w : World) (hz : Zs w c.d) :
    Calls Try.prog 61 #[c.v] w fun e w' => e = .returned (.agg #[.int .i64 (swOf c.d.count (tracksOf c)).1, .int .i64 (swOf c.d.count (tracksOf c)).2]) ∧ Below w.heap.size w w' := by
  have hlen := tracks_len c cok
  refine callsIn_wide.1 (callsIn_of_wp_marks (F := Fence.wide) (n := 0) Try.func61 rfl trivial ?_ rfl)
  simp only [Try.ntmps61, List.size_toArray, List.length_cons, List.length_nil, Nat.reduceAdd, Nat.reduceSub, Array.replicate_succ, Array.replicate_zero, List.push_toArray, List.append_toArray, List.nil_append, List.cons_append]
  gi_wp2_with (refine ⟨trivial, rfl, ?_⟩; gi_at_call 48; refine (callsIn_wide.2 (c48 c cok _ (by exact hz.below (by (repeat' (first | (with_reducible exact Below.refl _ _) | (with_reducible assumption) | (with_reducible refine Below.alloc ?_ ?_ _) | (with_reducible refine Below.drew ?_) | (with_reducible refine below_drewN ?_ _) | (with_reducible refine Below.setCell ?_ ?_ _) | (with_reducible refine Below.trans ?_ (Below.mono (by with_reducible assumption) ?_)) | go_size))) (Nat.le_refl _)))).mono ?_; rintro e w1 ⟨rfl, hB1⟩; have hz1 : w.heap.size + 2 < w1.heap.size := (by have := hB1.size; (try simp only [World.size_alloc] at this); omega); have hy1 : w.heap.size < w1.heap.size := (by omega); obtain ⟨hc1, hf1⟩ := bcell (hB1.mono (show w.heap.size + 3 ≤ _ by first | omega | (simp; done))))
  obtain ⟨W0, hW0⟩ : ∃ W0 : World, W0 = w1.alloc (.cells #[.int .i64 c.d.count] 3) := ⟨_, rfl⟩
  obtain ⟨m, hm⟩ : ∃ m, m = w1.heap.size := ⟨_, rfl⟩
  have hm3 : w.heap.size + 3 ≤ m := by omega
  have hs0 : W0.heap.size = m + 1 := by rw [hW0, hm]; simp
  have hb0 : Below w.heap.size w W0 := by rw [hW0]; (repeat' (first | (with_reducible exact Below.refl _ _) | (with_reducible assumption) | (with_reducible refine Below.alloc ?_ ?_ _) | (with_reducible refine Below.drew ?_) | (with_reducible refine below_drewN ?_ _) | (with_reducible refine Below.setCell ?_ ?_ _) | (with_reducible refine Below.trans ?_ (Below.mono (by with_reducible assumption) ?_)) | go_size))
  have hI0 : SwI c w m [] W0 := by
    rw [hW0]
    have hx : ∀ k, k < w.heap.size + 3 → (w1.alloc (.cells #[.int .i64 c.d.count] 3)).heap[k]? = (((w.alloc (.cells c.cells 73)).alloc (.cells #[.int .i64 0, .int .i64 0] 93)).alloc (.cells #[.int .i64 0, .int .i64 0] 93)).heap[k]? := fun k hk => (Below.heap_alloc _ _ _ (by omega)).trans (hB1.block k (by simp; omega))
    refine ⟨?_, ?_, ?_, ?_, by (repeat' (first | (with_reducible exact Below.refl _ _) | (with_reducible assumption) | (with_reducible refine Below.alloc ?_ ?_ _) | (with_reducible refine Below.drew ?_) | (with_reducible refine below_drewN ?_ _) | (with_reducible refine Below.setCell ?_ ?_ _) | (with_reducible refine Below.trans ?_ (Below.mono (by with_reducible assumption) ?_)) | go_size))⟩
    · rw [hx _ (by omega), Below.heap_alloc _ _ _ (by simp; omega), Below.heap_alloc _ _ _ (by simp)]; exact heap_new w (.cells c.cells 73)
    · rw [hx _ (by omega), Below.heap_alloc _ _ _ (by simp)]; have := heap_new (w.alloc (.cells c.cells 73)) (.cells #[.int .i64 0, .int .i64 0] 93); rwa [World.size_alloc] at this
    · rw [hx _ (by omega)]; have := heap_new ((w.alloc (.cells c.cells 73)).alloc (.cells #[.int .i64 0, .int .i64 0] 93)) (.cells #[.int .i64 0, .int .i64 0] 93); rwa [World.size_alloc, World.size_alloc] at this
    · rw [hm]; exact heap_new w1 _
  rw [← hW0]
  clear hW0 hc1 hf1
  refine rf_law (S := fun k => k = w.heap.size + 2) (xs := tracksOf c) (encs := fun t : Tk => #[t.v]) (gf := 49) (la := #[c.v]) (lb := #[]) rfl (enters_of Try.func49 (by kernel_rfl) rfl) (fun _ => rfl) (fun k hk => by omega)
    (fun W hb hs => tracks_it c cok _ W ((hz.below hb0 (Nat.le_refl _)).below hb (Nat.le_refl _)) (fun k hk => ⟨by omega, fun e => by have := hz.lt 0 (by have := cok.ok.zl1; omega); omega⟩))
    (SwI c w m) NoI (fun s A B h hb => SwB.below h hb hm3 (by omega)) (fun _ _ _ h _ => h) hI0 ?round ?done (fun _ _ h => h.elim)
  case round =>
    rintro pre x W hi hpre hsz
    have hxm := hpre.subset (List.mem_append_right _ (List.mem_cons_self (a := x) (l := [])))
    have hxo := tracks_ok cok hxm
    have hrb := swOf_bd c.d.count pre
    have hpl : pre.length ≤ 320 := by have := hpre.length_le; simp only [List.length_append, List.length_singleton] at this; omega
    gi_wp2
    refine ⟨(Keep.refl _ _).alloc _, SwB.below hi ((Below.refl W0.heap.size W).alloc (by omega) _) hm3 (by omega), fun W₂ hs2 ho hi2' => ?_⟩
    have hi2 : SwB c w m (swOf c.d.count pre).1 (swOf c.d.count pre).2 W₂ := hi2'
    clear hi2'
    have hvb := var_block (by omega) ho
    have q1 := hxo.fi0; have q2 := hxo.se1; have q3 := hxo.se2; have q4 := hxo.en; have q5 := hxo.ti0; have q6 := hxo.ti1
    have hcnt := cok.ok.cntB
    have k1 := cells_regrown hvb
    have k2 := cells_regrown (show W₂.heap[w1.heap.size]? = some (.cells #[.int .i64 c.d.count] 3 (0, 0)) from hm ▸ hi2.bt)
    simp only [World.size_alloc] at hs2
    have hsz3 : W.heap.size < W₂.heap.size := by omega
    clear ho
    by_cases he : x.fi + x.se < c.d.count
    · gi_wp2
      refine round_region_below (by kernel_rfl) (by kernel_rfl) ?_; (repeat (refine wpQuietIn_step (fun _ _ _ _ => trivial) (fun K hK => ?_); go_simp; first | (refine hK _ ?_; clear hK K) | (apply Exists.intro; refine ⟨fun _ => ?_, hK _ ?_⟩; (first | exact ⟨rfl, CallsIn.regrown_of (CallsIn.inRound _ (callsIn_wide.2 (c67 x _ (by omega) (by omega) (by omega) (by omega))))⟩); clear hK K))); refine wpQuietIn_nil ?_; intro _ hw; obtain ⟨q, hwq⟩ := hw; subst hwq
      have hB3 := below_regrown W₂ q.d q.os
      generalize grow (redrawn W₂ q.d) q.os = w3 at hB3 ⊢
      have h3 := hi2.below hB3 hm3 (by omega)
      have hs3 : ∀ j, w3.cell? ⟨w.heap.size + 1 + 1, j, none⟩ = _ := fun j => cell_at (j := j) h3.bs
      have hfs3 : ∀ j, w3.frozen? ⟨w.heap.size + 1 + 1, j, none⟩ = false := fun j => frozen_at (j := j) h3.bs
      have hsw3 : w.heap.size + 1 + 1 < w3.heap.size := by have := hB3.size; omega
      have hra := i64w (x := (swOf c.d.count pre).1 + 1) (by omega) (by omega)
      have hrc := i64w (x := (swOf c.d.count pre).2 + 1) (by omega) (by omega)
      have hv3 := (hB3.block _ hsz3).trans hvb
      clear k1 k2
      rcases hxo.be with hbe | hbe
      · have hv6 : w3.heap[W.heap.size]? = some (.cells #[.int .i64 x.cy, .int .i64 x.hd, .int .i64 x.fi, .int .i64 x.se, .int .i64 x.ti, .int .i64 x.of, .int .i64 0] 82 (0, 0)) := by rw [← hbe]; exact hv3
        have ht3 := fun j => cell_at (j := j) hv6
        gi_wp2
        refine ⟨by refine Keep.setCell (Keep.of_below hB3 (Nat.le_refl _)) ?_ _; exact .inl rfl, ?_⟩
        show SwB _ _ _ _ _ _
        rw [swOf_snoc]; unfold swStep; rw [if_pos he, if_pos hbe]; exact h3.put0 hm3 _
      · have hv6 : w3.heap[W.heap.size]? = some (.cells #[.int .i64 x.cy, .int .i64 x.hd, .int .i64 x.fi, .int .i64 x.se, .int .i64 x.ti, .int .i64 x.of, .int .i64 1] 82 (0, 0)) := by rw [← hbe]; exact hv3
        have ht3 := fun j => cell_at (j := j) hv6
        gi_wp2
        refine ⟨by refine Keep.setCell (Keep.of_below hB3 (Nat.le_refl _)) ?_ _; exact .inl rfl, ?_⟩
        show SwB _ _ _ _ _ _
        rw [swOf_snoc]; unfold swStep; rw [if_pos he, if_neg (by omega)]; exact h3.put1 hm3 _
    · gi_wp2
      refine round_region_below (by kernel_rfl) (by kernel_rfl) ?_; (repeat (refine wpQuietIn_step (fun _ _ _ _ => trivial) (fun K hK => ?_); go_simp; first | (refine hK _ ?_; clear hK K) | (apply Exists.intro; refine ⟨fun _ => ?_, hK _ ?_⟩; (first | exact ⟨rfl, CallsIn.regrown_of (CallsIn.inRound _ (callsIn_wide.2 (c67 x _ (by omega) (by omega) (by omega) (by omega))))⟩); clear hK K))); refine wpQuietIn_nil ?_; intro _ hw; obtain ⟨q, hwq⟩ := hw; subst hwq
      have hB3 := below_regrown W₂ q.d q.os
      generalize grow (redrawn W₂ q.d) q.os = w3 at hB3 ⊢
      have h3 := hi2.below hB3 hm3 (by omega)
      clear k1 k2
      gi_wp2
      refine ⟨Keep.of_below hB3 (Nat.le_refl _), ?_⟩
      show SwB _ _ _ _ _ _
      rw [swOf_snoc]; unfold swStep; rw [if_neg (by omega)]; exact h3
  case done =>
    rintro W hi' hK hsz
    have hi : SwB c w m (swOf c.d.count (tracksOf c)).1 (swOf c.d.count (tracksOf c)).2 W := hi'
    clear hi'
    have hcr : ∀ j, W.cell? ⟨w.heap.size + 1, j, none⟩ = _ := fun j => cell_at (j := j) hi.br
    have hcb : ∀ j, W.cell? ⟨w.heap.size + 1 + 1, j, none⟩ = _ := fun j => cell_at (j := j) hi.bs
    have hfr : ∀ j, W.frozen? ⟨w.heap.size + 1, j, none⟩ = false := fun j => frozen_at (j := j) hi.br
    have hsz3 : w.heap.size + 1 < W.heap.size := by omega
    gi_wp2
    refine ⟨by simp, .inl ⟨_, _, rfl, run_takeDeferred (ds := []) ?_, ?_⟩⟩
    · (repeat rw [Below.heap_setCell _ _ _ _ (by dsimp only; omega)]); exact hK
    · refine leaves61 _ w _ _ _ _ rfl ?_ ⟨rfl, Below.putObj' ?_ _ _ (by omega)⟩
      · rw [World.putObj_heap_other (by omega)]; exact put2 hi.br
      · have := hi.bel
        (repeat' (first | (with_reducible exact Below.refl _ _) | (with_reducible assumption) | (with_reducible refine Below.alloc ?_ ?_ _) | (with_reducible refine Below.drew ?_) | (with_reducible refine below_drewN ?_ _) | (with_reducible refine Below.setCell ?_ ?_ _) | (with_reducible refine Below.trans ?_ (Below.mono (by with_reducible assumption) ?_)) | go_size))
end Go.Proofs.Ythkbiplmfbcabaa
