/- Stage 1: the ticks of a run, in package zones. -/
import Derived.Test.YthkbiplmfbcabaaZ
import Derived.Test.YthkbiplmfbcabaaQ2
set_option linter.unusedSimpArgs false
set_option linter.unusedVariables false
namespace Go.Proofs.Ythkbiplmfbcabaa
open Go.RowKit Go.Shelf Go.Sort

structure Ck.Sp (c : Ck) : Prop where
  l00 : 0 ≤ c.l0
  l01 : c.l0 ≤ c.h0
  l02 : c.h0 ≤ 2000
  l10 : 0 ≤ c.l1
  l11 : c.l1 ≤ c.h1
  l12 : c.h1 ≤ 2000
def Ck.lo (c : Ck) (be : Int) : Int := if be = 0 then c.l0 else c.l1
def Ck.hi (c : Ck) (be : Int) : Int := if be = 0 then c.h0 else c.h1
def Ck.sk (c : Ck) (be : Int) : Int := if be = 0 then c.s0 else c.s1

def readOf (t : Tk) (f to : Int) : Int := ((if t.fi + t.se < to then t.fi + t.se else to) - (if f < t.fi then t.fi else f)) * t.ti
def gapLo (c : Ck) (t : Tk) : Int := gapV c.d.tu (c.sk t.be) (c.lo t.be)
def gapHi (c : Ck) (t : Tk) : Int := gapV c.d.tu (c.sk t.be) (c.hi t.be)
def runStep (c : Ck) (f to : Int) (r : Int × Int) (t : Tk) : Int × Int :=
  if readOf t f to ≤ 0 then r
  else if t.fi + t.se < to then (r.1 + readOf t f to + gapLo c t, r.2 + readOf t f to + gapHi c t) else (r.1 + readOf t f to, r.2 + readOf t f to)
def runOf (c : Ck) (f to : Int) (l : List Tk) : Int × Int := l.foldl (runStep c f to) (0, 0)
theorem runOf_snoc (c : Ck) (f to : Int) (l : List Tk) (t : Tk) : runOf c f to (l ++ [t]) = runStep c f to (runOf c f to l) t := by simp [runOf, List.foldl_append]

theorem readOf_bd {c : Ck} {t : Tk} (h : TkOk c t) (tu2 : c.d.tu ≤ 1000) (f to : Int) : readOf t f to ≤ 16000 := by
  obtain ⟨z, hz⟩ : ∃ z, z = (if t.fi + t.se < to then t.fi + t.se else to) - (if f < t.fi then t.fi else f) := ⟨_, rfl⟩
  have hz2 : z ≤ 16 := by have := h.se2; split at hz <;> split at hz <;> omega
  unfold readOf
  rw [← hz]
  have h1 := h.ti0; have h2 := h.ti1
  rcases Int.lt_or_le z 0 with h4 | h4
  · have := Int.mul_neg_of_neg_of_pos h4 (show 0 < t.ti by omega); omega
  · have := mul_le_mul_of h4 (show 0 ≤ t.ti by omega) hz2 (show t.ti ≤ 1000 by omega)
    omega
theorem readOf_lo {c : Ck} {t : Tk} (h : TkOk c t) (tu2 : c.d.tu ≤ 1000) (f to : Int) (f1 : f ≤ 10000) (t0 : 0 ≤ to) (hc : c.d.count ≤ 10000) : -10000000 ≤ readOf t f to ∧ (-10000 ≤ (if t.fi + t.se < to then t.fi + t.se else to) - (if f < t.fi then t.fi else f) ∧ (if t.fi + t.se < to then t.fi + t.se else to) - (if f < t.fi then t.fi else f) ≤ 16) := by
  obtain ⟨z, hz⟩ : ∃ z, z = (if t.fi + t.se < to then t.fi + t.se else to) - (if f < t.fi then t.fi else f) := ⟨_, rfl⟩
  have h1 := h.ti0; have h2 := h.ti1; have h3 := h.fi0; have h5 := h.se1; have h6 := h.se2; have h7 := h.en
  have hz2 : z ≤ 16 := by split at hz <;> split at hz <;> omega
  have hz3 : -10000 ≤ z := by split at hz <;> split at hz <;> omega
  unfold readOf
  rw [← hz]
  refine ⟨?_, hz3, hz2⟩
  rcases Int.lt_or_le z 0 with h4 | h4
  · have := mul_le_mul_of (show 0 ≤ -z by omega) (show 0 ≤ t.ti by omega) (show -z ≤ 10000 by omega) (show t.ti ≤ 1000 by omega)
    rw [Int.neg_mul] at this
    omega
  · have := Int.mul_nonneg h4 (show 0 ≤ t.ti by omega)
    omega
theorem gap_bd {c : Ck} (cok : c.Ok) (sp : c.Sp) (t : Tk) : (0 ≤ gapLo c t ∧ gapLo c t ≤ 3000) ∧ (0 ≤ gapHi c t ∧ gapHi c t ≤ 3000) := by
  have tu1 := cok.ok.tu1
  have tu2 := cok.ok.tu2
  have a1 := gapV_bd (tu := c.d.tu) (sk := c.sk t.be) (t := c.lo t.be) tu1
  have a2 := gapV_bd (tu := c.d.tu) (sk := c.sk t.be) (t := c.hi t.be) tu1
  obtain ⟨b1, b2, b3, b4, b5, b6⟩ := sp
  have c1 : 0 ≤ c.lo t.be ∧ c.lo t.be ≤ 2000 := by unfold Ck.lo; split <;> omega
  have c2 : 0 ≤ c.hi t.be ∧ c.hi t.be ≤ 2000 := by unfold Ck.hi; split <;> omega
  unfold gapLo gapHi
  omega
theorem runOf_bd {c : Ck} (cok : c.Ok) (sp : c.Sp) (f to : Int) (l : List Tk) (hl : ∀ t ∈ l, TkOk c t) : (0 ≤ (runOf c f to l).1 ∧ (runOf c f to l).1 ≤ 19000 * l.length) ∧ (0 ≤ (runOf c f to l).2 ∧ (runOf c f to l).2 ≤ 19000 * l.length) := by
  obtain ⟨m, hm⟩ : ∃ m, m = l.length := ⟨_, rfl⟩
  induction m generalizing l with
  | zero =>
    obtain rfl := List.length_eq_zero_iff.1 hm.symm
    simp [runOf]
  | succ m ih =>
    obtain ⟨l', t, rfl⟩ : ∃ l' t, l = l' ++ [t] := by
      have hne : l ≠ [] := by rintro rfl; simp at hm
      exact ⟨l.dropLast, l.getLast hne, (List.dropLast_concat_getLast hne).symm⟩
    have h1 := ih l' (fun t ht => hl t (List.mem_append_left _ ht)) (by simpa using hm)
    have h2 := readOf_bd (hl t (by simp)) cok.ok.tu2 f to
    have h3 := gap_bd cok sp t
    rw [runOf_snoc, List.length_append, List.length_singleton]
    unfold runStep
    split
    · omega
    · split <;> dsimp only <;> omega

structure RnB (c : Ck) (f to : Int) (w : World) (a b : Int) (W : World) : Prop where
  bc : W.heap[w.heap.size]? = some (.cells c.cells 73 (0, 0))
  bf : W.heap[w.heap.size + 1]? = some (.cells #[.int .i64 f] 3 (0, 0))
  br : W.heap[w.heap.size + 2]? = some (.cells #[.int .i64 0, .int .i64 0] 24 (0, 0))
  bs : W.heap[w.heap.size + 3]? = some (.cells #[.int .i64 a, .int .i64 b] 24 (0, 0))
  bt : W.heap[w.heap.size + 4]? = some (.cells #[.int .i64 to] 3 (0, 0))
  bel : Below w.heap.size w W
theorem RnB.below {c : Ck} {f to : Int} {w : World} {a b : Int} {A B : World} {C : Nat} (h : RnB c f to w a b A) (hb : Below C A B) (hC : w.heap.size + 5 ≤ C) : RnB c f to w a b B :=
  ⟨(hb.block _ (by omega)).trans h.bc, (hb.block _ (by omega)).trans h.bf, (hb.block _ (by omega)).trans h.br, (hb.block _ (by omega)).trans h.bs, (hb.block _ (by omega)).trans h.bt, h.bel.trans (hb.mono (by omega))⟩
theorem RnB.put0 {c : Ck} {f to : Int} {w : World} {a b : Int} {A : World} (h : RnB c f to w a b A) (a' : Int) : RnB c f to w a' b (A.setCell ⟨w.heap.size + 1 + 1 + 1, 0, none⟩ (.int .i64 a')) := by
  refine ⟨?_, ?_, ?_, ?_, ?_, ?_⟩
  · rw [Below.heap_setCell _ _ _ _ (by dsimp only; omega)]; exact h.bc
  · rw [Below.heap_setCell _ _ _ _ (by dsimp only; omega)]; exact h.bf
  · rw [Below.heap_setCell _ _ _ _ (by dsimp only; omega)]; exact h.br
  · exact heap_setCell_same (cs := #[.int .i64 a, .int .i64 b]) (e := 24) (f := (0, 0)) h.bs _
  · rw [Below.heap_setCell _ _ _ _ (by dsimp only; omega)]; exact h.bt
  · have := h.bel
    (repeat' (first | (with_reducible exact Below.refl _ _) | (with_reducible assumption) | (with_reducible refine Below.alloc ?_ ?_ _) | (with_reducible refine Below.drew ?_) | (with_reducible refine below_drewN ?_ _) | (with_reducible refine Below.setCell ?_ ?_ _) | (with_reducible refine Below.trans ?_ (Below.mono (by with_reducible assumption) ?_)) | go_size))
theorem RnB.put1 {c : Ck} {f to : Int} {w : World} {a b : Int} {A : World} (h : RnB c f to w a b A) (b' : Int) : RnB c f to w a b' (A.setCell ⟨w.heap.size + 1 + 1 + 1, 1, none⟩ (.int .i64 b')) := by
  refine ⟨?_, ?_, ?_, ?_, ?_, ?_⟩
  · rw [Below.heap_setCell _ _ _ _ (by dsimp only; omega)]; exact h.bc
  · rw [Below.heap_setCell _ _ _ _ (by dsimp only; omega)]; exact h.bf
  · rw [Below.heap_setCell _ _ _ _ (by dsimp only; omega)]; exact h.br
  · exact heap_setCell_same (cs := #[.int .i64 a, .int .i64 b]) (e := 24) (f := (0, 0)) h.bs _
  · rw [Below.heap_setCell _ _ _ _ (by dsimp only; omega)]; exact h.bt
  · have := h.bel
    (repeat' (first | (with_reducible exact Below.refl _ _) | (with_reducible assumption) | (with_reducible refine Below.alloc ?_ ?_ _) | (with_reducible refine Below.drew ?_) | (with_reducible refine below_drewN ?_ _) | (with_reducible refine Below.setCell ?_ ?_ _) | (with_reducible refine Below.trans ?_ (Below.mono (by with_reducible assumption) ?_)) | go_size))
def RnI (c : Ck) (f to : Int) (w : World) (s : List Tk) (W : World) : Prop := RnB c f to w (runOf c f to s).1 (runOf c f to s).2 W
theorem RnI.below {c : Ck} {f to : Int} {w : World} {s : List Tk} {A B : World} {C : Nat} (h : RnI c f to w s A) (hb : Below C A B) (hC : w.heap.size + 5 ≤ C) : RnI c f to w s B := RnB.below h hb hC

attribute [local go_sem] Oper.semAt_some

theorem tracks_len (c : Ck) (cok : c.Ok) : (tracksOf c).length ≤ 320 := by
  have h : ∀ y, (trkC c y).length = y * c.d.hd.toNat := by
    intro y
    induction y with
    | zero => simp [trkC]
    | succ y ih => rw [trkC_succ, List.length_append, ih, Nat.succ_mul]; simp [trkH]
  unfold tracksOf
  rw [h]
  have h1 := cok.ok.cylB
  have h2 := cok.ok.hd4
  have := Nat.mul_le_mul (show c.d.cyls.toNat ≤ 80 by omega) (show c.d.hd.toNat ≤ 4 by omega)
  omega

theorem put2 {w : World} {b : Nat} {e : TypeId} {f : Nat × Nat} {z0 z1 v0 v1 : Value} (h : w.heap[b]? = some (.cells #[z0, z1] e f)) :
    ((w.setCell ⟨b, 0, none⟩ v0).setCell ⟨b, 1, none⟩ v1).heap[b]? = some (.cells #[v0, v1] e f) := by
  have h0 := heap_setCell_same (j := 0) h v0
  rw [show (#[z0, z1] : Array Value).setIfInBounds 0 v0 = #[v0, z1] from rfl] at h0
  exact heap_setCell_same (j := 1) h0 v1

theorem leaves59 (tmps : Array Value) (w Wf : World) (a b : Int) (R : Ending → World → Prop) (h6 : tmps.getD 6 undef = .pointer (some ⟨w.heap.size + 1 + 1, 0, none⟩))
    (e1 : Wf.heap[w.heap.size + 1 + 1]? = some (.cells #[.int .i64 a, .int .i64 b] 24 (0, 0)))
    (hR : R (.returned (.agg #[.int .i64 a, .int .i64 b])) Wf) : LeavesInM Fence.wide 0 Try.prog Try.f59 tmps R [] .returning Wf := by
  have c1 := fun j => cell_at (j := j) e1
  refine ⟨_, ?_, hR⟩
  simp only [Array.getD_eq_getD_getElem?] at h6
  simp [results, Try.results59, go_sem, h6, c1]

set_option maxRecDepth 100000 in
set_option maxHeartbeats 1000000 in
theorem c59 (c : Ck) (cok : c.Ok) (sp : c.Sp) (f n : Int) (w : World) (hz : Zs w c.d) (f0 : 0 ≤ f) (f1 : f ≤ 10000) (n0 : 0 ≤ n) (n1 : n ≤ 10000) :
    Calls Try.prog 59 #[c.v, .int .i64 f, .int .i64 n] w fun e w' => e = .returned (.agg #[.int .i64 (runOf c f (f + n) (tracksOf c)).1, .int .i64 (runOf c f (f + n) (tracksOf c)).2]) ∧ Below w.heap.size w w' := by
  have hlen := tracks_len c cok
  refine callsIn_wide.1 (callsIn_of_wp_marks (F := Fence.wide) (n := 0) Try.func59 rfl trivial ?_ rfl)
  simp only [Try.ntmps59, List.size_toArray, List.length_cons, List.length_nil, Nat.reduceAdd, Nat.reduceSub, Array.replicate_succ, Array.replicate_zero, List.push_toArray, List.append_toArray, List.nil_append, List.cons_append]
  gi_wp2
  obtain ⟨W0, hW0⟩ : ∃ W0 : World, W0 = ((((w.alloc (.cells c.cells 73)).alloc (.cells #[.int .i64 f] 3)).alloc (.cells #[.int .i64 0, .int .i64 0] 24)).alloc (.cells #[.int .i64 0, .int .i64 0] 24)).alloc (.cells #[.int .i64 (f + n)] 3) := ⟨_, rfl⟩
  rw [← hW0]
  have hs0 : W0.heap.size = w.heap.size + 5 := by rw [hW0]; simp
  have hb0 : Below w.heap.size w W0 := by rw [hW0]; (repeat' (first | (with_reducible exact Below.refl _ _) | (with_reducible assumption) | (with_reducible refine Below.alloc ?_ ?_ _) | (with_reducible refine Below.drew ?_) | (with_reducible refine below_drewN ?_ _) | (with_reducible refine Below.setCell ?_ ?_ _) | (with_reducible refine Below.trans ?_ (Below.mono (by with_reducible assumption) ?_)) | go_size))
  have hI0 : RnI c f (f + n) w [] W0 := by
    rw [hW0]
    have a1 := heap_new w (.cells c.cells 73)
    have a2 := heap_new (w.alloc (.cells c.cells 73)) (.cells #[.int .i64 f] 3)
    have a3 := heap_new ((w.alloc (.cells c.cells 73)).alloc (.cells #[.int .i64 f] 3)) (.cells #[.int .i64 0, .int .i64 0] 24)
    have a4 := heap_new (((w.alloc (.cells c.cells 73)).alloc (.cells #[.int .i64 f] 3)).alloc (.cells #[.int .i64 0, .int .i64 0] 24)) (.cells #[.int .i64 0, .int .i64 0] 24)
    have a5 := heap_new ((((w.alloc (.cells c.cells 73)).alloc (.cells #[.int .i64 f] 3)).alloc (.cells #[.int .i64 0, .int .i64 0] 24)).alloc (.cells #[.int .i64 0, .int .i64 0] 24)) (.cells #[.int .i64 (f + n)] 3)
    simp only [World.size_alloc] at a2 a3 a4 a5
    refine ⟨?_, ?_, ?_, ?_, a5, by (repeat' (first | (with_reducible exact Below.refl _ _) | (with_reducible assumption) | (with_reducible refine Below.alloc ?_ ?_ _) | (with_reducible refine Below.drew ?_) | (with_reducible refine below_drewN ?_ _) | (with_reducible refine Below.setCell ?_ ?_ _) | (with_reducible refine Below.trans ?_ (Below.mono (by with_reducible assumption) ?_)) | go_size))⟩
    · (repeat rw [Below.heap_alloc _ _ _ (by simp only [World.size_alloc]; omega)]); exact a1
    · (iterate 3 rw [Below.heap_alloc _ _ _ (by simp only [World.size_alloc]; omega)]); exact a2
    · (iterate 2 rw [Below.heap_alloc _ _ _ (by simp only [World.size_alloc]; omega)]); exact a3
    · rw [Below.heap_alloc _ _ _ (by simp only [World.size_alloc]; omega)]; exact a4
  clear hW0
  refine rf_law (S := fun k => k = w.heap.size + 3) (xs := tracksOf c) (encs := fun t : Tk => #[t.v]) (gf := 49) (la := #[c.v]) (lb := #[]) rfl (enters_of Try.func49 (by kernel_rfl) rfl) (fun _ => rfl) (fun k hk => by omega)
    (fun W hb hs => tracks_it c cok _ W ((hz.below hb0 (Nat.le_refl _)).below hb (Nat.le_refl _)) (fun k hk => ⟨by omega, fun e => by have := hz.lt 0 (by have := cok.ok.zl1; omega); omega⟩))
    (RnI c f (f + n) w) NoI (fun s A B h hb => h.below hb (by omega)) (fun _ _ _ h _ => h) hI0 ?round ?done (fun _ _ h => h.elim)
  case round =>
    rintro pre x W hi hpre hsz
    have hxm := hpre.subset (List.mem_append_right _ (List.mem_cons_self (a := x) (l := [])))
    have hxo := tracks_ok cok hxm
    have hrb := runOf_bd cok sp f (f + n) pre (fun t ht => tracks_ok cok (hpre.subset (List.mem_append_left _ ht)))
    have hpl : pre.length ≤ 320 := by have := hpre.length_le; simp only [List.length_append, List.length_singleton] at this; omega
    gi_wp2
    refine ⟨(Keep.refl _ _).alloc _, hi.below ((Below.refl W0.heap.size W).alloc (by omega) _) (by omega), fun W₂ hs2 ho hi2' => ?_⟩
    have hi2 : RnB c f (f + n) w (runOf c f (f + n) pre).1 (runOf c f (f + n) pre).2 W₂ := hi2'
    clear hi2'
    have hvb := var_block (by omega) ho
    have q1 := hxo.fi0; have q2 := hxo.se1; have q3 := hxo.se2; have q4 := hxo.en; have q5 := hxo.ti0; have q6 := hxo.ti1
    have hcnt := cok.ok.cntB
    have tu2 := cok.ok.tu2
    have k1 := cells_regrown hi2.bf
    have k2 : ∀ d os j, (grow (redrawn W₂ d) os).cell? ⟨w.heap.size + 1 + 1 + 1 + 1, j, none⟩ = _ := cells_regrown hi2.bt
    have k3 := cells_regrown hvb
    simp only [World.size_alloc] at hs2
    clear ho
    obtain ⟨hrl, hrz⟩ := readOf_lo hxo tu2 f (f + n) f1 (by omega) (by omega)
    have hrh := readOf_bd hxo tu2 f (f + n)
    have hw1 := i64w (x := (if x.fi + x.se < f + n then x.fi + x.se else f + n) - (if f < x.fi then x.fi else f)) (by omega) (by omega)
    have hw2 : IntKind.i64.wrap (((if x.fi + x.se < f + n then x.fi + x.se else f + n) - (if f < x.fi then x.fi else f)) * x.ti) = readOf x f (f + n) := i64w (x := readOf x f (f + n)) (by omega) (by omega)
    gi_wp2
    refine round_region_below (by kernel_rfl) (by kernel_rfl) ?_; (repeat (refine wpQuietIn_step (fun _ _ _ _ => trivial) (fun K hK => ?_); go_simp; first | (refine hK _ ?_; clear hK K) | (apply Exists.intro; refine ⟨fun _ => ?_, hK _ ?_⟩; (first | exact ⟨rfl, CallsIn.regrown_of (CallsIn.inRound _ (callsIn_wide.2 (c67 x _ (by omega) (by omega) (by omega) (by omega))))⟩); clear hK K))); refine wpQuietIn_nil ?_; intro _ hw; obtain ⟨q, hwq⟩ := hw; subst hwq
    have hB3 := below_regrown W₂ q.d q.os
    generalize grow (redrawn W₂ q.d) q.os = w3 at hB3 ⊢
    have hsz3 : W.heap.size < W₂.heap.size := by omega
    have h3 := hi2.below hB3 (by omega)
    have hv3 := (hB3.block _ hsz3).trans hvb
    have hsw3 : w.heap.size + 1 + 1 + 1 < w3.heap.size := by have := hB3.size; omega
    clear k1 k2 k3 hw2 hrz hw1
    generalize (if x.fi + x.se < f + n then x.fi + x.se else f + n) = mn
    generalize (if f < x.fi then x.fi else f) = mx
    by_cases hr : readOf x f (f + n) ≤ 0
    · gi_wp2
      refine ⟨Keep.of_below hB3 (Nat.le_refl _), ?_⟩
      show RnB _ _ _ _ _ _ _
      rw [runOf_snoc]; unfold runStep; rw [if_pos hr]; exact h3
    · have hs3 : ∀ j, w3.cell? ⟨w.heap.size + 1 + 1 + 1, j, none⟩ = _ := fun j => cell_at (j := j) h3.bs
      have hfs3 : ∀ j, w3.frozen? ⟨w.heap.size + 1 + 1 + 1, j, none⟩ = false := fun j => frozen_at (j := j) h3.bs
      have hra := i64w (x := (runOf c f (f + n) pre).1 + readOf x f (f + n)) (by omega) (by omega)
      have hrc := i64w (x := (runOf c f (f + n) pre).2 + readOf x f (f + n)) (by omega) (by omega)
      gi_wp2
      have h4 := (h3.put0 ((runOf c f (f + n) pre).1 + readOf x f (f + n))).put1 ((runOf c f (f + n) pre).2 + readOf x f (f + n))
      have hK4 : Keep (fun k => k = w.heap.size + 3) W₂ ((w3.setCell ⟨w.heap.size + 1 + 1 + 1, 0, none⟩ (.int .i64 ((runOf c f (f + n) pre).1 + readOf x f (f + n)))).setCell ⟨w.heap.size + 1 + 1 + 1, 1, none⟩ (.int .i64 ((runOf c f (f + n) pre).2 + readOf x f (f + n)))) := by
        refine Keep.setCell (Keep.setCell (Keep.of_below hB3 (Nat.le_refl _)) ?_ _) ?_ _ <;> exact .inl rfl
      have hv4 : ((w3.setCell ⟨w.heap.size + 1 + 1 + 1, 0, none⟩ (.int .i64 ((runOf c f (f + n) pre).1 + readOf x f (f + n)))).setCell ⟨w.heap.size + 1 + 1 + 1, 1, none⟩ (.int .i64 ((runOf c f (f + n) pre).2 + readOf x f (f + n)))).heap[W.heap.size]? = some (.cells x.cells 82 (0, 0)) := by
        rw [Below.heap_setCell _ _ _ _ (by dsimp only; omega), Below.heap_setCell _ _ _ _ (by dsimp only; omega)]; exact hv3
      generalize ((w3.setCell ⟨w.heap.size + 1 + 1 + 1, 0, none⟩ (.int .i64 ((runOf c f (f + n) pre).1 + readOf x f (f + n)))).setCell ⟨w.heap.size + 1 + 1 + 1, 1, none⟩ (.int .i64 ((runOf c f (f + n) pre).2 + readOf x f (f + n)))) = w4 at h4 hK4 hv4 ⊢
      have k1 : ∀ d os j, (grow (redrawn w4 d) os).cell? ⟨w.heap.size + 1 + 1 + 1 + 1, j, none⟩ = _ := cells_regrown h4.bt
      have k2 := cells_regrown hv4
      by_cases he : x.fi + x.se < f + n
      · refine round_region_below (by kernel_rfl) (by kernel_rfl) ?_; (repeat (refine wpQuietIn_step (fun _ _ _ _ => trivial) (fun K hK => ?_); go_simp; first | (refine hK _ ?_; clear hK K) | (apply Exists.intro; refine ⟨fun _ => ?_, hK _ ?_⟩; (first | exact ⟨rfl, CallsIn.regrown_of (CallsIn.inRound _ (callsIn_wide.2 (c67 x _ (by omega) (by omega) (by omega) (by omega))))⟩); clear hK K))); refine wpQuietIn_nil ?_; intro _ hw; obtain ⟨q, hwq⟩ := hw; subst hwq
        have hB5 := below_regrown w4 q.d q.os
        generalize grow (redrawn w4 q.d) q.os = w5 at hB5 ⊢
        have hsz4 : w.heap.size + 5 ≤ w4.heap.size ∧ W.heap.size < w4.heap.size := by have := hK4.size; omega
        have h5 := h4.below hB5 (by omega)
        have hv5 := (hB5.block _ hsz4.2).trans hv4
        have hK5 := hK4.below hB5 (by have := hK4.size; omega)
        have hsz5 : w.heap.size + 5 ≤ w5.heap.size := by have := hB5.size; omega
        have hsw5 : w.heap.size < w5.heap.size := by omega
        have hst5 : W.heap.size < w5.heap.size := by have := hB5.size; omega
        clear k1 k2 hB5
        rcases hxo.be with hbe | hbe
        · have hv6 : w5.heap[W.heap.size]? = some (.cells #[.int .i64 x.cy, .int .i64 x.hd, .int .i64 x.fi, .int .i64 x.se, .int .i64 x.ti, .int .i64 x.of, .int .i64 0] 82 (0, 0)) := by rw [← hbe]; exact hv5
          have ht5 := fun j => cell_at (j := j) hv6
          have hc5 := fun j => cell_at (j := j) h5.bc
          have hgl : gapLo c x = gapV c.d.tu c.s0 c.l0 := by simp [gapLo, Ck.sk, Ck.lo, hbe]
          have hgh : gapHi c x = gapV c.d.tu c.s0 c.h0 := by simp [gapHi, Ck.sk, Ck.hi, hbe]
          gi_wp2
          have hn6 := heap_new w5 (.cells #[.int .i64 c.l0, .int .i64 c.h0, .int .i64 c.s0] 70)
          have h6 := h5.below ((Below.refl w5.heap.size w5).alloc (Nat.le_refl _) (.cells #[.int .i64 c.l0, .int .i64 c.h0, .int .i64 c.s0] 70)) (by omega)
          have hK6 := hK5.alloc (.cells #[.int .i64 c.l0, .int .i64 c.h0, .int .i64 c.s0] 70)
          generalize hw6 : w5.alloc (.cells #[.int .i64 c.l0, .int .i64 c.h0, .int .i64 c.s0] 70) = w6 at h6 hn6 hK6 ⊢
          have hsz6 : w5.heap.size < w6.heap.size := by rw [← hw6]; simp
          clear hw6 ht5 hc5 hv6
          have k1 : ∀ d os j, (grow (redrawn w6 d) os).cell? ⟨w.heap.size + 1 + 1 + 1, j, none⟩ = _ := cells_regrown h6.bs
          have k2 := cells_regrown h6.bc
          have k3 := cells_regrown hn6
          have hgb := gap_bd cok sp x
          rw [hgl, hgh] at hgb
          have hq1 := i64w (x := (runOf c f (f + n) pre).1 + readOf x f (f + n) + gapV c.d.tu c.s0 c.l0) (by omega) (by omega)
          have hq2 := i64w (x := (runOf c f (f + n) pre).2 + readOf x f (f + n) + gapV c.d.tu c.s0 c.h0) (by omega) (by omega)
          refine round_region_tail (by kernel_rfl) (by kernel_rfl) (by kernel_rfl) ?_; simp only [stub, lastOp]; (repeat (refine wpQuietIn_step (fun _ _ _ _ => trivial) (fun K hK => ?_); go_simp; first | (refine hK _ ?_; clear hK K) | (apply Exists.intro; refine ⟨fun _ => ?_, hK _ ?_⟩; (first | exact ⟨rfl, CallsIn.regrown_of (CallsIn.inRound _ (callsIn_wide.2 (c62 c _ _ _ _ _ cok.ok.tu1 cok.ok.tu2 (by have := sp.l00; omega) (by have := sp.l01; have := sp.l02; omega) cok.s00 (by have := cok.s01; omega))))⟩); clear hK K))); refine wpQuietIn_nil ?_; intro _ hwq; obtain ⟨q, hwq⟩ := hwq; subst hwq
          have hB7 := below_regrown w6 q.d q.os
          generalize grow (redrawn w6 q.d) q.os = w7 at hB7 ⊢
          have h7 := h6.below hB7 (by omega)
          have hn7 := (hB7.block _ hsz6).trans hn6
          have hK7 := hK6.below hB7 (by have := hK6.size; omega)
          have hf7 : ∀ j, w7.frozen? ⟨w.heap.size + 1 + 1 + 1, j, none⟩ = false := fun j => frozen_at (j := j) h7.bs
          have hcs7 : ∀ j, w7.cell? ⟨w.heap.size + 1 + 1 + 1, j, none⟩ = _ := fun j => cell_at (j := j) h7.bs
          have hsz7 : w5.heap.size < w7.heap.size := by have := hB7.size; omega
          have hsw7 : w.heap.size + 1 + 1 + 1 < w7.heap.size := by omega
          clear k1 k2 k3
          gi_wp2
          have h8 := h7.put0 ((runOf c f (f + n) pre).1 + readOf x f (f + n) + gapV c.d.tu c.s0 c.l0)
          have hn8 : (w7.setCell ⟨w.heap.size + 1 + 1 + 1, 0, none⟩ (.int .i64 ((runOf c f (f + n) pre).1 + readOf x f (f + n) + gapV c.d.tu c.s0 c.l0))).heap[w5.heap.size]? = some (.cells #[.int .i64 c.l0, .int .i64 c.h0, .int .i64 c.s0] 70 (0, 0)) := by
            rw [Below.heap_setCell _ _ _ _ (by dsimp only; omega)]; exact hn7
          have hK8 : Keep (fun k => k = w.heap.size + 3) W₂ (w7.setCell ⟨w.heap.size + 1 + 1 + 1, 0, none⟩ (.int .i64 ((runOf c f (f + n) pre).1 + readOf x f (f + n) + gapV c.d.tu c.s0 c.l0))) := by
            refine Keep.setCell hK7 ?_ _; exact .inl rfl
          have hsz8 : w5.heap.size < (w7.setCell ⟨w.heap.size + 1 + 1 + 1, 0, none⟩ (.int .i64 ((runOf c f (f + n) pre).1 + readOf x f (f + n) + gapV c.d.tu c.s0 c.l0))).heap.size := by simpa using hsz7
          generalize (w7.setCell ⟨w.heap.size + 1 + 1 + 1, 0, none⟩ (.int .i64 ((runOf c f (f + n) pre).1 + readOf x f (f + n) + gapV c.d.tu c.s0 c.l0))) = w8 at h8 hn8 hK8 hsz8 ⊢
          have k1 : ∀ d os j, (grow (redrawn w8 d) os).cell? ⟨w.heap.size + 1 + 1 + 1, j, none⟩ = _ := cells_regrown h8.bs
          have k2 := cells_regrown h8.bc
          have k3 := cells_regrown hn8
          refine round_region_tail (by kernel_rfl) (by kernel_rfl) (by kernel_rfl) ?_; simp only [stub, lastOp]; (repeat (refine wpQuietIn_step (fun _ _ _ _ => trivial) (fun K hK => ?_); go_simp; first | (refine hK _ ?_; clear hK K) | (apply Exists.intro; refine ⟨fun _ => ?_, hK _ ?_⟩; (first | exact ⟨rfl, CallsIn.regrown_of (CallsIn.inRound _ (callsIn_wide.2 (c62 c _ _ _ _ _ cok.ok.tu1 cok.ok.tu2 (by have := sp.l00; have := sp.l01; omega) (by have := sp.l02; omega) cok.s00 (by have := cok.s01; omega))))⟩); clear hK K))); refine wpQuietIn_nil ?_; intro _ hwq; obtain ⟨q, hwq⟩ := hwq; subst hwq
          have hB9 := below_regrown w8 q.d q.os
          generalize grow (redrawn w8 q.d) q.os = w9 at hB9 ⊢
          have h9 := h8.below hB9 (by omega)
          have hK9 := hK8.below hB9 (by have := hK8.size; omega)
          have hf9 : ∀ j, w9.frozen? ⟨w.heap.size + 1 + 1 + 1, j, none⟩ = false := fun j => frozen_at (j := j) h9.bs
          have hcs9 : ∀ j, w9.cell? ⟨w.heap.size + 1 + 1 + 1, j, none⟩ = _ := fun j => cell_at (j := j) h9.bs
          have hsw9 : w.heap.size + 1 + 1 + 1 < w9.heap.size := by have := hB9.size; omega
          clear k1 k2 k3
          gi_wp2
          refine ⟨by refine Keep.setCell hK9 ?_ _; exact .inl rfl, ?_⟩
          show RnB _ _ _ _ _ _ _
          rw [runOf_snoc]; unfold runStep; rw [if_neg (by omega), if_pos (by omega)]; dsimp only; rw [hgl, hgh]; exact h9.put1 _
        · have hv6 : w5.heap[W.heap.size]? = some (.cells #[.int .i64 x.cy, .int .i64 x.hd, .int .i64 x.fi, .int .i64 x.se, .int .i64 x.ti, .int .i64 x.of, .int .i64 1] 82 (0, 0)) := by rw [← hbe]; exact hv5
          have ht5 := fun j => cell_at (j := j) hv6
          have hc5 := fun j => cell_at (j := j) h5.bc
          have hgl : gapLo c x = gapV c.d.tu c.s1 c.l1 := by simp [gapLo, Ck.sk, Ck.lo, hbe]
          have hgh : gapHi c x = gapV c.d.tu c.s1 c.h1 := by simp [gapHi, Ck.sk, Ck.hi, hbe]
          gi_wp2
          have hn6 := heap_new w5 (.cells #[.int .i64 c.l1, .int .i64 c.h1, .int .i64 c.s1] 70)
          have h6 := h5.below ((Below.refl w5.heap.size w5).alloc (Nat.le_refl _) (.cells #[.int .i64 c.l1, .int .i64 c.h1, .int .i64 c.s1] 70)) (by omega)
          have hK6 := hK5.alloc (.cells #[.int .i64 c.l1, .int .i64 c.h1, .int .i64 c.s1] 70)
          generalize hw6 : w5.alloc (.cells #[.int .i64 c.l1, .int .i64 c.h1, .int .i64 c.s1] 70) = w6 at h6 hn6 hK6 ⊢
          have hsz6 : w5.heap.size < w6.heap.size := by rw [← hw6]; simp
          clear hw6 ht5 hc5 hv6
          have k1 : ∀ d os j, (grow (redrawn w6 d) os).cell? ⟨w.heap.size + 1 + 1 + 1, j, none⟩ = _ := cells_regrown h6.bs
          have k2 := cells_regrown h6.bc
          have k3 := cells_regrown hn6
          have hgb := gap_bd cok sp x
          rw [hgl, hgh] at hgb
          have hq1 := i64w (x := (runOf c f (f + n) pre).1 + readOf x f (f + n) + gapV c.d.tu c.s1 c.l1) (by omega) (by omega)
          have hq2 := i64w (x := (runOf c f (f + n) pre).2 + readOf x f (f + n) + gapV c.d.tu c.s1 c.h1) (by omega) (by omega)
          refine round_region_tail (by kernel_rfl) (by kernel_rfl) (by kernel_rfl) ?_; simp only [stub, lastOp]; (repeat (refine wpQuietIn_step (fun _ _ _ _ => trivial) (fun K hK => ?_); go_simp; first | (refine hK _ ?_; clear hK K) | (apply Exists.intro; refine ⟨fun _ => ?_, hK _ ?_⟩; (first | exact ⟨rfl, CallsIn.regrown_of (CallsIn.inRound _ (callsIn_wide.2 (c62 c _ _ _ _ _ cok.ok.tu1 cok.ok.tu2 (by have := sp.l10; omega) (by have := sp.l11; have := sp.l12; omega) cok.s10 (by have := cok.s11; omega))))⟩); clear hK K))); refine wpQuietIn_nil ?_; intro _ hwq; obtain ⟨q, hwq⟩ := hwq; subst hwq
          have hB7 := below_regrown w6 q.d q.os
          generalize grow (redrawn w6 q.d) q.os = w7 at hB7 ⊢
          have h7 := h6.below hB7 (by omega)
          have hn7 := (hB7.block _ hsz6).trans hn6
          have hK7 := hK6.below hB7 (by have := hK6.size; omega)
          have hf7 : ∀ j, w7.frozen? ⟨w.heap.size + 1 + 1 + 1, j, none⟩ = false := fun j => frozen_at (j := j) h7.bs
          have hcs7 : ∀ j, w7.cell? ⟨w.heap.size + 1 + 1 + 1, j, none⟩ = _ := fun j => cell_at (j := j) h7.bs
          have hsz7 : w5.heap.size < w7.heap.size := by have := hB7.size; omega
          have hsw7 : w.heap.size + 1 + 1 + 1 < w7.heap.size := by omega
          clear k1 k2 k3
          gi_wp2
          have h8 := h7.put0 ((runOf c f (f + n) pre).1 + readOf x f (f + n) + gapV c.d.tu c.s1 c.l1)
          have hn8 : (w7.setCell ⟨w.heap.size + 1 + 1 + 1, 0, none⟩ (.int .i64 ((runOf c f (f + n) pre).1 + readOf x f (f + n) + gapV c.d.tu c.s1 c.l1))).heap[w5.heap.size]? = some (.cells #[.int .i64 c.l1, .int .i64 c.h1, .int .i64 c.s1] 70 (0, 0)) := by
            rw [Below.heap_setCell _ _ _ _ (by dsimp only; omega)]; exact hn7
          have hK8 : Keep (fun k => k = w.heap.size + 3) W₂ (w7.setCell ⟨w.heap.size + 1 + 1 + 1, 0, none⟩ (.int .i64 ((runOf c f (f + n) pre).1 + readOf x f (f + n) + gapV c.d.tu c.s1 c.l1))) := by
            refine Keep.setCell hK7 ?_ _; exact .inl rfl
          have hsz8 : w5.heap.size < (w7.setCell ⟨w.heap.size + 1 + 1 + 1, 0, none⟩ (.int .i64 ((runOf c f (f + n) pre).1 + readOf x f (f + n) + gapV c.d.tu c.s1 c.l1))).heap.size := by simpa using hsz7
          generalize (w7.setCell ⟨w.heap.size + 1 + 1 + 1, 0, none⟩ (.int .i64 ((runOf c f (f + n) pre).1 + readOf x f (f + n) + gapV c.d.tu c.s1 c.l1))) = w8 at h8 hn8 hK8 hsz8 ⊢
          have k1 : ∀ d os j, (grow (redrawn w8 d) os).cell? ⟨w.heap.size + 1 + 1 + 1, j, none⟩ = _ := cells_regrown h8.bs
          have k2 := cells_regrown h8.bc
          have k3 := cells_regrown hn8
          refine round_region_tail (by kernel_rfl) (by kernel_rfl) (by kernel_rfl) ?_; simp only [stub, lastOp]; (repeat (refine wpQuietIn_step (fun _ _ _ _ => trivial) (fun K hK => ?_); go_simp; first | (refine hK _ ?_; clear hK K) | (apply Exists.intro; refine ⟨fun _ => ?_, hK _ ?_⟩; (first | exact ⟨rfl, CallsIn.regrown_of (CallsIn.inRound _ (callsIn_wide.2 (c62 c _ _ _ _ _ cok.ok.tu1 cok.ok.tu2 (by have := sp.l10; have := sp.l11; omega) (by have := sp.l12; omega) cok.s10 (by have := cok.s11; omega))))⟩); clear hK K))); refine wpQuietIn_nil ?_; intro _ hwq; obtain ⟨q, hwq⟩ := hwq; subst hwq
          have hB9 := below_regrown w8 q.d q.os
          generalize grow (redrawn w8 q.d) q.os = w9 at hB9 ⊢
          have h9 := h8.below hB9 (by omega)
          have hK9 := hK8.below hB9 (by have := hK8.size; omega)
          have hf9 : ∀ j, w9.frozen? ⟨w.heap.size + 1 + 1 + 1, j, none⟩ = false := fun j => frozen_at (j := j) h9.bs
          have hcs9 : ∀ j, w9.cell? ⟨w.heap.size + 1 + 1 + 1, j, none⟩ = _ := fun j => cell_at (j := j) h9.bs
          have hsw9 : w.heap.size + 1 + 1 + 1 < w9.heap.size := by have := hB9.size; omega
          clear k1 k2 k3
          gi_wp2
          refine ⟨by refine Keep.setCell hK9 ?_ _; exact .inl rfl, ?_⟩
          show RnB _ _ _ _ _ _ _
          rw [runOf_snoc]; unfold runStep; rw [if_neg (by omega), if_pos (by omega)]; dsimp only; rw [hgl, hgh]; exact h9.put1 _
      · refine round_region_below (by kernel_rfl) (by kernel_rfl) ?_; (repeat (refine wpQuietIn_step (fun _ _ _ _ => trivial) (fun K hK => ?_); go_simp; first | (refine hK _ ?_; clear hK K) | (apply Exists.intro; refine ⟨fun _ => ?_, hK _ ?_⟩; (first | exact ⟨rfl, CallsIn.regrown_of (CallsIn.inRound _ (callsIn_wide.2 (c67 x _ (by omega) (by omega) (by omega) (by omega))))⟩); clear hK K))); refine wpQuietIn_nil ?_; intro _ hw; obtain ⟨q, hwq⟩ := hw; subst hwq
        have hB5 := below_regrown w4 q.d q.os
        generalize grow (redrawn w4 q.d) q.os = w5 at hB5 ⊢
        have h5 := h4.below hB5 (by have := hK4.size; omega)
        clear k1 k2
        gi_wp2
        refine ⟨hK4.below hB5 (by have := hK4.size; omega), ?_⟩
        show RnB _ _ _ _ _ _ _
        rw [runOf_snoc]; unfold runStep; rw [if_neg (by omega), if_neg (by omega)]; exact h5
  case done =>
    rintro W hi' hK hsz
    have hi : RnB c f (f + n) w (runOf c f (f + n) (tracksOf c)).1 (runOf c f (f + n) (tracksOf c)).2 W := hi'
    clear hi'
    have hcr : ∀ j, W.cell? ⟨w.heap.size + 1 + 1, j, none⟩ = _ := fun j => cell_at (j := j) hi.br
    have hcb : ∀ j, W.cell? ⟨w.heap.size + 1 + 1 + 1, j, none⟩ = _ := fun j => cell_at (j := j) hi.bs
    have hfr : ∀ j, W.frozen? ⟨w.heap.size + 1 + 1, j, none⟩ = false := fun j => frozen_at (j := j) hi.br
    have hsz3 : w.heap.size + 1 + 1 < W.heap.size := by omega
    gi_wp2
    refine ⟨by simp, .inl ⟨_, _, rfl, run_takeDeferred (ds := []) ?_, ?_⟩⟩
    · (repeat rw [Below.heap_setCell _ _ _ _ (by dsimp only; omega)]); exact hK
    · refine leaves59 _ w _ _ _ _ rfl ?_ ⟨rfl, Below.putObj' ?_ _ _ (by omega)⟩
      · rw [World.putObj_heap_other (by omega)]; exact put2 hi.br
      · have := hi.bel
        (repeat' (first | (with_reducible exact Below.refl _ _) | (with_reducible assumption) | (with_reducible refine Below.alloc ?_ ?_ _) | (with_reducible refine Below.drew ?_) | (with_reducible refine below_drewN ?_ _) | (with_reducible refine Below.setCell ?_ ?_ _) | (with_reducible refine Below.trans ?_ (Below.mono (by with_reducible assumption) ?_)) | go_size))
end Go.Proofs.Ythkbiplmfbcabaa
