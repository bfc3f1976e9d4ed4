/- Texts put together: Th. -/
import Derived.Test.YtkafjlhmbiaicaaG21
import Derived.Test.YtkafjlhmbiaicaaG19
/- Stage 2: a path with the fewest faults. -/
set_option linter.unusedSimpArgs false
set_option linter.unusedVariables false
namespace Go.Proofs.Ytkafjlhmbiaicaa
open Go.RowKit Go.Shelf Go.Sort

/-- The faults of the last d wedges on a path. -/
def tcd (ag : Nat → Nat → Bool) (p : Nat → Nat) (n : Nat) : Nat → Int
  | 0 => 0
  | d + 1 => tcd ag p n d + (if ag (n - 1 - d) (p (n - 1 - d)) = true then 0 else 1)
theorem tcd_congr {ag : Nat → Nat → Bool} {p q : Nat → Nat} {n : Nat} : ∀ {d : Nat}, d ≤ n → (∀ k, n - d ≤ k → k < n → p k = q k) → tcd ag p n d = tcd ag q n d
  | 0, _, _ => rfl
  | d + 1, hd, h => by
    simp only [tcd]
    rw [tcd_congr (d := d) (by omega) (fun k h1 h2 => h k (by omega) h2), h (n - 1 - d) (by omega) (by omega)]
theorem tcd_cst {ag : Nat → Nat → Bool} {p : Nat → Nat} {n : Nat} : ∀ d, d ≤ n → cst ag p (n - d) + tcd ag p n d = cst ag p n
  | 0, _ => by simp [tcd]
  | d + 1, h => by
    have ih := tcd_cst (ag := ag) (p := p) (n := n) d (by omega)
    have e : n - d = (n - (d + 1)) + 1 := by omega
    rw [e] at ih
    simp only [cst, tcd] at ih ⊢
    rw [show n - 1 - d = n - (d + 1) by omega]
    omega
/-- What has been traced back, down to wedge i. -/
structure TrP (s : Sv) (g : Wg) (en i : Nat) (P : Nat → Nat) : Prop where
  last : P (g.wn - 1) = en
  inN : ∀ k, i ≤ k → k < g.wn → P k < s.N
  nr : ∀ k, i < k → k < g.wn → P k ≤ P (k - 1) + s.m ∧ P (k - 1) ≤ P k + s.m
  cost : Fb s.N s.m (agr s g) i (P i) + tcd (agr s g) P g.wn (g.wn - i) = fl s g en
theorem TrP.start {s : Sv} {g : Wg} {en : Nat} (hn : 0 < g.wn) (he : en < s.N) : TrP s g en (g.wn - 1) (fun _ => en) := by
  refine ⟨rfl, fun k _ _ => he, fun k h1 h2 => by omega, ?_⟩
  rw [show g.wn - (g.wn - 1) = 0 + 1 by omega]
  unfold fl flt
  rw [if_neg (by omega)]
  simp only [tcd, jdg, Nat.sub_zero]
  omega
theorem TrP.step {s : Sv} {g : Wg} {en i q : Nat} {P : Nat → Nat} (h : TrP s g en (i + 1) P) (hi : i + 1 < g.wn) (hq : q < s.N) (h1 : q ≤ P (i + 1) + s.m) (h2 : P (i + 1) ≤ q + s.m)
    (hc : jdg (agr s g i) (Fb s.N s.m (agr s g) i) q = mvd s.N s.m (jdg (agr s g i) (Fb s.N s.m (agr s g) i)) (P (i + 1))) : TrP s g en i (fun k => if k = i then q else P k) := by
  refine ⟨?_, fun k a b => ?_, fun k a b => ?_, ?_⟩
  · show (if g.wn - 1 = i then q else P (g.wn - 1)) = en
    rw [if_neg (by omega)]; exact h.last
  · show (if k = i then q else P k) < s.N
    split
    · exact hq
    · exact h.inN k (by omega) b
  · show (if k = i then q else P k) ≤ (if k - 1 = i then q else P (k - 1)) + s.m ∧ (if k - 1 = i then q else P (k - 1)) ≤ (if k = i then q else P k) + s.m
    rw [if_neg (show ¬ k = i by omega)]
    by_cases e : k - 1 = i
    · obtain rfl : k = i + 1 := by omega
      rw [if_pos e]; exact ⟨h2, h1⟩
    · rw [if_neg e]; exact h.nr k (by omega) b
  · have hcost := h.cost
    have e1 : Fb s.N s.m (agr s g) (i + 1) (P (i + 1)) = jdg (agr s g i) (Fb s.N s.m (agr s g) i) q := hc.symm
    rw [e1] at hcost
    rw [show g.wn - i = (g.wn - (i + 1)) + 1 by omega]
    simp only [tcd, if_true]
    rw [show g.wn - 1 - (g.wn - (i + 1)) = i by omega]
    rw [tcd_congr (p := fun k => if k = i then q else P k) (q := P) (d := g.wn - (i + 1)) (by omega) (fun k a b => if_neg (by omega))]
    simp only [if_true]
    unfold jdg at hcost
    omega
theorem TrP.done {s : Sv} {g : Wg} {en : Nat} {P : Nat → Nat} (h : TrP s g en 0 P) : Pth s.N s.m P g.wn ∧ P (g.wn - 1) = en ∧ cst (agr s g) P g.wn = fl s g en := by
  refine ⟨fun i hi => ⟨h.inN i (Nat.zero_le _) hi, fun h0 => h.nr i h0 hi⟩, h.last, ?_⟩
  have h1 := tcd_cst (ag := agr s g) (p := P) (n := g.wn) g.wn (Nat.le_refl _)
  have h2 := h.cost
  rw [Nat.sub_self] at h1
  simp only [cst] at h1
  rw [Nat.sub_zero] at h2
  simp only [Fb] at h2
  omega
/-- A possible path that ends there is handed back, with the fewest faults. -/
def PtRet (s : Sv) (g : Wg) (en : Nat) (w : World) (e : Ending) (w' : World) : Prop :=
  ∃ (x : Nat) (P : Nat → Nat), e = .returned (.slice (some ⟨x, 0, none⟩) g.wn g.wn) ∧ w.heap.size ≤ x ∧ RowF w' x g.wn (fun k => ((P k : Nat) : Int)) ∧ Pth s.N s.m P g.wn ∧ P (g.wn - 1) = en ∧ cst (agr s g) P g.wn = fl s g en ∧ Below w.heap.size w w'
structure PtI (s : Sv) (g : Wg) (en : Nat) (w0 : World) (xb pb l : Nat) (pre : List Nat) (W : World) : Prop where
  kp : Keep (fun k => k = xb ∨ k = pb ∨ k = l) w0 W
  ex : ∃ (P : Nat → Nat) (F : Nat → Int), TrP s g en (g.wn - 1 - pre.length) P ∧ RowF W xb g.wn F ∧ (∀ k, k < g.wn → g.wn - pre.length ≤ k → F k = (P k : Nat)) ∧ W.heap[pb]? = some (.cells #[.int .i64 (P (g.wn - 1 - pre.length) : Nat)] 3 (0, 0))

attribute [local go_sem] Oper.semAt_some
theorem c60_aux {s : Sv} {g : Wg} {w w1 : World} (hB1 : Below (((w.alloc (.cells #[.int .i64 s.tr, .int .i64 s.st, .int .i64 s.mv, .int .i64 s.no, .int .i64 s.wr, .slice s.ra s.rn s.rc, .slice g.wa g.wn g.wk] 75)).alloc (.cells (madeCells #[.int .i64 0] g.wn) 3)).alloc (.cells #[.slice (some ⟨w.heap.size + 1, 0, none⟩) g.wn g.wn] 28)).heap.size (((w.alloc (.cells #[.int .i64 s.tr, .int .i64 s.st, .int .i64 s.mv, .int .i64 s.no, .int .i64 s.wr, .slice s.ra s.rn s.rc, .slice g.wa g.wn g.wk] 75)).alloc (.cells (madeCells #[.int .i64 0] g.wn) 3)).alloc (.cells #[.slice (some ⟨w.heap.size + 1, 0, none⟩) g.wn g.wn] 28)) w1) :
    w.heap.size + 3 ≤ w1.heap.size ∧ w.heap.size + 1 + 1 < w1.heap.size ∧ w1.cell? ⟨w.heap.size + 1 + 1, 0, none⟩ = some (.slice (some ⟨w.heap.size + 1, 0, none⟩) g.wn g.wn) ∧ Below w.heap.size w w1 ∧
    w1.heap[w.heap.size]? = some (.cells #[.int .i64 s.tr, .int .i64 s.st, .int .i64 s.mv, .int .i64 s.no, .int .i64 s.wr, .slice s.ra s.rn s.rc, .slice g.wa g.wn g.wk] 75 (0, 0)) ∧ w1.heap[w.heap.size + 2]? = some (.cells #[.slice (some ⟨w.heap.size + 1, 0, none⟩) g.wn g.wn] 28 (0, 0)) ∧ RowF w1 (w.heap.size + 1) g.wn (fun _ => 0) := by
  have hz := hB1.size
  simp only [World.size_alloc] at hz
  have h2 : w1.heap[w.heap.size + 2]? = some (.cells #[.slice (some ⟨w.heap.size + 1, 0, none⟩) g.wn g.wn] 28 (0, 0)) := by
    have := heap_new ((w.alloc (.cells #[.int .i64 s.tr, .int .i64 s.st, .int .i64 s.mv, .int .i64 s.no, .int .i64 s.wr, .slice s.ra s.rn s.rc, .slice g.wa g.wn g.wk] 75)).alloc (.cells (madeCells #[.int .i64 0] g.wn) 3)) (.cells #[.slice (some ⟨w.heap.size + 1, 0, none⟩) g.wn g.wn] 28)
    simp only [World.size_alloc] at this
    exact (hB1.block _ (by simp only [World.size_alloc]; omega)).trans this
  refine ⟨by omega, by omega, ?_, Below.trans (by (repeat' (first | (with_reducible exact Below.refl _ _) | (with_reducible assumption) | (with_reducible refine Below.alloc ?_ ?_ _) | (with_reducible refine Below.drew ?_) | (with_reducible refine below_drewN ?_ _) | (with_reducible refine Below.setCell ?_ ?_ _) | (with_reducible refine Below.trans ?_ (Below.mono (by with_reducible assumption) ?_)) | go_size))) (hB1.mono (by simp only [World.size_alloc]; omega)), ?_, h2, ?_⟩
  · exact (cell_at (j := 0) h2).trans rfl
  · refine (hB1.block _ (by simp only [World.size_alloc]; omega)).trans ?_
    rw [Below.heap_alloc _ _ _ (by simp only [World.size_alloc]; omega), Below.heap_alloc _ _ _ (by simp only [World.size_alloc]; omega)]
    exact heap_new w _
  · have h3 := RowF.made (w.alloc (.cells #[.int .i64 s.tr, .int .i64 s.st, .int .i64 s.mv, .int .i64 s.no, .int .i64 s.wr, .slice s.ra s.rn s.rc, .slice g.wa g.wn g.wk] 75)) g.wn
    simp only [World.size_alloc] at h3
    exact h3.of_block ((hB1.block _ (by simp only [World.size_alloc]; omega)).trans (Below.heap_alloc _ _ _ (by simp only [World.size_alloc]; omega)))

set_option maxRecDepth 100000 in
set_option maxHeartbeats 4000000 in
theorem c60 (s : Sv) (g : Wg) (en : Nat) (w : World) (hz : s.In w) (hg : g.In w) (ok : s.Ok) (okg : g.Ok) (hn0 : 0 < g.wn) (hen : en < s.N) :
    Calls Try.prog 60 #[hdv s g, .int .i64 (en : Nat)] w (PtRet s g en w) := by
  have hN := ok.Nb
  have hN1 := hN.1; have hN2 := hN.2.1
  have hn2 := okg.n2
  have okh := hid ok
  have okgh := hid okg
  have hmk := fun W => run_make_row' (P := Try.prog) 28 3 (.int .i64 0) 8 Try.underlying28 Try.info3 rfl .i64 .i64 g.wn (by omega) (by omega) W
  clear hN ok okg
  refine callsIn_wide.1 (callsIn_of_wp_marks (F := Fence.wide) (n := 0) Try.func60 rfl trivial ?_ rfl)
  simp only [Try.ntmps60, List.size_toArray, List.length_cons, List.length_nil, Nat.reduceAdd, Nat.reduceSub, Array.replicate_succ, Array.replicate_zero, List.push_toArray, List.append_toArray, List.nil_append, List.cons_append]
  gi_wp2_with (first
    | (refine ⟨trivial, rfl, ?_⟩; gi_at_call 49; refine (callsIn_wide.2 (c49 s g _ (hz.below (by (repeat' (first | (with_reducible exact Below.refl _ _) | (with_reducible assumption) | (with_reducible refine Below.alloc ?_ ?_ _) | (with_reducible refine Below.drew ?_) | (with_reducible refine below_drewN ?_ _) | (with_reducible refine Below.setCell ?_ ?_ _) | (with_reducible refine Below.trans ?_ (Below.mono (by with_reducible assumption) ?_)) | go_size))) (Nat.le_refl _)) (hg.below (by (repeat' (first | (with_reducible exact Below.refl _ _) | (with_reducible assumption) | (with_reducible refine Below.alloc ?_ ?_ _) | (with_reducible refine Below.drew ?_) | (with_reducible refine below_drewN ?_ _) | (with_reducible refine Below.setCell ?_ ?_ _) | (with_reducible refine Below.trans ?_ (Below.mono (by with_reducible assumption) ?_)) | go_size))) (Nat.le_refl _)) okh.out okgh.out)).mono ?_; rintro e w1 ⟨x0, b0, rfl, hxq, hbq, hRw0, hB1⟩; obtain ⟨hz1, hz2, k28, hBw1, hh1, hv1, hrw1⟩ := c60_aux hB1; have hz3 : w.heap.size + 1 < w1.heap.size := Nat.lt_of_succ_lt hz2; have hz4 : w.heap.size < w1.heap.size := Nat.lt_of_succ_lt hz3; have hRw0h := hid hRw0; clear hRw0)
    | (refine ⟨trivial, rfl, ?_⟩; gi_at_call 76; refine (callsIn_wide.2 (c76 _ _ _ _)).mono ?_; rintro e w2 ⟨rfl, rfl⟩))
  clear hmk k28
  obtain ⟨W0, hW0⟩ : ∃ W0 : World, W0 = ((w1.alloc (.cells #[.slice (some ⟨x0, 0, none⟩) g.wn g.wn] 79)).alloc (.cells #[.int .i64 (en : Nat)] 3)).alloc (.cells #[.slice (some ⟨w.heap.size + 1, 0, none⟩) g.wn g.wn] 28) := ⟨_, rfl⟩
  rw [← hW0]
  have hs0 : w1.heap.size + 3 ≤ W0.heap.size := by rw [hW0]; simp
  have hs0' : W0.heap.size ≤ w1.heap.size + 3 := by rw [hW0]; simp
  have hb10 : Below w1.heap.size w1 W0 := by rw [hW0]; (repeat' (first | (with_reducible exact Below.refl _ _) | (with_reducible assumption) | (with_reducible refine Below.alloc ?_ ?_ _) | (with_reducible refine Below.drew ?_) | (with_reducible refine below_drewN ?_ _) | (with_reducible refine Below.setCell ?_ ?_ _) | (with_reducible refine Below.trans ?_ (Below.mono (by with_reducible assumption) ?_)) | go_size))
  have hb0 : Below w.heap.size w W0 := hBw1.trans (hb10.mono (by omega))
  have hh0 := (hb10.block _ hz4).trans hh1
  have hv0 := (hb10.block _ (by omega)).trans hv1
  have hx0l : w.heap.size + 3 ≤ x0 := by have := hxq; simp at this; omega
  have hb0l : w.heap.size + 3 ≤ b0 := by have := hbq; simp at this; omega
  have hRwW := hid (hRw0h.out.below hb10 (Nat.le_refl _))
  have hlt0 := hRw0h.out.lt
  have hbv0 : W0.heap[w1.heap.size]? = some (.cells #[.slice (some ⟨x0, 0, none⟩) g.wn g.wn] 79 (0, 0)) := by
    rw [hW0, Below.heap_alloc _ _ _ (by simp only [World.size_alloc]; omega), Below.heap_alloc _ _ _ (by simp only [World.size_alloc]; omega)]
    exact heap_new w1 _
  have hx0' : W0.heap[w1.heap.size + 2]? = some (.cells #[.slice (some ⟨w.heap.size + 1, 0, none⟩) g.wn g.wn] 28 (0, 0)) := by
    have := heap_new ((w1.alloc (.cells #[.slice (some ⟨x0, 0, none⟩) g.wn g.wn] 79)).alloc (.cells #[.int .i64 (en : Nat)] 3)) (.cells #[.slice (some ⟨w.heap.size + 1, 0, none⟩) g.wn g.wn] 28)
    simp only [World.size_alloc] at this
    rw [hW0]; exact this
  have hI0 : PtI s g en W0 (w.heap.size + 1) (w1.heap.size + 1) (W0.heap.size + 1) [] W0 := by
    refine ⟨Keep.refl _ _, fun _ => en, fun _ => 0, TrP.start hn0 hen, hrw1.below hb10 hz3, fun k h1 h2 => ?_, ?_⟩
    · exact absurd h2 (by simp only [List.length_nil]; omega)
    · rw [hW0, Below.heap_alloc _ _ _ (by simp only [World.size_alloc]; omega)]
      have := heap_new (w1.alloc (.cells #[.slice (some ⟨x0, 0, none⟩) g.wn g.wn] 79)) (.cells #[.int .i64 (en : Nat)] 3)
      rwa [World.size_alloc] at this
  clear hW0 hrw1 hh1 hv1 hB1 hxq hbq
  refine rf_law2 (S := fun k => k = w.heap.size + 1 ∨ k = w1.heap.size + 1) (xs := dw g.wn g.wn) (R := fun (k : Nat) args => ∃ v, args = #[.int .i64 k, v]) (gf := 84) (la := #[]) (lb := #[.pointer (some ⟨w1.heap.size + 1 + 1, 0, none⟩)]) rfl (enters_of Try.func84 (by kernel_rfl) rfl) (fun _ _ h => by obtain ⟨v, rfl⟩ := h; rfl) (fun k hk => by omega)
    (fun W _ _ => back84 (w1.heap.size + 1 + 1) (w.heap.size + 1) g.wn g.wn _ W (by omega))
    (PtI s g en W0 (w.heap.size + 1) (w1.heap.size + 1) (W0.heap.size + 1)) (fun _ _ => False) ?hI (fun _ _ _ h _ => h) ?hRd hI0 ?round ?done (fun _ _ h => h.elim)
  case hI =>
    rintro pre C D ⟨a1, P, F, a2, a3, a4, a5⟩ hk
    exact ⟨a1.trans (hk.imp fun _ _ h => .inr (.inr h)), P, F, a2, a3.of_block (hk.block _ a3.lt (by omega)), a4, (hk.block _ (Array.getElem?_eq_some_iff.1 a5).1 (by omega)).trans a5⟩
  case hRd =>
    rintro pre V ⟨a1, P, F, a2, a3, _⟩
    refine ⟨?_, fun k hk => ⟨_, a3.cell hk⟩⟩
    exact (cell_at (j := 0) ((a1.block _ (by omega) (by omega)).trans hx0')).trans rfl
  case round =>
    rintro pre x W hi hpre hsz hl args ⟨v0, rfl⟩
    gi_wp2
    refine ⟨Keep.refl _ _, hi, fun W₂ hs2' ho hl2 hi2 => ?_⟩
    obtain ⟨hpl, hx⟩ := dw_at hpre
    have hs2 : W.heap.size ≤ W₂.heap.size := by omega
    clear hi ho hl hs2'
    obtain ⟨a1, P, F, a2, a3, a4, a5⟩ := hi2
    have hxl : x < g.wn := by omega
    have hxx : Hid (g.wn - 1 - pre.length = x) := hid hx.symm
    rw [← hx] at a2 a5
    have hhd := (a1.block _ (show w.heap.size < W0.heap.size by omega) (by omega)).trans hh0
    have hbv := (a1.block _ (show w1.heap.size < W0.heap.size by omega) (by omega)).trans hbv0
    have c28 : W₂.cell? ⟨w.heap.size + 1 + 1, 0, none⟩ = some (.slice (some ⟨w.heap.size + 1, 0, none⟩) g.wn g.wn) := (cell_at (j := 0) ((a1.block (w.heap.size + 2) (by omega) (by omega)).trans hv0)).trans rfl
    have c3 : W₂.cell? ⟨w1.heap.size + 1, 0, none⟩ = some (.int .i64 (P x : Nat)) := (cell_at (j := 0) a5).trans rfl
    have h1 := a3.cell hxl
    have h2 := a3.frozen x
    have h4 := @ixInt (w.heap.size + 1) g.wn g.wn x hxl
    have hw2 : w.heap.size + 1 < W₂.heap.size := by omega
    have hBw : Below w.heap.size w W₂ := hb0.trans ((a1.to_below (B := w.heap.size + 1) (by omega) (by omega)).mono (by omega))
    obtain ⟨W3, hW3⟩ : ∃ W3 : World, W3 = W₂.setCell ⟨w.heap.size + 1, x, none⟩ (.int .i64 (P x : Nat)) := ⟨_, rfl⟩
    have hk3 : Keep (fun k => k = w.heap.size + 1) W₂ W3 := by rw [hW3]; exact (Keep.refl (fun k => k = w.heap.size + 1) W₂).setCell (p := ⟨w.heap.size + 1, x, none⟩) (.inl rfl) _
    have hR3 : RowF W3 (w.heap.size + 1) g.wn (fun k => if k = x then ((P x : Nat) : Int) else F k) := by rw [hW3]; exact a3.set x _
    have hs3 : W₂.heap.size ≤ W3.heap.size := by rw [hW3]; simp
    have hf3 := (hk3.block _ (Array.getElem?_eq_some_iff.1 a5).1 (show ¬ w1.heap.size + 1 = w.heap.size + 1 by omega)).trans a5
    have hh3 := (hk3.block _ (show w.heap.size < W₂.heap.size by omega) (show ¬ w.heap.size = w.heap.size + 1 by omega)).trans hhd
    have hbv3 := (hk3.block _ (show w1.heap.size < W₂.heap.size by omega) (show ¬ w1.heap.size = w.heap.size + 1 by omega)).trans hbv
    have hB3 : Below w.heap.size w W3 := hBw.trans (hk3.to_below (B := w.heap.size) (by omega) (by omega))
    have hold : Hid (∀ k, k < w1.heap.size → k ≠ w.heap.size + 1 → W3.heap[k]? = w1.heap[k]?) := hid (fun k h1 h2 => (hk3.block k (by omega) h2).trans ((a1.block k (by omega) (by omega)).trans (hb10.block k h1)))
    have hR3h := hid hR3
    have hk3h := hid hk3
    have a1h := hid a1
    have a2h := hid a2
    have a4h := hid a4
    clear a1 a2 a3 a4 a5 hhd hbv hR3 hk3 hx
    rcases Nat.eq_zero_or_pos x with rfl | hxp
    · gi_wp2
      rw [← hW3]
      refine ⟨hk3h.out.imp (fun _ _ h => .inl h), a1h.out.trans (hk3h.out.imp fun _ _ h => .inl h), P, _, ?_, hR3h.out, fun k h1 h2 => ?_, ?_⟩
      · rw [List.length_append, List.length_singleton, show g.wn - 1 - (pre.length + 1) = 0 by have := hxx.out; omega]; exact a2h.out
      · by_cases e : k = 0
        · subst e; rw [if_pos rfl]
        · rw [if_neg e]; exact a4h.out k h1 (by have := hxx.out; simp only [List.length_append, List.length_singleton] at h2; omega)
      · rw [List.length_append, List.length_singleton, show g.wn - 1 - (pre.length + 1) = 0 by have := hxx.out; omega]; exact hf3
    · have hx0 : 0 < (x : Int) := by omega
      obtain ⟨i, hi⟩ : ∃ i, x = i + 1 := ⟨x - 1, by omega⟩
      have e1 : IntKind.i64.wrap ((x : Int) - 1) = (i : Int) := by rw [IntWalk.i64_in _ (by omega)]; omega
      have hil : i < g.wn := by omega
      have hix := @ixRows x0 g.wn g.wn i hil
      have hP1 : P x < s.N := a2h.out.inN _ (Nat.le_refl _) hxl
      have huh := hid hi
      clear hi
      gi_wp2
      rw [← hW3]
      clear c28 c3 h1 h2 h4 hW3
      obtain ⟨vy, hvy, y, c, rfl, hy, hc, hry⟩ := hRw0h.out.cell hil trivial
      have hv3 : W3.cell? ⟨x0, i, none⟩ = some (.slice (some ⟨y, 0, none⟩) s.N c) := (World.cell?_of_block (w := w1) (hold.out x0 hlt0 (by omega))).trans hvy
      have hr3 := hid (hry.of_block (hold.out y hry.lt (by omega)))
      have hlx : x0 < W3.heap.size := World.block_lt_of_cell? _ _ hv3
      clear hvy hry
      refine wild_tail (F := Fence.wide.inRound (W0.heap.size + 1)) (n := 0) (C := fun w' => Below W3.heap.size W3 w') (R := fun A B => Below A.heap.size A B) (G := fun i' us w' => match i' with
        | 0 => us 0 = hdv s g
        | 1 => us 1 = hdv s g
        | 2 => us 2 = .slice (some ⟨x0, 0, none⟩) g.wn g.wn
        | 3 => us 3 = .int .i64 (x : Nat)
        | 4 => us 4 = .int .i64 (i : Nat)
        | 5 => us 5 = .pointer (some ⟨x0, i, none⟩)
        | 6 => us 6 = .slice (some ⟨y, 0, none⟩) s.N c
        | 7 => us 7 = .int .i64 (x : Nat)
        | 8 => us 8 = .int .i64 (i : Nat)
        | 9 => RowV w' W3.heap.size s.N (jdg (agr s g i) (Fb s.N s.m (agr s g) i)) (us 9)
        | 10 => us 10 = .int .i64 (P x : Nat)
        | 11 => ∃ q : Nat, us 11 = .int .i64 (q : Nat) ∧ q < s.N ∧ q ≤ P x + s.m ∧ P x ≤ q + s.m ∧ (jdg (agr s g i) (Fb s.N s.m (agr s g) i)) q = mvd s.N s.m (jdg (agr s g i) (Fb s.N s.m (agr s g) i)) (P x)
        | _ => True) (by kernel_rfl) (by kernel_rfl) (by kernel_rfl) ?loc (Below.refl _ _).drew ?stab ?steps ?fin
      case loc =>
        intro j us i' v w' hij hdp hG
        rcases j with _ | _ | _ | _ | _ | _ | _ | _ | _ | _ | _ | _ | j
        all_goals first | trivial | ((try dsimp only at hG ⊢); rw [upd_ne _ _ (Ne.symm hij)]; exact hG) | skip
      case stab =>
        intro j us C D hCD hG
        rcases j with _ | _ | _ | _ | _ | _ | _ | _ | _ | _ | _ | _ | j <;> try exact hG
        · exact RowV.below hG hCD (Nat.le_refl _)
      case steps =>
        dsimp only [List.dropLast, StepsW, StepW]
        refine ⟨?_, ?_, ?_, ?_, ?_, ?_, ?_, ?_, ?_, ?_, ?_, ?_, trivial⟩
        all_goals (intro A us W5 hA hC hG K hK; have hcw0 := fun j => cell_at (j := j) ((hC.block _ (by omega)).trans hh3); have hcw1 := fun j => cell_at (j := j) ((hC.block _ (by omega)).trans hf3); have hcw2 := fun j => cell_at (j := j) ((hC.block _ (by omega)).trans hbv3); have hzw0 := hz.below (hB3.trans (hC.mono (by omega))) (Nat.le_refl _); have hzw1 := hg.below (hB3.trans (hC.mono (by omega))) (Nat.le_refl _); have hCs := hC.size; simp only [AfterW, Region.binds, true_implies, and_true, forall_const] at hG)
        · have h2 : A.tmps[2]?.getD undef = .pointer (some ⟨w.heap.size, 0, none⟩) := slot_none hA rfl rfl
          clear hA
          gi_wp2
          exact hK _ W5 hC (Below.refl _ _) (upd_same _ _ _)
        · have h2 : A.tmps[2]?.getD undef = .pointer (some ⟨w.heap.size, 0, none⟩) := slot_none hA rfl rfl
          clear hA
          gi_wp2
          exact hK _ W5 hC (Below.refl _ _) (upd_same _ _ _)
        · have h6 : A.tmps[6]?.getD undef = .pointer (some ⟨w1.heap.size, 0, none⟩) := slot_none hA rfl rfl
          clear hA
          gi_wp2
          exact hK _ W5 hC (Below.refl _ _) (upd_same _ _ _)
        · have h8 : A.tmps[8]?.getD undef = .int .i64 (x : Nat) := slot_none hA rfl rfl
          clear hA
          gi_wp2
          exact hK _ W5 hC (Below.refl _ _) (upd_same _ _ _)
        · have h29 := slot_some (t := 29) (v := .int .i64 (x : Nat)) hA (by kernel_rfl) rfl (by simp) (by first | exact hG | exact hG.1 | exact hG.2 | exact hG.2.1 | exact hG.2.2 | exact hG.2.2.1 | exact hG.2.2.2)
          clear hA
          gi_wp2
          exact hK _ W5 hC (Below.refl _ _) (upd_same _ _ _)
        · have h28 := slot_some (t := 28) (v := .slice (some ⟨x0, 0, none⟩) g.wn g.wn) hA (by kernel_rfl) rfl (by simp) (by first | exact hG | exact hG.1 | exact hG.2 | exact hG.2.1 | exact hG.2.2 | exact hG.2.2.1 | exact hG.2.2.2)
          have h30 := slot_some (t := 30) (v := .int .i64 (i : Nat)) hA (by kernel_rfl) rfl (by simp) (by first | exact hG | exact hG.1 | exact hG.2 | exact hG.2.1 | exact hG.2.2 | exact hG.2.2.1 | exact hG.2.2.2)
          clear hA
          gi_wp2
          exact hK _ W5 hC (Below.refl _ _) (upd_same _ _ _)
        · have h31 := slot_some (t := 31) (v := .pointer (some ⟨x0, i, none⟩)) hA (by kernel_rfl) rfl (by simp) (by first | exact hG | exact hG.1 | exact hG.2 | exact hG.2.1 | exact hG.2.2 | exact hG.2.2.1 | exact hG.2.2.2)
          have hcy := (hC.cell (p := ⟨x0, i, none⟩) hlx).trans hv3
          clear hA
          gi_wp2
          exact hK _ W5 hC (Below.refl _ _) (upd_same _ _ _)
        · have h8 : A.tmps[8]?.getD undef = .int .i64 (x : Nat) := slot_none hA rfl rfl
          clear hA
          gi_wp2
          exact hK _ W5 hC (Below.refl _ _) (upd_same _ _ _)
        · have h33 := slot_some (t := 33) (v := .int .i64 (x : Nat)) hA (by kernel_rfl) rfl (by simp) (by first | exact hG | exact hG.1 | exact hG.2 | exact hG.2.1 | exact hG.2.2 | exact hG.2.2.1 | exact hG.2.2.2)
          clear hA
          gi_wp2
          exact hK _ W5 hC (Below.refl _ _) (upd_same _ _ _)
        · obtain ⟨hG1, hG2, hG3⟩ := hG
          have h27 := slot_some (t := 27) (v := hdv s g) hA (by kernel_rfl) rfl (by simp) hG1
          have h32 := slot_some (t := 32) hA (by kernel_rfl) rfl (by simp) hG2
          have h34 := slot_some (t := 34) hA (by kernel_rfl) rfl (by simp) hG3
          clear hA
          gi_wp2_with (refine ⟨trivial, rfl, ?_⟩; gi_at_call 71; refine (CallsIn.inRound _ (callsIn_wide.2 (c71 s g y c i _ _ hzw0 hzw1 okh.out okgh.out hil (hr3.out.below hC hr3.out.lt) (Fb_100 okgh.out (by omega))))).mono ?_; rintro e w9 ⟨x9, c9, rfl, hx9, hc9, hR9, hB9⟩)
          exact hK _ w9 (hC.trans (hB9.mono hC.size)) hB9 (by rw [upd_same]; exact ⟨x9, c9, rfl, by omega, hc9, hR9⟩)
        · have h7 : A.tmps[7]?.getD undef = .pointer (some ⟨w1.heap.size + 1, 0, none⟩) := slot_none hA rfl rfl
          clear hA
          gi_wp2
          exact hK _ W5 hC (Below.refl _ _) (upd_same _ _ _)
        · obtain ⟨hG0, ⟨y9, c9, hG9, hy9, hc9, hR9⟩, hGX⟩ := hG
          have hG10 : us 10 = .int .i64 (P x : Nat) := (by first | exact hGX | exact hGX.1)
          have h26 := slot_some (t := 26) (v := hdv s g) hA (by kernel_rfl) rfl (by simp) hG0
          have h35 := slot_some (t := 35) hA (by kernel_rfl) rfl (by simp) hG9
          have h36 := slot_some (t := 36) hA (by kernel_rfl) rfl (by simp) hG10
          have hR9h := hid hR9
          clear hA hR9
          gi_wp2_with (refine ⟨trivial, rfl, ?_⟩; gi_at_call 77; refine (CallsIn.inRound _ (callsIn_wide.2 (c77 s g y9 c9 (P x) _ _ okh.out hR9h.out hP1))).mono ?_; rintro e w9 ⟨q, rfl, hq1, hq2, hq3, hq4, hB9⟩)
          exact hK _ w9 (hC.trans (hB9.mono hC.size)) hB9 ⟨q, upd_same _ _ _, hq1, hq2, hq3, hq4⟩
      case fin =>
        intro us W5 hC hG
        obtain ⟨q, e11, hq1, hq2, hq3, hq4⟩ : ∃ q : Nat, us 11 = .int .i64 (q : Nat) ∧ q < s.N ∧ q ≤ P x + s.m ∧ P x ≤ q + s.m ∧ (jdg (agr s g i) (Fb s.N s.m (agr s g) i)) q = mvd s.N s.m (jdg (agr s g i) (Fb s.N s.m (agr s g) i)) (P x) := hG 11 (by decide)
        simp only [lastOp, frW, Nat.reduceAdd, Nat.zero_add, e11, Act.put, List.setIfInBounds_toArray, List.set_cons_succ, List.set_cons_zero]
        have hf5 := (hC.block _ (by omega)).trans hf3
        have k1 := cell_at (j := 0) hf5
        have k2 := frozen_at (j := 0) hf5
        have hs5 : w1.heap.size + 1 < W5.heap.size := (Array.getElem?_eq_some_iff.1 hf5).1
        have hq4h := hid hq4
        clear hG hq4
        gi_wp2
        have hKa : Keep (fun k => k = w.heap.size + 1 ∨ k = w1.heap.size + 1) W₂ (W5.setCell ⟨w1.heap.size + 1, 0, none⟩ (.int .i64 (q : Nat))) := ((hk3h.out.imp (fun _ _ h => .inl h)).below hC (by omega)).setCell (p := ⟨w1.heap.size + 1, 0, none⟩) (.inl (.inr rfl)) _
        have hKb : Keep (fun k => k = w1.heap.size + 1) W3 (W5.setCell ⟨w1.heap.size + 1, 0, none⟩ (.int .i64 (q : Nat))) := (Keep.of_below (S := fun k => k = w1.heap.size + 1) hC (Nat.le_refl _)).setCell (p := ⟨w1.heap.size + 1, 0, none⟩) (.inl rfl) _
        have hle : g.wn - 1 - (pre.length + 1) = i := by have h1 := hxx.out; have h2 := huh.out; omega
        have a2i : TrP s g en (i + 1) P := huh.out ▸ a2h.out
        refine ⟨hKa, a1h.out.trans (hKa.imp fun _ _ h => h.imp id .inl), (fun k => if k = i then q else P k), _, ?_, hR3h.out.of_block (hKb.block _ hR3h.out.lt (by omega)), fun k h1 h2 => ?_, ?_⟩
        · rw [List.length_append, List.length_singleton, hle]
          refine a2i.step (by have := huh.out; omega) hq1 ?_ ?_ ?_
          · rw [← huh.out]; exact hq2
          · rw [← huh.out]; exact hq3
          · rw [← huh.out]; exact hq4h.out
        · rw [List.length_append, List.length_singleton] at h2
          have hu := huh.out
          have hxo := hxx.out
          show (if k = x then ((P x : Nat) : Int) else F k) = ((if k = i then q else P k : Nat) : Int)
          rw [if_neg (show ¬ k = i by omega)]
          by_cases e : k = x
          · subst e; rw [if_pos rfl]
          · rw [if_neg e]; exact a4h.out k h1 (by omega)
        · rw [List.length_append, List.length_singleton, hle]
          show _ = some (Obj.cells #[.int .i64 ((if i = i then q else P i : Nat) : Int)] 3 (0, 0))
          rw [if_pos rfl]; exact heap_setCell_same' hf5 _
  case done =>
    rintro W ⟨a1, P, F, a2, a3, a4, _⟩ hK hsz
    have c28 : W.cell? ⟨w.heap.size + 1 + 1, 0, none⟩ = some (.slice (some ⟨w.heap.size + 1, 0, none⟩) g.wn g.wn) := (cell_at (j := 0) ((a1.block (w.heap.size + 2) (by omega) (by omega)).trans hv0)).trans rfl
    have hsW : W0.heap.size < W.heap.size := by omega
    have a2' : TrP s g en 0 P := by rw [dw_len, show g.wn - 1 - g.wn = 0 by omega] at a2; exact a2
    obtain ⟨p1, p2, p3⟩ := a2'.done
    have hRF : RowF W (w.heap.size + 1) g.wn (fun k => ((P k : Nat) : Int)) := a3.congr (fun k hk => a4 k hk (by rw [dw_len]; omega))
    gi_wp2
    refine ⟨by simp, .inl ⟨_, _, rfl, run_takeDeferred (ds := []) hK, ?_⟩⟩
    refine ⟨.slice (some ⟨w.heap.size + 1, 0, none⟩) g.wn g.wn, by simp [results, Try.results60, go_sem], ?_⟩
    refine ⟨w.heap.size + 1, P, rfl, by omega, hRF.of_block (World.putObj_heap_other (by omega)), p1, p2, p3, ?_⟩
    exact Below.putObj' (hb0.trans ((a1.to_below (B := w.heap.size + 1) (by omega) (by omega)).mono (by omega))) _ _ (by omega)
end Go.Proofs.Ytkafjlhmbiaicaa
