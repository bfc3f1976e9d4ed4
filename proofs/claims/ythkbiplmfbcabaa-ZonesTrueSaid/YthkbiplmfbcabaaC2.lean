/- Stage 1: Number of package zones. -/
import Derived.Test.YthkbiplmfbcabaaZ
set_option linter.unusedSimpArgs false
set_option linter.unusedVariables false
namespace Go.Proofs.Ythkbiplmfbcabaa
open Go.RowKit Go.Shelf Go.Sort

theorem place_atD {d : Dk} (ok : d.Ok) {y h : Nat} (hy : (y : Int) < d.cyls) (hh : (h : Int) < d.hd) {n : Nat} (hn : (trk d.ck y h).has n) :
    ∃ hl : n < (places d).length, (places d)[n] = ((y : Int), (h : Int), (n : Int) - firstOf d.ck y h) := place_at d.ck ok.ck hy hh hn
theorem coverD {d : Dk} (ok : d.Ok) (n : Int) (n0 : 0 ≤ n) (n1 : n < d.count) : ∃ y h : Nat, (y : Int) < d.cyls ∧ (h : Int) < d.hd ∧ trk d.ck y h ∈ tracksOf d.ck ∧ (trk d.ck y h).has n := by
  obtain ⟨t, ht, hb⟩ := tracks_cover d.ck ok.ck n n0 n1
  have ht' := ht
  obtain ⟨y, h, h1, h2, rfl⟩ := mem_tracks ht
  exact ⟨y, h, h1, h2, ht', hb⟩
theorem place_inj {d : Dk} (ok : d.Ok) {i j : Nat} (hi : i < (places d).length) (hj : j < (places d).length) (h : (places d)[i] = (places d)[j]) : i = j := by
  have hcnt := ok.lenPl
  have hB := ok.cntB
  unfold lenPlaces at hcnt
  obtain ⟨y, k, h1, h2, _, h3⟩ := coverD ok (i : Int) (by omega) (by omega)
  obtain ⟨y', k', h1', h2', _, h3'⟩ := coverD ok (j : Int) (by omega) (by omega)
  obtain ⟨_, e1⟩ := place_atD ok h1 h2 h3
  obtain ⟨_, e2⟩ := place_atD ok h1' h2' h3'
  rw [e1, e2] at h
  simp only [Prod.mk.injEq] at h
  obtain ⟨g1, g2, g3⟩ := h
  have g4 : y = y' := by omega
  have g5 : k = k' := by omega
  subst g4 g5
  omega

/-- A track holds a place. -/
def Tk.at (t : Tk) (p : Pl) : Prop := t.cy = p.1 ∧ t.hd = p.2.1 ∧ 0 ≤ p.2.2 ∧ p.2.2 < t.se

theorem num_at {d : Dk} (ok : d.Ok) {t : Tk} (ht : t ∈ tracksOf d.ck) {p : Pl} (h : t.at p) : numOf d p = t.fi + p.2.2 ∧ numErr d p = 0 := by
  obtain ⟨y, hh, hy, hhd, rfl⟩ := mem_tracks ht
  obtain ⟨h1, h2, h3, h4⟩ := h
  obtain ⟨a, b, s⟩ := p
  have e1 : (y : Int) = a := h1
  have e2 : (hh : Int) = b := h2
  have h3' : 0 ≤ s := h3
  subst e1 e2
  have hf := (firstOf_bd d.ck ok.ck.ok y hh hy (Int.le_of_lt hhd)).1
  obtain ⟨k, hk⟩ : ∃ k : Nat, (k : Int) = firstOf d.ck y hh + s := ⟨(firstOf d.ck y hh + s).toNat, by omega⟩
  have hs4 : s < secOf d.ck.d.zs y := h4
  have hk1 : (trk d.ck y hh).has k := ⟨by show firstOf d.ck y hh ≤ _; omega, by show (k : Int) < firstOf d.ck y hh + secOf d.ck.d.zs y; omega⟩
  obtain ⟨hl, hp⟩ := place_atD ok hy hhd hk1
  rw [show (k : Int) - firstOf d.ck y hh = s by omega] at hp
  obtain ⟨i1, i2⟩ := idx_of_first hl hp (fun j hj hjk heq => by
    have := place_inj ok hj hl (heq.trans hp.symm)
    omega)
  unfold numOf numErr
  rw [if_pos i1, if_pos i1, i2]
  exact ⟨hk, rfl⟩
theorem num_none {d : Dk} (ok : d.Ok) {p : Pl} (h : ∀ t ∈ tracksOf d.ck, ¬ t.at p) : numOf d p = 0 ∧ numErr d p = 1 := by
  have hno : p ∉ places d := by
    intro hm
    obtain ⟨j, hj, hjp⟩ := List.getElem_of_mem hm
    have hcnt := ok.lenPl
    have hB := ok.cntB
    unfold lenPlaces at hcnt
    obtain ⟨y', h', hy', hh', hto, hb'⟩ := coverD ok (j : Int) (by omega) (by omega)
    obtain ⟨_, hq⟩ := place_atD ok hy' hh' hb'
    rw [hjp] at hq
    refine h _ hto ?_
    rw [hq]
    obtain ⟨b1, b2⟩ := hb'
    have b3 : firstOf d.ck y' h' ≤ (j : Int) := b1
    have b4 : (j : Int) < firstOf d.ck y' h' + secOf d.ck.d.zs y' := b2
    exact ⟨rfl, rfl, by show (0 : Int) ≤ (j : Int) - firstOf d.ck y' h'; omega, by show (j : Int) - firstOf d.ck y' h' < secOf d.ck.d.zs y'; omega⟩
  unfold numOf numErr
  rw [if_neg hno, if_neg hno]
  exact ⟨rfl, rfl⟩

structure NuI (p : Pl) (w : World) (s : List Tk) (W : World) : Prop where
  vp : W.heap[w.heap.size + 1]? = some (.cells #[.int .i64 p.1, .int .i64 p.2.1, .int .i64 p.2.2] 28 (0, 0))
  r1 : W.heap[w.heap.size + 2]? = some (.cells #[.int .i64 0] 3 (0, 0))
  r2 : W.heap[w.heap.size + 3]? = some (.cells #[.int .i64 0] 32 (0, 0))
  bel : Below w.heap.size w W
  no : ∀ t ∈ s, ¬ t.at p
structure NuX (d : Dk) (p : Pl) (w : World) (t : Tk) (W : World) : Prop where
  r1 : W.heap[w.heap.size + 2]? = some (.cells #[.int .i64 (t.fi + p.2.2)] 3 (0, 0))
  r2 : W.heap[w.heap.size + 3]? = some (.cells #[.int .i64 0] 32 (0, 0))
  bel : Below w.heap.size w W
  mem : t ∈ tracksOf d.ck
  at' : t.at p
def NuJ (d : Dk) (p : Pl) (w : World) (j : Code) (W : World) : Prop := j = .ret ∧ ∃ t, NuX d p w t W
theorem NuI.below {p : Pl} {w : World} {s : List Tk} {A B : World} {C : Nat} (h : NuI p w s A) (hb : Below C A B) (hC : w.heap.size + 4 ≤ C) : NuI p w s B :=
  ⟨(hb.block _ (by omega)).trans h.vp, (hb.block _ (by omega)).trans h.r1, (hb.block _ (by omega)).trans h.r2, h.bel.trans (hb.mono (by omega)), h.no⟩
theorem NuX.below {d : Dk} {p : Pl} {w : World} {t : Tk} {A B : World} {C : Nat} (h : NuX d p w t A) (hb : Below C A B) (hC : w.heap.size + 4 ≤ C) : NuX d p w t B :=
  ⟨(hb.block _ (by omega)).trans h.r1, (hb.block _ (by omega)).trans h.r2, h.bel.trans (hb.mono (by omega)), h.mem, h.at'⟩

theorem leaves20 (tmps : Array Value) (w Wf : World) (a b : Int) (R : Ending → World → Prop) (h4 : tmps.getD 4 undef = .pointer (some ⟨w.heap.size + 1 + 1, 0, none⟩)) (h5 : tmps.getD 5 undef = .pointer (some ⟨w.heap.size + 1 + 1 + 1, 0, none⟩))
    (e1 : Wf.heap[w.heap.size + 1 + 1]? = some (.cells #[.int .i64 a] 3 (0, 0))) (e2 : Wf.heap[w.heap.size + 1 + 1 + 1]? = some (.cells #[.int .i64 b] 32 (0, 0)))
    (hR : R (.returned (.tuple #[.int .i64 a, .int .i64 b])) Wf) : LeavesInM Fence.wide 0 Try.prog Try.f20 tmps R [] .returning Wf := by
  have c1 := fun j => cell_at (j := j) e1
  have c2 := fun j => cell_at (j := j) e2
  refine ⟨_, ?_, hR⟩
  simp only [Array.getD_eq_getD_getElem?] at h4 h5
  simp [results, Try.results20, go_sem, h4, h5, c1, c2]

attribute [local go_sem] Oper.semAt_some

set_option maxRecDepth 100000 in
set_option maxHeartbeats 1000000 in
theorem c20_ok (d : Dk) (ok : d.Ok) (a b s : Int) (w : World) (hz : Zs w d) :
    Calls Try.prog 20 #[d.v, .agg #[.int .i64 a, .int .i64 b, .int .i64 s]] w fun e w' => e = .returned (.tuple #[.int .i64 (numOf d (a, b, s)), .int .i64 (numErr d (a, b, s))]) ∧ Below w.heap.size w w' := by
  refine callsIn_wide.1 (callsIn_of_wp_marks (F := Fence.wide) (n := 0) Try.func20 rfl trivial ?_ rfl)
  simp only [Try.ntmps20, List.size_toArray, List.length_cons, List.length_nil, Nat.reduceAdd, Nat.reduceSub, Array.replicate_succ, Array.replicate_zero, List.push_toArray, List.append_toArray, List.nil_append, List.cons_append]
  gi_wp2_with (refine ⟨trivial, rfl, ?_⟩; gi_at_call 46; refine (callsIn_wide.2 (c46y d _ (by exact hz.below (by (repeat' (first | (with_reducible exact Below.refl _ _) | (with_reducible assumption) | (with_reducible refine Below.alloc ?_ ?_ _) | (with_reducible refine Below.drew ?_) | (with_reducible refine below_drewN ?_ _) | (with_reducible refine Below.setCell ?_ ?_ _) | (with_reducible refine Below.trans ?_ (Below.mono (by with_reducible assumption) ?_)) | go_size))) (Nat.le_refl _)) ok)).mono ?_; rintro e w1 ⟨rfl, hB1⟩; obtain ⟨hc1, hf1⟩ := bcell (hB1.mono (show w.heap.size + 4 ≤ _ by first | omega | ((try simp only [World.size_alloc, World.size_drew, World.size_setCell]); omega))); have hz1 : w.heap.size + 3 < w1.heap.size := by (have := hB1.size; (try simp only [World.size_alloc, World.size_drew, World.size_setCell] at this); omega))
  obtain ⟨W0, hW0⟩ : ∃ W0 : World, W0 = w1.alloc (.cells d.ck.cells 73) := ⟨_, rfl⟩
  have hs0 : w.heap.size + 4 < W0.heap.size := by rw [hW0]; simp; omega
  have hb0 : Below w.heap.size w W0 := by rw [hW0]; (repeat' (first | (with_reducible exact Below.refl _ _) | (with_reducible assumption) | (with_reducible refine Below.alloc ?_ ?_ _) | (with_reducible refine Below.drew ?_) | (with_reducible refine below_drewN ?_ _) | (with_reducible refine Below.setCell ?_ ?_ _) | (with_reducible refine Below.trans ?_ (Below.mono (by with_reducible assumption) ?_)) | go_size))
  have hI0 : NuI (a, b, s) w [] W0 := by
    rw [hW0]
    have hx : ∀ k, k < w.heap.size + 4 → (w1.alloc (.cells d.ck.cells 73)).heap[k]? = ((((w.alloc (.cells #[.int .i64 d.hd, .int .i64 d.tu, .slice d.za d.zs.length d.zc, .int .i64 d.hs, .int .i64 d.cs, .int .i64 d.hl, .int .i64 d.hh, .int .i64 d.cl, .int .i64 d.ch] 26)).alloc (.cells #[.int .i64 a, .int .i64 b, .int .i64 s] 28)).alloc (.cells #[.int .i64 0] 3)).alloc (.cells #[.int .i64 0] 32)).heap[k]? := fun k hk => (Below.heap_alloc _ _ _ (by omega)).trans (hB1.block k (by simp; omega))
    refine ⟨?_, ?_, ?_, by (repeat' (first | (with_reducible exact Below.refl _ _) | (with_reducible assumption) | (with_reducible refine Below.alloc ?_ ?_ _) | (with_reducible refine Below.drew ?_) | (with_reducible refine below_drewN ?_ _) | (with_reducible refine Below.setCell ?_ ?_ _) | (with_reducible refine Below.trans ?_ (Below.mono (by with_reducible assumption) ?_)) | go_size)), by simp⟩
    · rw [hx _ (by omega), Below.heap_alloc _ _ _ (by simp), Below.heap_alloc _ _ _ (by simp)]; have := heap_new (w.alloc (.cells #[.int .i64 d.hd, .int .i64 d.tu, .slice d.za d.zs.length d.zc, .int .i64 d.hs, .int .i64 d.cs, .int .i64 d.hl, .int .i64 d.hh, .int .i64 d.cl, .int .i64 d.ch] 26)) (.cells #[.int .i64 a, .int .i64 b, .int .i64 s] 28); rwa [World.size_alloc] at this
    · rw [hx _ (by omega), Below.heap_alloc _ _ _ (by simp)]; have := heap_new ((w.alloc (.cells #[.int .i64 d.hd, .int .i64 d.tu, .slice d.za d.zs.length d.zc, .int .i64 d.hs, .int .i64 d.cs, .int .i64 d.hl, .int .i64 d.hh, .int .i64 d.cl, .int .i64 d.ch] 26)).alloc (.cells #[.int .i64 a, .int .i64 b, .int .i64 s] 28)) (.cells #[.int .i64 0] 3); rwa [World.size_alloc, World.size_alloc] at this
    · rw [hx _ (by omega)]; have := heap_new (((w.alloc (.cells #[.int .i64 d.hd, .int .i64 d.tu, .slice d.za d.zs.length d.zc, .int .i64 d.hs, .int .i64 d.cs, .int .i64 d.hl, .int .i64 d.hh, .int .i64 d.cl, .int .i64 d.ch] 26)).alloc (.cells #[.int .i64 a, .int .i64 b, .int .i64 s] 28)).alloc (.cells #[.int .i64 0] 3)) (.cells #[.int .i64 0] 32); rwa [World.size_alloc, World.size_alloc, World.size_alloc] at this
  rw [show w1.alloc (.cells #[.int .i64 d.ck.d.hd, .int .i64 d.ck.d.tu, .slice d.ck.d.za d.ck.d.zs.length d.ck.d.zc, .int .i64 d.ck.d.hs, .int .i64 d.ck.d.cs, .int .i64 d.ck.d.hl, .int .i64 d.ck.d.hh, .int .i64 d.ck.d.cl, .int .i64 d.ck.d.ch, .int .i64 d.ck.l0, .int .i64 d.ck.h0, .int .i64 d.ck.s0, .int .i64 d.ck.l1, .int .i64 d.ck.h1, .int .i64 d.ck.s1] 73) = W0 from hW0.symm]
  clear hW0 hc1 hf1
  refine rf_law (S := fun k => k = w.heap.size + 2 ∨ k = w.heap.size + 3) (xs := tracksOf d.ck) (encs := fun t : Tk => #[t.v]) (gf := 49) (la := #[d.ck.v]) (lb := #[]) rfl (enters_of Try.func49 (by kernel_rfl) rfl) (fun _ => rfl) (fun k hk => by omega)
    (fun W hb hs => tracks_it d.ck ok.ck _ W ((hz.below hb0 (Nat.le_refl _)).below hb (Nat.le_refl _)) (fun k hk => ⟨by omega, fun e => by have := hz.lt 0 (by have := ok.zl1; omega); have e' : k = d.zb := e; omega⟩))
    (NuI (a, b, s) w) (NuJ d (a, b, s) w) (fun s A B h hb => h.below hb (by omega)) (fun j A B h hb => ⟨h.1, h.2.imp fun _ hx => hx.below hb (by omega)⟩) hI0 ?round ?done ?stop
  case round =>
    rintro pre x W hi hpre hsz
    have hxm := hpre.subset (List.mem_append_right _ (List.mem_cons_self (a := x) (l := [])))
    have hxo := tracks_ok ok.ck hxm
    gi_wp2
    refine ⟨(Keep.refl _ _).alloc _, hi.below ((Below.refl W0.heap.size W).alloc (by omega) _) (by omega), fun W₂ hs2 ho hi2 => ?_⟩
    have hvb := var_block (by omega) ho
    have ht := fun j => cell_at (j := j) hvb
    have hcn := fun j => cell_at (j := j) hi2.vp
    have hcr : ∀ j, W₂.cell? ⟨w.heap.size + 1 + 1, j, none⟩ = _ := fun j => cell_at (j := j) hi2.r1
    have hcb : ∀ j, W₂.cell? ⟨w.heap.size + 1 + 1 + 1, j, none⟩ = _ := fun j => cell_at (j := j) hi2.r2
    have hfr : ∀ j, W₂.frozen? ⟨w.heap.size + 1 + 1, j, none⟩ = false := fun j => frozen_at (j := j) hi2.r1
    have hfb : ∀ j, W₂.frozen? ⟨w.heap.size + 1 + 1 + 1, j, none⟩ = false := fun j => frozen_at (j := j) hi2.r2
    have hcnt := ok.cntB
    have q1 := hxo.fi0; have q2 := hxo.se1; have q3 := hxo.se2; have q4 : x.fi + x.se ≤ d.count := hxo.en
    have hnoh : Hid (¬ x.at (a, b, s) → ∀ u ∈ pre ++ [x], ¬ u.at (a, b, s)) := hid (fun h u hu => by
      rcases List.mem_append.1 hu with h4 | h4
      · exact hi2.no u h4
      · rw [List.mem_singleton.1 h4]; exact h)
    simp only [World.size_alloc] at hs2
    clear ho hs2
    by_cases g1 : x.cy = a
    · by_cases g2 : x.hd = b
      · have b1 : (x.cy == a) = true := by simpa using g1
        have b2 : (x.hd == b) = true := by simpa using g2
        by_cases g3 : 0 ≤ s ∧ s ≤ x.se - 1
        · have hat : Hid (x.at (a, b, s)) := hid ⟨g1, g2, g3.1, by show s < x.se; omega⟩
          clear g1 g2
          gi_wp2_with (refine ⟨trivial, rfl, ?_⟩; gi_at_call 50; refine (CallsIn.inRound _ (callsIn_wide.2 (c50y _ (by omega)))).mono ?_; rintro e w9 ⟨rfl, rfl⟩)
          refine ⟨?_, rfl, x, ⟨?_, ?_, ?_, hxm, hat.out⟩⟩
          · repeat' (first | (with_reducible refine Keep.setCell ?_ (by first | exact .inl (.inl rfl) | exact .inl (.inr rfl)) _) | exact Keep.refl _ _)
          · rw [Below.heap_setCell _ _ _ _ (by dsimp only; omega)]; exact heap_setCell_same hi2.r1 _
          · refine (heap_setCell_same (cs := #[.int .i64 0]) (e := 32) (f := (0, 0)) ?_ _)
            rw [Below.heap_setCell _ _ _ _ (by dsimp only; omega)]
            exact hi2.r2
          · have := hi2.bel
            (repeat' (first | (with_reducible exact Below.refl _ _) | (with_reducible assumption) | (with_reducible refine Below.alloc ?_ ?_ _) | (with_reducible refine Below.drew ?_) | (with_reducible refine below_drewN ?_ _) | (with_reducible refine Below.setCell ?_ ?_ _) | (with_reducible refine Below.trans ?_ (Below.mono (by with_reducible assumption) ?_)) | go_size))
        · have hat : Hid (¬ x.at (a, b, s)) := hid (fun h => g3 ⟨h.2.2.1, by have : s < x.se := h.2.2.2; omega⟩)
          clear g1 g2
          gi_wp2_with (refine ⟨trivial, rfl, ?_⟩; gi_at_call 50; refine (CallsIn.inRound _ (callsIn_wide.2 (c50n _ (by omega)))).mono ?_; rintro e w9 ⟨rfl, rfl⟩)
          exact ⟨Keep.refl _ _, hi2.vp, hi2.r1, hi2.r2, hi2.bel, hnoh.out hat.out⟩
      · have b1 : (x.cy == a) = true := by simpa using g1
        have b2 : (x.hd == b) = false := by simpa using g2
        have hat : Hid (¬ x.at (a, b, s)) := hid (fun h => g2 h.2.1)
        clear g1 g2
        gi_wp2
        refine ⟨trivial, ?_⟩
        gi_wp2
        exact ⟨Keep.refl _ _, hi2.vp, hi2.r1, hi2.r2, hi2.bel, hnoh.out hat.out⟩
    · have b1 : (x.cy == a) = false := by simpa using g1
      have hat : Hid (¬ x.at (a, b, s)) := hid (fun h => g1 h.1)
      clear g1
      gi_wp2
      refine ⟨trivial, ?_⟩
      gi_wp2
      exact ⟨Keep.refl _ _, hi2.vp, hi2.r1, hi2.r2, hi2.bel, hnoh.out hat.out⟩
  case done =>
    rintro W hi hK hsz
    have hcr : ∀ j, W.cell? ⟨w.heap.size + 1 + 1, j, none⟩ = _ := fun j => cell_at (j := j) hi.r1
    have hcb : ∀ j, W.cell? ⟨w.heap.size + 1 + 1 + 1, j, none⟩ = _ := fun j => cell_at (j := j) hi.r2
    have hfr : ∀ j, W.frozen? ⟨w.heap.size + 1 + 1, j, none⟩ = false := fun j => frozen_at (j := j) hi.r1
    have hfb : ∀ j, W.frozen? ⟨w.heap.size + 1 + 1 + 1, j, none⟩ = false := fun j => frozen_at (j := j) hi.r2
    have hnn := hid (num_none ok hi.no)
    gi_wp2
    refine ⟨by simp, .inl ⟨_, _, rfl, run_takeDeferred (ds := []) ?_, ?_⟩⟩
    · (repeat rw [Below.heap_setCell _ _ _ _ (by dsimp only; omega)]); exact hK
    · refine leaves20 _ w _ _ _ _ rfl rfl ?_ ?_ ⟨by rw [hnn.out.1, hnn.out.2], Below.putObj' ?_ _ _ (by omega)⟩
      · rw [World.putObj_heap_other (by omega), Below.heap_setCell _ _ _ _ (by dsimp only; omega)]; exact heap_setCell_same hi.r1 _
      · rw [World.putObj_heap_other (by omega)]
        refine (heap_setCell_same (cs := #[.int .i64 0]) (e := 32) (f := (0, 0)) ?_ _)
        rw [Below.heap_setCell _ _ _ _ (by dsimp only; omega)]
        exact hi.r2
      · have := hi.bel
        (repeat' (first | (with_reducible exact Below.refl _ _) | (with_reducible assumption) | (with_reducible refine Below.alloc ?_ ?_ _) | (with_reducible refine Below.drew ?_) | (with_reducible refine below_drewN ?_ _) | (with_reducible refine Below.setCell ?_ ?_ _) | (with_reducible refine Below.trans ?_ (Below.mono (by with_reducible assumption) ?_)) | go_size))
  case stop =>
    rintro j W ⟨rfl, t, hx⟩ hK hsz
    have hnn := hid (num_at ok hx.mem hx.at')
    gi_wp2
    refine ⟨by simp, .inl ⟨_, _, rfl, run_takeDeferred (ds := []) hK, ?_⟩⟩
    refine leaves20 _ w _ _ _ _ rfl rfl ?_ ?_ ⟨by rw [hnn.out.1, hnn.out.2], Below.putObj' hx.bel _ _ (by omega)⟩
    · rw [World.putObj_heap_other (by omega)]; exact hx.r1
    · rw [World.putObj_heap_other (by omega)]; exact hx.r2
end Go.Proofs.Ythkbiplmfbcabaa
