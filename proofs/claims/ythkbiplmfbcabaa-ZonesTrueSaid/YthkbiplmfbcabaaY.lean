/- Stage 1: the track of a sector. -/
import Derived.Test.YthkbiplmfbcabaaV
import Derived.Test.YthkbiplmfbcabaaX
import Derived.Test.YthkbiplmfbcabaaQ
set_option linter.unusedSimpArgs false
set_option linter.unusedVariables false
namespace Go.Proofs.Ythkbiplmfbcabaa
open Go.RowKit Go.Shelf Go.Sort

theorem c50yB {n l h : Int} (w : World) (p : l ≤ n ∧ n ≤ h) : Calls Try.prog 50 #[.int .i64 n, .int .i64 l, .int .i64 h] w fun e w' => e = .returned (.bool true) ∧ Below w.heap.size w w' :=
  (c50y w p).mono fun _ _ ⟨he, hw⟩ => ⟨he, hw ▸ Below.refl _ _⟩
theorem c50nB {n l h : Int} (w : World) (p : ¬ (l ≤ n ∧ n ≤ h)) : Calls Try.prog 50 #[.int .i64 n, .int .i64 l, .int .i64 h] w fun e w' => e = .returned (.bool false) ∧ Below w.heap.size w w' :=
  (c50n w p).mono fun _ _ ⟨he, hw⟩ => ⟨he, hw ▸ Below.refl _ _⟩

def Tk.has (t : Tk) (n : Int) : Prop := t.fi ≤ n ∧ n < t.fi + t.se

theorem cover (c : Ck) (cok : c.Ok) (n : Int) (n0 : 0 ≤ n) (y h : Nat) (hy : (y : Int) < c.d.cyls) (hh : (h : Int) ≤ c.d.hd) (hn : n < firstOf c y h) : ∃ t ∈ trkC c y ++ trkH c y h, t.has n := by
  induction y generalizing h with
  | zero =>
    induction h with
    | zero => exact absurd hn (by show ¬ n < firstOf c 0 0; have : firstOf c 0 0 = 0 := rfl; omega)
    | succ h ih =>
      have h2 := cok.ok.sec (c := ((0 : Nat) : Int)) (by omega) hy
      rw [firstOf_succ c 0 h (by omega)] at hn
      rcases Int.lt_or_le n (firstOf c 0 h) with h1 | h1
      · obtain ⟨t, ht, hb⟩ := ih (by omega) h1
        refine ⟨t, ?_, hb⟩
        rw [trkH_succ]
        simp only [List.mem_append] at ht ⊢
        rcases ht with ht | ht
        · exact .inl ht
        · exact .inr (.inl ht)
      · exact ⟨trk c 0 h, by rw [trkH_succ]; simp, h1, hn⟩
  | succ y ihy =>
    induction h with
    | zero =>
      rw [← firstOf_next] at hn
      obtain ⟨t, ht, hb⟩ := ihy c.d.hd.toNat (by omega) (by have := cok.ok.hd1; omega) hn
      exact ⟨t, by rw [trkC_succ]; simpa [trkH_zero] using ht, hb⟩
    | succ h ih =>
      have h2 := cok.ok.sec (c := ((y + 1 : Nat) : Int)) (by omega) hy
      rw [firstOf_succ c (y + 1) h (by omega)] at hn
      rcases Int.lt_or_le n (firstOf c (y + 1) h) with h1 | h1
      · obtain ⟨t, ht, hb⟩ := ih (by omega) h1
        refine ⟨t, ?_, hb⟩
        rw [trkH_succ]
        simp only [List.mem_append] at ht ⊢
        rcases ht with ht | ht
        · exact .inl ht
        · exact .inr (.inl ht)
      · exact ⟨trk c (y + 1) h, by rw [trkH_succ]; simp, h1, hn⟩

theorem cyls_pos {d : Dk} (ok : d.Ok) : 1 ≤ d.cyls := by
  have h1 := ok.zl1
  have h2 := psum_le (f := cylF) (fun z hz => by have := (ok.zok z hz).1; unfold cylF; omega) 1 h1
  rw [psum_succ cylF (show 0 < d.zs.length by omega), psum_zero] at h2
  have h3 := (ok.zok _ (List.getElem_mem (show 0 < d.zs.length by omega))).1
  rw [show cylF d.zs[0] = d.zs[0].1 from rfl] at h2
  unfold Dk.cyls
  omega

theorem tracks_cover (c : Ck) (cok : c.Ok) (n : Int) (n0 : 0 ≤ n) (n1 : n < c.d.count) : ∃ t ∈ tracksOf c, t.has n := by
  have hp := cyls_pos cok.ok
  have hd1 := cok.ok.hd1
  obtain ⟨k, hk⟩ : ∃ k, c.d.cyls.toNat = k + 1 := ⟨c.d.cyls.toNat - 1, by omega⟩
  have h4 := cok.ok.lenPl
  have h5 := cok.ok.cntB
  unfold lenPlaces places at h4
  rw [hk, plC_succ] at h4
  obtain ⟨t, ht, hb⟩ := cover c cok n n0 k c.d.hd.toNat (by omega) (by omega) (by unfold firstOf; omega)
  refine ⟨t, ?_, hb⟩
  unfold tracksOf
  rw [hk, trkC_succ]
  exact ht

theorem put7 {w : World} {b : Nat} {e : TypeId} {f : Nat × Nat} {z0 z1 z2 z3 z4 z5 z6 v0 v1 v2 v3 v4 v5 v6 : Value} (h : w.heap[b]? = some (.cells #[z0, z1, z2, z3, z4, z5, z6] e f)) :
    (((((((w.setCell ⟨b, 0, none⟩ v0).setCell ⟨b, 1, none⟩ v1).setCell ⟨b, 2, none⟩ v2).setCell ⟨b, 3, none⟩ v3).setCell ⟨b, 4, none⟩ v4).setCell ⟨b, 5, none⟩ v5).setCell ⟨b, 6, none⟩ v6).heap[b]? = some (.cells #[v0, v1, v2, v3, v4, v5, v6] e f) := by
  have h0 := heap_setCell_same (j := 0) h v0
  rw [show (#[z0, z1, z2, z3, z4, z5, z6] : Array Value).setIfInBounds 0 v0 = #[v0, z1, z2, z3, z4, z5, z6] from rfl] at h0
  have h1 := heap_setCell_same (j := 1) h0 v1
  rw [show (#[v0, z1, z2, z3, z4, z5, z6] : Array Value).setIfInBounds 1 v1 = #[v0, v1, z2, z3, z4, z5, z6] from rfl] at h1
  have h2 := heap_setCell_same (j := 2) h1 v2
  rw [show (#[v0, v1, z2, z3, z4, z5, z6] : Array Value).setIfInBounds 2 v2 = #[v0, v1, v2, z3, z4, z5, z6] from rfl] at h2
  have h3 := heap_setCell_same (j := 3) h2 v3
  rw [show (#[v0, v1, v2, z3, z4, z5, z6] : Array Value).setIfInBounds 3 v3 = #[v0, v1, v2, v3, z4, z5, z6] from rfl] at h3
  have h4 := heap_setCell_same (j := 4) h3 v4
  rw [show (#[v0, v1, v2, v3, z4, z5, z6] : Array Value).setIfInBounds 4 v4 = #[v0, v1, v2, v3, v4, z5, z6] from rfl] at h4
  have h5 := heap_setCell_same (j := 5) h4 v5
  rw [show (#[v0, v1, v2, v3, v4, z5, z6] : Array Value).setIfInBounds 5 v5 = #[v0, v1, v2, v3, v4, v5, z6] from rfl] at h5
  have h6 := heap_setCell_same (j := 6) h5 v6
  rw [show (#[v0, v1, v2, v3, v4, v5, z6] : Array Value).setIfInBounds 6 v6 = #[v0, v1, v2, v3, v4, v5, v6] from rfl] at h6
  exact h6

def TrRet (c : Ck) (n : Int) (w : World) (e : Ending) (w' : World) : Prop :=
  ((∃ t ∈ tracksOf c, t.has n ∧ e = .returned (.tuple #[t.v, .bool true])) ∨
   (¬ (0 ≤ n ∧ n < c.d.count) ∧ e = .returned (.tuple #[.agg #[.int .i64 0, .int .i64 0, .int .i64 0, .int .i64 0, .int .i64 0, .int .i64 0, .int .i64 0], .bool false]))) ∧ Below w.heap.size w w'

structure TrI (c : Ck) (n : Int) (w : World) (s : List Tk) (W : World) : Prop where
  vn : W.heap[w.heap.size + 1]? = some (.cells #[.int .i64 n] 3 (0, 0))
  rt : W.heap[w.heap.size + 2]? = some (.cells #[.int .i64 0, .int .i64 0, .int .i64 0, .int .i64 0, .int .i64 0, .int .i64 0, .int .i64 0] 82 (0, 0))
  rb : W.heap[w.heap.size + 3]? = some (.cells #[.bool false] 4 (0, 0))
  bel : Below w.heap.size w W
  no : ∀ t ∈ s, ¬ t.has n
structure TrX (c : Ck) (n : Int) (w : World) (t : Tk) (W : World) : Prop where
  rt : W.heap[w.heap.size + 2]? = some (.cells t.cells 82 (0, 0))
  rb : W.heap[w.heap.size + 3]? = some (.cells #[.bool true] 4 (0, 0))
  bel : Below w.heap.size w W
  mem : t ∈ tracksOf c
  has : t.has n
def TrJ (c : Ck) (n : Int) (w : World) (j : Code) (W : World) : Prop := j = .ret ∧ ∃ t, TrX c n w t W
theorem TrI.below {c : Ck} {n : Int} {w : World} {s : List Tk} {A B : World} {C : Nat} (h : TrI c n w s A) (hb : Below C A B) (hC : w.heap.size + 4 ≤ C) : TrI c n w s B :=
  ⟨(hb.block _ (by omega)).trans h.vn, (hb.block _ (by omega)).trans h.rt, (hb.block _ (by omega)).trans h.rb, h.bel.trans (hb.mono (by omega)), h.no⟩
theorem TrX.below {c : Ck} {n : Int} {w : World} {t : Tk} {A B : World} {C : Nat} (h : TrX c n w t A) (hb : Below C A B) (hC : w.heap.size + 4 ≤ C) : TrX c n w t B :=
  ⟨(hb.block _ (by omega)).trans h.rt, (hb.block _ (by omega)).trans h.rb, h.bel.trans (hb.mono (by omega)), h.mem, h.has⟩

theorem leaves52 (tmps : Array Value) (w Wf : World) (v0 v1 v2 v3 v4 v5 v6 : Value) (b : Bool) (R : Ending → World → Prop) (h4 : tmps.getD 4 undef = .pointer (some ⟨w.heap.size + 1 + 1, 0, none⟩)) (h5 : tmps.getD 5 undef = .pointer (some ⟨w.heap.size + 1 + 1 + 1, 0, none⟩))
    (e1 : Wf.heap[w.heap.size + 1 + 1]? = some (.cells #[v0, v1, v2, v3, v4, v5, v6] 82 (0, 0))) (e2 : Wf.heap[w.heap.size + 1 + 1 + 1]? = some (.cells #[.bool b] 4 (0, 0)))
    (hR : R (.returned (.tuple #[.agg #[v0, v1, v2, v3, v4, v5, v6], .bool b])) Wf) : LeavesInM Fence.wide 0 Try.prog Try.f52 tmps R [] .returning Wf := by
  have c1 := fun j => cell_at (j := j) e1
  have c2 := fun j => cell_at (j := j) e2
  refine ⟨_, ?_, hR⟩
  simp only [Array.getD_eq_getD_getElem?] at h4 h5
  simp [results, Try.results52, go_sem, h4, h5, c1, c2]

attribute [local go_sem] Oper.semAt_some

set_option maxRecDepth 100000 in
set_option maxHeartbeats 1000000 in
theorem c52 (c : Ck) (cok : c.Ok) (n : Int) (w : World) (hz : Zs w c.d) :
    Calls Try.prog 52 #[c.v, .int .i64 n] w (TrRet c n w) := by
  refine callsIn_wide.1 (callsIn_of_wp_marks (F := Fence.wide) (n := 0) Try.func52 rfl trivial ?_ rfl)
  simp only [Try.ntmps52, List.size_toArray, List.length_cons, List.length_nil, Nat.reduceAdd, Nat.reduceSub, Array.replicate_succ, Array.replicate_zero, List.push_toArray, List.append_toArray, List.nil_append, List.cons_append]
  gi_wp2
  obtain ⟨W0, hW0⟩ : ∃ W0 : World, W0 = (((w.alloc (.cells c.cells 73)).alloc (.cells #[.int .i64 n] 3)).alloc (.cells #[.int .i64 0, .int .i64 0, .int .i64 0, .int .i64 0, .int .i64 0, .int .i64 0, .int .i64 0] 82)).alloc (.cells #[.bool false] 4) := ⟨_, rfl⟩
  rw [← hW0]
  have hs0 : W0.heap.size = w.heap.size + 4 := by rw [hW0]; simp
  have hb0 : Below w.heap.size w W0 := by rw [hW0]; (repeat' (first | (with_reducible exact Below.refl _ _) | (with_reducible assumption) | (with_reducible refine Below.alloc ?_ ?_ _) | (with_reducible refine Below.drew ?_) | (with_reducible refine below_drewN ?_ _) | (with_reducible refine Below.setCell ?_ ?_ _) | (with_reducible refine Below.trans ?_ (Below.mono (by with_reducible assumption) ?_)) | go_size))
  have hI0 : TrI c n w [] W0 := by
    rw [hW0]
    refine ⟨?_, ?_, ?_, by (repeat' (first | (with_reducible exact Below.refl _ _) | (with_reducible assumption) | (with_reducible refine Below.alloc ?_ ?_ _) | (with_reducible refine Below.drew ?_) | (with_reducible refine below_drewN ?_ _) | (with_reducible refine Below.setCell ?_ ?_ _) | (with_reducible refine Below.trans ?_ (Below.mono (by with_reducible assumption) ?_)) | go_size)), by simp⟩
    · rw [Below.heap_alloc _ _ _ (by simp), Below.heap_alloc _ _ _ (by simp)]; have := heap_new (w.alloc (.cells c.cells 73)) (.cells #[.int .i64 n] 3); rwa [World.size_alloc] at this
    · rw [Below.heap_alloc _ _ _ (by simp)]; have := heap_new ((w.alloc (.cells c.cells 73)).alloc (.cells #[.int .i64 n] 3)) (.cells #[.int .i64 0, .int .i64 0, .int .i64 0, .int .i64 0, .int .i64 0, .int .i64 0, .int .i64 0] 82); rwa [World.size_alloc, World.size_alloc] at this
    · have := heap_new (((w.alloc (.cells c.cells 73)).alloc (.cells #[.int .i64 n] 3)).alloc (.cells #[.int .i64 0, .int .i64 0, .int .i64 0, .int .i64 0, .int .i64 0, .int .i64 0, .int .i64 0] 82)) (.cells #[.bool false] 4); rwa [World.size_alloc, World.size_alloc, World.size_alloc] at this
  clear hW0
  refine rf_law (S := fun k => k = w.heap.size + 2 ∨ k = w.heap.size + 3) (xs := tracksOf c) (encs := fun t : Tk => #[t.v]) (gf := 49) (la := #[c.v]) (lb := #[]) rfl (enters_of Try.func49 (by kernel_rfl) rfl) (fun _ => rfl) (fun k hk => by omega)
    (fun W hb hs => tracks_it c cok _ W ((hz.below hb0 (Nat.le_refl _)).below hb (Nat.le_refl _)) (fun k hk => ⟨by omega, fun e => by have := hz.lt 0 (by have := cok.ok.zl1; omega); omega⟩))
    (TrI c n w) (TrJ c n w) (fun s A B h hb => h.below hb (by omega)) (fun j A B h hb => ⟨h.1, h.2.imp fun _ hx => hx.below hb (by omega)⟩) hI0 ?round ?done ?stop
  case round =>
    rintro pre x W hi hpre hsz
    have hxm := hpre.subset (List.mem_append_right _ (List.mem_cons_self (a := x) (l := [])))
    have hxo := tracks_ok cok hxm
    gi_wp2
    refine ⟨(Keep.refl _ _).alloc _, hi.below ((Below.refl W0.heap.size W).alloc (by omega) _) (by omega), fun W₂ hs2 ho hi2 => ?_⟩
    have hvb := var_block (by omega) ho
    have ht := fun j => cell_at (j := j) hvb
    have hcn := fun j => cell_at (j := j) hi2.vn
    have hcr : ∀ j, W₂.cell? ⟨w.heap.size + 1 + 1, j, none⟩ = _ := fun j => cell_at (j := j) hi2.rt
    have hcb : ∀ j, W₂.cell? ⟨w.heap.size + 1 + 1 + 1, j, none⟩ = _ := fun j => cell_at (j := j) hi2.rb
    have hfr : ∀ j, W₂.frozen? ⟨w.heap.size + 1 + 1, j, none⟩ = false := fun j => frozen_at (j := j) hi2.rt
    have hfb : ∀ j, W₂.frozen? ⟨w.heap.size + 1 + 1 + 1, j, none⟩ = false := fun j => frozen_at (j := j) hi2.rb
    have hcnt := cok.ok.cntB
    have q1 := hxo.fi0; have q2 := hxo.se1; have q3 := hxo.se2; have q4 := hxo.en
    simp only [World.size_alloc] at hs2
    have hsz2 : w.heap.size + 3 < W₂.heap.size := by omega
    have hsz3 : W.heap.size < W₂.heap.size := by omega
    have hsz4 : w.heap.size + 1 < W₂.heap.size := by omega
    have hsz5 : w.heap.size + 1 + 1 < W₂.heap.size := by omega
    have hsz6 : w.heap.size + 1 + 1 + 1 < W₂.heap.size := by omega
    clear ho hs2
    have hwr : IntKind.i64.wrap (x.fi + x.se - 1) = x.fi + x.se - 1 := i64w _ (by omega) (by omega)
    have k1 := cells_regrown hi2.vn
    have k2 := cells_regrown hvb
    by_cases hh : x.fi ≤ n ∧ n < x.fi + x.se
    · gi_wp2
      refine round_region_below (by kernel_rfl) (by kernel_rfl) ?_; (repeat (refine wpQuietIn_step (fun _ _ _ _ => trivial) (fun K hK => ?_); go_simp; first | (refine hK _ ?_; clear hK K) | (apply Exists.intro; refine ⟨fun _ => ?_, hK _ ?_⟩; (first | exact ⟨rfl, CallsIn.regrown_of (CallsIn.inRound _ (callsIn_wide.2 (c67 x _ (by omega) (by omega) (by omega) (by omega))))⟩ | exact ⟨rfl, CallsIn.regrown_of (CallsIn.inRound _ (callsIn_wide.2 (c50yB _ (by omega))))⟩); clear hK K))); refine wpQuietIn_nil ?_; intro _ hw; obtain ⟨q, hwq⟩ := hw; subst hwq
      have hB3 := below_regrown W₂ q.d q.os
      generalize grow (redrawn W₂ q.d) q.os = w3 at hB3 ⊢
      have h3 := hi2.below hB3 (by omega)
      have hv3 := (hB3.block _ hsz3).trans hvb
      have ht3 := fun j => cell_at (j := j) hv3
      have hcr3 : ∀ j, w3.cell? ⟨w.heap.size + 1 + 1, j, none⟩ = _ := fun j => cell_at (j := j) h3.rt
      have hcb3 : ∀ j, w3.cell? ⟨w.heap.size + 1 + 1 + 1, j, none⟩ = _ := fun j => cell_at (j := j) h3.rb
      have hfr3 : ∀ j, w3.frozen? ⟨w.heap.size + 1 + 1, j, none⟩ = false := fun j => frozen_at (j := j) h3.rt
      have hfb3 : ∀ j, w3.frozen? ⟨w.heap.size + 1 + 1 + 1, j, none⟩ = false := fun j => frozen_at (j := j) h3.rb
      clear hi2 ht hcn hcr hcb hfr hfb k1 k2 hvb
      gi_wp2
      refine ⟨?_, rfl, x, ⟨?_, ?_, ?_, hxm, hh⟩⟩
      · repeat' (first | (with_reducible refine Keep.setCell ?_ (by first | exact .inl (.inl rfl) | exact .inl (.inr rfl)) _) | exact Keep.of_below hB3 (Nat.le_refl _))
      · rw [Below.heap_setCell _ _ _ _ (by dsimp only; omega)]; exact put7 h3.rt
      · refine (heap_setCell_same (cs := #[.bool false]) (e := 4) (f := (0, 0)) ?_ _)
        rw [Below.heap_setCell _ _ _ _ (by dsimp only; omega), Below.heap_setCell _ _ _ _ (by dsimp only; omega), Below.heap_setCell _ _ _ _ (by dsimp only; omega), Below.heap_setCell _ _ _ _ (by dsimp only; omega), Below.heap_setCell _ _ _ _ (by dsimp only; omega), Below.heap_setCell _ _ _ _ (by dsimp only; omega), Below.heap_setCell _ _ _ _ (by dsimp only; omega)]
        exact h3.rb
      · have := h3.bel
        (repeat' (first | (with_reducible exact Below.refl _ _) | (with_reducible assumption) | (with_reducible refine Below.alloc ?_ ?_ _) | (with_reducible refine Below.drew ?_) | (with_reducible refine below_drewN ?_ _) | (with_reducible refine Below.setCell ?_ ?_ _) | (with_reducible refine Below.trans ?_ (Below.mono (by with_reducible assumption) ?_)) | go_size))
    · gi_wp2
      refine round_region_below (by kernel_rfl) (by kernel_rfl) ?_; (repeat (refine wpQuietIn_step (fun _ _ _ _ => trivial) (fun K hK => ?_); go_simp; first | (refine hK _ ?_; clear hK K) | (apply Exists.intro; refine ⟨fun _ => ?_, hK _ ?_⟩; (first | exact ⟨rfl, CallsIn.regrown_of (CallsIn.inRound _ (callsIn_wide.2 (c67 x _ (by omega) (by omega) (by omega) (by omega))))⟩ | exact ⟨rfl, CallsIn.regrown_of (CallsIn.inRound _ (callsIn_wide.2 (c50nB _ (by omega))))⟩); clear hK K))); refine wpQuietIn_nil ?_; intro _ hw; obtain ⟨q, hwq⟩ := hw; subst hwq
      have hB3 := below_regrown W₂ q.d q.os
      generalize grow (redrawn W₂ q.d) q.os = w3 at hB3 ⊢
      have h3 := hi2.below hB3 (by omega)
      have hv3 := (hB3.block _ hsz3).trans hvb
      have ht3 := fun j => cell_at (j := j) hv3
      have hcr3 : ∀ j, w3.cell? ⟨w.heap.size + 1 + 1, j, none⟩ = _ := fun j => cell_at (j := j) h3.rt
      have hcb3 : ∀ j, w3.cell? ⟨w.heap.size + 1 + 1 + 1, j, none⟩ = _ := fun j => cell_at (j := j) h3.rb
      have hfr3 : ∀ j, w3.frozen? ⟨w.heap.size + 1 + 1, j, none⟩ = false := fun j => frozen_at (j := j) h3.rt
      have hfb3 : ∀ j, w3.frozen? ⟨w.heap.size + 1 + 1 + 1, j, none⟩ = false := fun j => frozen_at (j := j) h3.rb
      clear hi2 ht hcn hcr hcb hfr hfb k1 k2 hvb
      gi_wp2
      refine ⟨Keep.of_below hB3 (Nat.le_refl _), h3.vn, h3.rt, h3.rb, h3.bel, fun t htm => ?_⟩
      rcases List.mem_append.1 htm with h4 | h4
      · exact h3.no t h4
      · obtain rfl := List.mem_singleton.1 h4
        exact hh
  case done =>
    rintro W hi hK hsz
    have hcr : ∀ j, W.cell? ⟨w.heap.size + 1 + 1, j, none⟩ = _ := fun j => cell_at (j := j) hi.rt
    have hcb : ∀ j, W.cell? ⟨w.heap.size + 1 + 1 + 1, j, none⟩ = _ := fun j => cell_at (j := j) hi.rb
    have hfr : ∀ j, W.frozen? ⟨w.heap.size + 1 + 1, j, none⟩ = false := fun j => frozen_at (j := j) hi.rt
    have hfb : ∀ j, W.frozen? ⟨w.heap.size + 1 + 1 + 1, j, none⟩ = false := fun j => frozen_at (j := j) hi.rb
    have hsz3 : w.heap.size + 1 + 1 + 1 < W.heap.size := by omega
    gi_wp2
    refine ⟨by simp, .inl ⟨_, _, rfl, run_takeDeferred (ds := []) ?_, ?_⟩⟩
    · (repeat rw [Below.heap_setCell _ _ _ _ (by dsimp only; omega)]); exact hK
    · refine leaves52 _ w _ _ _ _ _ _ _ _ _ _ rfl rfl ?_ ?_ ⟨.inr ⟨fun hn => ?_, rfl⟩, Below.putObj' ?_ _ _ (by omega)⟩
      · rw [World.putObj_heap_other (by omega), Below.heap_setCell _ _ _ _ (by dsimp only; omega)]; exact put7 hi.rt
      · rw [World.putObj_heap_other (by omega)]
        refine (heap_setCell_same (cs := #[.bool false]) (e := 4) (f := (0, 0)) ?_ _)
        (repeat rw [Below.heap_setCell _ _ _ _ (by dsimp only; omega)])
        exact hi.rb
      · obtain ⟨t, h4, h5⟩ := tracks_cover c cok n hn.1 hn.2
        exact hi.no t h4 h5
      · have := hi.bel
        (repeat' (first | (with_reducible exact Below.refl _ _) | (with_reducible assumption) | (with_reducible refine Below.alloc ?_ ?_ _) | (with_reducible refine Below.drew ?_) | (with_reducible refine below_drewN ?_ _) | (with_reducible refine Below.setCell ?_ ?_ _) | (with_reducible refine Below.trans ?_ (Below.mono (by with_reducible assumption) ?_)) | go_size))
  case stop =>
    rintro j W ⟨rfl, t, hx⟩ hK hsz
    have hcr : ∀ j, W.cell? ⟨w.heap.size + 1 + 1, j, none⟩ = _ := fun j => cell_at (j := j) hx.rt
    have hcb : ∀ j, W.cell? ⟨w.heap.size + 1 + 1 + 1, j, none⟩ = _ := fun j => cell_at (j := j) hx.rb
    have hfr : ∀ j, W.frozen? ⟨w.heap.size + 1 + 1, j, none⟩ = false := fun j => frozen_at (j := j) hx.rt
    have hfb : ∀ j, W.frozen? ⟨w.heap.size + 1 + 1 + 1, j, none⟩ = false := fun j => frozen_at (j := j) hx.rb
    gi_wp2
    refine ⟨by simp, .inl ⟨_, _, rfl, run_takeDeferred (ds := []) hK, ?_⟩⟩
    refine leaves52 _ w _ _ _ _ _ _ _ _ _ _ rfl rfl ?_ ?_ ⟨.inl ⟨t, hx.mem, hx.has, rfl⟩, Below.putObj' hx.bel _ _ (by omega)⟩
    · rw [World.putObj_heap_other (by omega)]; exact hx.rt
    · rw [World.putObj_heap_other (by omega)]; exact hx.rb
end Go.Proofs.Ythkbiplmfbcabaa
