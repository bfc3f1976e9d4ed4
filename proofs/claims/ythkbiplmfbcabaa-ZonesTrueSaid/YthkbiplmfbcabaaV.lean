/- Stage 1: what ranges over the tracks. -/
import Derived.Test.YthkbiplmfbcabaaU
set_option linter.unusedSimpArgs false
set_option linter.unusedVariables false
namespace Go.Proofs.Ythkbiplmfbcabaa
open Go.RowKit Go.Shelf

set_option maxHeartbeats 400000 in
theorem c67 (t : Tk) (w : World) (h0 : 0 ≤ t.fi) (h1 : t.fi ≤ 1000000) (h2 : 0 ≤ t.se) (h3 : t.se ≤ 1000000) :
    Calls Try.prog 67 #[t.v] w fun e w' => e = .returned (.int .i64 (t.fi + t.se)) ∧ Below w.heap.size w w' := by
  go_enter Try.func67, Try.ntmps67
  go_wp2
  go_returns
  exact ⟨rfl, by (repeat' (first | (with_reducible exact Below.refl _ _) | (with_reducible assumption) | (with_reducible refine Below.alloc ?_ ?_ _) | (with_reducible refine Below.drew ?_) | (with_reducible refine below_drewN ?_ _) | (with_reducible refine Below.setCell ?_ ?_ _) | (with_reducible refine Below.trans ?_ (Below.mono (by with_reducible assumption) ?_)) | go_size))⟩

def endOf (l : List Tk) : Int := match l.getLast? with | none => 0 | some t => t.fi + t.se
theorem endOf_snoc (l : List Tk) (t : Tk) : endOf (l ++ [t]) = t.fi + t.se := by simp [endOf]

/-- A track of the list: its numbers are in range. -/
structure TkOk (c : Ck) (t : Tk) : Prop where
  cy0 : 0 ≤ t.cy
  cy1 : t.cy < c.d.cyls
  hd0 : 0 ≤ t.hd
  hd1 : t.hd < c.d.hd
  fi0 : 0 ≤ t.fi
  se1 : 1 ≤ t.se
  se2 : t.se ≤ 16
  en : t.fi + t.se ≤ c.d.count
  ti0 : 1 ≤ t.ti
  ti1 : t.ti ≤ c.d.tu
  of0 : 0 ≤ t.of
  of1 : t.of < c.d.tu
  be : t.be = 0 ∨ t.be = 1
theorem trk_ok (c : Ck) (cok : c.Ok) {y h : Nat} (hy : (y : Int) < c.d.cyls) (hh : (h : Int) < c.d.hd) : TkOk c (trk c y h) := by
  have ok := cok.ok
  have hs := ok.sec (c := (y : Int)) (by omega) hy
  have h1 := firstOf_bd c ok y h hy (by omega)
  have h2 := firstOf_succ c y h (by omega)
  have tu1 := ok.tu1
  have hcnt := ok.cntB
  have hle : firstOf c y (h + 1) ≤ c.d.count := by
    have e1 := ok.lenPl
    unfold lenPlaces at e1
    have e2 : (plC c.d y ++ plH c.d y (h + 1)).length ≤ (places c.d).length := by
      have p1 : plH c.d y (h + 1) <+: plH c.d y c.d.hd.toNat := by
        obtain ⟨k, hk⟩ : ∃ k, c.d.hd.toNat = h + 1 + k := ⟨c.d.hd.toNat - (h + 1), by omega⟩
        rw [hk]
        clear hk h2
        induction k with
        | zero => exact List.prefix_refl _
        | succ k ih => exact ih.trans (by rw [show h + 1 + (k + 1) = (h + 1 + k) + 1 from rfl, plH_succ c.d y (h + 1 + k)]; exact List.prefix_append _ _)
      have p2 : plC c.d (y + 1) <+: plC c.d c.d.cyls.toNat := by
        obtain ⟨k, hk⟩ : ∃ k, c.d.cyls.toNat = y + 1 + k := ⟨c.d.cyls.toNat - (y + 1), by omega⟩
        rw [hk]
        clear hk
        induction k with
        | zero => exact List.prefix_refl _
        | succ k ih => exact ih.trans (by rw [show y + 1 + (k + 1) = (y + 1 + k) + 1 from rfl, plC_succ c.d (y + 1 + k)]; exact List.prefix_append _ _)
      rw [plC_succ] at p2
      exact (((List.prefix_append_right_inj _).2 p1).trans p2).length_le
    unfold firstOf
    omega
  have htd : 1 ≤ c.d.tu / secOf c.d.zs y := by
    have h3 : c.d.tu / secOf c.d.zs y * secOf c.d.zs y = c.d.tu := Int.ediv_mul_cancel (Int.dvd_of_emod_eq_zero hs.2.2)
    rcases Int.lt_or_le (c.d.tu / secOf c.d.zs y) 1 with h4 | h4
    · have h5 : 0 ≤ c.d.tu / secOf c.d.zs y := Int.ediv_nonneg (by omega) (by omega)
      have h6 : c.d.tu / secOf c.d.zs y = 0 := by omega
      rw [h6] at h3; omega
    · exact h4
  refine ⟨by show (0 : Int) ≤ y; omega, hy, by show (0 : Int) ≤ h; omega, hh, h1.1, hs.1, hs.2.1, ?_, htd, Int.ediv_le_self _ (by omega), Int.emod_nonneg _ (by omega), Int.emod_lt_of_pos _ (by omega), ?_⟩
  · show firstOf c y h + secOf c.d.zs y ≤ _; omega
  · show behOf c h = 0 ∨ behOf c h = 1
    unfold behOf; split <;> simp
theorem mem_tracks {c : Ck} {t : Tk} (h : t ∈ tracksOf c) : ∃ y hh : Nat, (y : Int) < c.d.cyls ∧ (hh : Int) < c.d.hd ∧ t = trk c y hh := by
  simp only [tracksOf, trkC, trkH, List.mem_flatMap, List.mem_map, List.mem_range] at h
  obtain ⟨y, hy, hh, h1, rfl⟩ := h
  exact ⟨y, hh, by omega, by omega, rfl⟩
theorem tracks_ok {c : Ck} (cok : c.Ok) {t : Tk} (h : t ∈ tracksOf c) : TkOk c t := by
  obtain ⟨y, hh, h1, h2, rfl⟩ := mem_tracks h
  exact trk_ok c cok h1 h2

theorem end_tracks (c : Ck) (cok : c.Ok) : endOf (tracksOf c) = c.d.count := by
  have ok := cok.ok
  have h0 : 0 < c.d.cyls.toNat := by
    have h1 := ok.zl1
    have h2 := psum_le (f := cylF) (fun z hz => by have := (ok.zok z hz).1; unfold cylF; omega) 1 h1
    rw [psum_succ cylF (show 0 < c.d.zs.length by omega), psum_zero] at h2
    have h3 := (ok.zok _ (List.getElem_mem (show 0 < c.d.zs.length by omega))).1
    rw [show cylF c.d.zs[0] = c.d.zs[0].1 from rfl] at h2
    unfold Dk.cyls
    omega
  have hd1 := ok.hd1
  obtain ⟨k, hk⟩ : ∃ k, c.d.cyls.toNat = k + 1 := ⟨c.d.cyls.toNat - 1, by omega⟩
  obtain ⟨m, hm⟩ : ∃ m, c.d.hd.toNat = m + 1 := ⟨c.d.hd.toNat - 1, by omega⟩
  unfold tracksOf
  rw [hk, trkC_succ, hm, trkH_succ, ← List.append_assoc, endOf_snoc]
  have h2 := ok.sec (c := (k : Int)) (by omega) (by omega)
  have h3 := firstOf_succ c k m (by omega)
  show firstOf c k m + secOf c.d.zs k = _
  rw [← h3, ← hm]
  have h4 := ok.lenPl
  have h5 := ok.cntB
  unfold lenPlaces places at h4
  rw [hk, plC_succ] at h4
  unfold firstOf
  omega

attribute [local go_sem] Oper.semAt_some

/-- One int variable of the function's own at B, and what lay there when the call began. -/
structure VarI (w : World) (B : Nat) (n : Int) (W : World) : Prop where
  cell : W.cell? ⟨B, 0, none⟩ = some (.int .i64 n)
  free : W.frozen? ⟨B, 0, none⟩ = false
  bel : Below w.heap.size w W
theorem VarI.below {w : World} {B C : Nat} {n : Int} {W W' : World} (h : VarI w B n W) (hb : Below C W W') (hB : B < C) (hw : w.heap.size ≤ C) : VarI w B n W' :=
  ⟨(hb.cell (p := ⟨B, 0, none⟩) hB).trans h.cell, (hb.frozen (p := ⟨B, 0, none⟩) hB).trans h.free, h.bel.trans (hb.mono hw)⟩
def SizeI (w : World) (s : List Tk) (W : World) : Prop := VarI w (w.heap.size + 1) (endOf s) W
def NoI (_ : Code) (_ : World) : Prop := False

/-- The loop variable's block, in the world in which the body begins. -/
theorem var_block {W W₂ : World} {l : Nat} {o : Obj} (hs : l < W.heap.size) (ho : ∀ k, k ≠ l → W₂.heap[k]? = (W.alloc o).heap[k]?) : W₂.heap[W.heap.size]? = some o :=
  (ho _ (by omega)).trans (heap_new _ _)

set_option maxRecDepth 100000 in
set_option maxHeartbeats 1000000 in
theorem c48 (c : Ck) (cok : c.Ok) (w : World) (hz : Zs w c.d) :
    Calls Try.prog 48 #[c.v] w fun e w' => e = .returned (.int .i64 c.d.count) ∧ Below w.heap.size w w' := by
  rw [← end_tracks c cok]
  refine callsIn_wide.1 (callsIn_of_wp_marks (F := Fence.wide) (n := 0) Try.func48 rfl trivial ?_ rfl)
  simp only [Try.ntmps48, List.size_toArray, List.length_cons, List.length_nil, Nat.reduceAdd, Nat.reduceSub, Array.replicate_succ, Array.replicate_zero, List.push_toArray, List.append_toArray, List.nil_append, List.cons_append]
  gi_wp2
  obtain ⟨W0, hW0⟩ : ∃ W0 : World, W0 = (w.alloc (.cells c.cells 73)).alloc (.cells #[.int .i64 0] 3) := ⟨_, rfl⟩
  rw [← hW0]
  have hs0 : W0.heap.size = w.heap.size + 2 := by rw [hW0]; simp
  have hb0 : Below w.heap.size w W0 := by rw [hW0]; (repeat' (first | (with_reducible exact Below.refl _ _) | (with_reducible assumption) | (with_reducible refine Below.alloc ?_ ?_ _) | (with_reducible refine Below.drew ?_) | (with_reducible refine below_drewN ?_ _) | (with_reducible refine Below.setCell ?_ ?_ _) | (with_reducible refine Below.trans ?_ (Below.mono (by with_reducible assumption) ?_)) | go_size))
  have hc0 : W0.cell? ⟨w.heap.size + 1, 0, none⟩ = some (.int .i64 0) := by
    rw [hW0]; have := heap_new (w.alloc (.cells c.cells 73)) (.cells #[.int .i64 0] 3); rw [World.size_alloc] at this; exact cell_at this
  have hf0 : W0.frozen? ⟨w.heap.size + 1, 0, none⟩ = false := by
    rw [hW0]; have := heap_new (w.alloc (.cells c.cells 73)) (.cells #[.int .i64 0] 3); rw [World.size_alloc] at this; exact frozen_at this
  clear hW0
  refine rf_law (S := fun k => k = w.heap.size + 1) (xs := tracksOf c) (encs := fun t : Tk => #[t.v]) (gf := 49) (la := #[c.v]) (lb := #[]) rfl (enters_of Try.func49 (by kernel_rfl) rfl) (fun _ => rfl) (fun k hk => by omega)
    (fun W hb hs => tracks_it c cok _ W ((hz.below hb0 (Nat.le_refl _)).below hb (Nat.le_refl _)) (fun k hk => ⟨by omega, fun e => by have := hz.lt 0 (by have := cok.ok.zl1; omega); omega⟩))
    (SizeI w) NoI (fun s A B h hb => VarI.below h hb (by omega) (by omega)) (fun _ _ _ h _ => h) ⟨hc0, hf0, hb0⟩ ?round ?done (fun _ _ h => h.elim)
  case round =>
    rintro pre x W hi hpre hsz
    have hxo := tracks_ok cok (hpre.subset (List.mem_append_right _ List.mem_cons_self))
    gi_wp2
    refine ⟨(Keep.refl _ _).alloc _, VarI.below hi ((Below.refl W0.heap.size W).alloc (by omega) _) (by omega) (by omega), fun W₂ hs2 ho hi2 => ?_⟩
    have hvb := var_block (by omega) ho
    have ht := fun j => cell_at (j := j) hvb
    have hc := hi2.cell
    have hf := hi2.free
    have hcnt := cok.ok.cntB
    have q1 := hxo.fi0; have q2 := hxo.se1; have q3 := hxo.se2; have q4 := hxo.en
    simp only [World.size_alloc] at hs2
    have hsz2 : w.heap.size + 1 < W₂.heap.size := by omega
    clear ho hvb hs2
    gi_wp2_with (refine ⟨trivial, rfl, ?_⟩; gi_at_call 67; refine (CallsIn.inRound _ (callsIn_wide.2 (c67 x _ (by omega) (by omega) (by omega) (by omega)))).mono ?_; rintro e w1 ⟨rfl, hB1⟩; obtain ⟨hc1, hf1⟩ := bcell hB1)
    refine ⟨Keep.setCell (S := fun k => k = w.heap.size + 1) (Keep.of_below hB1 (Nat.le_refl _)) (.inl rfl) _, ?_⟩
    have h2 := VarI.below hi2 hB1 hsz2 (by have := hi2.bel.size; omega)
    rw [SizeI, endOf_snoc]
    exact ⟨World.cell?_setCell_same' _ _ _ (by rw [h2.cell]; rfl), by rw [World.frozen?_setCell]; exact h2.free, h2.bel.setCell (by dsimp only; omega) _⟩
  case done =>
    rintro W hi hK hsz
    have hc := hi.cell
    gi_wp2
    refine ⟨by simp, .inl ⟨_, _, rfl, run_takeDeferred hK, ?_⟩⟩
    exact ⟨_, results_tmp rfl _ _ _, rfl, Below.putObj' hi.bel _ _ (by omega)⟩
end Go.Proofs.Ythkbiplmfbcabaa
