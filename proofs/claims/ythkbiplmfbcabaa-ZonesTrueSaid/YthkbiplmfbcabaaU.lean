/- Stage 1: the iterator that yields the tracks. -/
import Derived.Test.YthkbiplmfbcabaaT
import Derived.RegionIn
import Derived.BigRegionIn
set_option linter.unusedSimpArgs false
set_option linter.unusedVariables false
namespace Go.Proofs.Ythkbiplmfbcabaa
open Go.RowKit Go.Shelf

theorem Zs.keep {S : Nat → Prop} {w w' : World} {d : Dk} (h : Zs w d) (hk : Keep S w w') (hS : ¬ S d.zb) : Zs w' d := by
  have key : ∀ k, k < d.zs.length → ∀ o, w'.cell? ⟨d.zb, o, none⟩ = w.cell? ⟨d.zb, o, none⟩ := fun k hk' o =>
    World.cell?_of_block (w := w) (hk.block _ (h.lt k hk') hS)
  exact ⟨h.ad, fun k hk' => Nat.lt_of_lt_of_le (h.lt k hk') hk.size, fun k hk' => (key k hk' _).trans (h.c1 k hk'), fun k hk' => (key k hk' _).trans (h.c2 k hk'), h.nl⟩

theorem TrS.keep {S : Nat → Prop} {B : Nat} {c : Ck} {t : Tk} {w w' : World} (h : TrS B c t w) (hk : Keep S w w') (hS : ∀ k, S k → k < B ∧ k ≠ c.d.zb) : TrS B c t w' := by
  have h1 := (Array.getElem?_eq_some_iff.1 h.box).1
  have h2 := (Array.getElem?_eq_some_iff.1 h.tb).1
  exact ⟨(hk.block _ h1 (fun e => by have := (hS _ e).1; omega)).trans h.box, (hk.block _ h2 (fun e => by have := (hS _ e).1; omega)).trans h.tb, h.zs.keep hk (fun e => (hS _ e).2 rfl)⟩

theorem TrS.store {B : Nat} {c : Ck} {t : Tk} {w : World} (h : TrS B c t w) (hzb : c.d.zb < B) (j : Nat) (v : Value) (t' : Tk) (e : t'.cells = t.cells.setIfInBounds j v) : TrS B c t' (w.setCell ⟨B + 1, j, none⟩ v) := by
  refine ⟨(Below.heap_setCell _ _ _ _ (by simp)).trans h.box, ?_, ?_⟩
  · rw [e]; exact heap_setCell_same h.tb v
  · have key : ∀ o, (w.setCell ⟨B + 1, j, none⟩ v).cell? ⟨c.d.zb, o, none⟩ = w.cell? ⟨c.d.zb, o, none⟩ := fun o =>
      World.cell?_of_block (w := w) (Below.heap_setCell _ _ _ _ (by dsimp only; omega))
    exact ⟨h.zs.ad, fun k hk => by rw [World.size_setCell]; exact h.zs.lt k hk, fun k hk => (key _).trans (h.zs.c1 k hk), fun k hk => (key _).trans (h.zs.c2 k hk), h.zs.nl⟩
theorem TrS.alloc {B : Nat} {c : Ck} {t : Tk} {w : World} (h : TrS B c t w) (o : Obj) : TrS B c t (w.alloc o) := h.keep (S := fun _ => False) ((Keep.refl _ _).alloc o) (fun _ e => e.elim)
theorem TrS.drew {B : Nat} {c : Ck} {t : Tk} {w : World} (h : TrS B c t w) : TrS B c t w.drew := h.keep (S := fun _ => False) (Keep.refl _ _).drew (fun _ e => e.elim)

theorem psum_le {f : Int × Int → Int} {zs : List (Int × Int)} (h : ∀ z ∈ zs, 0 ≤ f z) (k : Nat) (hk : k ≤ zs.length) : psum f zs k ≤ psum f zs zs.length := by
  obtain ⟨m, hm⟩ : ∃ m, m = zs.length - k := ⟨_, rfl⟩
  induction m generalizing k with
  | zero => obtain rfl : k = zs.length := by omega
            exact Int.le_refl _
  | succ m ih =>
    have h1 := ih (k + 1) (by omega) (by omega)
    have h2 := h _ (List.getElem_mem (show k < zs.length by omega))
    rw [psum_succ f (show k < zs.length by omega)] at h1
    omega
theorem trkH_prefix (c : Ck) (y : Nat) {h k : Nat} (hk : h ≤ k) : trkH c y h <+: trkH c y k := by
  induction k with
  | zero => obtain rfl : h = 0 := by omega
            exact List.prefix_refl _
  | succ k ih =>
    rcases Nat.lt_or_ge k h with h1 | h1
    · obtain rfl : h = k + 1 := by omega
      exact List.prefix_refl _
    · rw [trkH_succ]; exact (ih h1).trans (List.prefix_append _ _)
theorem trkC_prefix (c : Ck) {h k : Nat} (hk : h ≤ k) : trkC c h <+: trkC c k := by
  induction k with
  | zero => obtain rfl : h = 0 := by omega
            exact List.prefix_refl _
  | succ k ih =>
    rcases Nat.lt_or_ge k h with h1 | h1
    · obtain rfl : h = k + 1 := by omega
      exact List.prefix_refl _
    · rw [trkC_succ]; exact (ih h1).trans (List.prefix_append _ _)

def ofAt (c : Ck) (y h : Nat) : Int := if (h : Int) = c.d.hd then offOf c (y + 1) 0 else offOf c y h
theorem ofAt_zero (c : Ck) (y : Nat) (h : 1 ≤ c.d.hd) : ofAt c y 0 = offOf c y 0 := by unfold ofAt; rw [if_neg (by omega)]; rfl
theorem ofAt_bd (c : Ck) (y h : Nat) (h1 : 1 ≤ c.d.tu) : 0 ≤ ofAt c y h ∧ ofAt c y h < c.d.tu := by
  unfold ofAt offOf
  split <;> exact ⟨Int.emod_nonneg _ (by omega), Int.emod_lt_of_pos _ (by omega)⟩
theorem firstOf_bd (c : Ck) (ok : c.d.Ok) (y h : Nat) (hy : (y : Int) < c.d.cyls) (hh : (h : Int) ≤ c.d.hd) : 0 ≤ firstOf c y h ∧ firstOf c y h ≤ 5184 := by
  have h1 := plC_len c.d ok y (by omega)
  have h2 := ok.sec (c := (y : Int)) (by omega) hy
  have h3 := plH_len c.d y h (by omega)
  have h4 := ok.hd4
  have h5 := ok.cylB
  unfold firstOf
  rw [List.length_append]
  omega
theorem trkH_zero (c : Ck) (y : Nat) : trkH c y 0 = [] := rfl

attribute [local go_sem] Oper.semAt_some

set_option maxRecDepth 100000 in
set_option maxHeartbeats 4000000 in
theorem tracks_it (c : Ck) (cok : c.Ok) (S : Nat → Prop) (W0 : World) (hz : Zs W0 c.d) (hS : ∀ k, S k → k < W0.heap.size ∧ k ≠ c.d.zb) :
    Iterates Try.prog 49 #[c.v] #[] (fun t : Tk => #[t.v]) (tracksOf c) S W0 := by
  intro l J Jx hl hJ hJx hY h0
  have hlS : ∀ k, S k ∨ k = l → k < W0.heap.size ∧ k ≠ c.d.zb := by
    rintro k (hk | rfl)
    · exact hS k hk
    · obtain ⟨r, hr⟩ := hl
      refine ⟨(Array.getElem?_eq_some_iff.1 hr).1, fun e => ?_⟩
      have := hz.c1 0 (by have := cok.ok.zl1; omega)
      rw [← e] at this
      simp [World.cell?, hr] at this
  have hzb : c.d.zb < W0.heap.size := hz.lt 0 (by have := cok.ok.zl1; omega)
  have cokh := hid cok
  have hYh := hid hY
  have h0h := hid h0
  have hJh := hid hJ
  have hd1 := cok.ok.hd1
  have hd4 := cok.ok.hd4
  have tu1 := cok.ok.tu1
  have tu2 := cok.ok.tu2
  have zl4 := cok.ok.zl4
  clear cok hY hJ hJx h0
  show CallsIn Fence.wide 0 Try.prog 49 #[c.v, .func (.yield l) #[] #[]] W0 _
  refine callsIn_of_wp Try.func49 rfl trivial ?_
  simp only [Try.ntmps49, List.size_toArray, List.length_cons, List.length_nil, Nat.reduceAdd, Nat.reduceSub, Array.replicate_succ, Array.replicate_zero, List.push_toArray, List.append_toArray, List.nil_append, List.cons_append]
  gi_wp2
  gi_loopw [12] (fun i wr => ∃ (n : Nat) (y : Nat) (a b e f : Int), n ≤ c.d.zs.length ∧ i = .int .i64 n ∧ (y : Int) = psum cylF c.d.zs n ∧ TrS W0.heap.size c ⟨y, a, firstOf c y 0, b, e, offOf c y 0, f⟩ wr ∧ J (trkC c y) wr) (fun i _ => c.d.zs.length - (intOf i).toNat)
  case atStart =>
    refine ⟨0, 0, 0, 0, 0, 0, Nat.zero_le _, rfl, by rw [psum_zero]; rfl, ⟨?_, ?_, ?_⟩, ?_⟩
    · exact (Below.heap_alloc _ _ _ (by simp)).trans (heap_new _ _)
    · have := heap_new (W0.alloc (.cells c.cells 73)) (.cells (Tk.cells ⟨0, 0, 0, 0, 0, 0, 0⟩) 82)
      rw [World.size_alloc] at this
      have e1 : firstOf c 0 0 = 0 := rfl
      have e2 : offOf c 0 0 = 0 := by simp [offOf]
      rw [show ((0 : Nat) : Int) = 0 from rfl, e1, e2]
      exact this
    · exact hz.below (by (repeat' (first | (with_reducible exact Below.refl _ _) | (with_reducible assumption) | (with_reducible refine Below.alloc ?_ ?_ _) | (with_reducible refine Below.drew ?_) | (with_reducible refine below_drewN ?_ _) | (with_reducible refine Below.setCell ?_ ?_ _) | (with_reducible refine Below.trans ?_ (Below.mono (by with_reducible assumption) ?_)) | go_size))) (Nat.le_refl _)
    · exact hJh.out _ _ _ h0h.out (by (repeat' (first | (with_reducible exact Below.refl _ _) | (with_reducible assumption) | (with_reducible refine Below.alloc ?_ ?_ _) | (with_reducible refine Below.drew ?_) | (with_reducible refine below_drewN ?_ _) | (with_reducible refine Below.setCell ?_ ?_ _) | (with_reducible refine Below.trans ?_ (Below.mono (by with_reducible assumption) ?_)) | go_size)))
  case round =>
    obtain ⟨n, y, a, b, e, f, hn, rfl, hy, hT, hJw⟩ := hrel
    have hszw : W0.heap.size + 1 < wr.heap.size := (Array.getElem?_eq_some_iff.1 hT.tb).1
    have hszw0 : W0.heap.size < wr.heap.size := by omega
    have hb := fun j => cell_at (j := j) hT.box
    have ht := fun j => cell_at (j := j) hT.tb
    have hft := fun j => frozen_at (j := j) hT.tb
    have hyh := hid hy
    have hTh := hid hT
    have hJwh := hid hJw
    clear hy hT hJw
    by_cases hlt : n < c.d.zs.length
    · have h1 := hTh.out.zs.c1 n hlt; have h2 := hTh.out.zs.c2 n hlt; have h3 := hTh.out.zs.lt n hlt; have h4 := hTh.out.zs.ix hlt
      have hzk := okZ_get cokh.out.ok.zok hlt
      have q1 := hzk.1; have q2 := hzk.2.1; have q3 := hzk.2.2.1; have q4 := hzk.2.2.2.1
      have ne1 : ¬ c.d.zs[n].2 = 0 := by omega
      clear hzk
      gi_wp2
      gi_region
      gi_wp2
      have hTa := hid ((((hTh.out.store hzb 3 (.int .i64 c.d.zs[n].2) ⟨y, a, firstOf c y 0, c.d.zs[n].2, e, offOf c y 0, f⟩ rfl).store hzb 4 (.int .i64 (c.d.tu / c.d.zs[n].2)) ⟨y, a, firstOf c y 0, c.d.zs[n].2, c.d.tu / c.d.zs[n].2, offOf c y 0, f⟩ rfl).alloc (.cells #[.int .i64 c.d.zs[n].1, .int .i64 c.d.zs[n].2] 78)).drew)
      have hJa := hid (hJh.out _ _ _ hJwh.out (show Below W0.heap.size wr (((wr.setCell ⟨W0.heap.size + 1, 3, none⟩ (.int .i64 c.d.zs[n].2)).setCell ⟨W0.heap.size + 1, 4, none⟩ (.int .i64 (c.d.tu / c.d.zs[n].2))).alloc (.cells #[.int .i64 c.d.zs[n].1, .int .i64 c.d.zs[n].2] 78)).drew by (repeat' (first | (with_reducible exact Below.refl _ _) | (with_reducible assumption) | (with_reducible refine Below.alloc ?_ ?_ _) | (with_reducible refine Below.drew ?_) | (with_reducible refine below_drewN ?_ _) | (with_reducible refine Below.setCell ?_ ?_ _) | (with_reducible refine Below.trans ?_ (Below.mono (by with_reducible assumption) ?_)) | go_size))))
      have hyb : (y : Int) + c.d.zs[n].1 ≤ c.d.cyls := by
        have hle := psum_le (f := cylF) (fun z hz => by have := (cokh.out.ok.zok z hz).1; unfold cylF; omega) (n + 1) (show n + 1 ≤ c.d.zs.length by omega)
        have e3 := psum_succ cylF hlt
        have e4 := hyh.out
        rw [show cylF c.d.zs[n] = c.d.zs[n].1 from rfl] at e3
        unfold Dk.cyls
        omega
      have hcyb := cokh.out.ok.cylB
      have hsec : Hid (∀ m j : Nat, m = y + j → (j : Int) < c.d.zs[n].1 → secOf c.d.zs (m : Int) = c.d.zs[n].2) := hid (fun m j hm hj => by
        subst hm
        rw [Int.natCast_add, hyh.out]
        exact secOf_in c.d.zs (fun z hz => by have := (cokh.out.ok.zok z hz).1; omega) n hlt j (by omega) hj)
      have hpsn := hid (psum_succ cylF hlt)
      clear hb ht hft hTh hJwh h1 h2 h3 h4
      obtain ⟨wo, rfl⟩ : ∃ wo : World, wo = wr := ⟨_, rfl⟩
      gi_loopw [28] (fun i wr => ∃ (j m : Nat) (a f : Int), Hid (m = y + j) ∧ (j : Int) ≤ c.d.zs[n].1 ∧ i = .int .i64 j ∧ TrS W0.heap.size c ⟨(m : Nat), a, firstOf c m 0, c.d.zs[n].2, c.d.tu / c.d.zs[n].2, offOf c (m : Nat) 0, f⟩ wr ∧ J (trkC c m) wr) (fun i _ => c.d.zs[n].1.toNat - (intOf i).toNat)
      case atStart => exact ⟨0, y, a, f, rfl, by omega, rfl, hTa.out, hJa.out⟩
      case round =>
        obtain ⟨j, m, a, f, hm, hj, rfl, hT, hJw⟩ := hrel
        have hm80 : (m : Int) ≤ 80 := by have := hm.out; omega
        have hszw : W0.heap.size + 1 < wr.heap.size := (Array.getElem?_eq_some_iff.1 hT.tb).1
        have hszw0 : W0.heap.size < wr.heap.size := by omega
        have hb := fun j => cell_at (j := j) hT.box
        have ht := fun j => cell_at (j := j) hT.tb
        have hft := fun j => frozen_at (j := j) hT.tb
        have hTh := hid hT
        have hJwh := hid hJw
        clear hT hJw hTa hJa
        by_cases hlj : (j : Int) < c.d.zs[n].1
        · gi_wp2
          obtain ⟨wp, rfl⟩ : ∃ wp : World, wp = wr := ⟨_, rfl⟩
          have hse := hsec.out m j hm.out hlj
          have hHn := hid (trkC_succ c m)
          clear hb ht hft
          gi_loopw [33] (fun i wr => ∃ (h : Nat) (a f : Int), (h : Int) ≤ c.d.hd ∧ i = .int .i64 h ∧ TrS W0.heap.size c ⟨(m : Nat), a, firstOf c m h, c.d.zs[n].2, c.d.tu / c.d.zs[n].2, ofAt c m h, f⟩ wr ∧ J (trkC c m ++ trkH c m h) wr) (fun i _ => c.d.hd.toNat - (intOf i).toNat)
          case atStart => exact ⟨0, a, f, by omega, rfl, by rw [ofAt_zero _ _ hd1]; exact hTh.out, by rw [trkH_zero, List.append_nil]; exact hJwh.out⟩
          case round =>
            obtain ⟨h, a, f, hh, rfl, hT, hJw⟩ := hrel
            have hszw : W0.heap.size + 1 < wr.heap.size := (Array.getElem?_eq_some_iff.1 hT.tb).1
            have hszw0 : W0.heap.size < wr.heap.size := by omega
            have hb := fun j => cell_at (j := j) hT.box
            have ht := fun j => cell_at (j := j) hT.tb
            have hft := fun j => frozen_at (j := j) hT.tb
            have hTi := hid hT
            have hJi := hid hJw
            clear hT hJw hTh hJwh
            by_cases hlh : (h : Int) < c.d.hd
            · have hpre : (trkC c m ++ trkH c m h) ++ [trk c m h] <+: tracksOf c := by
                rw [List.append_assoc, ← trkH_succ]
                refine List.IsPrefix.trans ?_ (trkC_prefix c (show m + 1 ≤ c.d.cyls.toNat by have := hm.out; omega))
                rw [hHn.out]
                exact List.prefix_append_right_inj _ |>.2 (trkH_prefix c _ (show h + 1 ≤ c.d.hd.toNat by omega))
              have hfb := firstOf_bd c cokh.out.ok m h (by have := hm.out; omega) (by omega)
              have hob := ofAt_bd c m h tu1
              have s00 := cokh.out.s00; have s01 := cokh.out.s01; have s10 := cokh.out.s10; have s11 := cokh.out.s11
              by_cases hla : c.d.hd - 1 ≤ (h : Int)
              · have hx : trk c m h = ⟨(m : Nat), h, firstOf c m h, c.d.zs[n].2, c.d.tu / c.d.zs[n].2, ofAt c m h, 1⟩ := by
                  unfold trk ofAt behOf; rw [hse, if_pos (by omega), if_neg (by omega)]
                obtain ⟨fn, tmps, assign, body, hy, hR⟩ := hYh.out _ _ (((wr.setCell ⟨W0.heap.size + 1, 1, none⟩ (.int .i64 h)).setCell ⟨W0.heap.size + 1, 6, none⟩ (.int .i64 0)).setCell ⟨W0.heap.size + 1, 6, none⟩ (.int .i64 1)) (hJh.out _ _ _ hJi.out (by (repeat' (first | (with_reducible exact Below.refl _ _) | (with_reducible assumption) | (with_reducible refine Below.alloc ?_ ?_ _) | (with_reducible refine Below.drew ?_) | (with_reducible refine below_drewN ?_ _) | (with_reducible refine Below.setCell ?_ ?_ _) | (with_reducible refine Below.trans ?_ (Below.mono (by with_reducible assumption) ?_)) | go_size)))) hpre (by simp only [World.size_setCell]; omega)
                rw [hx] at hy
                have hRh := hid hR
                have c1 : (wr.setCell ⟨W0.heap.size + 1, 1, none⟩ (.int .i64 h)).cell? ⟨W0.heap.size + 1, 6, none⟩ = some (.int .i64 f) := by rw [World.cell?_setCell_other _ _ _ _ (by simp), ht]; rfl
                have c2 : ((wr.setCell ⟨W0.heap.size + 1, 1, none⟩ (.int .i64 h)).setCell ⟨W0.heap.size + 1, 6, none⟩ (.int .i64 0)).cell? ⟨W0.heap.size + 1, 6, none⟩ = some (.int .i64 0) := World.cell?_setCell_same' _ _ _ (by rw [c1]; rfl)
                have c3 : (((wr.setCell ⟨W0.heap.size + 1, 1, none⟩ (.int .i64 h)).setCell ⟨W0.heap.size + 1, 6, none⟩ (.int .i64 0)).setCell ⟨W0.heap.size + 1, 6, none⟩ (.int .i64 1)).cell? ⟨W0.heap.size + 1, 6, none⟩ = some (.int .i64 1) := World.cell?_setCell_same' _ _ _ (by rw [c2]; rfl)
                have hTn := hid ((((hTi.out.store hzb 1 (.int .i64 h) ⟨m, h, firstOf c m h, c.d.zs[n].2, c.d.tu / c.d.zs[n].2, ofAt c m h, f⟩ rfl).store hzb 6 (.int .i64 0) ⟨m, h, firstOf c m h, c.d.zs[n].2, c.d.tu / c.d.zs[n].2, ofAt c m h, 0⟩ rfl).store hzb 6 (.int .i64 1) ⟨m, h, firstOf c m h, c.d.zs[n].2, c.d.tu / c.d.zs[n].2, ofAt c m h, 1⟩ rfl))
                clear hR hpre
                gi_wp2
                refine ⟨rfl, hRh.out.mono ?_⟩
                rintro e W' ⟨hk, (⟨rfl, hJ'⟩ | ⟨rfl, hJx'⟩)⟩
                · have hT' := hTn.out.keep hk hlS
                  have hszv : W0.heap.size + 1 < W'.heap.size := (Array.getElem?_eq_some_iff.1 hT'.tb).1
                  have hszv0 : W0.heap.size < W'.heap.size := by omega
                  clear hb ht hft c1 c2 c3 hk hRh hTn hy hszw hszw0
                  have hb := fun j => cell_at (j := j) hT'.box
                  have ht := fun j => cell_at (j := j) hT'.tb
                  have hft := fun j => frozen_at (j := j) hT'.tb
                  rw [hx, List.append_assoc, ← hx, ← trkH_succ] at hJ'
                  have hTv := hid hT'
                  have hJv := hid hJ'
                  clear hT' hJ' hx
                  gi_wp2
                  gi_region
                  gi_wp2
                  refine ⟨⟨h + 1, h, 1, by omega, by go_num, ?_, hJh.out _ _ _ hJv.out (by (repeat' (first | (with_reducible exact Below.refl _ _) | (with_reducible assumption) | (with_reducible refine Below.alloc ?_ ?_ _) | (with_reducible refine Below.drew ?_) | (with_reducible refine below_drewN ?_ _) | (with_reducible refine Below.setCell ?_ ?_ _) | (with_reducible refine Below.trans ?_ (Below.mono (by with_reducible assumption) ?_)) | go_size)))⟩, by simp [intOf]; omega⟩
                  have e1 := firstOf_succ c m h (by omega)
                  have e2 : (ofAt c m h + c.s1) % c.d.tu = ofAt c m (h + 1) := by
                    unfold ofAt
                    rw [if_neg (by omega), if_pos (by omega)]
                    have := offOf_next c m
                    rwa [show c.d.hd - 1 = (h : Int) by omega] at this
                  rw [e1, ← e2, hse]
                  exact ((hTv.out.store hzb 2 (.int .i64 (firstOf c m h + c.d.zs[n].2)) ⟨m, h, firstOf c m h + c.d.zs[n].2, c.d.zs[n].2, c.d.tu / c.d.zs[n].2, ofAt c m h, 1⟩ rfl).drew.store hzb 5 (.int .i64 ((ofAt c m h + c.s1) % c.d.tu)) ⟨m, h, firstOf c m h + c.d.zs[n].2, c.d.zs[n].2, c.d.tu / c.d.zs[n].2, (ofAt c m h + c.s1) % c.d.tu, 1⟩ rfl)
                · gi_wp2
                  refine bodyPost_ret (results_none rfl _ _ _) rfl ?_
                  exact ⟨⟨_, rfl⟩, .inr hJx'⟩
              · have hx : trk c m h = ⟨(m : Nat), h, firstOf c m h, c.d.zs[n].2, c.d.tu / c.d.zs[n].2, ofAt c m h, 0⟩ := by
                  unfold trk ofAt behOf; rw [hse, if_neg (by omega), if_neg (by omega)]
                obtain ⟨fn, tmps, assign, body, hy, hR⟩ := hYh.out _ _ ((wr.setCell ⟨W0.heap.size + 1, 1, none⟩ (.int .i64 h)).setCell ⟨W0.heap.size + 1, 6, none⟩ (.int .i64 0)) (hJh.out _ _ _ hJi.out (by (repeat' (first | (with_reducible exact Below.refl _ _) | (with_reducible assumption) | (with_reducible refine Below.alloc ?_ ?_ _) | (with_reducible refine Below.drew ?_) | (with_reducible refine below_drewN ?_ _) | (with_reducible refine Below.setCell ?_ ?_ _) | (with_reducible refine Below.trans ?_ (Below.mono (by with_reducible assumption) ?_)) | go_size)))) hpre (by simp only [World.size_setCell]; omega)
                rw [hx] at hy
                have hRh := hid hR
                have c1 : (wr.setCell ⟨W0.heap.size + 1, 1, none⟩ (.int .i64 h)).cell? ⟨W0.heap.size + 1, 6, none⟩ = some (.int .i64 f) := by rw [World.cell?_setCell_other _ _ _ _ (by simp), ht]; rfl
                have c2 : ((wr.setCell ⟨W0.heap.size + 1, 1, none⟩ (.int .i64 h)).setCell ⟨W0.heap.size + 1, 6, none⟩ (.int .i64 0)).cell? ⟨W0.heap.size + 1, 6, none⟩ = some (.int .i64 0) := World.cell?_setCell_same' _ _ _ (by rw [c1]; rfl)
                have c3 := True.intro
                have hTn := hid (((hTi.out.store hzb 1 (.int .i64 h) ⟨m, h, firstOf c m h, c.d.zs[n].2, c.d.tu / c.d.zs[n].2, ofAt c m h, f⟩ rfl).store hzb 6 (.int .i64 0) ⟨m, h, firstOf c m h, c.d.zs[n].2, c.d.tu / c.d.zs[n].2, ofAt c m h, 0⟩ rfl))
                clear hR hpre
                gi_wp2
                refine ⟨rfl, hRh.out.mono ?_⟩
                rintro e W' ⟨hk, (⟨rfl, hJ'⟩ | ⟨rfl, hJx'⟩)⟩
                · have hT' := hTn.out.keep hk hlS
                  have hszv : W0.heap.size + 1 < W'.heap.size := (Array.getElem?_eq_some_iff.1 hT'.tb).1
                  have hszv0 : W0.heap.size < W'.heap.size := by omega
                  clear hb ht hft c1 c2 c3 hk hRh hTn hy hszw hszw0
                  have hb := fun j => cell_at (j := j) hT'.box
                  have ht := fun j => cell_at (j := j) hT'.tb
                  have hft := fun j => frozen_at (j := j) hT'.tb
                  rw [hx, List.append_assoc, ← hx, ← trkH_succ] at hJ'
                  have hTv := hid hT'
                  have hJv := hid hJ'
                  clear hT' hJ' hx
                  gi_wp2
                  gi_region
                  gi_wp2
                  refine ⟨⟨h + 1, h, 0, by omega, by go_num, ?_, hJh.out _ _ _ hJv.out (by (repeat' (first | (with_reducible exact Below.refl _ _) | (with_reducible assumption) | (with_reducible refine Below.alloc ?_ ?_ _) | (with_reducible refine Below.drew ?_) | (with_reducible refine below_drewN ?_ _) | (with_reducible refine Below.setCell ?_ ?_ _) | (with_reducible refine Below.trans ?_ (Below.mono (by with_reducible assumption) ?_)) | go_size)))⟩, by simp [intOf]; omega⟩
                  have e1 := firstOf_succ c m h (by omega)
                  have e2 : (ofAt c m h + c.s0) % c.d.tu = ofAt c m (h + 1) := by
                    unfold ofAt
                    rw [if_neg (by omega), if_neg (by omega)]
                    exact offOf_succ c m h
                  rw [e1, ← e2, hse]
                  exact ((hTv.out.store hzb 2 (.int .i64 (firstOf c m h + c.d.zs[n].2)) ⟨m, h, firstOf c m h + c.d.zs[n].2, c.d.zs[n].2, c.d.tu / c.d.zs[n].2, ofAt c m h, 0⟩ rfl).drew.store hzb 5 (.int .i64 ((ofAt c m h + c.s0) % c.d.tu)) ⟨m, h, firstOf c m h + c.d.zs[n].2, c.d.zs[n].2, c.d.tu / c.d.zs[n].2, (ofAt c m h + c.s0) % c.d.tu, 0⟩ rfl)
                · gi_wp2
                  refine bodyPost_ret (results_none rfl _ _ _) rfl ?_
                  exact ⟨⟨_, rfl⟩, .inr hJx'⟩
            · obtain rfl : h = c.d.hd.toNat := by omega
              gi_wp2
              refine ⟨⟨j + 1, m + 1, a, f, by have := hm.out; exact hid (by omega), by omega, by go_num, ?_, ?_⟩, by simp [intOf]; omega⟩
              · have e1 := firstOf_next c m
                have e2 : ofAt c m c.d.hd.toNat = offOf c ((m : Int) + 1) 0 := by unfold ofAt; rw [if_pos (by omega)]
                have hS0 := hTi.out.store hzb 0 (.int .i64 ((m : Int) + 1)) ⟨(m : Int) + 1, a, firstOf c m c.d.hd.toNat, c.d.zs[n].2, c.d.tu / c.d.zs[n].2, ofAt c m c.d.hd.toNat, f⟩ rfl
                rw [e1, e2] at hS0
                rw [show ((m + 1 : Nat) : Int) = (m : Int) + 1 from by omega]
                exact hS0
              · rw [hHn.out]; exact hJh.out _ _ _ hJi.out (by (repeat' (first | (with_reducible exact Below.refl _ _) | (with_reducible assumption) | (with_reducible refine Below.alloc ?_ ?_ _) | (with_reducible refine Below.drew ?_) | (with_reducible refine below_drewN ?_ _) | (with_reducible refine Below.setCell ?_ ?_ _) | (with_reducible refine Below.trans ?_ (Below.mono (by with_reducible assumption) ?_)) | go_size)))
        · obtain rfl : j = c.d.zs[n].1.toNat := by omega
          gi_wp2
          refine ⟨⟨n + 1, m, a, c.d.zs[n].2, c.d.tu / c.d.zs[n].2, f, by omega, by go_num, ?_, hTh.out, hJwh.out⟩, by simp [intOf]; omega⟩
          have := hm.out
          rw [hpsn.out, ← hyh.out]; unfold cylF; omega
    · gi_wp2
      go_end0
      have : n = c.d.zs.length := by omega
      subst this
      refine ⟨⟨_, rfl⟩, .inl ?_⟩
      have e1 : y = c.d.cyls.toNat := by have := hyh.out; unfold Dk.cyls; omega
      rw [e1] at hJwh
      exact hJwh.out
end Go.Proofs.Ythkbiplmfbcabaa
