/- Stage 6: the way to a target. -/
import Derived.Test.YtajllhjoagldkaaPa
set_option linter.unusedSimpArgs false
set_option linter.unusedVariables false
namespace Go.Proofs.Ytajllhjoagldkaa
open Go.RowKit Go.Maps Go.WideMaps

def dL (L : List (Int × Int)) (p v : Int) : Bool := decide ((p, v) ∈ L)
def gL (L : List (Int × Int)) (lv : Int → Int → Nat) (p v : Int) : Int := if (p, v) ∈ L then (lv p v : Int) else 0
theorem blk_cell {W : World} {b o : Nat} {cs : Array Value} {t : TypeId} {fr : Nat × Nat} (h : W.heap[b]? = some (.cells cs t fr)) : W.cell? ⟨b, o, none⟩ = cs[o]? := by simp [World.cell?, h]
theorem blk_frozen {W : World} {b o : Nat} {cs : Array Value} {t : TypeId} (h : W.heap[b]? = some (.cells cs t (0, 0))) : W.frozen? ⟨b, o, none⟩ = false := by simp [World.frozen?, h]
theorem blk_lt {W : World} {b : Nat} {o : Obj} (h : W.heap[b]? = some o) : b < W.heap.size := (Array.getElem?_eq_some_iff.1 h).1
/-- What the function has in memory. -/
structure CoB (a : Ar) (w : World) (W : World) : Prop where
  bel : Below w.heap.size w W
  b0 : W.heap[w.heap.size]? = some (.cells #[.int .i64 (a.la : Nat), .int .i64 (a.sp : Nat), .int .i64 (a.fo : Nat), .int .i64 (a.sh : Nat), .int .i64 (a.ga : Nat), .int .i64 (a.sl : Nat)] 77 (0, 0))
  b1 : W.heap[w.heap.size + 1]? = some (.cells #[.int .i64 0, .int .i64 0, .int .i64 0, .int .i64 0, .int .i64 0, .int .i64 0, .map none] 86 (0, 0))
  b3 : W.heap[w.heap.size + 3]? = some (.cells #[.int .i64 (a.la : Nat), .int .i64 (a.sp : Nat), .int .i64 (a.fo : Nat), .int .i64 (a.sh : Nat), .int .i64 (a.ga : Nat), .int .i64 (a.sl : Nat), .map (some (w.heap.size + 2))] 86 (0, 0))
theorem CoB.sz {a : Ar} {w W : World} (h : CoB a w W) : w.heap.size + 4 ≤ W.heap.size := blk_lt h.b3
theorem CoB.keep {a : Ar} {w A B : World} (h : CoB a w A) (k : Keep (fun k => k = w.heap.size + 2 ∨ w.heap.size + 4 ≤ k) A B) : CoB a w B := by
  have hs := h.sz
  exact ⟨h.bel.trans (k.to_below (by omega) (fun k hk => by omega)), (k.block _ (by omega) (by omega)).trans h.b0, (k.block _ (by omega) (by omega)).trans h.b1, (k.block _ (by omega) (by omega)).trans h.b3⟩
theorem MapI.ne {W : World} {C k b : Nat} {d : Int → Int → Bool} {g : Int → Int → Int} {cs : Array Value} {t : TypeId} {fr : Nat × Nat} (hm : MapI W C k d g) (hb : W.heap[b]? = some (.cells cs t fr)) : ¬ b = C := by
  rintro rfl
  obtain ⟨D, ⟨es, clock, h, _⟩, _⟩ := hm
  rw [h] at hb
  cases hb
/-- .. in the search. -/
structure CuI (a : Ar) (f0 : Int → Int → Bool) (w : World) (C : Nat) (L : List (Int × Int)) (lv : Int → Int → Nat) (i : Nat) (t : Int) (s6 : Value) (W : World) : Prop where
  cb : CoB a w W
  bf : Bfs a f0 L lv i t
  lb : ∀ k (h : k < L.length), lv L[k].1 L[k].2 ≤ k
  st : ∃ n, n ≤ 697 + 45 * i + 9 * (t + (a.sh : Int)).toNat ∧ MapI W (w.heap.size + 2) n (dL L) (gL L lv)
  ct : ∃ n d, n ≤ 5 * i + (t + (a.sh : Int)).toNat ∧ MapI W C n d (fun q u => (cn a L i t q u : Int))
  ow : W.ownsRow (w.heap.size + 4) 25 2 s6 L.length (flS L)
  cl : w.heap.size + 4 ≤ C
theorem CuI.alloc {a : Ar} {f0 : Int → Int → Bool} {w : World} {C : Nat} {L : List (Int × Int)} {lv : Int → Int → Nat} {i : Nat} {t : Int} {s6 : Value} {A B : World} (h : CuI a f0 w C L lv i t s6 A) (k : Keep (fun _ => False) A B) : CuI a f0 w C L lv i t s6 B := by
  obtain ⟨n, h1, h2⟩ := h.st
  obtain ⟨n', d, h3, h4⟩ := h.ct
  exact ⟨h.cb.keep (k.imp fun _ _ h => h.elim), h.bf, h.lb, ⟨n, h1, h2.of_block (k.block _ h2.lt id)⟩, ⟨n', d, h3, h4.of_block (k.block _ h4.lt id)⟩, owns_keep h.ow fun z hz _ => k.block z hz id, h.cl⟩
theorem Bfs.len {a : Ar} {f0 : Int → Int → Bool} {L : List (Int × Int)} {lv : Int → Int → Nat} {i : Nat} {t : Int} (h : Bfs a f0 L lv i t) (ok : a.Ok) : L.length ≤ 697 := by
  have := nodup_len L (sts a) h.nd (fun x hx => mem_sts.2 (h.st x.1 x.2 hx))
  rw [sts_len] at this
  have o1 := ok.l; have o2 := ok.p
  have h9 : (a.la + 1) * (2 * a.sp + 1) ≤ 41 * 17 := Nat.mul_le_mul (by omega) (by omega)
  omega
theorem dAd_dL (L A : List (Int × Int)) (p v : Int) : dAd (dL L) A p v = dL (L ++ A) p v := by
  simp [dAd, dL]
theorem gAd_gL (L A : List (Int × Int)) (lv : Int → Int → Nat) (x : Nat) (p v : Int) : gAd (gL L lv) A x p v = gL (L ++ A) (lvA lv A x) p v := by
  unfold gAd gL lvA
  by_cases h1 : (p, v) ∈ A <;> by_cases h2 : (p, v) ∈ L <;> simp [h1, h2]
theorem lb_full {L A : List (Int × Int)} {lv : Int → Int → Nat} {i : Nat} {x : Int × Int} (hL : L.Nodup) (h : ∀ k (h : k < L.length), lv L[k].1 L[k].2 ≤ k) (hi : L[i]? = some x) (hd : ∀ y, y ∈ A → y ∉ L) :
    ∀ k (h : k < (L ++ A).length), lvA lv A (lv x.1 x.2 + 1) (L ++ A)[k].1 (L ++ A)[k].2 ≤ k := by
  obtain ⟨hi1, hi2⟩ := List.getElem?_eq_some_iff.1 hi
  intro k hk
  by_cases e : k < L.length
  · rw [List.getElem_append_left e]
    have h1 : (L[k].1, L[k].2) ∉ A := fun hm => hd _ hm (List.getElem_mem e)
    unfold lvA
    rw [if_neg h1]
    exact h k e
  · have h1 : ((L ++ A)[k].1, (L ++ A)[k].2) ∈ A := by
      show (L ++ A)[k] ∈ A
      rw [List.getElem_append_right (by omega)]; exact List.getElem_mem _
    unfold lvA
    rw [if_pos h1]
    have := h i hi1
    rw [hi2] at this
    omega
/-- One state is counted. -/
theorem CuI.count {a : Ar} {f0 : Int → Int → Bool} {w : World} {C : Nat} {L : List (Int × Int)} {lv : Int → Int → Nat} {i : Nat} {t q u : Int} {x : Int × Int} {s6 : Value} {A B : World} (h : CuI a f0 w C L lv i t s6 A) (hi : L[i]? = some x) (ht : -(a.sh : Int) ≤ t ∧ t ≤ (a.sh : Int)) (hq : q = x.1 - x.2) (hu : u = x.2 - t)
    (ho : s6.ownBlock ≠ some C) (k : Keep (fun k => k = C) A B) (hm : ∃ n d, n ≤ 5 * i + (t + (a.sh : Int)).toNat + 1 ∧ MapI B C n d (fun q' u' => if q' = q ∧ u' = u then (cn a L i t q u : Int) + 1 else (cn a L i t q' u' : Int))) :
    CoB a w B ∧ (∃ n, n ≤ 697 + 45 * i + 9 * (t + (a.sh : Int)).toNat ∧ MapI B (w.heap.size + 2) n (dL L) (gL L lv)) ∧ B.ownsRow (w.heap.size + 4) 25 2 s6 L.length (flS L) ∧ ∃ n d, n ≤ 5 * i + (t + 1 + (a.sh : Int)).toNat ∧ MapI B C n d (fun q u => (cn a L i (t + 1) q u : Int)) := by
  obtain ⟨n, h1, h2⟩ := h.st
  obtain ⟨n', d, h3, h4⟩ := hm
  have hcl := h.cl
  refine ⟨h.cb.keep (k.imp fun _ _ h => by omega), ⟨n, h1, h2.of_block (k.block _ h2.lt (by omega))⟩, owns_keep h.ow fun z hz hh => k.block z hz (fun e => ho (by rw [hh, e])), n', d, by omega, h4.congr fun q' u' _ _ => ⟨rfl, ?_⟩⟩
  rw [cn_step a h.bf.nd hi ht, hq, hu]
  by_cases e : q' = x.1 - x.2 ∧ u' = x.2 - t
  · rw [if_pos e, if_pos e, e.1, e.2]
  · rw [if_neg e, if_neg e]
theorem c72X (a : Ar) (b n : Nat) (d : Int → Int → Bool) (g : Int → Int → Int) (q u : Int) (x : Nat) (X : Int) (w : World) (hX : X = (x : Nat)) (ok : a.Ok) (hm : MapI w b n d g) (hn : n ≤ 100000) (hq : -1000 ≤ q ∧ q ≤ 1000) (hu : -1000 ≤ u ∧ u ≤ 1000) (hx : x ≤ 1000) :
    Calls Try.prog 72 #[.agg #[.int .i64 (a.la : Nat), .int .i64 (a.sp : Nat), .int .i64 (a.fo : Nat), .int .i64 (a.sh : Nat), .int .i64 (a.ga : Nat), .int .i64 (a.sl : Nat), .map (some b)], .agg #[.int .i64 q, .int .i64 u], .int .i64 X] w fun e w' => ∃ v, e = .returned v ∧ w'.ownsRow w.heap.size 25 2 v (adL a d q u (2 * a.fo + 1)).length (flS (adL a d q u (2 * a.fo + 1))) ∧ MapI w' b (n + 9) (dAd d (adL a d q u (2 * a.fo + 1))) (gAd g (adL a d q u (2 * a.fo + 1)) x) ∧ Keep (fun k => k = b) w w' := by
  subst hX
  exact c72 a b n d g q u x w ok hm hn hq hu hx
theorem owns_map {W : World} {b e s n C : Nat} {v : Value} {xs : List Value} {k : Nat} {d : Int → Int → Bool} {g : Int → Int → Int} (h : W.ownsRow b e s v n xs) (hm : MapI W C k d g) : v.ownBlock ≠ some C := by
  intro hc
  obtain ⟨D, ⟨es, clock, hb, _⟩, _⟩ := hm
  rcases h.2 with ⟨h1, _⟩ | ⟨g', cap, cur, h1, _, h2, _⟩
  · rw [h1] at hc; cases hc
  · rw [h1] at hc
    injection hc with hc
    obtain rfl : g' = C := hc
    rw [hb] at h2
    cases h2

set_option maxRecDepth 100000 in
set_option maxHeartbeats 16000000 in
theorem c46 (a : Ar) (tg : Nat) (w : World) (ok : a.Ok) (ht : tg ≤ 1000) :
    Calls Try.prog 46 #[a.v, .int .i64 (tg : Nat)] w fun e w' => ∃ b n f0 L lv, e = .returned (.agg #[.int .i64 (a.la : Nat), .int .i64 (a.sp : Nat), .int .i64 (a.fo : Nat), .int .i64 (a.sh : Nat), .int .i64 (a.ga : Nat), .int .i64 (a.sl : Nat), .map (some b)]) ∧ Gr a (trB a tg) f0 ∧ (∃ t, Bfs a f0 L lv L.length t) ∧ (∀ k (h : k < L.length), lv L[k].1 L[k].2 ≤ k) ∧ MapI w' b n (dL L) (gL L lv) ∧ w.heap.size ≤ b ∧ Below w.heap.size w w' := by
  have o1 := ok.l; have o2 := ok.p; have o3 := ok.f; have o4 := ok.h
  have hmm := @run_makeMap Try.prog
  obtain ⟨wa, hwa⟩ : ∃ wa, wa = (((w.alloc (.cells #[.int .i64 (a.la : Nat), .int .i64 (a.sp : Nat), .int .i64 (a.fo : Nat), .int .i64 (a.sh : Nat), .int .i64 (a.ga : Nat), .int .i64 (a.sl : Nat)] 77)).alloc (.cells #[.int .i64 0, .int .i64 0, .int .i64 0, .int .i64 0, .int .i64 0, .int .i64 0, .map none] 86)).alloc (.map #[] 0)).alloc (.cells #[.int .i64 (a.la : Nat), .int .i64 (a.sp : Nat), .int .i64 (a.fo : Nat), .int .i64 (a.sh : Nat), .int .i64 (a.ga : Nat), .int .i64 (a.sl : Nat), .map (some (w.heap.size + 2))] 86) := ⟨_, rfl⟩
  have hA : CoB a w wa := by
    refine ⟨by rw [hwa]; (repeat' (first | (with_reducible exact Below.refl _ _) | (with_reducible assumption) | (with_reducible refine Below.alloc ?_ ?_ _) | (with_reducible refine Below.drew ?_) | (with_reducible refine below_drewN ?_ _) | (with_reducible refine Below.setCell ?_ ?_ _) | (with_reducible refine Below.trans ?_ (Below.mono (by with_reducible assumption) ?_)) | go_size)), ?_, ?_, ?_⟩
    · have h1 := ((((heap_new w (.cells #[.int .i64 (a.la : Nat), .int .i64 (a.sp : Nat), .int .i64 (a.fo : Nat), .int .i64 (a.sh : Nat), .int .i64 (a.ga : Nat), .int .i64 (a.sl : Nat)] 77)))))
      have e1 := (Below.heap_alloc (w.alloc (.cells #[.int .i64 (a.la : Nat), .int .i64 (a.sp : Nat), .int .i64 (a.fo : Nat), .int .i64 (a.sh : Nat), .int .i64 (a.ga : Nat), .int .i64 (a.sl : Nat)] 77)) (.cells #[.int .i64 0, .int .i64 0, .int .i64 0, .int .i64 0, .int .i64 0, .int .i64 0, .map none] 86) w.heap.size (by simp)).trans h1
      have e2 := (Below.heap_alloc ((w.alloc (.cells #[.int .i64 (a.la : Nat), .int .i64 (a.sp : Nat), .int .i64 (a.fo : Nat), .int .i64 (a.sh : Nat), .int .i64 (a.ga : Nat), .int .i64 (a.sl : Nat)] 77)).alloc (.cells #[.int .i64 0, .int .i64 0, .int .i64 0, .int .i64 0, .int .i64 0, .int .i64 0, .map none] 86)) (.map #[] 0) w.heap.size (by simp; omega)).trans e1
      rw [hwa]; exact (Below.heap_alloc _ _ _ (by simp; omega)).trans e2
    · have h1 := heap_new (w.alloc (.cells #[.int .i64 (a.la : Nat), .int .i64 (a.sp : Nat), .int .i64 (a.fo : Nat), .int .i64 (a.sh : Nat), .int .i64 (a.ga : Nat), .int .i64 (a.sl : Nat)] 77)) (.cells #[.int .i64 0, .int .i64 0, .int .i64 0, .int .i64 0, .int .i64 0, .int .i64 0, .map none] 86)
      rw [World.size_alloc] at h1
      rw [hwa]; exact (Below.heap_alloc _ _ _ (by simp)).trans ((Below.heap_alloc _ _ _ (by simp)).trans h1)
    · have h1 := heap_new (((w.alloc (.cells #[.int .i64 (a.la : Nat), .int .i64 (a.sp : Nat), .int .i64 (a.fo : Nat), .int .i64 (a.sh : Nat), .int .i64 (a.ga : Nat), .int .i64 (a.sl : Nat)] 77)).alloc (.cells #[.int .i64 0, .int .i64 0, .int .i64 0, .int .i64 0, .int .i64 0, .int .i64 0, .map none] 86)).alloc (.map #[] 0)) (.cells #[.int .i64 (a.la : Nat), .int .i64 (a.sp : Nat), .int .i64 (a.fo : Nat), .int .i64 (a.sh : Nat), .int .i64 (a.ga : Nat), .int .i64 (a.sl : Nat), .map (some (w.heap.size + 2))] 86)
      simp only [World.size_alloc] at h1
      rw [hwa]; exact h1
  have hMa : MapI wa (w.heap.size + 2) 0 (fun _ _ => false) (fun _ _ => 0) := by
    have h1 := (MapI.made ((w.alloc (.cells #[.int .i64 (a.la : Nat), .int .i64 (a.sp : Nat), .int .i64 (a.fo : Nat), .int .i64 (a.sh : Nat), .int .i64 (a.ga : Nat), .int .i64 (a.sl : Nat)] 77)).alloc (.cells #[.int .i64 0, .int .i64 0, .int .i64 0, .int .i64 0, .int .i64 0, .int .i64 0, .map none] 86))).alloc (.cells #[.int .i64 (a.la : Nat), .int .i64 (a.sp : Nat), .int .i64 (a.fo : Nat), .int .i64 (a.sh : Nat), .int .i64 (a.ga : Nat), .int .i64 (a.sl : Nat), .map (some (w.heap.size + 2))] 86)
    simp only [World.size_alloc] at h1
    rw [hwa]; exact h1
  have hAh := hid hA; have hMah := hid hMa
  go_enter Try.func46, Try.ntmps46
  go_wp2_with fail
  rw [← hwa]
  have hk0 : Hid (Abx a wa w.heap.size) := hid (by unfold Abx; simp [blk_cell hA.b0])
  have hsa := hA.sz
  clear hwa hA hMa hmm
  go_region_held3 (fun w' => w'.cell? ⟨w.heap.size, 0, none⟩ = some (.int .i64 (a.la : Nat)) ∧ w'.cell? ⟨w.heap.size, 1, none⟩ = some (.int .i64 (a.sp : Nat)) ∧ w'.cell? ⟨w.heap.size, 2, none⟩ = some (.int .i64 (a.fo : Nat)) ∧ w'.cell? ⟨w.heap.size, 3, none⟩ = some (.int .i64 (a.sh : Nat)) ∧ w'.cell? ⟨w.heap.size, 4, none⟩ = some (.int .i64 (a.ga : Nat)) ∧ w'.cell? ⟨w.heap.size, 5, none⟩ = some (.int .i64 (a.sl : Nat))) (first | exact hk0.out | exact hk3.out | exact hk4.out) (first | (go_at_call 45; refine (c45 a tg _ ok ht).mono ?_; rintro e w3 ⟨b, nb, f0, rfl, h1, h2, h3, h4, hB3⟩; have hB03 : Below wa.heap.size wa w3 := (Below.refl _ _).drew.trans hB3; have hk3 := hid (hk0.out.below hB03 (by omega)).all) | (go_at_call 44; refine (c44 a b nb f0 w3 ok h1).mono ?_; rintro e w4 ⟨v0, rfl, h5, hB4⟩; have hk4 := hid ((show Abx a w3 w.heap.size from hk3.out).below hB4 (by have := hB03.size; omega)).all))
  have hs3 := hB03.size
  have hk04 : Keep (fun _ => False) wa w4 := Keep.of_below (hB03.trans (hB4.mono hs3)) (Nat.le_refl _)
  have hC4 := hid (hAh.out.keep (hk04.imp fun _ _ h => h.elim))
  have hM4 := hid (hMah.out.of_block (hk04.block _ hMah.out.lt id))
  have ho4 := hid (owns_base h5 (show w.heap.size + 4 ≤ w3.heap.size by omega))
  have hGr := hid h3
  have hs4 := hk04.size
  obtain ⟨L0, hL0⟩ : ∃ L0, L0 = lst f0 (sts a) := ⟨_, rfl⟩
  have hst0 : Hid (∀ p v, f0 p v = true → stB a p v = true) := hid fun p v h => (h3.1 p v h).1
  have hBf0 := hid (Bfs.start hst0.out (sts_nodup a))
  have hLst : Hid (∀ p v, (p, v) ∈ L0 → stB a p v = true) := hid (by rw [hL0]; exact fun p v h => hBf0.out.st p v h)
  have hLn : L0.length ≤ 697 := by
    have := nodup_len L0 (sts a) (by rw [hL0]; exact hBf0.out.nd) (fun x hx => mem_sts.2 (hLst.out x.1 x.2 hx))
    rw [sts_len] at this
    have h9 : (a.la + 1) * (2 * a.sp + 1) ≤ 41 * 17 := Nat.mul_le_mul (by omega) (by omega)
    omega
  rw [← hL0] at ho4 hBf0
  obtain ⟨A0, b0, c0, hv0, hSp0, _⟩ := Sps.of_owns ho4.out
  subst hv0
  clear h1 h2 h3 h4 h5 hk0 hk3 hk4 hB3 hB4 hB03 hk04 hAh hMah hL0 hSp0
  go_wp2_with fail
  go_loopw [24] (fun iv wr => ∃ k : Nat, k ≤ L0.length ∧ iv = .int .i64 (k : Nat) ∧ CoB a w wr ∧ MapI wr (w.heap.size + 2) k (dL (L0.take k)) (fun _ _ => 0) ∧ wr.ownsRow (w.heap.size + 4) 25 2 (.slice A0 L0.length c0) L0.length (flS L0)) (fun iv _ => L0.length - (intOf iv).toNat)
  case atStart => exact ⟨0, Nat.zero_le _, rfl, hC4.out, hM4.out.congr fun p v _ _ => ⟨by simp [dL], rfl⟩, ho4.out⟩
  case round =>
    clear hC4 hM4 ho4 hs4 hsa hs3
    obtain ⟨k, hk, rfl, hC, hM, hO⟩ := hrel
    have hCh := hid hC; have hMh := hid hM; have hOh := hid hO
    have hsz := hC.sz
    by_cases hlt : k < L0.length
    · obtain ⟨A1, b1, c1, e1, hSp, hb1⟩ := Sps.of_owns hO
      injection e1 with e1 e2 e3
      subst e1 e3
      have g0 := hSp.c0 k hlt
      have g1 := hSp.c1 k hlt
      have g2 := hSp.lt k hlt
      rw [Nat.zero_add] at g0 g1
      have hix := @Sps.ix _ _ _ _ c0 _ hSp k hlt
      rw [Nat.zero_add] at hix
      have hbm := hb1 (by omega)
      obtain ⟨x, hx⟩ : ∃ x, x = L0[k] := ⟨_, rfl⟩
      rw [← hx] at g0 g1
      have hxs := stB_iff.1 (hLst.out x.1 x.2 (by rw [hx]; exact List.getElem_mem hlt))
      have hsm : Sm x.1 ∧ Sm x.2 := ⟨⟨by omega, by omega⟩, ⟨by omega, by omega⟩⟩
      obtain ⟨w1, hw1⟩ : ∃ w1, w1 = wr.alloc (.cells #[.int .i64 x.1, .int .i64 x.2] 25) := ⟨_, rfl⟩
      have hk1 : Keep (fun _ => False) wr w1 := by rw [hw1]; exact (Keep.refl _ _).alloc _
      have hs1 : w1.heap.size = wr.heap.size + 1 := by rw [hw1]; simp
      have hd1 : w1.heap[wr.heap.size]? = some (.cells #[.int .i64 x.1, .int .i64 x.2] 25 (0, 0)) := by rw [hw1]; exact heap_new _ _
      have hC1 := hid (hC.keep (hk1.imp fun _ _ h => h.elim))
      have y6 : w1.cell? ⟨w.heap.size + 3, 6, none⟩ = some (.map (some (w.heap.size + 2))) := (blk_cell hC1.out.b3).trans rfl
      have d0 : w1.cell? ⟨wr.heap.size, 0, none⟩ = some (.int .i64 x.1) := (blk_cell hd1).trans rfl
      have d1 : w1.cell? ⟨wr.heap.size, 1, none⟩ = some (.int .i64 x.2) := (blk_cell hd1).trans rfl
      obtain ⟨w2, hr2, hm2, ht2⟩ := (hM.of_block (hk1.block _ hM.lt id)).store hsm.1 hsm.2 (by omega) (x := 0) ⟨by omega, by omega⟩
      have hk2 := hid (turned_keep ht2)
      have hm2h := hid hm2
      have hxh := hid hx
      rw [hw1] at y6 d0 d1 hr2
      clear hC hM hO hSp hb1 hm2 ht2 hx hd1 hxs
      go_wp2_with fail
      go_roundw
      case rel =>
        refine ⟨k + 1, by omega, by go_num, hC1.out.keep (hk2.out.imp fun _ _ h => .inl h), hm2h.out.congr fun p v _ _ => ⟨?_, by by_cases e : p = x.1 ∧ v = x.2 <;> simp [e]⟩, owns_keep (owns_keep hOh.out fun z hz _ => hk1.block z hz id) fun z hz hh => hk2.out.block z hz (by have := (owns_at (owns_keep hOh.out fun z hz _ => hk1.block z hz id) hh).1; omega)⟩
        have e1 : L0[k]? = some x := by rw [hxh.out]; exact List.getElem?_eq_getElem hlt
        unfold dL
        rw [take_snoc e1]
        have e2 : ((p, v) = x) = (p = x.1 ∧ v = x.2) := by
          apply propext
          constructor
          · rintro rfl; exact ⟨rfl, rfl⟩
          · rintro ⟨rfl, rfl⟩; rfl
        simp [e2, Bool.beq_eq_decide_eq]
      case measure => simp [intOf]; omega
    · have hke : k = L0.length := by omega
      subst hke
      have y0 := (blk_cell hC.b0 (o := 3)).trans rfl
      have hmm := @run_makeMap Try.prog
      clear hC hM hO
      go_wp2_with fail
      obtain ⟨w8, hw8⟩ : ∃ w8, w8 = wr.alloc (.map #[] 0) := ⟨_, rfl⟩
      have hk8 : Keep (fun _ => False) wr w8 := by rw [hw8]; exact (Keep.refl _ _).alloc _
      have hm8 : MapI w8 wr.heap.size 0 (fun _ _ => false) (fun _ _ => 0) := by rw [hw8]; exact MapI.made wr
      rw [← hw8]
      obtain ⟨C, hCe⟩ : ∃ C, C = wr.heap.size := ⟨_, rfl⟩
      rw [← hCe] at hm8 ⊢
      have hcl : w.heap.size + 4 ≤ C := by omega
      have hU8 : Hid (CuI a f0 w C L0 (fun _ _ => 0) 0 (-(a.sh : Int)) (.slice A0 L0.length c0) w8) := hid ⟨hCh.out.keep (hk8.imp fun _ _ h => h.elim), hBf0.out, fun _ _ => Nat.zero_le _,
        ⟨L0.length, by omega, (hMh.out.of_block (hk8.block _ hMh.out.lt id)).congr fun p v _ _ => ⟨by rw [List.take_length], by simp [gL]⟩⟩,
        ⟨0, _, by omega, hm8.congr fun q u _ _ => ⟨rfl, by rw [cn_start]; rfl⟩⟩, owns_keep hOh.out fun z hz _ => hk8.block z hz id, hcl⟩
      clear hw8 hk8 hm8 hmm hCe hMh hOh hCh hBf0 hLst hst0 y0
      go_loopg [6, 10] 697 (fun gk s6 iv wr => ∃ (L : List (Int × Int)) (lv : Int → Int → Nat) (i : Nat), i + gk = 697 ∧ iv = .int .i64 (i : Nat) ∧ i ≤ L.length ∧ CuI a f0 w C L lv i (-(a.sh : Int)) s6 wr)
      case atStart => exact ⟨L0, _, 0, by omega, rfl, Nat.zero_le _, hU8.out⟩
      case round =>
        clear hU8
        obtain ⟨L, lv, i, hi, rfl, hiL, hU⟩ := hrel
        rename World => wo
        have hLl := hU.bf.len ok
        obtain ⟨A1, b1, c1, rfl, hSp, hb1⟩ := Sps.of_owns hU.ow
        have hUh := hid hU
        have hC := hU.cb
        have hsz := hC.sz
        by_cases hlt : i < L.length
        · cases gk with
          | zero => omega
          | succ g' =>
            have g0 := hSp.c0 i hlt
            have g1 := hSp.c1 i hlt
            have g2 := hSp.lt i hlt
            rw [Nat.zero_add] at g0 g1
            have hix := @Sps.ix _ _ _ _ c1 _ hSp i hlt
            rw [Nat.zero_add] at hix
            obtain ⟨x, hx⟩ : ∃ x, x = L[i] := ⟨_, rfl⟩
            rw [← hx] at g0 g1
            have hxi : L[i]? = some x := by rw [hx]; exact List.getElem?_eq_getElem hlt
            have hxs := stB_iff.1 (hU.bf.st x.1 x.2 (by rw [hx]; exact List.getElem_mem hlt))
            obtain ⟨w9, hw9⟩ : ∃ w9, w9 = wo.alloc (.cells #[.int .i64 x.1, .int .i64 x.2] 25) := ⟨_, rfl⟩
            have hk9 : Keep (fun _ => False) wo w9 := by rw [hw9]; exact (Keep.refl _ _).alloc _
            have hs9 : w9.heap.size = wo.heap.size + 1 := by rw [hw9]; simp
            have hd9 : w9.heap[wo.heap.size]? = some (.cells #[.int .i64 x.1, .int .i64 x.2] 25 (0, 0)) := by rw [hw9]; exact heap_new _ _
            have hU9 := hid (hU.alloc hk9)
            have hnw : Hid ((Value.slice A1 L.length c1).ownBlock ≠ some wo.heap.size) := hid fun e => by have := (owns_at hU.ow e).2; omega
            have y3 : w9.cell? ⟨w.heap.size, 3, none⟩ = some (.int .i64 (a.sh : Nat)) := (blk_cell hU9.out.cb.b0).trans rfl
            have hih := hid hi
            rw [hw9] at y3
            clear hx hk9 hSp hU hC hb1 hi hUh
            go_wp2_with fail
            rw [← hw9]
            clear hw9 g0 g1 g2 hix y3
            obtain ⟨s6, hs6⟩ : ∃ s6, s6 = Value.slice A1 L.length c1 := ⟨_, rfl⟩
            go_loopw [6, 12] (fun s6 sv wr => ∃ (L : List (Int × Int)) (lv : Int → Int → Nat) (t : Int), sv = .int .i64 t ∧ (-(a.sh : Int) ≤ t ∧ t ≤ (a.sh : Int) + 1) ∧ CuI a f0 w C L lv i t s6 wr ∧ L[i]? = some x ∧ wr.heap[wo.heap.size]? = some (.cells #[.int .i64 x.1, .int .i64 x.2] 25 (0, 0)) ∧ s6.ownBlock ≠ some wo.heap.size) (fun _ sv _ => ((a.sh : Int) + 1 - intOf sv).toNat)
            case atStart => exact ⟨L, lv, -(a.sh : Int), by go_num, ⟨Int.le_refl _, by omega⟩, hU9.out, hxi, hd9, hnw.out⟩
            case round =>
              clear hU9 hd9 hxi hlt hiL hLl hs9 hs6 s6 hnw
              obtain ⟨L, lv, t, rfl, ⟨ht1, ht2⟩, hU, hxi, hd, hnx⟩ := hrel
              have hnx := hid hnx
              have hil := (List.getElem?_eq_some_iff.1 hxi).1
              have hLl := hU.bf.len ok
              have hUh := hid hU
              have hC := hU.cb
              have hdl := blk_lt hd
              have y3 : wr.cell? ⟨w.heap.size, 3, none⟩ = some (.int .i64 (a.sh : Nat)) := (blk_cell hC.b0).trans rfl
              by_cases htl : t ≤ (a.sh : Int)
              · have d0 : wr.cell? ⟨wo.heap.size, 0, none⟩ = some (.int .i64 x.1) := (blk_cell hd).trans rfl
                have d1 : wr.cell? ⟨wo.heap.size, 1, none⟩ = some (.int .i64 x.2) := (blk_cell hd).trans rfl
                obtain ⟨q, hq⟩ : ∃ q, q = x.1 - x.2 := ⟨_, rfl⟩
                obtain ⟨u, hu⟩ : ∃ u, u = x.2 - t := ⟨_, rfl⟩
                obtain ⟨w5, hw5⟩ : ∃ w5, w5 = wr.alloc (.cells #[.int .i64 (x.1 - x.2), .int .i64 (x.2 - t)] 25) := ⟨_, rfl⟩
                have hk5 : Keep (fun _ => False) wr w5 := by rw [hw5]; exact (Keep.refl _ _).alloc _
                have hs5 : w5.heap.size = wr.heap.size + 1 := by rw [hw5]; simp
                have hd5 : w5.heap[wr.heap.size]? = some (.cells #[.int .i64 q, .int .i64 u] 25 (0, 0)) := by rw [hw5, hq, hu]; exact heap_new _ _
                have hU5 := hid (hU.alloc hk5)
                have hdx := hid ((hk5.block _ hdl id).trans hd)
                clear hU hC hd
                go_wp2_with fail
                rw [← hw5, ← hq, ← hu]
                have hqb : -100 ≤ q ∧ q ≤ 100 ∧ -100 ≤ u ∧ u ≤ 100 := by omega
                have hqh := hid hq; have huh := hid hu
                clear hw5 hq hu d0 d1
                obtain ⟨nc, dc, hnc, hmc⟩ := hU5.out.ct
                have hcq := cn_le a L i t q u
                obtain ⟨cv, hcv⟩ : ∃ cv : Int, cv = (cn a L i t q u : Int) := ⟨_, rfl⟩
                have hsq : Sm q ∧ Sm u := ⟨⟨by omega, by omega⟩, ⟨by omega, by omega⟩⟩
                have hmd : MapI w5.drew C nc dc (fun q u => (cn a L i t q u : Int)) := hmc.of_block rfl
                obtain ⟨v0, st, w6, r6, k6, m6, est⟩ := hmd.entry hsq.1 hsq.2 (by omega) (show Sm ((cn a L i t q u : Nat) : Int) from ⟨by omega, by omega⟩)
                obtain ⟨w7, r7, k7, m7⟩ := est (cv + 1) ⟨by omega, by omega⟩
                have hst6 : (st : Int) = st := rfl
                have l5 : (Instr.lookup 84 (.map (some C)) (.agg #[.int .i64 q, .int .i64 u]) false).run Try.prog w5.drew = .ok (.int .i64 cv) w5.drew := by rw [hcv]; exact hmd.look hsq.1 hsq.2
                have l6 : (Instr.lookup 84 (.map (some C)) (.agg #[.int .i64 q, .int .i64 u]) false).run Try.prog w6 = .ok (.int .i64 cv) w6 := by rw [hcv]; exact m6.look hsq.1 hsq.2
                have hC5 := hU5.out.cl
                have hCl : C < wr.heap.size := by obtain ⟨_, _, _, hmw⟩ := hUh.out.ct; exact hmw.lt
                have ewr : IntKind.i64.wrap (cv + 1) = cv + 1 := IntWalk.i64_in _ (by omega)
                have hmC : ¬ wr.heap.size = C := by omega
                have hs6 := k6.size
                have b5 : w5.drew.heap[wr.heap.size]? = some (.cells #[.int .i64 q, .int .i64 u] 25 (0, 0)) := hd5
                have b6 := (k6.block wr.heap.size (by show wr.heap.size < w5.heap.size; omega) hmC).trans b5
                have b7 := (k7.block wr.heap.size (blk_lt b6) hmC).trans b6
                have hkA := hid (And.intro ((blk_cell b5 (o := 0)).trans rfl : w5.drew.cell? ⟨wr.heap.size, 0, none⟩ = some (.int .i64 q)) ((blk_cell b5 (o := 1)).trans rfl : w5.drew.cell? ⟨wr.heap.size, 1, none⟩ = some (.int .i64 u)))
                have hkB := hid (And.intro ((blk_cell b6 (o := 0)).trans rfl : w6.cell? ⟨wr.heap.size, 0, none⟩ = some (.int .i64 q)) ((blk_cell b6 (o := 1)).trans rfl : w6.cell? ⟨wr.heap.size, 1, none⟩ = some (.int .i64 u)))
                have hkC := hid (And.intro ((blk_cell b7 (o := 0)).trans rfl : w7.cell? ⟨wr.heap.size, 0, none⟩ = some (.int .i64 q)) ((blk_cell b7 (o := 1)).trans rfl : w7.cell? ⟨wr.heap.size, 1, none⟩ = some (.int .i64 u)))
                have hcvh := hid hcv
                clear hcv hs6 b5 b6 est
                go_region_held3 (fun w' => w'.cell? ⟨wr.heap.size, 0, none⟩ = some (.int .i64 q) ∧ w'.cell? ⟨wr.heap.size, 1, none⟩ = some (.int .i64 u)) (first | exact hkA.out | exact hkB.out | exact hkC.out) (fail)
                all_goals
                  have hk57 : Keep (fun k => k = C) w5 w7 := ((Keep.refl (fun k => k = C) w5).drew.trans k6).trans k7
                  obtain ⟨hC7, hM7, hO7, hN7⟩ := hU5.out.count hxi ⟨ht1, htl⟩ hqh.out huh.out (owns_map hU5.out.ow hmc) hk57 ⟨nc + 1, _, by omega, m7.congr fun q' u' _ _ => ⟨rfl, by rw [hcvh.out]⟩⟩
                  obtain ⟨c1, hc1⟩ : ∃ c1 : Int, c1 = (cn a L i (t + 1) q u : Int) := ⟨_, rfl⟩
                  have l7 : (Instr.lookup 84 (.map (some C)) (.agg #[.int .i64 q, .int .i64 u]) false).run Try.prog w7.drew = .ok (.int .i64 c1) w7.drew := by
                    obtain ⟨n', d', _, h4⟩ := hN7
                    rw [hc1]
                    exact (show MapI w7.drew C n' d' (fun q u => (cn a L i (t + 1) q u : Int)) from h4.of_block rfl).look hsq.1 hsq.2
                  have y37 : w7.drew.cell? ⟨w.heap.size, 3, none⟩ = some (.int .i64 (a.sh : Nat)) := (blk_cell (W := w7.drew) hC7.b0).trans rfl
                  have hkE := hid (And.intro y37 hkC.out)
                  have hbg := hid b7
                  have hC7h := hid hC7; have hM7h := hid hM7; have hO7h := hid hO7; have hN7h := hid hN7
                  have hdx7 := hid ((hk57.block _ (blk_lt hdx.out) (hmc.ne hdx.out)).trans hdx.out : w7.heap[wo.heap.size]? = some (.cells #[.int .i64 x.1, .int .i64 x.2] 25 (0, 0)))
                  clear hC7 hM7 hO7 hN7 r6 k6 m6 r7 k7 m7 l5 l6 hkA hkB hmd hk57 y37 ewr
                  have ew1 : IntKind.i64.wrap (2 * (a.sh : Int)) = 2 * (a.sh : Int) := IntWalk.i64_in _ (by omega)
                  have ew2 : IntKind.i64.wrap (2 * (a.sh : Int) + 1) = 2 * (a.sh : Int) + 1 := IntWalk.i64_in _ (by omega)
                  by_cases hfull : cn a L i (t + 1) q u = 2 * a.sh + 1
                  · have hbe : (c1 == 2 * (a.sh : Int) + 1) = true := by rw [hc1, hfull]; simp
                    have hbe2 : (c1 == IntKind.i64.wrap (IntKind.i64.wrap (2 * (a.sh : Int)) + 1)) = true := by rw [ew1, ew2]; exact hbe
                    have hfh := hid hfull; have hc1h := hid hc1
                    clear hfull hc1 ew1 ew2
                    go_wp2_with fail
                    go_region_held3 (fun w' => w'.cell? ⟨w.heap.size, 3, none⟩ = some (.int .i64 (a.sh : Nat)) ∧ w'.cell? ⟨wr.heap.size, 0, none⟩ = some (.int .i64 q) ∧ w'.cell? ⟨wr.heap.size, 1, none⟩ = some (.int .i64 u)) (first | exact hkE.out) (fail)
                    go_wp2_with fail
                    obtain ⟨n1, hn1, hm1⟩ := hM7h.out
                    obtain ⟨gx, hgx⟩ : ∃ gx : Int, gx = (lv x.1 x.2 : Int) := ⟨_, rfl⟩
                    have hxL : (x.1, x.2) ∈ L := List.mem_of_getElem? hxi
                    have hlx : lv x.1 x.2 ≤ 697 := by
                      have h1 := hU5.out.lb i hil
                      rw [(List.getElem?_eq_some_iff.1 hxi).2] at h1
                      omega
                    have hgL : gL L lv x.1 x.2 = gx := by unfold gL; rw [if_pos hxL, hgx]
                    have hsx : Sm x.1 ∧ Sm x.2 := ⟨⟨by omega, by omega⟩, ⟨by omega, by omega⟩⟩
                    have l8 : (Instr.lookup 84 (.map (some (w.heap.size + 2))) (.agg #[.int .i64 x.1, .int .i64 x.2]) false).run Try.prog w7.drew.drew = .ok (.int .i64 gx) w7.drew.drew := by
                      have := (show MapI w7.drew.drew (w.heap.size + 2) n1 (dL L) (gL L lv) from hm1.of_block rfl).look hsx.1 hsx.2
                      rw [hgL] at this
                      exact this
                    have ewg : IntKind.i64.wrap (gx + 1) = gx + 1 := IntWalk.i64_in _ (by omega)
                    have s19 : ∀ W : World, W.heap[w.heap.size + 3]? = some (.cells #[.int .i64 (a.la : Nat), .int .i64 (a.sp : Nat), .int .i64 (a.fo : Nat), .int .i64 (a.sh : Nat), .int .i64 (a.ga : Nat), .int .i64 (a.sl : Nat), .map (some (w.heap.size + 2))] 86 (0, 0)) → W.heap[wr.heap.size]? = some (.cells #[.int .i64 q, .int .i64 u] 25 (0, 0)) → W.heap[wo.heap.size]? = some (.cells #[.int .i64 x.1, .int .i64 x.2] 25 (0, 0)) → ((W.cell? ⟨w.heap.size + 3, 0, none⟩ = some (.int .i64 (a.la : Nat)) ∧ W.cell? ⟨w.heap.size + 3, 1, none⟩ = some (.int .i64 (a.sp : Nat)) ∧ W.cell? ⟨w.heap.size + 3, 2, none⟩ = some (.int .i64 (a.fo : Nat)) ∧ W.cell? ⟨w.heap.size + 3, 3, none⟩ = some (.int .i64 (a.sh : Nat)) ∧ W.cell? ⟨w.heap.size + 3, 4, none⟩ = some (.int .i64 (a.ga : Nat)) ∧ W.cell? ⟨w.heap.size + 3, 5, none⟩ = some (.int .i64 (a.sl : Nat)) ∧ W.cell? ⟨w.heap.size + 3, 6, none⟩ = some (.map (some (w.heap.size + 2)))) ∧ (W.cell? ⟨wr.heap.size, 0, none⟩ = some (.int .i64 q) ∧ W.cell? ⟨wr.heap.size, 1, none⟩ = some (.int .i64 u)) ∧ W.cell? ⟨wo.heap.size, 0, none⟩ = some (.int .i64 x.1) ∧ W.cell? ⟨wo.heap.size, 1, none⟩ = some (.int .i64 x.2)) := fun W h1 h2 h3 => by
                      refine ⟨⟨?_, ?_, ?_, ?_, ?_, ?_, ?_⟩, ⟨?_, ?_⟩, ?_, ?_⟩
                      · exact (blk_cell h1).trans rfl
                      · exact (blk_cell h1).trans rfl
                      · exact (blk_cell h1).trans rfl
                      · exact (blk_cell h1).trans rfl
                      · exact (blk_cell h1).trans rfl
                      · exact (blk_cell h1).trans rfl
                      · exact (blk_cell h1).trans rfl
                      · exact (blk_cell h2).trans rfl
                      · exact (blk_cell h2).trans rfl
                      · exact (blk_cell h3).trans rfl
                      · exact (blk_cell h3).trans rfl
                    have e3 := hid (show w7.drew.drew.heap[w.heap.size + 3]? = _ from hC7h.out.b3)
                    have eg := hid (show w7.drew.drew.heap[wr.heap.size]? = _ from hbg.out)
                    have ex := hid (show w7.drew.drew.heap[wo.heap.size]? = _ from hdx7.out)
                    have hkF := hid (s19 _ e3.out eg.out ex.out)
                    have hs19 := hid s19
                    have hsz7 : w.heap.size + 4 ≤ w7.heap.size := hC7h.out.sz
                    have hlg := blk_lt hbg.out
                    have hlo := blk_lt hdx7.out
                    have hm8 := hid (show MapI w7.drew.drew (w.heap.size + 2) n1 (dL L) (gL L lv) from hm1.of_block rfl)
                    have ho8 := hid (show w7.drew.drew.ownsRow (w.heap.size + 4) 25 2 u6 L.length (flS L) from owns_keep hO7h.out fun _ _ _ => rfl)
                    have hog := hid (fun g hg => (owns_at hUh.out.ow (g := g) hg).2)
                    have hgxh := hid hgx
                    have hn1h := hid hn1
                    have hxih := hid hxi
                    have hbn1 := hid (show n1 ≤ 100000 by have := hn1h.out; omega)
                    have hbl1 := hid (show lv x.1 x.2 + 1 ≤ 1000 by omega)
                    have hgx1 := hid (show gx + 1 = ((lv x.1 x.2 + 1 : Nat) : Int) by have := hgxh.out; omega)
                    have hbA := hid (show L.length + (adL a (dL L) q u (2 * a.fo + 1)).length ≤ 100000 by have := adL_len a (dL L) q u (2 * a.fo + 1); omega)
                    have hb3lt := hid (show w.heap.size + 3 < w7.drew.drew.heap.size by show w.heap.size + 3 < w7.heap.size; omega)
                    have hg2 := hid (show ¬ wr.heap.size = w.heap.size + 2 by omega)
                    have hx2 := hid (show ¬ wo.heap.size = w.heap.size + 2 by omega)
                    have hq2 := hid (show -1000 ≤ q ∧ q ≤ 1000 by omega)
                    have hu2 := hid (show -1000 ≤ u ∧ u ≤ 1000 by omega)
                    clear hm1 hgx hgL hn1 s19 hbe hbe2 l7 hst6 hcq hnc hmc hxi hlx hxL hsx hsq hkC hkE hLl hil y3 hk5 hs5 hd5
                    go_region_held3 (fun w' => (w'.cell? ⟨w.heap.size + 3, 0, none⟩ = some (.int .i64 (a.la : Nat)) ∧ w'.cell? ⟨w.heap.size + 3, 1, none⟩ = some (.int .i64 (a.sp : Nat)) ∧ w'.cell? ⟨w.heap.size + 3, 2, none⟩ = some (.int .i64 (a.fo : Nat)) ∧ w'.cell? ⟨w.heap.size + 3, 3, none⟩ = some (.int .i64 (a.sh : Nat)) ∧ w'.cell? ⟨w.heap.size + 3, 4, none⟩ = some (.int .i64 (a.ga : Nat)) ∧ w'.cell? ⟨w.heap.size + 3, 5, none⟩ = some (.int .i64 (a.sl : Nat)) ∧ w'.cell? ⟨w.heap.size + 3, 6, none⟩ = some (.map (some (w.heap.size + 2)))) ∧ (w'.cell? ⟨wr.heap.size, 0, none⟩ = some (.int .i64 q) ∧ w'.cell? ⟨wr.heap.size, 1, none⟩ = some (.int .i64 u)) ∧ w'.cell? ⟨wo.heap.size, 0, none⟩ = some (.int .i64 x.1) ∧ w'.cell? ⟨wo.heap.size, 1, none⟩ = some (.int .i64 x.2)) (first | exact hkF.out | exact hkG.out | exact hkH.out) (first | (go_at_call 72; refine (c72X a (w.heap.size + 2) n1 (dL L) (gL L lv) q u (lv x.1 x.2 + 1) (gx + 1) _ hgx1.out ok hm8.out hbn1.out hq2.out hu2.out hbl1.out).mono ?_; rintro e w9 ⟨v9, rfl, ho9, hm9, hk9⟩; have hs9 := hk9.size; have f3 := hid ((hk9.block _ hb3lt.out (fun e : w.heap.size + 3 = w.heap.size + 2 => by omega)).trans e3.out); have fg := hid ((hk9.block _ hlg hg2.out).trans eg.out); have fx := hid ((hk9.block _ hlo hx2.out).trans ex.out); have hkG := hid (hs19.out _ f3.out fg.out fx.out); have ho8' := hid (owns_keep ho8.out fun z hz hh => hk9.block z hz (fun e : z = w.heap.size + 2 => by have := (owns_at ho8.out hh).1; omega)); have ho9h := hid ho9; have hm9h := hid hm9; have hk9h := hid hk9; clear ho9 hm9 hk9) | (refine step_append_rows (by rfl) (.tmp 79) (.tmp 87) (by rfl) (w.heap.size + 4) _ u6 v9 L (adL a (dL L) q u (2 * a.fo + 1)) (by rfl) (by rfl) ho8'.out ho9h.out hbA.out (Nat.le_trans hsz7 hs9) ?_; intro v10 w10 ho10 hg10 hw10; have hk10 : Keep (fun k => w.heap.size + 4 ≤ k ∧ u6.ownBlock = some k) w9 w10 := (Keep.refl _ _).grown hg10 (fun k e => .inl ⟨(owns_at ho8'.out e).1, e⟩); have fxh := hid ((hk10.block _ (blk_lt fx.out) (fun h => hnx.out h.2)).trans fx.out); have hkH := hid (hs19.out _ ((hk10.block _ (blk_lt f3.out) (fun h => absurd h.1 (by omega))).trans f3.out) ((hk10.block _ (blk_lt fg.out) (fun h => absurd (hog.out _ h.2) (Nat.lt_irrefl _))).trans fg.out) fxh.out); have ho10h := hid ho10; have hw10h := hid hw10; clear ho10 hg10 hw10))
                    go_wp2_with fail
                    go_roundw
                    case rel =>
                      obtain rfl := hqh.out
                      obtain rfl := huh.out
                      have hxi := hxih.out
                      have hil := (List.getElem?_eq_some_iff.1 hxi).1
                      have hkz : Keep (fun k => k = w.heap.size + 2 ∨ w.heap.size + 4 ≤ k) w7 w10 := ((((Keep.refl _ _).drew).drew).trans (hk9h.out.imp fun _ _ h => .inl h)).trans (hk10.imp fun _ _ h => .inr h.1)
                      have hAL : ∀ y, y ∈ adL a (dL L) (x.1 - x.2) (x.2 - t) (2 * a.fo + 1) → y ∉ L := fun y hy hl => by
                        rw [adL_mem] at hy
                        have := hy.2.2
                        unfold dL at this
                        rw [decide_eq_false_iff_not] at this
                        exact this hl
                      refine ⟨L ++ adL a (dL L) (x.1 - x.2) (x.2 - t) (2 * a.fo + 1), lvA lv (adL a (dL L) (x.1 - x.2) (x.2 - t) (2 * a.fo + 1)) (lv x.1 x.2 + 1), t + 1, by go_num, ⟨by omega, by omega⟩, ⟨hC7h.out.keep hkz, hU5.out.bf.full hxi ⟨ht1, htl⟩ hfh.out (fun _ _ _ => rfl) rfl, lb_full hU5.out.bf.nd hU5.out.lb hxi hAL, ?_, ?_, ho10h.out, hC5⟩, by rw [List.getElem?_append_left hil]; exact hxi, fxh.out, ?_⟩
                      · refine ⟨n1 + 9, by have := hn1h.out; omega, (hm9h.out.of_block (hk10.block _ hm9h.out.lt (fun h => by omega))).congr fun p v _ _ => ⟨dAd_dL _ _ _ _, gAd_gL _ _ _ _ _ _⟩⟩
                      · obtain ⟨n2, d2, h1, h2⟩ := hN7h.out
                        have h3 : MapI w9 C n2 d2 _ := h2.of_block (hk9h.out.block C h2.lt (by omega))
                        exact ⟨n2, d2, h1, (h3.of_block (hk10.block _ h3.lt (fun h => owns_map ho8'.out h3 h.2))).congr fun p v _ _ => ⟨rfl, by rw [cn_app a hil]⟩⟩
                      · rcases hw10h.out with e | e
                        · rw [e]; exact hnx.out
                        · rw [e]; intro h; injection h with h; have : w7.heap.size ≤ w9.heap.size := hk9h.out.size; omega
                    case measure => simp [intOf]; omega
                  · have hbe : (c1 == 2 * (a.sh : Int) + 1) = false := by rw [hc1]; simp only [beq_eq_false_iff_ne]; omega
                    have hbe2 : (c1 == IntKind.i64.wrap (IntKind.i64.wrap (2 * (a.sh : Int)) + 1)) = false := by rw [ew1, ew2]; exact hbe
                    have hfh := hid hfull; have hc1h := hid hc1
                    clear hfull hc1 ew1 ew2
                    go_wp2_with fail
                    go_region_held3 (fun w' => w'.cell? ⟨w.heap.size, 3, none⟩ = some (.int .i64 (a.sh : Nat)) ∧ w'.cell? ⟨wr.heap.size, 0, none⟩ = some (.int .i64 q) ∧ w'.cell? ⟨wr.heap.size, 1, none⟩ = some (.int .i64 u)) (first | exact hkE.out) (fail)
                    go_wp2_with fail
                    go_roundw
                    case rel =>
                      refine ⟨L, lv, t + 1, by go_num, ⟨by omega, by omega⟩, ⟨hC7h.out.keep ((Keep.refl _ _).drew), hU5.out.bf.part hxi ⟨ht1, htl⟩ (by rw [← hqh.out, ← huh.out]; exact hfh.out), hU5.out.lb, ?_, ?_, owns_keep hO7h.out fun _ _ _ => rfl, hC5⟩, hxi, hdx7.out, hnx.out⟩
                      · obtain ⟨n1, h1, h2⟩ := hM7h.out
                        exact ⟨n1, by omega, h2.of_block rfl⟩
                      · obtain ⟨n1, d1, h1, h2⟩ := hN7h.out
                        exact ⟨n1, d1, h1, h2.of_block rfl⟩
                    case measure => simp [intOf]; omega
              · have hte : t = (a.sh : Int) + 1 := by omega
                subst hte
                clear hC hd hdl y3
                have y3 : wr.cell? ⟨w.heap.size, 3, none⟩ = some (.int .i64 (a.sh : Nat)) := (blk_cell hUh.out.cb.b0).trans rfl
                clear hU
                go_wp2_with fail
                go_roundg g'
                case measure => omega
                case rel =>
                  have hU := hUh.out
                  refine ⟨L, lv, i + 1, by have := hih.out; omega, by go_num, by omega, ⟨hU.cb, hU.bf.next hil, hU.lb, ?_, ?_, hU.ow, hU.cl⟩⟩
                  · obtain ⟨n1, h1, h2⟩ := hU.st
                    exact ⟨n1, by omega, h2⟩
                  · obtain ⟨n1, d1, h1, h2⟩ := hU.ct
                    exact ⟨n1, d1, by omega, h2.congr fun p v _ _ => ⟨rfl, by rw [cn_next a hil]⟩⟩
        · have hie : i = L.length := by omega
          have hb1' := hC.b1
          have hb3' := hC.b3
          have z0 : wo.cell? ⟨w.heap.size + 1, 0, none⟩ = some (.int .i64 0) := (blk_cell hb1').trans rfl
          have zf0 : wo.frozen? ⟨w.heap.size + 1, 0, none⟩ = false := blk_frozen hb1'
          have z1 : wo.cell? ⟨w.heap.size + 1, 1, none⟩ = some (.int .i64 0) := (blk_cell hb1').trans rfl
          have zf1 : wo.frozen? ⟨w.heap.size + 1, 1, none⟩ = false := blk_frozen hb1'
          have z2 : wo.cell? ⟨w.heap.size + 1, 2, none⟩ = some (.int .i64 0) := (blk_cell hb1').trans rfl
          have zf2 : wo.frozen? ⟨w.heap.size + 1, 2, none⟩ = false := blk_frozen hb1'
          have z3 : wo.cell? ⟨w.heap.size + 1, 3, none⟩ = some (.int .i64 0) := (blk_cell hb1').trans rfl
          have zf3 : wo.frozen? ⟨w.heap.size + 1, 3, none⟩ = false := blk_frozen hb1'
          have z4 : wo.cell? ⟨w.heap.size + 1, 4, none⟩ = some (.int .i64 0) := (blk_cell hb1').trans rfl
          have zf4 : wo.frozen? ⟨w.heap.size + 1, 4, none⟩ = false := blk_frozen hb1'
          have z5 : wo.cell? ⟨w.heap.size + 1, 5, none⟩ = some (.int .i64 0) := (blk_cell hb1').trans rfl
          have zf5 : wo.frozen? ⟨w.heap.size + 1, 5, none⟩ = false := blk_frozen hb1'
          have z6 : wo.cell? ⟨w.heap.size + 1, 6, none⟩ = some (.map none) := (blk_cell hb1').trans rfl
          have zf6 : wo.frozen? ⟨w.heap.size + 1, 6, none⟩ = false := blk_frozen hb1'
          have y0 : wo.cell? ⟨w.heap.size + 3, 0, none⟩ = some (.int .i64 (a.la : Nat)) := (blk_cell hb3').trans rfl
          have y1 : wo.cell? ⟨w.heap.size + 3, 1, none⟩ = some (.int .i64 (a.sp : Nat)) := (blk_cell hb3').trans rfl
          have y2 : wo.cell? ⟨w.heap.size + 3, 2, none⟩ = some (.int .i64 (a.fo : Nat)) := (blk_cell hb3').trans rfl
          have y3 : wo.cell? ⟨w.heap.size + 3, 3, none⟩ = some (.int .i64 (a.sh : Nat)) := (blk_cell hb3').trans rfl
          have y4 : wo.cell? ⟨w.heap.size + 3, 4, none⟩ = some (.int .i64 (a.ga : Nat)) := (blk_cell hb3').trans rfl
          have y5 : wo.cell? ⟨w.heap.size + 3, 5, none⟩ = some (.int .i64 (a.sl : Nat)) := (blk_cell hb3').trans rfl
          have y6 : wo.cell? ⟨w.heap.size + 3, 6, none⟩ = some (.map (some (w.heap.size + 2))) := (blk_cell hb3').trans rfl
          have hlz : w.heap.size + 1 < wo.heap.size := by omega
          have hszl : w.heap.size ≤ wo.heap.size := by omega
          have hfin := And.intro (hie ▸ hU.bf : Bfs a f0 L lv L.length (-(a.sh : Int))) hU.lb
          subst hie
          clear hU hC hSp hb1 hb1' hb3'
          go_wp2_with fail
          have hkf := hid (fun v0 v1 v2 v3 v4 v5 v6 : Value => (((((((Keep.refl (fun k => k = w.heap.size + 1) wo).setCell (p := ⟨w.heap.size + 1, 0, none⟩) (.inl rfl) v0).setCell (p := ⟨w.heap.size + 1, 1, none⟩) (.inl rfl) v1).setCell (p := ⟨w.heap.size + 1, 2, none⟩) (.inl rfl) v2).setCell (p := ⟨w.heap.size + 1, 3, none⟩) (.inl rfl) v3).setCell (p := ⟨w.heap.size + 1, 4, none⟩) (.inl rfl) v4).setCell (p := ⟨w.heap.size + 1, 5, none⟩) (.inl rfl) v5).setCell (p := ⟨w.heap.size + 1, 6, none⟩) (.inl rfl) v6)
          refine bodyPost_ret (v := .agg #[.int .i64 (a.la : Nat), .int .i64 (a.sp : Nat), .int .i64 (a.fo : Nat), .int .i64 (a.sh : Nat), .int .i64 (a.ga : Nat), .int .i64 (a.sl : Nat), .map (some (w.heap.size + 2))]) (by simp [results, Try.results46, go_sem, hlz, z0, z1, z2, z3, z4, z5, z6]) rfl ?_
          have hU := hUh.out
          obtain ⟨n1, h1, h2⟩ := hU.st
          have hbz := hU.cb.bel
          have hl2 := h2.lt
          clear hUh hU z0 z1 z2 z3 z4 z5 z6
          refine ⟨w.heap.size + 2, n1, f0, L, lv, rfl, hGr.out, ⟨_, hfin.1⟩, hfin.2, ?_, Nat.le_add_right _ _, ?_⟩
          · exact h2.of_block ((hkf.out _ _ _ _ _ _ _).block (w.heap.size + 2) hl2 (fun e : w.heap.size + 2 = w.heap.size + 1 => by omega))
          · exact hbz.trans ((hkf.out _ _ _ _ _ _ _).to_below hszl (fun k (hk : k = w.heap.size + 1) => by omega))
end Go.Proofs.Ytajllhjoagldkaa
