/- Stage 5: the law of the refused words. -/
import Derived.Test.YtnndhibhnakdoaaDoorY4
set_option linter.unusedSimpArgs false
set_option linter.unusedVariables false
namespace Go.Proofs.YtnndhibhnakdoaaDoor
open Go.RowKit Go.BigFrame Go.Sort
open Gf (S)

/-- A code and noise, in boxes. -/
def NX (L P : Int) (A1 : Option Addr) (n1 c1 : Nat) (A2 : Option Addr) (n2 c2 : Nat) (A3 : Option Addr) (n3 c3 : Nat) (b : Nat) (w : World) : Prop :=
  (w.cell? ⟨b, 0, none⟩ = some (.int .i64 L) ∧ w.cell? ⟨b, 1, none⟩ = some (.int .i64 P)) ∧ w.cell? ⟨b + 1, 0, none⟩ = some (.slice A1 n1 c1) ∧ w.cell? ⟨b + 1, 1, none⟩ = some (.slice A2 n2 c2) ∧ w.cell? ⟨b + 1, 2, none⟩ = some (.slice A3 n3 c3)
section
variable {L P : Int} {A1 A2 A3 : Option Addr} {n1 c1 n2 c2 n3 c3 : Nat}
theorem NX.below {b B : Nat} {w w' : World} (h : NX L P A1 n1 c1 A2 n2 c2 A3 n3 c3 b w) (hb : Below B w w') (hB : b + 1 < B) : NX L P A1 n1 c1 A2 n2 c2 A3 n3 c3 b w' :=
  ⟨⟨(hb.cell (p := ⟨b, 0, none⟩) (show b < B by omega)).trans h.1.1, (hb.cell (p := ⟨b, 1, none⟩) (show b < B by omega)).trans h.1.2⟩, (hb.cell (p := ⟨b + 1, 0, none⟩) hB).trans h.2.1, (hb.cell (p := ⟨b + 1, 1, none⟩) hB).trans h.2.2.1, (hb.cell (p := ⟨b + 1, 2, none⟩) hB).trans h.2.2.2⟩
theorem nx_new (w : World) : NX L P A1 n1 c1 A2 n2 c2 A3 n3 c3 w.heap.size (((w.alloc (.cells #[.int .i64 L, .int .i64 P] 23)).alloc (.cells #[.slice A1 n1 c1, .slice A2 n2 c2, .slice A3 n3 c3] 51))) := by
  have h1 : Bx2 L P (w.alloc (.cells #[.int .i64 L, .int .i64 P] 23)) w.heap.size := by unfold Bx2; simp
  have hb := (Below.refl (w.heap.size + 1) (w.alloc (.cells #[.int .i64 L, .int .i64 P] 23))).alloc (by rw [World.size_alloc]; exact Nat.le_refl _) (.cells #[.slice A1 n1 c1, .slice A2 n2 c2, .slice A3 n3 c3] 51)
  have h2 : ∀ W : World, (W.alloc (.cells #[.slice A1 n1 c1, .slice A2 n2 c2, .slice A3 n3 c3] 51)).cell? ⟨W.heap.size, 0, none⟩ = some (.slice A1 n1 c1) ∧ (W.alloc (.cells #[.slice A1 n1 c1, .slice A2 n2 c2, .slice A3 n3 c3] 51)).cell? ⟨W.heap.size, 1, none⟩ = some (.slice A2 n2 c2) ∧ (W.alloc (.cells #[.slice A1 n1 c1, .slice A2 n2 c2, .slice A3 n3 c3] 51)).cell? ⟨W.heap.size, 2, none⟩ = some (.slice A3 n3 c3) := fun W => by simp
  have h3 := h2 (w.alloc (.cells #[.int .i64 L, .int .i64 P] 23))
  rw [World.size_alloc] at h3
  exact ⟨⟨(hb.cell (p := ⟨w.heap.size, 0, none⟩) (Nat.lt_succ_self _)).trans h1.1, (hb.cell (p := ⟨w.heap.size, 1, none⟩) (Nat.lt_succ_self _)).trans h1.2⟩, h3⟩
end
theorem own_vals {w : World} {base n : Nat} {v : Value} {f : Nat → Int} (h : w.ownsRow base 3 1 v n (vals n f)) (hn : 0 < n) : ∃ g c, v = .slice (some ⟨g, 0, none⟩) n c ∧ Ints w (some ⟨g, 0, none⟩) g 0 n f := by
  have hne : ¬ v = .slice none 0 0 := by
    rintro rfl
    obtain ⟨_, ⟨_, h2⟩ | ⟨g, cap, cur, h3, _⟩⟩ := h
    · omega
    · cases h3
  obtain ⟨g, c, rfl⟩ := own_shape h hne
  exact ⟨g, c, rfl, (RowF.of_owns h).ints⟩
theorem sy_nf (C : Nat → S) (k : Nat) : sy (nf C) k = C k := by
  unfold sy nf
  apply Fin.ext
  have := (C k).isLt
  simp [Fin.ofNat]
theorem nf_sy {n : Nat} {f : Nat → Int} (h : allS n f) {k : Nat} (hk : k < n) : f k = nf (sy f) k := sy_val (h k hk)
theorem all_nf (n : Nat) (C : Nat → S) : allS n (nf C) := fun k _ => by
  have := (C k).isLt
  unfold isym nf
  omega
/-- Two code words that are not far from a word are one. -/
theorem same_of {n r : Nat} {C D R : Nat → S} (hn : n ≤ 15) (hC : ∀ i, i < r → Gf.syn n C i = 0) (hD : ∀ i, i < r → Gf.syn n D i = 0) (h : Gf.apa n C R [] + Gf.apa n D R [] ≤ r) : ∀ j, j < n → D j = C j := by
  intro j hj
  refine Gf.ad_eq_zero _ _ (Gf.uniq (e := fun j => Gf.ad (D j) (C j)) (P := Gf.dif n C R [] ++ Gf.dif n D R []) (r := r) hn (fun p hp => ?_) ?_ (fun i hi hp => ?_) (fun i hi => ?_) j hj)
  · rcases List.mem_append.1 hp with h | h <;> exact (Gf.dif_mem.1 h).1
  · rw [List.length_append, Gf.dif_len, Gf.dif_len]; exact h
  · have h2 : C i = R i := Classical.byContradiction fun h => hp (List.mem_append_left _ (Gf.dif_mem.2 ⟨hi, h, fun hm => by cases hm⟩))
    have h3 : D i = R i := Classical.byContradiction fun h => hp (List.mem_append_right _ (Gf.dif_mem.2 ⟨hi, h, fun hm => by cases hm⟩))
    show Gf.ad (D i) (C i) = 0
    rw [h2, h3, Gf.ad_self]
  · rw [Gf.syn_ad, hD i hi, hC i hi, Gf.ad_zero]
theorem apa_congr {n : Nat} {C C' R R' : Nat → S} {M : List Nat} (h : ∀ i, i < n → C i = C' i) (h2 : ∀ i, i < n → R i = R' i) : Gf.apa n C R M = Gf.apa n C' R' M := by
  unfold Gf.apa
  refine List.countP_congr fun x hx => ?_
  rw [h x (List.mem_range.1 hx), h2 x (List.mem_range.1 hx)]
/-- Decode of a word that is noisy. -/
theorem c20r (n r : Nat) (A : Option Addr) (b o c : Nat) (R : Nat → S) (A2 : Option Addr) (b2 o2 m c2 : Nat) (g : Nat → Int) (w : World) (hT : Tab w) (h : vld (n : Nat) (r : Nat)) (hz : Ints w A b o n (nf R)) (hp : Ints w A2 b2 o2 m g) (hk2 : A2 = none → c2 = 0) (ha : asc (n : Nat) m g) :
    Calls Tryd.prog 20 #[cv n r, .slice A n c, .slice A2 m c2] w (CRet n r R (li (ps g) m) w) := by
  have e : sy (nf R) = R := funext fun k => sy_nf R k
  have := c20y n r A b o c (nf R) A2 b2 o2 m c2 g w hT h hz (all_nf n R) hp hk2 ha
  rw [e] at this
  exact this
theorem c20r0 (n r : Nat) (A : Option Addr) (b o c : Nat) (R : Nat → S) (w : World) (hT : Tab w) (h : vld (n : Nat) (r : Nat)) (hz : Ints w A b o n (nf R)) :
    Calls Tryd.prog 20 #[cv n r, .slice A n c, .slice none 0 0] w (CRet n r R [] w) := c20r n r A b o c R none 0 0 0 0 (fun _ => 0) w hT h hz (Ints.empty _ _ _ _ _) (fun _ => rfl) (fun k hk => absurd hk (Nat.not_lt_zero _))
theorem c20x (n r : Nat) (A : Option Addr) (b o c : Nat) (R : Nat → S) (A2 : Option Addr) (b2 o2 m c2 : Nat) (g : Nat → Int) (w : World) (hT : Tab w) (h : vld (n : Nat) (r : Nat)) (hz : Ints w A b o n (nf R)) (hp : Ints w A2 b2 o2 m g) (hk2 : A2 = none → c2 = 0) (ha : asc (n : Nat) m g) :
    Calls Tryd.prog 20 #[cv n r, .slice A n c, .slice A2 m c2] w fun e w' => ∃ (v : Value) (h : Int), e = .returned (.tuple #[v, .int .i64 h]) ∧ (r < m → h = 52) ∧ Below w.heap.size w w' :=
  (c20r n r A b o c R A2 b2 o2 m c2 g w hT h hz hp hk2 ha).mono fun e w' hr => by
    rcases hr with ⟨C, g', c', hC, he, _, _, _, hB⟩ | ⟨_, he, hB⟩
    · refine ⟨_, 0, he, fun hm => ?_, hB⟩
      have := hC.2
      rw [li_len] at this
      omega
    · exact ⟨_, 52, he, fun _ => rfl, hB⟩
set_option maxRecDepth 100000 in
set_option maxHeartbeats 4000000 in
theorem c8a (L P : Int) (A1 : Option Addr) (n1 c1 : Nat) (A2 : Option Addr) (n2 c2 : Nat) (A3 : Option Addr) (n3 c3 : Nat) (w : World) (hT : Tab w) (h : ¬ rdy L P) : Calls Tryd.prog 8 #[.agg #[.int .i64 L, .int .i64 P], .agg #[.slice A1 n1 c1, .slice A2 n2 c2, .slice A3 n3 c3]] w fun e w' => e = .returned (.bool true) ∧ Below w.heap.size w w' := by
  have hh := hid h
  have hwk := hid c15
  have hTh := hid hT
  have hB0 : Hid (Below w.heap.size w (((w.alloc (.cells #[.int .i64 L, .int .i64 P] 23)).alloc (.cells #[.slice A1 n1 c1, .slice A2 n2 c2, .slice A3 n3 c3] 51)))) := hid (by (repeat' (first | (with_reducible exact Below.refl _ _) | (with_reducible assumption) | (with_reducible refine Below.alloc ?_ ?_ _) | (with_reducible refine Below.drew ?_) | (with_reducible refine below_drewN ?_ _) | (with_reducible refine Below.setCell ?_ ?_ _) | (with_reducible refine Below.trans ?_ (Below.mono (by with_reducible assumption) ?_)) | go_size)))
  clear h hT
  go_enter Tryd.func8, Tryd.ntmps8
  go_wp2_with (first | (go_at_call 35; refine (c35n L P _ hh.out).mono ?_; rintro e w1 ⟨rfl, hB1⟩; have hB1 := hid (hB0.out.trans (hB1.mono (by simp; omega)))) | (go_at_call 15; refine (hwk.out _ (hTh.out.below hB1.out (Nat.le_refl _))).mono ?_; rintro e w2 ⟨rfl, hB2⟩; have hB2 := hid (hB1.out.trans (hB2.mono hB1.out.size))))
  go_returns
  exact ⟨rfl, hB2.out⟩
set_option maxRecDepth 100000 in
set_option maxHeartbeats 4000000 in
theorem c8b (n r : Nat) (A1 : Option Addr) (b1 o1 n1 c1 : Nat) (f1 : Nat → Int) (A2 : Option Addr) (b2 o2 n2 c2 : Nat) (f2 : Nat → Int) (A3 : Option Addr) (b3 o3 n3 c3 : Nat) (f3 : Nat → Int) (w : World) (hT : Tab w) (h : rdy (n : Nat) (r : Nat)) (h1 : Sin w A1 b1 o1 n1 c1 f1) (h2 : Sin w A2 b2 o2 n2 c2 f2) (h3 : Sin w A3 b3 o3 n3 c3 f3) (hno : ¬ noiP n r n1 n2 n3 f1 f2 f3) :
    Calls Tryd.prog 8 #[cv n r, .agg #[.slice A1 n1 c1, .slice A2 n2 c2, .slice A3 n3 c3]] w fun e w' => e = .returned (.bool true) ∧ Below w.heap.size w w' := by
  have hh := hid h
  have hn := vld_nat h.1
  have hwk := hid c15
  have hTh := hid hT
  have h1h := hid h1
  have h2h := hid h2
  have h3h := hid h3
  have hnoh := hid hno
  have hB0 : Hid (Below w.heap.size w (((w.alloc (.cells #[.int .i64 (n : Nat), .int .i64 (r : Nat)] 23)).alloc (.cells #[.slice A1 n1 c1, .slice A2 n2 c2, .slice A3 n3 c3] 51)))) := hid (by (repeat' (first | (with_reducible exact Below.refl _ _) | (with_reducible assumption) | (with_reducible refine Below.alloc ?_ ?_ _) | (with_reducible refine Below.drew ?_) | (with_reducible refine below_drewN ?_ _) | (with_reducible refine Below.setCell ?_ ?_ _) | (with_reducible refine Below.trans ?_ (Below.mono (by with_reducible assumption) ?_)) | go_size)))
  have hX0 : Hid (NX (n : Nat) (r : Nat) A1 n1 c1 A2 n2 c2 A3 n3 c3 w.heap.size (((w.alloc (.cells #[.int .i64 (n : Nat), .int .i64 (r : Nat)] 23)).alloc (.cells #[.slice A1 n1 c1, .slice A2 n2 c2, .slice A3 n3 c3] 51)))) := hid (nx_new w)
  have hs0 : Hid ((((w.alloc (.cells #[.int .i64 (n : Nat), .int .i64 (r : Nat)] 23)).alloc (.cells #[.slice A1 n1 c1, .slice A2 n2 c2, .slice A3 n3 c3] 51))).heap.size = w.heap.size + 2) := hid (by rw [World.size_alloc, World.size_alloc])
  clear h hT h1 h2 h3 hno
  go_enter Tryd.func8, Tryd.ntmps8
  go_wp2_with (first | (go_at_call 35; (with_reducible refine (c35y (n : Nat) (r : Nat) _ hh.out).mono ?_); rintro e w1 ⟨rfl, hB1⟩; have hX1 := hid (hX0.out.below hB1 (by simp)); obtain ⟨⟨p0, p1⟩, p2, p3, p4⟩ := hX1.out; have hs1 := hB1.size; rw [hs0.out] at hs1; have hB1 := hid (hB0.out.trans (hB1.mono (by rw [hs0.out]; omega)))) | (go_at_call 36; (with_reducible refine (c36 n r A1 b1 o1 n1 c1 f1 A2 b2 o2 n2 c2 f2 A3 b3 o3 n3 c3 f3 _ (by omega) (by omega) (h1h.out.below hB1.out (Nat.le_refl _)) (h2h.out.below hB1.out (Nat.le_refl _)) (h3h.out.below hB1.out (Nat.le_refl _))).mono ?_); intro e w2 hr; obtain ⟨rfl, hB2⟩ := hr.un.2 hnoh.out; have hB2 := hid (hB1.out.trans (hB2.mono hB1.out.size)); clear hr) | (go_at_call 15; refine (hwk.out _ (hTh.out.below hB2.out (Nat.le_refl _))).mono ?_; rintro e w3 ⟨rfl, hB3⟩; have hB3 := hid (hB2.out.trans (hB3.mono hB2.out.size))))
  go_returns
  exact ⟨rfl, hB3.out⟩
set_option maxRecDepth 100000 in
set_option maxHeartbeats 8000000 in
theorem c8_10 (n r : Nat) (A1 : Option Addr) (b1 o1 c1 : Nat) (f1 : Nat → Int) (A2 : Option Addr) (b2 o2 c2 : Nat) (f2 : Nat → Int) (A3 : Option Addr) (b3 o3 n3 c3 : Nat) (f3 : Nat → Int) (w : World) (hT : Tab w) (h : rdy (n : Nat) (r : Nat)) (h1 : Sin w A1 b1 o1 (n - r) c1 f1) (h2 : Sin w A2 b2 o2 n c2 f2) (h3 : Sin w A3 b3 o3 n3 c3 f3) (hno : noiP n r (n - r) n n3 f1 f2 f3)
    (hfo : foo r ((Gf.apa n (Gf.enc n r (sy f1)) (noi (Gf.enc n r (sy f1)) (sy f2)) [] : Nat) : Int)) (hmr : ¬ r < n3) :
    Calls Tryd.prog 8 #[cv n r, .agg #[.slice A1 (n - r) c1, .slice A2 n c2, .slice A3 n3 c3]] w fun e w' => e = .returned (.bool true) ∧ Below w.heap.size w w' := by
  have hh := hid h
  have hv := hid h.1
  have hn := vld_nat h.1
  have hwk := hid c15
  have hTh := hid hT
  have h1h := hid h1
  have h2h := hid h2
  have h3h := hid h3
  have hnoh := hid hno
  obtain ⟨C, hC⟩ : ∃ C, C = Gf.enc n r (sy f1) := ⟨_, rfl⟩
  obtain ⟨R, hR⟩ : ∃ R, R = noi C (sy f2) := ⟨_, rfl⟩
  rw [← hC, ← hR] at hfo
  have hcw : Hid (∀ i, i < r → Gf.syn n C i = 0) := hid (by rw [hC]; exact Gf.enc_cw (by omega) (by omega) _)
  have hql : Gf.apa n C R [] ≤ n := apc_le C R [] n
  obtain ⟨q, hq⟩ : ∃ q, q = Gf.apa n C R [] := ⟨_, rfl⟩
  rw [← hq] at hfo hql
  have hfoh := hid hfo
  have z1 := hid h1.1
  have z2 : Hid (Ints w A2 b2 o2 n (nf (sy f2))) := hid (h2.1.congr (fun k hk => nf_sy hno.2.2.1.1 hk))
  have z3 := hid h3.1
  have a1 := hid hno.2.1.1
  have a3 := hid hno.2.2.2
  have k3 := hid h3.2.1
  have m3 := asc_le hno.2.2.2
  have cA := hid (fun W (hz : Ints W A1 b1 o1 (n - r) f1) (hW : Tab W) => c18y n r A1 b1 o1 c1 f1 W hW hv.out hz a1.out)
  have cA2 := cA.out
  rw [← hC] at cA2
  have cAh := hid cA2
  have qx : 0 ≤ (q : Int) ∧ (q : Int) ≤ (n : Nat) := by omega
  have cF := hid (fun W => c29y n r (q : Nat) W hv.out qx hfoh.out)
  have dm : decide ((r : Int) < (n3 : Int)) = false := decide_eq_false (by omega)
  have dm' : decide (r < n3) = false := decide_eq_false hmr
  have hmrh := hid hmr
  have hqh := hid hq
  have hRh := hid hR
  have hB0 : Hid (Below w.heap.size w ((w.alloc (.cells #[.int .i64 (n : Nat), .int .i64 (r : Nat)] 23)).alloc (.cells #[.slice A1 (n - r) c1, .slice A2 n c2, .slice A3 n3 c3] 51))) := hid (by (repeat' (first | (with_reducible exact Below.refl _ _) | (with_reducible assumption) | (with_reducible refine Below.alloc ?_ ?_ _) | (with_reducible refine Below.drew ?_) | (with_reducible refine below_drewN ?_ _) | (with_reducible refine Below.setCell ?_ ?_ _) | (with_reducible refine Below.trans ?_ (Below.mono (by with_reducible assumption) ?_)) | go_size)))
  have hX0 : Hid (NX (n : Nat) (r : Nat) A1 (n - r) c1 A2 n c2 A3 n3 c3 w.heap.size ((w.alloc (.cells #[.int .i64 (n : Nat), .int .i64 (r : Nat)] 23)).alloc (.cells #[.slice A1 (n - r) c1, .slice A2 n c2, .slice A3 n3 c3] 51))) := hid (nx_new w)
  have hs0 : Hid (((w.alloc (.cells #[.int .i64 (n : Nat), .int .i64 (r : Nat)] 23)).alloc (.cells #[.slice A1 (n - r) c1, .slice A2 n c2, .slice A3 n3 c3] 51)).heap.size = w.heap.size + 2) := hid (by rw [World.size_alloc, World.size_alloc])
  have hn0 : 0 < n := by omega
  have hn15 : n ≤ 15 := by omega
  clear h hT h1 h2 h3 hno hfo hq hR hC cA cA2 hmr qx
  go_enter Tryd.func8, Tryd.ntmps8
  go_wp2_with (first | (go_at_call 35; (with_reducible refine (c35y (n : Nat) (r : Nat) _ hh.out).mono ?_); rintro e w1 ⟨rfl, hB1⟩; have hX1 := hid (hX0.out.below hB1 (by simp)); obtain ⟨⟨p0, p1⟩, p2, p3, p4⟩ := hX1.out; have hs1 := hB1.size; rw [hs0.out] at hs1; have hB1 := hid (hB0.out.trans (hB1.mono (by rw [hs0.out]; omega)))) | (go_at_call 36; (with_reducible refine (c36 n r A1 b1 o1 (n - r) c1 f1 A2 b2 o2 n c2 f2 A3 b3 o3 n3 c3 f3 _ (by omega) (by omega) (h1h.out.below hB1.out (Nat.le_refl _)) (h2h.out.below hB1.out (Nat.le_refl _)) (h3h.out.below hB1.out (Nat.le_refl _))).mono ?_); intro e w2 hr; obtain ⟨rfl, hB2⟩ := hr.un.1 hnoh.out; have hX2 := hid (hX1.out.below hB2 (by omega)); obtain ⟨⟨p0, p1⟩, p2, p3, p4⟩ := hX2.out; have hs2 := hB2.size; have hB2 := hid (hB1.out.trans (hB2.mono hB1.out.size)); clear hr) | (go_at_call 18; (with_reducible refine (cAh.out _ (z1.out.below hB2.out (Nat.le_refl _)) (hTh.out.below hB2.out (Nat.le_refl _))).mono ?_); rintro e w3 ⟨g3, k3', rfl, hg3, R3, hB3⟩; have I3 := hid R3.ints; have hX3 := hid (hX2.out.below hB3 (by omega)); obtain ⟨⟨p0, p1⟩, p2, p3, p4⟩ := hX3.out; have hs3 := hB3.size; have hB3 := hid (hB2.out.trans (hB3.mono hB2.out.size)); clear R3) | (go_at_call 39; (with_reducible refine (c39 (some ⟨g3, 0, none⟩) g3 0 n k3' C A2 b2 o2 n c2 (sy f2) w3 I3.out (z2.out.below hB3.out (Nat.le_refl _)) (Nat.le_refl _) (by omega)).mono ?_); rintro e w4 ⟨v4, rfl, hown4, hB4⟩; obtain ⟨g4, k4, rfl, I4⟩ := own_vals hown4 hn0; rw [← hRh.out] at I4; have I4 := hid I4; have I34 := hid (I3.out.below hB4 (Nat.le_refl _)); have hX4 := hid (hX3.out.below hB4 (by omega)); have hs4 := hB4.size; have hB4 := hid (hB3.out.trans (hB4.mono hB3.out.size)); clear hown4))
  have x4 := hX4.out
  have y0 := x4.1.1
  have y1 := x4.1.2
  clear x4 p0 p1 p2 p3 p4
  go_region_held3 (fun w' => w'.cell? ⟨w.heap.size, 0, none⟩ = some (.int .i64 (n : Nat)) ∧ w'.cell? ⟨w.heap.size, 1, none⟩ = some (.int .i64 (r : Nat))) (first | exact ⟨y0, y1⟩ | exact f5.out | exact f6.out) (first | (go_at_call 29; (with_reducible refine (cF.out w5).mono ?_); rintro e w6 ⟨rfl, K6⟩; have hX6 := hid (hX5.out.below K6 (by omega)); have f6 := hid hX6.out.1; have K46 := hid (K45.out.trans (K6.mono K45.out.size)); have hB6 := hid (hB5.out.trans (K6.mono hB5.out.size)); clear K6) | (go_at_call 40; (with_reducible refine (c40 (some ⟨g3, 0, none⟩) g3 0 n k3' C (some ⟨g4, 0, none⟩) g4 0 n k4 R none 0 0 0 0 (fun _ => 0) w4.drew (I34.out.below (Below.drew (Below.refl _ _)) (Nat.le_refl _)) (I4.out.below (Below.drew (Below.refl _ _)) (Nat.le_refl _)) (Ints.empty _ _ _ _ _) (Nat.le_refl _) (by omega) (by omega)).mono ?_); rw [show apc C R (li (fun _ => 0) 0) n = q from hqh.out.symm]; rintro e w5 ⟨rfl, K5⟩; replace K5 : Below w4.heap.size w4 w5 := ((Below.refl _ _).drew).trans K5; have hX5 := hid (hX4.out.below K5 (by omega)); have f5 := hid hX5.out.1; have hs5 := K5.size; have K45 := hid K5; have hB5 := hid (hB4.out.trans (K5.mono hB4.out.size)); clear K5))
  have x6 := hX6.out
  obtain ⟨⟨p0, p1⟩, p2, p3, p4⟩ := x6
  have I46 := hid (I4.out.below K46.out (Nat.le_refl _))
  have I36 := hid (I34.out.below K46.out (Nat.le_refl _))
  have hs6 := K46.out.size
  go_wp2_with (first | (go_at_call 20; (with_reducible refine (c20x n r (some ⟨g4, 0, none⟩) g4 0 k4 R A3 b3 o3 n3 c3 f3 w7 (hTh.out.below hB7.out (Nat.le_refl _)) hv.out (I46.out.below K67.out (Nat.le_refl _)) (z3.out.below hB7.out (Nat.le_refl _)) k3.out a3.out).mono ?_); rintro e w8 ⟨v8, h8, rfl, hh8, hB8⟩; have hX8 := hid (hX7.out.below hB8 (by omega)); obtain ⟨⟨p0, p1⟩, p2, p3, p4⟩ := hX8.out; have K78 := hid hB8; have hB8 := hid (hB7.out.trans (hB8.mono hB7.out.size)); skip) | (go_at_call 20; (with_reducible refine (c20r0 n r (some ⟨g4, 0, none⟩) g4 0 k4 R w6 (hTh.out.below hB6.out (Nat.le_refl _)) hv.out I46.out).mono ?_); rintro e w7 (⟨C7, g7, k7, hC7, rfl, hg7, hk7, R7, hB7⟩ | ⟨hC7, rfl, hB7⟩) <;> replace hC7 := hid hC7 <;> have hX7 := hid (hX6.out.below hB7 (by omega)) <;> obtain ⟨⟨p0, p1⟩, p2, p3, p4⟩ := hX7.out <;> have hs7 := hB7.size <;> have K67 := hid hB7 <;> replace hB7 := hid (hB6.out.trans (hB7.mono hB6.out.size)) <;> try replace R7 := hid R7.ints) | (go_at_call 15; refine (hwk.out _ (hTh.out.below hB8.out (Nat.le_refl _))).mono ?_; rintro e w10 ⟨rfl, hB10⟩; have hB10 := hid (hB8.out.trans (hB10.mono hB8.out.size))))
  all_goals (go_returns; exact ⟨rfl, hB10.out⟩)
set_option maxRecDepth 100000 in
set_option maxHeartbeats 8000000 in
theorem c8_11 (n r : Nat) (A1 : Option Addr) (b1 o1 c1 : Nat) (f1 : Nat → Int) (A2 : Option Addr) (b2 o2 c2 : Nat) (f2 : Nat → Int) (A3 : Option Addr) (b3 o3 n3 c3 : Nat) (f3 : Nat → Int) (w : World) (hT : Tab w) (h : rdy (n : Nat) (r : Nat)) (h1 : Sin w A1 b1 o1 (n - r) c1 f1) (h2 : Sin w A2 b2 o2 n c2 f2) (h3 : Sin w A3 b3 o3 n3 c3 f3) (hno : noiP n r (n - r) n n3 f1 f2 f3)
    (hfo : foo r ((Gf.apa n (Gf.enc n r (sy f1)) (noi (Gf.enc n r (sy f1)) (sy f2)) [] : Nat) : Int)) (hmr : r < n3) :
    Calls Tryd.prog 8 #[cv n r, .agg #[.slice A1 (n - r) c1, .slice A2 n c2, .slice A3 n3 c3]] w fun e w' => e = .returned (.bool true) ∧ Below w.heap.size w w' := by
  have hh := hid h
  have hv := hid h.1
  have hn := vld_nat h.1
  have hwk := hid c15
  have hTh := hid hT
  have h1h := hid h1
  have h2h := hid h2
  have h3h := hid h3
  have hnoh := hid hno
  obtain ⟨C, hC⟩ : ∃ C, C = Gf.enc n r (sy f1) := ⟨_, rfl⟩
  obtain ⟨R, hR⟩ : ∃ R, R = noi C (sy f2) := ⟨_, rfl⟩
  rw [← hC, ← hR] at hfo
  have hcw : Hid (∀ i, i < r → Gf.syn n C i = 0) := hid (by rw [hC]; exact Gf.enc_cw (by omega) (by omega) _)
  have hql : Gf.apa n C R [] ≤ n := apc_le C R [] n
  obtain ⟨q, hq⟩ : ∃ q, q = Gf.apa n C R [] := ⟨_, rfl⟩
  rw [← hq] at hfo hql
  have hfoh := hid hfo
  have z1 := hid h1.1
  have z2 : Hid (Ints w A2 b2 o2 n (nf (sy f2))) := hid (h2.1.congr (fun k hk => nf_sy hno.2.2.1.1 hk))
  have z3 := hid h3.1
  have a1 := hid hno.2.1.1
  have a3 := hid hno.2.2.2
  have k3 := hid h3.2.1
  have m3 := asc_le hno.2.2.2
  have cA := hid (fun W (hz : Ints W A1 b1 o1 (n - r) f1) (hW : Tab W) => c18y n r A1 b1 o1 c1 f1 W hW hv.out hz a1.out)
  have cA2 := cA.out
  rw [← hC] at cA2
  have cAh := hid cA2
  have qx : 0 ≤ (q : Int) ∧ (q : Int) ≤ (n : Nat) := by omega
  have cF := hid (fun W => c29y n r (q : Nat) W hv.out qx hfoh.out)
  have dm : decide ((r : Int) < (n3 : Int)) = true := decide_eq_true (by omega)
  have dm' : decide (r < n3) = true := decide_eq_true hmr
  have hmrh := hid hmr
  have hqh := hid hq
  have hRh := hid hR
  have hB0 : Hid (Below w.heap.size w ((w.alloc (.cells #[.int .i64 (n : Nat), .int .i64 (r : Nat)] 23)).alloc (.cells #[.slice A1 (n - r) c1, .slice A2 n c2, .slice A3 n3 c3] 51))) := hid (by (repeat' (first | (with_reducible exact Below.refl _ _) | (with_reducible assumption) | (with_reducible refine Below.alloc ?_ ?_ _) | (with_reducible refine Below.drew ?_) | (with_reducible refine below_drewN ?_ _) | (with_reducible refine Below.setCell ?_ ?_ _) | (with_reducible refine Below.trans ?_ (Below.mono (by with_reducible assumption) ?_)) | go_size)))
  have hX0 : Hid (NX (n : Nat) (r : Nat) A1 (n - r) c1 A2 n c2 A3 n3 c3 w.heap.size ((w.alloc (.cells #[.int .i64 (n : Nat), .int .i64 (r : Nat)] 23)).alloc (.cells #[.slice A1 (n - r) c1, .slice A2 n c2, .slice A3 n3 c3] 51))) := hid (nx_new w)
  have hs0 : Hid (((w.alloc (.cells #[.int .i64 (n : Nat), .int .i64 (r : Nat)] 23)).alloc (.cells #[.slice A1 (n - r) c1, .slice A2 n c2, .slice A3 n3 c3] 51)).heap.size = w.heap.size + 2) := hid (by rw [World.size_alloc, World.size_alloc])
  have hn0 : 0 < n := by omega
  have hn15 : n ≤ 15 := by omega
  clear h hT h1 h2 h3 hno hfo hq hR hC cA cA2 hmr qx
  go_enter Tryd.func8, Tryd.ntmps8
  go_wp2_with (first | (go_at_call 35; (with_reducible refine (c35y (n : Nat) (r : Nat) _ hh.out).mono ?_); rintro e w1 ⟨rfl, hB1⟩; have hX1 := hid (hX0.out.below hB1 (by simp)); obtain ⟨⟨p0, p1⟩, p2, p3, p4⟩ := hX1.out; have hs1 := hB1.size; rw [hs0.out] at hs1; have hB1 := hid (hB0.out.trans (hB1.mono (by rw [hs0.out]; omega)))) | (go_at_call 36; (with_reducible refine (c36 n r A1 b1 o1 (n - r) c1 f1 A2 b2 o2 n c2 f2 A3 b3 o3 n3 c3 f3 _ (by omega) (by omega) (h1h.out.below hB1.out (Nat.le_refl _)) (h2h.out.below hB1.out (Nat.le_refl _)) (h3h.out.below hB1.out (Nat.le_refl _))).mono ?_); intro e w2 hr; obtain ⟨rfl, hB2⟩ := hr.un.1 hnoh.out; have hX2 := hid (hX1.out.below hB2 (by omega)); obtain ⟨⟨p0, p1⟩, p2, p3, p4⟩ := hX2.out; have hs2 := hB2.size; have hB2 := hid (hB1.out.trans (hB2.mono hB1.out.size)); clear hr) | (go_at_call 18; (with_reducible refine (cAh.out _ (z1.out.below hB2.out (Nat.le_refl _)) (hTh.out.below hB2.out (Nat.le_refl _))).mono ?_); rintro e w3 ⟨g3, k3', rfl, hg3, R3, hB3⟩; have I3 := hid R3.ints; have hX3 := hid (hX2.out.below hB3 (by omega)); obtain ⟨⟨p0, p1⟩, p2, p3, p4⟩ := hX3.out; have hs3 := hB3.size; have hB3 := hid (hB2.out.trans (hB3.mono hB2.out.size)); clear R3) | (go_at_call 39; (with_reducible refine (c39 (some ⟨g3, 0, none⟩) g3 0 n k3' C A2 b2 o2 n c2 (sy f2) w3 I3.out (z2.out.below hB3.out (Nat.le_refl _)) (Nat.le_refl _) (by omega)).mono ?_); rintro e w4 ⟨v4, rfl, hown4, hB4⟩; obtain ⟨g4, k4, rfl, I4⟩ := own_vals hown4 hn0; rw [← hRh.out] at I4; have I4 := hid I4; have I34 := hid (I3.out.below hB4 (Nat.le_refl _)); have hX4 := hid (hX3.out.below hB4 (by omega)); have hs4 := hB4.size; have hB4 := hid (hB3.out.trans (hB4.mono hB3.out.size)); clear hown4))
  have x4 := hX4.out
  have y0 := x4.1.1
  have y1 := x4.1.2
  clear x4 p0 p1 p2 p3 p4
  go_region_held3 (fun w' => w'.cell? ⟨w.heap.size, 0, none⟩ = some (.int .i64 (n : Nat)) ∧ w'.cell? ⟨w.heap.size, 1, none⟩ = some (.int .i64 (r : Nat))) (first | exact ⟨y0, y1⟩ | exact f5.out | exact f6.out) (first | (go_at_call 29; (with_reducible refine (cF.out w5).mono ?_); rintro e w6 ⟨rfl, K6⟩; have hX6 := hid (hX5.out.below K6 (by omega)); have f6 := hid hX6.out.1; have K46 := hid (K45.out.trans (K6.mono K45.out.size)); have hB6 := hid (hB5.out.trans (K6.mono hB5.out.size)); clear K6) | (go_at_call 40; (with_reducible refine (c40 (some ⟨g3, 0, none⟩) g3 0 n k3' C (some ⟨g4, 0, none⟩) g4 0 n k4 R none 0 0 0 0 (fun _ => 0) w4.drew (I34.out.below (Below.drew (Below.refl _ _)) (Nat.le_refl _)) (I4.out.below (Below.drew (Below.refl _ _)) (Nat.le_refl _)) (Ints.empty _ _ _ _ _) (Nat.le_refl _) (by omega) (by omega)).mono ?_); rw [show apc C R (li (fun _ => 0) 0) n = q from hqh.out.symm]; rintro e w5 ⟨rfl, K5⟩; replace K5 : Below w4.heap.size w4 w5 := ((Below.refl _ _).drew).trans K5; have hX5 := hid (hX4.out.below K5 (by omega)); have f5 := hid hX5.out.1; have hs5 := K5.size; have K45 := hid K5; have hB5 := hid (hB4.out.trans (K5.mono hB4.out.size)); clear K5))
  have x6 := hX6.out
  obtain ⟨⟨p0, p1⟩, p2, p3, p4⟩ := x6
  have I46 := hid (I4.out.below K46.out (Nat.le_refl _))
  have I36 := hid (I34.out.below K46.out (Nat.le_refl _))
  have hs6 := K46.out.size
  go_wp2_with (first | (go_at_call 20; (with_reducible refine (c20x n r (some ⟨g4, 0, none⟩) g4 0 k4 R A3 b3 o3 n3 c3 f3 w7 (hTh.out.below hB7.out (Nat.le_refl _)) hv.out (I46.out.below K67.out (Nat.le_refl _)) (z3.out.below hB7.out (Nat.le_refl _)) k3.out a3.out).mono ?_); rintro e w8 ⟨v8, h8, rfl, hh8, hB8⟩; have hX8 := hid (hX7.out.below hB8 (by omega)); obtain ⟨⟨p0, p1⟩, p2, p3, p4⟩ := hX8.out; have K78 := hid hB8; have hB8 := hid (hB7.out.trans (hB8.mono hB7.out.size)); obtain rfl := hh8 hmrh.out) | (go_at_call 20; (with_reducible refine (c20r0 n r (some ⟨g4, 0, none⟩) g4 0 k4 R w6 (hTh.out.below hB6.out (Nat.le_refl _)) hv.out I46.out).mono ?_); rintro e w7 (⟨C7, g7, k7, hC7, rfl, hg7, hk7, R7, hB7⟩ | ⟨hC7, rfl, hB7⟩) <;> replace hC7 := hid hC7 <;> have hX7 := hid (hX6.out.below hB7 (by omega)) <;> obtain ⟨⟨p0, p1⟩, p2, p3, p4⟩ := hX7.out <;> have hs7 := hB7.size <;> have K67 := hid hB7 <;> replace hB7 := hid (hB6.out.trans (hB7.mono hB6.out.size)) <;> try replace R7 := hid R7.ints) | (go_at_call 15; refine (hwk.out _ (hTh.out.below hB8.out (Nat.le_refl _))).mono ?_; rintro e w10 ⟨rfl, hB10⟩; have hB10 := hid (hB8.out.trans (hB10.mono hB8.out.size))))
  all_goals (go_returns; exact ⟨rfl, hB10.out⟩)
set_option maxRecDepth 100000 in
set_option maxHeartbeats 8000000 in
theorem c8_00 (n r : Nat) (A1 : Option Addr) (b1 o1 c1 : Nat) (f1 : Nat → Int) (A2 : Option Addr) (b2 o2 c2 : Nat) (f2 : Nat → Int) (A3 : Option Addr) (b3 o3 n3 c3 : Nat) (f3 : Nat → Int) (w : World) (hT : Tab w) (h : rdy (n : Nat) (r : Nat)) (h1 : Sin w A1 b1 o1 (n - r) c1 f1) (h2 : Sin w A2 b2 o2 n c2 f2) (h3 : Sin w A3 b3 o3 n3 c3 f3) (hno : noiP n r (n - r) n n3 f1 f2 f3)
    (hfo : ¬ foo r ((Gf.apa n (Gf.enc n r (sy f1)) (noi (Gf.enc n r (sy f1)) (sy f2)) [] : Nat) : Int)) (hmr : ¬ r < n3) :
    Calls Tryd.prog 8 #[cv n r, .agg #[.slice A1 (n - r) c1, .slice A2 n c2, .slice A3 n3 c3]] w fun e w' => e = .returned (.bool true) ∧ Below w.heap.size w w' := by
  have hh := hid h
  have hv := hid h.1
  have hn := vld_nat h.1
  have hwk := hid c15
  have hTh := hid hT
  have h1h := hid h1
  have h2h := hid h2
  have h3h := hid h3
  have hnoh := hid hno
  obtain ⟨C, hC⟩ : ∃ C, C = Gf.enc n r (sy f1) := ⟨_, rfl⟩
  obtain ⟨R, hR⟩ : ∃ R, R = noi C (sy f2) := ⟨_, rfl⟩
  rw [← hC, ← hR] at hfo
  have hcw : Hid (∀ i, i < r → Gf.syn n C i = 0) := hid (by rw [hC]; exact Gf.enc_cw (by omega) (by omega) _)
  have hql : Gf.apa n C R [] ≤ n := apc_le C R [] n
  obtain ⟨q, hq⟩ : ∃ q, q = Gf.apa n C R [] := ⟨_, rfl⟩
  rw [← hq] at hfo hql
  have hfoh := hid hfo
  have z1 := hid h1.1
  have z2 : Hid (Ints w A2 b2 o2 n (nf (sy f2))) := hid (h2.1.congr (fun k hk => nf_sy hno.2.2.1.1 hk))
  have z3 := hid h3.1
  have a1 := hid hno.2.1.1
  have a3 := hid hno.2.2.2
  have k3 := hid h3.2.1
  have m3 := asc_le hno.2.2.2
  have cA := hid (fun W (hz : Ints W A1 b1 o1 (n - r) f1) (hW : Tab W) => c18y n r A1 b1 o1 c1 f1 W hW hv.out hz a1.out)
  have cA2 := cA.out
  rw [← hC] at cA2
  have cAh := hid cA2
  have qx : 0 ≤ (q : Int) ∧ (q : Int) ≤ (n : Nat) := by omega
  have cF := hid (fun W => c29n n r (q : Nat) W hv.out qx hfoh.out)
  have dm : decide ((r : Int) < (n3 : Int)) = false := decide_eq_false (by omega)
  have dm' : decide (r < n3) = false := decide_eq_false hmr
  have hmrh := hid hmr
  have hqh := hid hq
  have hRh := hid hR
  have hB0 : Hid (Below w.heap.size w ((w.alloc (.cells #[.int .i64 (n : Nat), .int .i64 (r : Nat)] 23)).alloc (.cells #[.slice A1 (n - r) c1, .slice A2 n c2, .slice A3 n3 c3] 51))) := hid (by (repeat' (first | (with_reducible exact Below.refl _ _) | (with_reducible assumption) | (with_reducible refine Below.alloc ?_ ?_ _) | (with_reducible refine Below.drew ?_) | (with_reducible refine below_drewN ?_ _) | (with_reducible refine Below.setCell ?_ ?_ _) | (with_reducible refine Below.trans ?_ (Below.mono (by with_reducible assumption) ?_)) | go_size)))
  have hX0 : Hid (NX (n : Nat) (r : Nat) A1 (n - r) c1 A2 n c2 A3 n3 c3 w.heap.size ((w.alloc (.cells #[.int .i64 (n : Nat), .int .i64 (r : Nat)] 23)).alloc (.cells #[.slice A1 (n - r) c1, .slice A2 n c2, .slice A3 n3 c3] 51))) := hid (nx_new w)
  have hs0 : Hid (((w.alloc (.cells #[.int .i64 (n : Nat), .int .i64 (r : Nat)] 23)).alloc (.cells #[.slice A1 (n - r) c1, .slice A2 n c2, .slice A3 n3 c3] 51)).heap.size = w.heap.size + 2) := hid (by rw [World.size_alloc, World.size_alloc])
  have hn0 : 0 < n := by omega
  have hn15 : n ≤ 15 := by omega
  clear h hT h1 h2 h3 hno hfo hq hR hC cA cA2 hmr qx
  have hsame : ∀ {D : Nat → S} {W : World} {A : Option Addr} {b o : Nat}, Gf.Near n r R [] D → Ints W A b o n (nf D) → Ints W A b o n (nf C) := fun hN hI => hI.congr (fun k hk => by
    have hN2 := hN.2
    simp only [List.length_nil] at hN2
    have h9 := same_of hn15 hcw.out hN.1 (R := R) (by
      have h8 := hfoh.out
      unfold foo at h8
      have h7 : Gf.apa n C R [] = q := hqh.out.symm
      omega)
    unfold nf
    rw [h9 k hk])
  have hsame := fun {D W A b o} => @hsame D W A b o
  go_enter Tryd.func8, Tryd.ntmps8
  go_wp2_with (first | (go_at_call 35; (with_reducible refine (c35y (n : Nat) (r : Nat) _ hh.out).mono ?_); rintro e w1 ⟨rfl, hB1⟩; have hX1 := hid (hX0.out.below hB1 (by simp)); obtain ⟨⟨p0, p1⟩, p2, p3, p4⟩ := hX1.out; have hs1 := hB1.size; rw [hs0.out] at hs1; have hB1 := hid (hB0.out.trans (hB1.mono (by rw [hs0.out]; omega)))) | (go_at_call 36; (with_reducible refine (c36 n r A1 b1 o1 (n - r) c1 f1 A2 b2 o2 n c2 f2 A3 b3 o3 n3 c3 f3 _ (by omega) (by omega) (h1h.out.below hB1.out (Nat.le_refl _)) (h2h.out.below hB1.out (Nat.le_refl _)) (h3h.out.below hB1.out (Nat.le_refl _))).mono ?_); intro e w2 hr; obtain ⟨rfl, hB2⟩ := hr.un.1 hnoh.out; have hX2 := hid (hX1.out.below hB2 (by omega)); obtain ⟨⟨p0, p1⟩, p2, p3, p4⟩ := hX2.out; have hs2 := hB2.size; have hB2 := hid (hB1.out.trans (hB2.mono hB1.out.size)); clear hr) | (go_at_call 18; (with_reducible refine (cAh.out _ (z1.out.below hB2.out (Nat.le_refl _)) (hTh.out.below hB2.out (Nat.le_refl _))).mono ?_); rintro e w3 ⟨g3, k3', rfl, hg3, R3, hB3⟩; have I3 := hid R3.ints; have hX3 := hid (hX2.out.below hB3 (by omega)); obtain ⟨⟨p0, p1⟩, p2, p3, p4⟩ := hX3.out; have hs3 := hB3.size; have hB3 := hid (hB2.out.trans (hB3.mono hB2.out.size)); clear R3) | (go_at_call 39; (with_reducible refine (c39 (some ⟨g3, 0, none⟩) g3 0 n k3' C A2 b2 o2 n c2 (sy f2) w3 I3.out (z2.out.below hB3.out (Nat.le_refl _)) (Nat.le_refl _) (by omega)).mono ?_); rintro e w4 ⟨v4, rfl, hown4, hB4⟩; obtain ⟨g4, k4, rfl, I4⟩ := own_vals hown4 hn0; rw [← hRh.out] at I4; have I4 := hid I4; have I34 := hid (I3.out.below hB4 (Nat.le_refl _)); have hX4 := hid (hX3.out.below hB4 (by omega)); have hs4 := hB4.size; have hB4 := hid (hB3.out.trans (hB4.mono hB3.out.size)); clear hown4))
  have x4 := hX4.out
  have y0 := x4.1.1
  have y1 := x4.1.2
  clear x4 p0 p1 p2 p3 p4
  go_region_held3 (fun w' => w'.cell? ⟨w.heap.size, 0, none⟩ = some (.int .i64 (n : Nat)) ∧ w'.cell? ⟨w.heap.size, 1, none⟩ = some (.int .i64 (r : Nat))) (first | exact ⟨y0, y1⟩ | exact f5.out | exact f6.out) (first | (go_at_call 29; (with_reducible refine (cF.out w5).mono ?_); rintro e w6 ⟨rfl, K6⟩; have hX6 := hid (hX5.out.below K6 (by omega)); have f6 := hid hX6.out.1; have K46 := hid (K45.out.trans (K6.mono K45.out.size)); have hB6 := hid (hB5.out.trans (K6.mono hB5.out.size)); clear K6) | (go_at_call 40; (with_reducible refine (c40 (some ⟨g3, 0, none⟩) g3 0 n k3' C (some ⟨g4, 0, none⟩) g4 0 n k4 R none 0 0 0 0 (fun _ => 0) w4.drew (I34.out.below (Below.drew (Below.refl _ _)) (Nat.le_refl _)) (I4.out.below (Below.drew (Below.refl _ _)) (Nat.le_refl _)) (Ints.empty _ _ _ _ _) (Nat.le_refl _) (by omega) (by omega)).mono ?_); rw [show apc C R (li (fun _ => 0) 0) n = q from hqh.out.symm]; rintro e w5 ⟨rfl, K5⟩; replace K5 : Below w4.heap.size w4 w5 := ((Below.refl _ _).drew).trans K5; have hX5 := hid (hX4.out.below K5 (by omega)); have f5 := hid hX5.out.1; have hs5 := K5.size; have K45 := hid K5; have hB5 := hid (hB4.out.trans (K5.mono hB4.out.size)); clear K5))
  have x6 := hX6.out
  obtain ⟨⟨p0, p1⟩, p2, p3, p4⟩ := x6
  have I46 := hid (I4.out.below K46.out (Nat.le_refl _))
  have I36 := hid (I34.out.below K46.out (Nat.le_refl _))
  have hs6 := K46.out.size
  go_wp2_with (first | (go_at_call 20; (with_reducible refine (c20x n r (some ⟨g4, 0, none⟩) g4 0 k4 R A3 b3 o3 n3 c3 f3 w7 (hTh.out.below hB7.out (Nat.le_refl _)) hv.out (I46.out.below K67.out (Nat.le_refl _)) (z3.out.below hB7.out (Nat.le_refl _)) k3.out a3.out).mono ?_); rintro e w8 ⟨v8, h8, rfl, hh8, hB8⟩; have hX8 := hid (hX7.out.below hB8 (by omega)); obtain ⟨⟨p0, p1⟩, p2, p3, p4⟩ := hX8.out; have K78 := hid hB8; have hB8 := hid (hB7.out.trans (hB8.mono hB7.out.size)); skip) | (go_at_call 20; (with_reducible refine (c20r0 n r (some ⟨g4, 0, none⟩) g4 0 k4 R w6 (hTh.out.below hB6.out (Nat.le_refl _)) hv.out I46.out).mono ?_); rintro e w7 (⟨C7, g7, k7, hC7, rfl, hg7, hk7, R7, hB7⟩ | ⟨hC7, rfl, hB7⟩) <;> replace hC7 := hid hC7 <;> have hX7 := hid (hX6.out.below hB7 (by omega)) <;> obtain ⟨⟨p0, p1⟩, p2, p3, p4⟩ := hX7.out <;> have hs7 := hB7.size <;> have K67 := hid hB7 <;> replace hB7 := hid (hB6.out.trans (hB7.mono hB6.out.size)) <;> try replace R7 := hid R7.ints) | (go_at_call 22; (with_reducible refine (c22y (some ⟨g7, 0, none⟩) (some ⟨g3, 0, none⟩) g7 g3 0 0 n k7 k3' (nf C) w8 (hsame hC7.out (R7.out.below K78.out (Nat.le_refl _))) (I36.out.below (K67.out.trans (K78.out.mono K67.out.size)) (Nat.le_refl _)) (by omega)).mono ?_); rintro e w9 ⟨rfl, hB9⟩; have hB9 := hid (hB8.out.trans (hB9.mono hB8.out.size))) | (go_at_call 15; refine (hwk.out _ (hTh.out.below (by first | exact hB9.out | exact hB8.out) (Nat.le_refl _))).mono ?_; rintro e w10 ⟨rfl, hB10⟩; have hB10 := hid ((show Below w.heap.size w _ by first | exact hB9.out | exact hB8.out).trans (hB10.mono (by first | exact hB9.out.size | exact hB8.out.size)))))
  all_goals (go_returns; exact ⟨rfl, hB10.out⟩)
set_option maxRecDepth 100000 in
set_option maxHeartbeats 8000000 in
theorem c8_01 (n r : Nat) (A1 : Option Addr) (b1 o1 c1 : Nat) (f1 : Nat → Int) (A2 : Option Addr) (b2 o2 c2 : Nat) (f2 : Nat → Int) (A3 : Option Addr) (b3 o3 n3 c3 : Nat) (f3 : Nat → Int) (w : World) (hT : Tab w) (h : rdy (n : Nat) (r : Nat)) (h1 : Sin w A1 b1 o1 (n - r) c1 f1) (h2 : Sin w A2 b2 o2 n c2 f2) (h3 : Sin w A3 b3 o3 n3 c3 f3) (hno : noiP n r (n - r) n n3 f1 f2 f3)
    (hfo : ¬ foo r ((Gf.apa n (Gf.enc n r (sy f1)) (noi (Gf.enc n r (sy f1)) (sy f2)) [] : Nat) : Int)) (hmr : r < n3) :
    Calls Tryd.prog 8 #[cv n r, .agg #[.slice A1 (n - r) c1, .slice A2 n c2, .slice A3 n3 c3]] w fun e w' => e = .returned (.bool true) ∧ Below w.heap.size w w' := by
  have hh := hid h
  have hv := hid h.1
  have hn := vld_nat h.1
  have hwk := hid c15
  have hTh := hid hT
  have h1h := hid h1
  have h2h := hid h2
  have h3h := hid h3
  have hnoh := hid hno
  obtain ⟨C, hC⟩ : ∃ C, C = Gf.enc n r (sy f1) := ⟨_, rfl⟩
  obtain ⟨R, hR⟩ : ∃ R, R = noi C (sy f2) := ⟨_, rfl⟩
  rw [← hC, ← hR] at hfo
  have hcw : Hid (∀ i, i < r → Gf.syn n C i = 0) := hid (by rw [hC]; exact Gf.enc_cw (by omega) (by omega) _)
  have hql : Gf.apa n C R [] ≤ n := apc_le C R [] n
  obtain ⟨q, hq⟩ : ∃ q, q = Gf.apa n C R [] := ⟨_, rfl⟩
  rw [← hq] at hfo hql
  have hfoh := hid hfo
  have z1 := hid h1.1
  have z2 : Hid (Ints w A2 b2 o2 n (nf (sy f2))) := hid (h2.1.congr (fun k hk => nf_sy hno.2.2.1.1 hk))
  have z3 := hid h3.1
  have a1 := hid hno.2.1.1
  have a3 := hid hno.2.2.2
  have k3 := hid h3.2.1
  have m3 := asc_le hno.2.2.2
  have cA := hid (fun W (hz : Ints W A1 b1 o1 (n - r) f1) (hW : Tab W) => c18y n r A1 b1 o1 c1 f1 W hW hv.out hz a1.out)
  have cA2 := cA.out
  rw [← hC] at cA2
  have cAh := hid cA2
  have qx : 0 ≤ (q : Int) ∧ (q : Int) ≤ (n : Nat) := by omega
  have cF := hid (fun W => c29n n r (q : Nat) W hv.out qx hfoh.out)
  have dm : decide ((r : Int) < (n3 : Int)) = true := decide_eq_true (by omega)
  have dm' : decide (r < n3) = true := decide_eq_true hmr
  have hmrh := hid hmr
  have hqh := hid hq
  have hRh := hid hR
  have hB0 : Hid (Below w.heap.size w ((w.alloc (.cells #[.int .i64 (n : Nat), .int .i64 (r : Nat)] 23)).alloc (.cells #[.slice A1 (n - r) c1, .slice A2 n c2, .slice A3 n3 c3] 51))) := hid (by (repeat' (first | (with_reducible exact Below.refl _ _) | (with_reducible assumption) | (with_reducible refine Below.alloc ?_ ?_ _) | (with_reducible refine Below.drew ?_) | (with_reducible refine below_drewN ?_ _) | (with_reducible refine Below.setCell ?_ ?_ _) | (with_reducible refine Below.trans ?_ (Below.mono (by with_reducible assumption) ?_)) | go_size)))
  have hX0 : Hid (NX (n : Nat) (r : Nat) A1 (n - r) c1 A2 n c2 A3 n3 c3 w.heap.size ((w.alloc (.cells #[.int .i64 (n : Nat), .int .i64 (r : Nat)] 23)).alloc (.cells #[.slice A1 (n - r) c1, .slice A2 n c2, .slice A3 n3 c3] 51))) := hid (nx_new w)
  have hs0 : Hid (((w.alloc (.cells #[.int .i64 (n : Nat), .int .i64 (r : Nat)] 23)).alloc (.cells #[.slice A1 (n - r) c1, .slice A2 n c2, .slice A3 n3 c3] 51)).heap.size = w.heap.size + 2) := hid (by rw [World.size_alloc, World.size_alloc])
  have hn0 : 0 < n := by omega
  have hn15 : n ≤ 15 := by omega
  clear h hT h1 h2 h3 hno hfo hq hR hC cA cA2 hmr qx
  have hsame : ∀ {D : Nat → S} {W : World} {A : Option Addr} {b o : Nat}, Gf.Near n r R [] D → Ints W A b o n (nf D) → Ints W A b o n (nf C) := fun hN hI => hI.congr (fun k hk => by
    have hN2 := hN.2
    simp only [List.length_nil] at hN2
    have h9 := same_of hn15 hcw.out hN.1 (R := R) (by
      have h8 := hfoh.out
      unfold foo at h8
      have h7 : Gf.apa n C R [] = q := hqh.out.symm
      omega)
    unfold nf
    rw [h9 k hk])
  have hsame := fun {D W A b o} => @hsame D W A b o
  go_enter Tryd.func8, Tryd.ntmps8
  go_wp2_with (first | (go_at_call 35; (with_reducible refine (c35y (n : Nat) (r : Nat) _ hh.out).mono ?_); rintro e w1 ⟨rfl, hB1⟩; have hX1 := hid (hX0.out.below hB1 (by simp)); obtain ⟨⟨p0, p1⟩, p2, p3, p4⟩ := hX1.out; have hs1 := hB1.size; rw [hs0.out] at hs1; have hB1 := hid (hB0.out.trans (hB1.mono (by rw [hs0.out]; omega)))) | (go_at_call 36; (with_reducible refine (c36 n r A1 b1 o1 (n - r) c1 f1 A2 b2 o2 n c2 f2 A3 b3 o3 n3 c3 f3 _ (by omega) (by omega) (h1h.out.below hB1.out (Nat.le_refl _)) (h2h.out.below hB1.out (Nat.le_refl _)) (h3h.out.below hB1.out (Nat.le_refl _))).mono ?_); intro e w2 hr; obtain ⟨rfl, hB2⟩ := hr.un.1 hnoh.out; have hX2 := hid (hX1.out.below hB2 (by omega)); obtain ⟨⟨p0, p1⟩, p2, p3, p4⟩ := hX2.out; have hs2 := hB2.size; have hB2 := hid (hB1.out.trans (hB2.mono hB1.out.size)); clear hr) | (go_at_call 18; (with_reducible refine (cAh.out _ (z1.out.below hB2.out (Nat.le_refl _)) (hTh.out.below hB2.out (Nat.le_refl _))).mono ?_); rintro e w3 ⟨g3, k3', rfl, hg3, R3, hB3⟩; have I3 := hid R3.ints; have hX3 := hid (hX2.out.below hB3 (by omega)); obtain ⟨⟨p0, p1⟩, p2, p3, p4⟩ := hX3.out; have hs3 := hB3.size; have hB3 := hid (hB2.out.trans (hB3.mono hB2.out.size)); clear R3) | (go_at_call 39; (with_reducible refine (c39 (some ⟨g3, 0, none⟩) g3 0 n k3' C A2 b2 o2 n c2 (sy f2) w3 I3.out (z2.out.below hB3.out (Nat.le_refl _)) (Nat.le_refl _) (by omega)).mono ?_); rintro e w4 ⟨v4, rfl, hown4, hB4⟩; obtain ⟨g4, k4, rfl, I4⟩ := own_vals hown4 hn0; rw [← hRh.out] at I4; have I4 := hid I4; have I34 := hid (I3.out.below hB4 (Nat.le_refl _)); have hX4 := hid (hX3.out.below hB4 (by omega)); have hs4 := hB4.size; have hB4 := hid (hB3.out.trans (hB4.mono hB3.out.size)); clear hown4))
  have x4 := hX4.out
  have y0 := x4.1.1
  have y1 := x4.1.2
  clear x4 p0 p1 p2 p3 p4
  go_region_held3 (fun w' => w'.cell? ⟨w.heap.size, 0, none⟩ = some (.int .i64 (n : Nat)) ∧ w'.cell? ⟨w.heap.size, 1, none⟩ = some (.int .i64 (r : Nat))) (first | exact ⟨y0, y1⟩ | exact f5.out | exact f6.out) (first | (go_at_call 29; (with_reducible refine (cF.out w5).mono ?_); rintro e w6 ⟨rfl, K6⟩; have hX6 := hid (hX5.out.below K6 (by omega)); have f6 := hid hX6.out.1; have K46 := hid (K45.out.trans (K6.mono K45.out.size)); have hB6 := hid (hB5.out.trans (K6.mono hB5.out.size)); clear K6) | (go_at_call 40; (with_reducible refine (c40 (some ⟨g3, 0, none⟩) g3 0 n k3' C (some ⟨g4, 0, none⟩) g4 0 n k4 R none 0 0 0 0 (fun _ => 0) w4.drew (I34.out.below (Below.drew (Below.refl _ _)) (Nat.le_refl _)) (I4.out.below (Below.drew (Below.refl _ _)) (Nat.le_refl _)) (Ints.empty _ _ _ _ _) (Nat.le_refl _) (by omega) (by omega)).mono ?_); rw [show apc C R (li (fun _ => 0) 0) n = q from hqh.out.symm]; rintro e w5 ⟨rfl, K5⟩; replace K5 : Below w4.heap.size w4 w5 := ((Below.refl _ _).drew).trans K5; have hX5 := hid (hX4.out.below K5 (by omega)); have f5 := hid hX5.out.1; have hs5 := K5.size; have K45 := hid K5; have hB5 := hid (hB4.out.trans (K5.mono hB4.out.size)); clear K5))
  have x6 := hX6.out
  obtain ⟨⟨p0, p1⟩, p2, p3, p4⟩ := x6
  have I46 := hid (I4.out.below K46.out (Nat.le_refl _))
  have I36 := hid (I34.out.below K46.out (Nat.le_refl _))
  have hs6 := K46.out.size
  go_wp2_with (first | (go_at_call 20; (with_reducible refine (c20x n r (some ⟨g4, 0, none⟩) g4 0 k4 R A3 b3 o3 n3 c3 f3 w7 (hTh.out.below hB7.out (Nat.le_refl _)) hv.out (I46.out.below K67.out (Nat.le_refl _)) (z3.out.below hB7.out (Nat.le_refl _)) k3.out a3.out).mono ?_); rintro e w8 ⟨v8, h8, rfl, hh8, hB8⟩; have hX8 := hid (hX7.out.below hB8 (by omega)); obtain ⟨⟨p0, p1⟩, p2, p3, p4⟩ := hX8.out; have K78 := hid hB8; have hB8 := hid (hB7.out.trans (hB8.mono hB7.out.size)); obtain rfl := hh8 hmrh.out) | (go_at_call 20; (with_reducible refine (c20r0 n r (some ⟨g4, 0, none⟩) g4 0 k4 R w6 (hTh.out.below hB6.out (Nat.le_refl _)) hv.out I46.out).mono ?_); rintro e w7 (⟨C7, g7, k7, hC7, rfl, hg7, hk7, R7, hB7⟩ | ⟨hC7, rfl, hB7⟩) <;> replace hC7 := hid hC7 <;> have hX7 := hid (hX6.out.below hB7 (by omega)) <;> obtain ⟨⟨p0, p1⟩, p2, p3, p4⟩ := hX7.out <;> have hs7 := hB7.size <;> have K67 := hid hB7 <;> replace hB7 := hid (hB6.out.trans (hB7.mono hB6.out.size)) <;> try replace R7 := hid R7.ints) | (go_at_call 22; (with_reducible refine (c22y (some ⟨g7, 0, none⟩) (some ⟨g3, 0, none⟩) g7 g3 0 0 n k7 k3' (nf C) w8 (hsame hC7.out (R7.out.below K78.out (Nat.le_refl _))) (I36.out.below (K67.out.trans (K78.out.mono K67.out.size)) (Nat.le_refl _)) (by omega)).mono ?_); rintro e w9 ⟨rfl, hB9⟩; have hB9 := hid (hB8.out.trans (hB9.mono hB8.out.size))) | (go_at_call 15; refine (hwk.out _ (hTh.out.below (by first | exact hB9.out | exact hB8.out) (Nat.le_refl _))).mono ?_; rintro e w10 ⟨rfl, hB10⟩; have hB10 := hid ((show Below w.heap.size w _ by first | exact hB9.out | exact hB8.out).trans (hB10.mono (by first | exact hB9.out.size | exact hB8.out.size)))))
  all_goals (go_returns; exact ⟨rfl, hB10.out⟩)
theorem c8 (L P : Int) (A1 : Option Addr) (b1 o1 n1 c1 : Nat) (f1 : Nat → Int) (A2 : Option Addr) (b2 o2 n2 c2 : Nat) (f2 : Nat → Int) (A3 : Option Addr) (b3 o3 n3 c3 : Nat) (f3 : Nat → Int) (w : World) (hT : Tab w) (h1 : Sin w A1 b1 o1 n1 c1 f1) (h2 : Sin w A2 b2 o2 n2 c2 f2) (h3 : Sin w A3 b3 o3 n3 c3 f3) :
    Calls Tryd.prog 8 #[.agg #[.int .i64 L, .int .i64 P], .agg #[.slice A1 n1 c1, .slice A2 n2 c2, .slice A3 n3 c3]] w fun e w' => e = .returned (.bool true) ∧ Below w.heap.size w w' := by
  by_cases h : rdy L P
  · obtain ⟨n, r, rfl, rfl⟩ := vld_of h.1
    by_cases hno : noiP n r n1 n2 n3 f1 f2 f3
    · obtain rfl : n1 = n - r := hno.2.1.2
      obtain rfl : n2 = n := hno.2.2.1.2
      by_cases hfo : foo r ((Gf.apa n2 (Gf.enc n2 r (sy f1)) (noi (Gf.enc n2 r (sy f1)) (sy f2)) [] : Nat) : Int)
      · by_cases hm : r < n3
        · exact c8_11 n2 r A1 b1 o1 c1 f1 A2 b2 o2 c2 f2 A3 b3 o3 n3 c3 f3 w hT h h1 h2 h3 hno hfo hm
        · exact c8_10 n2 r A1 b1 o1 c1 f1 A2 b2 o2 c2 f2 A3 b3 o3 n3 c3 f3 w hT h h1 h2 h3 hno hfo hm
      · by_cases hm : r < n3
        · exact c8_01 n2 r A1 b1 o1 c1 f1 A2 b2 o2 c2 f2 A3 b3 o3 n3 c3 f3 w hT h h1 h2 h3 hno hfo hm
        · exact c8_00 n2 r A1 b1 o1 c1 f1 A2 b2 o2 c2 f2 A3 b3 o3 n3 c3 f3 w hT h h1 h2 h3 hno hfo hm
    · exact c8b n r A1 b1 o1 n1 c1 f1 A2 b2 o2 n2 c2 f2 A3 b3 o3 n3 c3 f3 w hT h h1 h2 h3 hno
  · exact c8a L P A1 n1 c1 A2 n2 c2 A3 n3 c3 w hT h
end Go.Proofs.YtnndhibhnakdoaaDoor
