/- Stage 5: reading a block again: what has been decoded so far, in a box. -/
import Derived.Test.YtnndhibhnakdoaaDoorAC
import Derived.RangeFuncBox
set_option linter.unusedSimpArgs false
set_option linter.unusedVariables false
namespace Go.Proofs.YtnndhibhnakdoaaDoor
open Go.RowKit Go.BigFrame Go.Sort
open Gf (S)
/-- q words, all the same, stand in a list of their own that a box holds. -/
structure RdI (n B : Nat) (C : Nat → S) (q : Nat) (v : Value) (ds : List Value) (w : World) : Prop where
  box : Boxed w B 91 v
  own : w.ownsRow B 70 1 v q ds
  all : ∀ x ∈ ds, ∃ d c, x = .slice (some ⟨d, 0, none⟩) n c ∧ RowS w d n C
theorem RowS.not_box {w : World} {d n B : Nat} {C : Nat → S} {v : Value} (h : RowS w d n C) (hb : Boxed w B 91 v) : d ≠ B := by
  rintro rfl
  obtain ⟨c, F, ⟨cs, h1, _⟩, _⟩ := h
  rw [show w.heap[d]? = _ from hb] at h1
  cases h1
theorem RowS.not_row {w : World} {d n b k : Nat} {C : Nat → S} {v : Value} {xs : List Value} (h : RowS w d n C) (hr : w.ownsRow b 70 1 v k xs) : some d ≠ v.ownBlock := by
  intro e
  obtain ⟨c, F, ⟨cs, h1, _⟩, _⟩ := h
  obtain ⟨_, ⟨h2, _⟩ | ⟨g, cap, cur, h2, h3, h4, _⟩⟩ := hr
  · subst h2; cases e
  · subst h2
    cases e
    rw [h4] at h1
    cases h1
theorem RdI.below {n B q : Nat} {C : Nat → S} {v : Value} {ds : List Value} {w w' : World} (h : RdI n B C q v ds w) (hb : Below w.heap.size w w') : RdI n B C q v ds w' :=
  ⟨(hb.block _ h.box.lt).trans h.box, owns_keep h.own (fun g hg _ => hb.block g hg), fun x hx => by
    obtain ⟨d, c, h1, h2⟩ := h.all x hx
    exact ⟨d, c, h1, h2.below hb h2.lt⟩⟩
theorem RdI.appended {n B q d c m : Nat} {C : Nat → S} {v v' : Value} {ds : List Value} {w w1 : World} {tmp : Obj} (h : RdI n B C q v ds w) (hB : B ≤ w.heap.size) (hd : RowS w d n C)
    (hown : w1.ownsRow B 70 1 v' m (ds ++ [.slice (some ⟨d, 0, none⟩) n c])) (hgrow : (w.alloc tmp).grownBy w1 v.ownBlock) :
    Boxed w1 B 91 v ∧ RdI n B C m v' (ds ++ [.slice (some ⟨d, 0, none⟩) n c]) (w1.setCell ⟨B, 0, none⟩ v') ∧ Below B w (w1.setCell ⟨B, 0, none⟩ v') := by
  obtain ⟨a1, a2, a3, _, a5⟩ := Boxed.appended (tmp := tmp) h.box (by decide) h.own hB (Nat.le_refl _) hown hgrow
  have keep : ∀ d, RowS w d n C → RowS (w1.setCell ⟨B, 0, none⟩ v') d n C := fun d hd => by
    refine ((hd.alloc tmp).of_block (hgrow.block d (by rw [World.size_alloc]; exact Nat.lt_succ_of_lt hd.lt) (hd.not_row h.own))).setOther (a := ⟨B, 0, none⟩) (hd.not_box h.box) v'
  refine ⟨a1, ⟨a2, a3, fun x hx => ?_⟩, a5⟩
  rcases List.mem_append.1 hx with hx | hx
  · obtain ⟨e, c', h1, h2⟩ := h.all x hx
    exact ⟨e, c', h1, keep e h2⟩
  · rw [List.mem_singleton.1 hx]
    exact ⟨d, c, rfl, keep d hd⟩
theorem RdI.list {n B q : Nat} {C : Nat → S} {v : Value} {ds : List Value} {w : World} (h : RdI n B C q v ds w) (hq : 0 < q) : ∃ g c, v = .slice (some ⟨g, 0, none⟩) q c ∧ Decs w g q n C := by
  have hne : ¬ v = .slice none 0 0 := by
    rintro rfl
    obtain ⟨_, ⟨_, h2⟩ | ⟨g, cap, cur, h3, _⟩⟩ := h.own
    · omega
    · cases h3
  obtain ⟨g, c, rfl⟩ := own_shape h.own hne
  have hl : ds.length = q := by have := h.own.1; omega
  refine ⟨g, c, rfl, owns_lt h.own rfl, fun k hk => ?_⟩
  have e := h.own.cellAt k (by omega)
  obtain ⟨d, c', h1, h2⟩ := h.all ds[k] (List.getElem_mem (by omega))
  refine ⟨d, c', ?_, h2.syms⟩
  rw [e, List.getElem?_eq_getElem (by omega), h1]
theorem RdI.nil {n B : Nat} {C : Nat → S} {v : Value} {ds : List Value} {w : World} (h : RdI n B C 0 v ds w) : ∃ A c, v = .slice A 0 c := by
  obtain ⟨_, ⟨h2, _⟩ | ⟨g, cap, cur, h3, _⟩⟩ := h.own
  · exact ⟨_, _, h2⟩
  · exact ⟨_, _, h3⟩
theorem c54z (n r : Nat) (A : Option Addr) (b o c : Nat) (wd : Nat → S) (w : World) (hT : Tab w) (hz : Syms w A b o n wd) (hr : r < n) (hn : n ≤ 15) (hr8 : r ≤ 8) :
    Calls Tryd.prog 54 #[cv n r, .slice A n c, .slice none 0 0] w (DRet n r wd [] w) :=
  c54 n r A b o c wd none 0 0 0 0 (fun _ => 0) w hT hz (Ints.empty _ _ _ _ _) (fun _ => rfl) hr hn hr8 (Nat.zero_le _) (fun k hk => absurd hk (Nat.not_lt_zero _)) List.nodup_nil
set_option maxRecDepth 100000 in
set_option maxHeartbeats 8000000 in
theorem c33y (n r : Nat) (A : Option Addr) (b o m c : Nat) (W : Nat → Nat → S) (C : Nat → S) (w : World) (hT : Tab w) (h : vld (n : Nat) (r : Nat)) (hR : Reads w A b o m n W) (hm : 1 ≤ m ∧ m ≤ 6) (hC : ∀ i, i < m → ∀ C', Gf.Near n r (W i) [] C' → ∀ j, j < n → C' j = C j) :
    Calls Tryd.prog 33 #[cv n r, .slice A m c] w fun e w' => (((∀ i, i < m → ∀ C', ¬ Gf.Near n r (W i) [] C') ∧ e = .returned (.tuple #[.slice none 0 0, .int .i64 52])) ∨ ∃ g c', e = .returned (.tuple #[.slice (some ⟨g, 0, none⟩) n c', .int .i64 0]) ∧ (∃ i, i < m ∧ ∃ C', Gf.Near n r (W i) [] C') ∧ Ints w' (some ⟨g, 0, none⟩) g 0 n (nf C)) ∧ Below w.heap.size w w' := by
  have hn := vld_nat h
  have hh := hid h
  have hTh := hid hT
  have hRh := hid hR
  have hCh := hid hC
  have hm1 : (1 : Int) ≤ (m : Int) ∧ (m : Int) ≤ 6 := by omega
  have hmh := hid hm1
  have hB0 : Hid (Below w.heap.size w (w.alloc (.cells #[.int .i64 (n : Nat), .int .i64 (r : Nat)] 23))) := hid (by (repeat' (first | (with_reducible exact Below.refl _ _) | (with_reducible assumption) | (with_reducible refine Below.alloc ?_ ?_ _) | (with_reducible refine Below.drew ?_) | (with_reducible refine below_drewN ?_ _) | (with_reducible refine Below.setCell ?_ ?_ _) | (with_reducible refine Below.trans ?_ (Below.mono (by with_reducible assumption) ?_)) | go_size)))
  have hs0 : Hid ((w.alloc (.cells #[.int .i64 (n : Nat), .int .i64 (r : Nat)] 23)).heap.size = w.heap.size + 1) := hid (by rw [World.size_alloc])
  clear hT h hR hC hm1
  obtain ⟨i0, ie0, ie1, ie2, ie3⟩ := info_parts (P := Tryd.prog) (e := 70) (z := .slice none 0 0) (size := 1) (bytes := 24) (by kernel_rfl)
  have u91 : Tryd.prog.underlying 91 = some (.slice 70) := by kernel_rfl
  go_enter Tryd.func33, Tryd.ntmps33
  go_wp2_with (first | (go_at_call 44; refine (c44y (n : Nat) (r : Nat) _ hh.out).mono ?_; rintro e w1 ⟨rfl, hB1⟩; have hs1 := hB1.size; rw [hs0.out] at hs1; replace hB1 := hid (hB0.out.trans (hB1.mono (by rw [hs0.out]; omega)))) | (go_at_call 68; refine (c68y _ hmh.out).mono ?_; rintro e w2 ⟨rfl, rfl⟩))
  obtain ⟨k, hk⟩ : ∃ k, k = w1.heap.size := ⟨_, rfl⟩
  have hB2 : Hid (Below w.heap.size w ((w1.alloc (.cells #[.int .i64 (n : Nat), .int .i64 (r : Nat)] 66)).alloc (.cells #[.slice none 0 0] 91))) := hid ((hB1.out.alloc hB1.out.size _).alloc (by have := hB1.out.size; rw [World.size_alloc]; omega) _)
  have hX2 : Hid (Bx n r ((w1.alloc (.cells #[.int .i64 (n : Nat), .int .i64 (r : Nat)] 66)).alloc (.cells #[.slice none 0 0] 91)) k) := hid (by rw [hk]; exact (Bx.new n r w1 66).below ((Below.refl _ _).alloc (Nat.le_refl _) _) (by simp))
  have hD2 : Hid (Boxed ((w1.alloc (.cells #[.int .i64 (n : Nat), .int .i64 (r : Nat)] 66)).alloc (.cells #[.slice none 0 0] 91)) (k + 1) 91 (.slice none 0 0)) := hid (by
    have h := Boxed.new (w1.alloc (.cells #[.int .i64 (n : Nat), .int .i64 (r : Nat)] 66)) 91 (.slice none 0 0)
    rw [World.size_alloc, ← hk] at h
    exact h)
  have hs2 : Hid (((w1.alloc (.cells #[.int .i64 (n : Nat), .int .i64 (r : Nat)] 66)).alloc (.cells #[.slice none 0 0] 91)).heap.size = k + 2) := hid (by rw [World.size_alloc, World.size_alloc, hk])
  have hkw : w.heap.size ≤ k := by rw [hk]; exact hB1.out.size
  rw [← hk]
  generalize ((w1.alloc (.cells #[.int .i64 (n : Nat), .int .i64 (r : Nat)] 66)).alloc (.cells #[.slice none 0 0] 91)) = wh at *
  clear hB1 hs1 hk
  go_loopw [30] (fun iv wr => ∃ (i q : Nat) (v : Value) (ds : List Value), i ≤ m ∧ iv = .int .i64 i ∧ Hid (RdI n (k + 1) C q v ds wr) ∧ q ≤ i ∧ Hid (q = 0 → ∀ t, t < i → ∀ C', ¬ Gf.Near n r (W t) [] C') ∧ Hid (0 < q → ∃ t, t < i ∧ ∃ C', Gf.Near n r (W t) [] C') ∧ Hid (Below (k + 1) wh wr)) (fun iv _ => m - (intOf iv).toNat)
  case atStart => exact ⟨0, 0, .slice none 0 0, [], Nat.zero_le _, rfl, hid ⟨hD2.out, World.ownsRow_nil _ _ _ _, fun x hx => by cases hx⟩, Nat.le_refl _, hid (fun _ t ht => absurd ht (Nat.not_lt_zero _)), hid (fun h => absurd h (Nat.lt_irrefl _)), hid (Below.refl _ _)⟩
  case round =>
    obtain ⟨i, q, v, ds, hi, rfl, hI, hqi, hz, hp, hB⟩ := hrel
    have hBw := hid (hB2.out.trans (hB.out.mono (by omega)))
    have hsr := hB.out.size
    rw [hs2.out] at hsr
    have hm6 := hmh.out.2
    have hbx := hI.out.box.cell
    by_cases hlt : i < m
    · have y1 := hRh.out.below hBw.out (Nat.le_refl _)
      obtain ⟨g, cc, a1, s1⟩ := y1.ce i hlt
      have i1 := fun w' => y1.ix (c := c) hlt w'
      have hX := hX2.out.below hB.out (by omega)
      obtain ⟨p1, p2⟩ := hX
      have s1h := hid s1
      have hr1 : r < n := by omega
      have hn15 : n ≤ 15 := by omega
      have hr8 : r ≤ 8 := by omega
      clear y1 s1
      go_wp2_with (first | (go_at_call 46; (with_reducible refine (c46_52y n r (some ⟨g, 0, none⟩) g 0 cc (nf (W i)) wr (by omega) hn15 s1h.out (all_nf n (W i))).mono ?_); rintro e w2 ⟨g2, c2, rfl, hg2, R2, hB12⟩; rw [show sy (nf (W i)) = W i from funext fun k => sy_nf (W i) k] at R2; replace R2 := hid R2; have hX := hX2.out.below (hB.out.trans (hB12.mono (by omega))) (by omega); obtain ⟨p1, p2⟩ := hX; have hs12 := hB12.size; replace hB12 := hid hB12; clear hg2) | (go_at_call 54; (with_reducible refine (c54z n r (some ⟨g2, 0, none⟩) g2 0 c2 (W i) w2 (hTh.out.below (hBw.out.trans (hB12.out.mono (by have := hBw.out.size; omega))) (Nat.le_refl _)) R2.out.syms hr1 hn15 hr8).mono ?_); rintro e w3 (⟨D, g3, c3, hD, rfl, hg3, hc3, R3, hB3⟩ | ⟨hD, rfl, hB3⟩) <;> replace hD := hid hD <;> have hI3 := hid ((hI.out.below hB12.out).below hB3) <;> have hs3 := hB3.size <;> replace hB3 := hid (hB12.out.trans (hB3.mono hB12.out.size)) <;> have hbx3 := hI3.out.box.cell <;> try (replace R3 := hid (R3.congr (hCh.out i hlt D hD.out)); clear hg3 hc3)) | (at_builtin; refine wpList_append_lies rfl (.tmp 50) (.tmp 52) 91 rfl (k + 1) 70 i0 _ 1 24 u91 ie0 ie1 ie2 ie3 rfl (by omega) v q ds rfl (hI3.out.own.alloc _) ⟨w3.heap.size, 0, none⟩ 1 1 [.slice (some ⟨g3, 0, none⟩) n c3] rfl rfl (World.news_of_block (cs := #[.slice (some ⟨g3, 0, none⟩) n c3]) (t := 70) (fr := (0, 0)) (heap_new w3 _)) (by simp [Value.oneCell']) (by omega) (by unfold maxLen; omega) (by omega) (by simp; omega) (w3.heap.size + 1) (by simp) ?_; intro g4 cap4 w4 hown4 hgrow4 hat4 hlt4; obtain ⟨b4, I4, B4⟩ := RdI.appended hI3.out (by omega) R3.out hown4 hgrow4; have e4 := b4.cell; have f4 := b4.frozen; replace I4 := hid I4; replace B4 := hid B4; clear b4 hown4 hgrow4 hat4))
      · go_roundw
        case rel => exact ⟨i + 1, q + 1, _, _, by omega, by go_num, I4, by omega, hid (fun h => absurd h (Nat.succ_ne_zero _)), hid (fun _ => ⟨i, by omega, D, hD.out⟩), hid ((hB.out.trans (hB3.out.mono (by omega))).trans B4.out)⟩
        case measure => simp [intOf]; omega
      · go_roundw
        case rel => exact ⟨i + 1, q, _, _, by omega, by go_num, hI3, by omega, hid (fun h t ht => by
            by_cases e : t = i
            · subst e; exact hD.out
            · exact hz.out h t (by omega)), hid (fun h => by obtain ⟨t, ht, h2⟩ := hp.out h; exact ⟨t, by omega, h2⟩), hid (hB.out.trans (hB3.out.mono (by omega)))⟩
        case measure => simp [intOf]; omega
    · have hB9 := hid (hB2.out.trans (hB.out.mono (by omega)))
      have him : i = m := by omega
      by_cases hq : q = 0
      · have hz2 := hid (hz.out hq)
        subst hq
        obtain ⟨A0, c0, rfl⟩ := hI.out.nil
        go_wp2_with fail
        go_returns
        exact ⟨.inl ⟨fun t ht => hz2.out t (by omega), rfl⟩, hB9.out⟩
      · have hq0 : 0 < q := by omega
        obtain ⟨t, ht, hN⟩ := hp.out hq0
        have hNh := hid hN
        obtain ⟨g, c1, rfl, hL⟩ := hI.out.list hq0
        have hLh := hid hL
        have hq1 : decide (q = 0) = false := decide_eq_false hq
        have i0' := fun w' => ix91 (g := g) (q := q) (c := c1) (k := 0) hq0 w'
        clear hL hN
        go_wp2_with (first | (go_at_call 75; refine (c75 (k + 1) g q c1 n C wr hI.out.box.cell hLh.out (by omega) (by omega)).mono ?_; rintro e w5 ⟨rfl, hB5⟩; obtain ⟨d0, c5, e5, S5⟩ := (hLh.out.below hB5 (Nat.le_refl _)).ce 0 hq0; have hb5 := (hI.out.below hB5).box.cell; replace S5 := hid S5; replace hB5 := hid (hB9.out.trans (hB5.mono hB9.out.size))) | (go_at_call 48; refine (c48 (some ⟨d0, 0, none⟩) d0 0 n c5 C w5 S5.out (by omega)).mono ?_; rintro e w6 ⟨g6, c6, rfl, hg6, hc6, R6, hB6⟩; replace R6 := hid R6; replace hB6 := hid (hB5.out.trans (hB6.mono hB5.out.size)); clear hg6 hc6))
        go_returns
        exact ⟨.inr ⟨g6, c6, rfl, ⟨t, by omega, hNh.out⟩, R6.out.ints⟩, hB6.out⟩
end Go.Proofs.YtnndhibhnakdoaaDoor
