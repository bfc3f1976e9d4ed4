/- Stage 6: a set as a list of states in order. -/
import Derived.Test.YtajllhjoagldkaaF
import Derived.RangeFuncBox
import Derived.Deep.AppendLies
set_option linter.unusedSimpArgs false
set_option linter.unusedVariables false
namespace Go.Proofs.Ytajllhjoagldkaa
open Go.RowKit Go.Shelf Go.Maps Go.WideMaps
attribute [local go_sem] Oper.semAt_some

theorem owns_keep {w w' : World} {b e s : Nat} {v : Value} {n : Nat} {xs : List Value} (h : w.ownsRow b e s v n xs) (k : ∀ g, g < w.heap.size → v.ownBlock = some g → w'.heap[g]? = w.heap[g]?) : w'.ownsRow b e s v n xs := by
  obtain ⟨h1, h2⟩ := h
  refine ⟨h1, ?_⟩
  rcases h2 with h2 | ⟨g, cap, cur, h3, h4, h5, h6⟩
  · exact .inl h2
  · exact .inr ⟨g, cap, cur, h3, h4, (k g (Array.getElem?_eq_some_iff.1 h5).1 (by rw [h3]; rfl)).trans h5, h6⟩
theorem owns_at {w : World} {b e s : Nat} {v : Value} {n : Nat} {xs : List Value} (h : w.ownsRow b e s v n xs) {g : Nat} (hg : v.ownBlock = some g) : b ≤ g ∧ g < w.heap.size := by
  obtain ⟨h1, h2⟩ := h
  rcases h2 with ⟨h3, _⟩ | ⟨g', cap, cur, h3, h4, h5, h6⟩
  · rw [h3] at hg; cases hg
  · rw [h3] at hg
    cases hg
    exact ⟨h4, (Array.getElem?_eq_some_iff.1 h5).1⟩
theorem owns_base {w : World} {b b' e s : Nat} {v : Value} {n : Nat} {xs : List Value} (h : w.ownsRow b e s v n xs) (hb : b' ≤ b) : w.ownsRow b' e s v n xs := by
  obtain ⟨h1, h2⟩ := h
  refine ⟨h1, ?_⟩
  rcases h2 with h2 | ⟨g, cap, cur, h3, h4, h5, h6⟩
  · exact .inl h2
  · exact .inr ⟨g, cap, cur, h3, Nat.le_trans hb h4, h5, h6⟩
theorem owns_below {w w' : World} {B b e s : Nat} {v : Value} {n : Nat} {xs : List Value} (h : w.ownsRow b e s v n xs) (hB : Below B w w') (hw : w.heap.size ≤ B) : w'.ownsRow b e s v n xs := owns_keep h fun g hg _ => hB.block g (by omega)

/-- The cells of a list of states. -/
def flS (L : List (Int × Int)) : List Value := L.flatMap fun s => [.int .i64 s.1, .int .i64 s.2]
theorem flS_snoc (L : List (Int × Int)) (s : Int × Int) : flS (L ++ [s]) = flS L ++ [.int .i64 s.1, .int .i64 s.2] := by simp [flS]
theorem flS_len (L : List (Int × Int)) : (flS L).length = L.length * 2 := by
  induction L with
  | nil => rfl
  | cons s L ih => simp [flS] at ih ⊢; omega
/-- The states of a set, in order. -/
def lst (f : Int → Int → Bool) (L : List (Int × Int)) : List (Int × Int) := L.filter fun s => f s.1 s.2
theorem lst_yes {f : Int → Int → Bool} {L : List (Int × Int)} {s : Int × Int} (h : f s.1 s.2 = true) : lst f (L ++ [s]) = lst f L ++ [s] := by simp [lst, h]
theorem lst_no {f : Int → Int → Bool} {L : List (Int × Int)} {s : Int × Int} (h : f s.1 s.2 = false) : lst f (L ++ [s]) = lst f L := by simp [lst, h]
theorem sts_small {a : Ar} (ok : a.Ok) {pre : List (Int × Int)} {x : Int × Int} (h : pre ++ [x] <+: sts a) : (0 ≤ x.1 ∧ x.1 ≤ (a.la : Int)) ∧ (-(a.sp : Int) ≤ x.2 ∧ x.2 ≤ (a.sp : Int)) :=
  stB_iff.1 (mem_sts.1 (h.subset (by simp)))
theorem pre_len {a : Ar} (ok : a.Ok) {pre : List (Int × Int)} (h : pre <+: sts a) : pre.length ≤ 41 * 17 := by
  refine Nat.le_trans h.length_le ?_
  rw [sts_len]
  exact Nat.mul_le_mul (by have := ok.l; omega) (by have := ok.p; omega)
theorem lst_len (f : Int → Int → Bool) (L : List (Int × Int)) : (lst f L).length ≤ L.length := List.length_filter_le _ _

/-- What the loop has so far: a list in a box; m: the heap's size at the start. -/
structure OrI (b m : Nat) (f : Int → Int → Bool) (w : World) (pre : List (Int × Int)) (W : World) : Prop where
  bel : Below m w W
  c1 : W.cell? ⟨m + 1, 0, none⟩ = some (.map (some b))
  row : ∃ v, Boxed W (m + 2) 32 v ∧ W.ownsRow (m + 6) 25 2 v (lst f pre).length (flS (lst f pre))
theorem OrI.keep {b m : Nat} {f : Int → Int → Bool} {w : World} {pre : List (Int × Int)} {A B : World} (h : OrI b m f w pre A) (hm : m + 6 ≤ A.heap.size + 3) (k : Keep (fun k => m + 3 ≤ k ∧ k ≤ m + 4) A B) : OrI b m f w pre B := by
  obtain ⟨h1, h2, v, h3, h4⟩ := h
  have hl := h3.lt
  refine ⟨h1.trans (k.to_below (by omega) (fun k hk => by omega)), (keep_cell k (by omega) (by omega)).trans h2, v, (k.block _ hl (by omega)).trans h3, owns_keep h4 fun g hg he => k.block g hg (by have := (owns_at h4 he).1; omega)⟩

theorem Keep.grown {S : Nat → Prop} {a b c : World} {row : Option Nat} (h : Keep S a b) (g : b.grownBy c row) (hr : ∀ k, row = some k → S k ∨ a.heap.size ≤ k) : Keep S a c :=
  ⟨g.os.trans h.os, g.tape.trans h.tape, g.output.trans h.output, Nat.le_trans h.size g.size, fun k hk hs => (g.block k (Nat.lt_of_lt_of_le hk h.size) (fun e => by rcases hr k e.symm with h1 | h1; exact hs h1; omega)).trans (h.block k hk hs)⟩
set_option maxRecDepth 100000 in
set_option maxHeartbeats 4000000 in
theorem c44 (a : Ar) (b n : Nat) (f : Int → Int → Bool) (w : World) (ok : a.Ok) (h : SetM w b n f) :
    Calls Try.prog 44 #[a.v, .map (some b)] w fun e w' => ∃ v, e = .returned v ∧ w'.ownsRow w.heap.size 25 2 v (lst f (sts a)).length (flS (lst f (sts a))) ∧ Below w.heap.size w w' := by
  obtain ⟨i0, ie0, ie1, ie2, ie3⟩ := info_parts (P := Try.prog) (e := 25) (z := .agg #[.int .i64 0, .int .i64 0]) (size := 2) (bytes := 16) (by kernel_rfl)
  have hh := hid h
  have hbl := h.lt
  have o1 := ok.l; have o2 := ok.p
  have okh := hid ok
  clear h ok
  refine callsIn_wide.1 (callsIn_of_wp_marks (F := Fence.wide) (n := 0) Try.func44 rfl trivial ?_ rfl)
  simp only [Try.ntmps44, List.size_toArray, List.length_cons, List.length_nil, Nat.reduceAdd, Nat.reduceSub, Array.replicate_succ, Array.replicate_zero, List.push_toArray, List.append_toArray, List.nil_append, List.cons_append]
  obtain ⟨w0, hw0⟩ : ∃ w0, w0 = ((w.alloc (.cells #[.int .i64 (a.la : Nat), .int .i64 (a.sp : Nat), .int .i64 (a.fo : Nat), .int .i64 (a.sh : Nat), .int .i64 (a.ga : Nat), .int .i64 (a.sl : Nat)] 77)).alloc (.cells #[.map (some b)] 82)).alloc (.cells #[.slice none 0 0] 32) := ⟨_, rfl⟩
  have hs0 : w0.heap.size = w.heap.size + 3 := by rw [hw0]; simp
  have e1 : w0.cell? ⟨w.heap.size + 1, 0, none⟩ = some (.map (some b)) := by
    have h1 := Boxed.new (w.alloc (.cells #[.int .i64 (a.la : Nat), .int .i64 (a.sp : Nat), .int .i64 (a.fo : Nat), .int .i64 (a.sh : Nat), .int .i64 (a.ga : Nat), .int .i64 (a.sl : Nat)] 77)) 82 (.map (some b))
    have h2 := (h1.alloc (.cells #[.slice none 0 0] 32)).cell
    rw [World.size_alloc] at h2
    rw [hw0]; exact h2
  have e2 : Below w.heap.size w w0 := by rw [hw0]; (repeat' (first | (with_reducible exact Below.refl _ _) | (with_reducible assumption) | (with_reducible refine Below.alloc ?_ ?_ _) | (with_reducible refine Below.drew ?_) | (with_reducible refine below_drewN ?_ _) | (with_reducible refine Below.setCell ?_ ?_ _) | (with_reducible refine Below.trans ?_ (Below.mono (by with_reducible assumption) ?_)) | go_size))
  have hI0 : OrI b w.heap.size f w [] w0 := by
    refine ⟨e2, e1, .slice none 0 0, ?_, World.ownsRow_nil _ _ _ _⟩
    have := Boxed.new ((w.alloc (.cells #[.int .i64 (a.la : Nat), .int .i64 (a.sp : Nat), .int .i64 (a.fo : Nat), .int .i64 (a.sh : Nat), .int .i64 (a.ga : Nat), .int .i64 (a.sl : Nat)] 77)).alloc (.cells #[.map (some b)] 82)) 32 (.slice none 0 0)
    simp only [World.size_alloc] at this
    rw [hw0]; exact this
  gi_wp2
  rw [← hw0]
  clear hw0
  refine rf_law3 (S := fun k => k = w.heap.size + 2 ∨ w.heap.size + 6 ≤ k) (xs := sts a) (R := fun (x : Int × Int) args => args = #[.agg #[.int .i64 x.1, .int .i64 x.2]]) (gf := 68) (la := #[a.v]) (lb := #[]) rfl (enters_of Try.func68 (by kernel_rfl) rfl) (fun _ _ h => by rw [h]; rfl) (by omega) (by omega)
    (fun W hB hs => it68 a _ W okh.out (by omega))
    (fun pre W => OrI b w.heap.size f w pre W) (fun _ _ => False) ?hI (fun _ _ _ h _ => h) hI0 ?round ?done (fun _ _ h => h.elim)
  case hI =>
    rintro s A B hi hk
    exact hi.keep (by have := hi.row; obtain ⟨v, hv, _⟩ := this; have := hv.lt; omega) (hk.imp fun _ _ h => by omega)
  case round =>
    rintro pre x W hi hpre hsz hl args rfl
    have hx := sts_small okh.out hpre
    have hlen := pre_len okh.out hpre
    rw [List.length_append, List.length_singleton] at hlen
    gi_wp2
    obtain ⟨W1, hW1⟩ : ∃ W1, W1 = W.alloc (.cells #[.int .i64 x.1, .int .i64 x.2] 25) := ⟨_, rfl⟩
    have hk1 : Keep (fun _ => False) W W1 := by rw [hW1]; exact (Keep.refl _ _).alloc _
    have hs1 : W1.heap.size = W.heap.size + 1 := by rw [hW1]; simp
    have hd1 : W1.heap[W.heap.size]? = some (.cells #[.int .i64 x.1, .int .i64 x.2] 25 (0, 0)) := by rw [hW1]; exact heap_new _ _
    rw [← hW1]
    clear hW1
    refine ⟨hk1.imp (fun _ _ h => h.elim), hi.keep (by omega) (hk1.imp fun _ _ h => h.elim), fun W₂ hs2 ho hl2 hi2 => ?_⟩
    have d0 : W₂.cell? ⟨W.heap.size, 0, none⟩ = some (.int .i64 x.1) := by
      have := (ho W.heap.size (by omega)).trans hd1
      simp [World.cell?, this]
    have d1 : W₂.cell? ⟨W.heap.size, 1, none⟩ = some (.int .i64 x.2) := by
      have := (ho W.heap.size (by omega)).trans hd1
      simp [World.cell?, this]
    have hc1 := hi2.c1
    have hb2 := hi2.bel
    obtain ⟨v, hv3, hv4⟩ := hi2.row
    have hz2 : w.heap.size + 6 ≤ W₂.heap.size := by omega
    have hzx : W.heap.size < W₂.heap.size := by omega
    have hszh := hid hsz
    clear hi hk1 hs1 hd1 ho hl hs2 hi2 hsz
    have hv3h := hid hv3; have hv4h := hid hv4
    have hxh := hid hx
    have hsx : Sm x.1 ∧ Sm x.2 := ⟨⟨by omega, by omega⟩, ⟨by omega, by omega⟩⟩
    clear hv3 hv4
    cases hf : f x.1 x.2 with
    | false =>
      have hfh := hid hf
      clear hf
      gi_wp2_with (refine ⟨trivial, rfl, ?_⟩; gi_at_call 69; refine (CallsIn.inRound _ (callsIn_wide.2 (c69 x.1 x.2 _ (hh.out.below hb2 hbl) hsx.1 hsx.2))).mono ?_; rw [hfh.out]; rintro e w1 ⟨rfl, hB1⟩)
      refine ⟨Keep.of_below hB1 (Nat.le_refl _), ?_⟩
      have hkk : Keep (fun _ => False) W₂ w1 := Keep.of_below hB1 (Nat.le_refl _)
      refine OrI.keep ⟨hb2, hc1, v, hv3h.out, ?_⟩ (by omega) (hkk.imp fun _ _ h => h.elim)
      rw [lst_no hfh.out]; exact hv4h.out
    | true =>
      have hfh := hid hf
      clear hf
      have hln : (lst f pre).length ≤ 41 * 17 := Nat.le_trans (lst_len f pre) (by omega)
      gi_wp2_with (first | (refine ⟨trivial, rfl, ?_⟩; gi_at_call 69; refine (CallsIn.inRound _ (callsIn_wide.2 (c69 x.1 x.2 _ (hh.out.below hb2 hbl) hsx.1 hsx.2))).mono ?_; rw [hfh.out]; rintro e w1 ⟨rfl, hB1⟩; have hs1 := hB1.size; have e0 := (hB1.cell (p := ⟨W.heap.size, 0, none⟩) hzx).trans d0; have e1 := (hB1.cell (p := ⟨W.heap.size, 1, none⟩) hzx).trans d1; have hbx : Hid (Boxed w1 (w.heap.size + 2) 32 v) := hid ((hB1.block _ (hv3h.out.lt)).trans hv3h.out); have hrw := hid (owns_below hv4h.out hB1 (Nat.le_refl _)); have e2 := hbx.out.cell; have e3 := hbx.out.frozen; clear d0 d1) | (gi_at_builtin; refine wpListIn_append_own _ rfl _ _ 32 rfl (w.heap.size + 6) 25 i0 (.agg #[.int .i64 0, .int .i64 0]) 2 16 Try.underlying32 ie0 ie1 ie2 ie3 rfl (by decide) _ _ _ rfl (hrw.out.alloc _) ⟨w1.heap.size, 0, none⟩ 1 1 [.int .i64 x.1, .int .i64 x.2] rfl rfl (World.news_of_block (w := w1.alloc (.cells #[.int .i64 x.1, .int .i64 x.2] 25)) (cs := #[.int .i64 x.1, .int .i64 x.2]) (t := 25) (fr := (0, 0)) (heap_new w1 _)) (by simp [Value.oneCell']) (by unfold maxLen; omega) (by omega) (by simp; omega) ?_; intro v' w2 hown' hgrow hnil; obtain ⟨g', cap', hv'⟩ := ownsRow_succ hown'; subst hv'; have hba := hid (Boxed.appended hbx.out (by decide) (owns_base hrw.out (by omega)) (by omega) (Nat.le_refl _) (owns_base hown' (show w.heap.size + 2 ≤ w.heap.size + 6 by omega)) hgrow); have e4 := hba.out.1.cell; have e5 := hba.out.1.frozen; have hownh := hid hown'; have hgrowh := hid hgrow; clear hown' hgrow hnil e2 e3))
      have hK1 : Keep (fun k => k = w.heap.size + 2 ∨ w.heap.size + 6 ≤ k) W₂ (w2.setCell ⟨w.heap.size + 2, 0, none⟩ (.slice (some ⟨g', 0, none⟩) ((lst f pre).length + 1) cap')) := (((Keep.of_below hB1 (Nat.le_refl _)).alloc _).grown hgrowh.out (fun k e => .inl (.inr (owns_at hrw.out e).1))).setCell (p := ⟨w.heap.size + 2, 0, none⟩) (.inl (.inl rfl)) _
      refine ⟨hK1, ?_⟩
      refine ⟨hb2.trans (hK1.to_below (by omega) (fun k hk => by omega)), ?_, _, hba.out.2.1, ?_⟩
      · exact (keep_cell hK1 (by omega) (by omega)).trans hc1
      · rw [lst_yes hfh.out, List.length_append, List.length_singleton, flS_snoc]
        exact owns_keep hownh.out fun g hg he => Below.heap_setCell _ _ _ _ (by have := (owns_at hownh.out he).1; show ¬ g = w.heap.size + 2; omega)
  case done =>
    rintro W ⟨hb, hc1, v, hv, hr⟩ hK hsz
    have e2 := hv.cell
    have hrh := hid hr
    clear hr hv hc1
    gi_wp2
    refine leaves_marks [w0.heap.size] W (by simp) (fun r hr => by rw [List.mem_singleton.1 hr]; exact hK) (fun W' hk => ?_)
    refine ⟨v, by simp [results, Try.results44, go_sem], ?_⟩
    refine ⟨v, rfl, owns_base (owns_keep hrh.out fun g hg he => hk.block g hg (by have := (owns_at hrh.out he).1; simp; omega)) (by omega), hb.trans (hk.to_below (by have := hb.size; omega) (fun k hk => by rw [List.mem_singleton.1 hk]; omega))⟩
end Go.Proofs.Ytajllhjoagldkaa
