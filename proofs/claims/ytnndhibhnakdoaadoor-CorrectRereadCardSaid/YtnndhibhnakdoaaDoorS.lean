/- Stage 5: the examples come out. -/
import Derived.Test.YtnndhibhnakdoaaDoorR
set_option linter.unusedSimpArgs false
set_option linter.unusedVariables false
namespace Go.Proofs.YtnndhibhnakdoaaDoor
open Go.RowKit Go.BigFrame Go.Sort
open Gf (S)

set_option maxRecDepth 100000 in
set_option maxHeartbeats 2000000 in
theorem c22y (A B : Option Addr) (a b ao bo n c d : Nat) (f : Nat → Int) (w : World) (h1 : Ints w A a ao n f) (h2 : Ints w B b bo n f) (hl : n ≤ 10000) :
    Calls Tryd.prog 22 #[.slice A n c, .slice B n d] w fun e w' => e = .returned (.bool true) ∧ Below w.heap.size w w' := by
  have h1h := hid h1
  have h2h := hid h2
  clear h1 h2
  go_enter Tryd.func22, Tryd.ntmps22
  go_wp2_with fail
  go_loopw [5] (fun iv wr => ∃ k : Nat, k ≤ n ∧ iv = .int .i64 k ∧ Below w.heap.size w wr) (fun iv _ => n - (intOf iv).toNat)
  case atStart => exact ⟨0, Nat.zero_le _, rfl, Below.refl _ _⟩
  case round =>
    obtain ⟨k, hk, rfl, hB⟩ := hrel
    by_cases hlt : k < n
    · have z1 := h1h.out.below hB (Nat.le_refl _)
      have z2 := h2h.out.below hB (Nat.le_refl _)
      have k1 := z1.ce k hlt
      have k3 := z2.ce k hlt
      have j1 := @Ints.ix _ _ _ _ _ c _ z1 _ hlt
      have j2 := @Ints.ix _ _ _ _ _ d _ z2 _ hlt
      clear z1 z2
      go_wp2_with fail
      go_quiet (fail)
      go_wp2
      go_roundw
      case rel => exact ⟨k + 1, by omega, by go_num, below_drewN hB _⟩
      case measure => simp [intOf]; omega
    · go_wp2_with fail
      go_returns
      exact ⟨rfl, hB⟩
theorem ints_new (w : World) (cs : Array Value) (n : Nat) (f : Nat → Int) (h : ∀ k, k < n → cs[k]? = some (.int .i64 (f k))) : Ints (w.alloc (.cells cs 3)) (some ⟨w.heap.size, 0, none⟩) w.heap.size 0 n f :=
  ⟨fun _ _ => rfl, fun _ _ => by simp, fun k hk => by rw [Nat.zero_add, cell_of_row _ _ _ cs 3 (0, 0) (heap_new _ _)]; exact h k hk⟩
theorem below_one {w w' : World} {o : Obj} (h : Below (w.alloc o).heap.size (w.alloc o) w') : Below w.heap.size w w' :=
  Below.trans ((Below.refl w.heap.size w).alloc (Nat.le_refl _) o) (h.mono (by simp))
set_option maxHeartbeats 1000000 in
theorem c43 (w : World) : Calls Tryd.prog 43 #[] w fun e w' => e = .returned (cv 5 2) ∧ Below w.heap.size w w' := by
  go_enter Tryd.func43, Tryd.ntmps43
  go_wp2_with fail
  refine bodyPost_ret (v := cv 5 2) (by simp [results, Tryd.results43, go_sem]) rfl ⟨rfl, ?_⟩
  (repeat' (first | (with_reducible exact Below.refl _ _) | (with_reducible assumption) | (with_reducible refine Below.alloc ?_ ?_ _) | (with_reducible refine Below.drew ?_) | (with_reducible refine below_drewN ?_ _) | (with_reducible refine Below.setCell ?_ ?_ _) | (with_reducible refine Below.trans ?_ (Below.mono (by with_reducible assumption) ?_)) | go_size))
def x1 (k : Nat) : Int := if k = 0 then 1 else if k = 1 then 2 else 3
def x2 (k : Nat) : Int := if k = 0 then 1 else if k = 1 then 2 else if k = 2 then 7 else 4
def x3 (k : Nat) : Int := if k = 0 then 0 else if k = 1 then 0 else if k = 2 then 3 else 4
def x0 (k : Nat) : Int := if k = 0 then 1 else if k = 1 then 2 else if k = 2 then 3 else 4
def c0 : Nat → S := sy x0
theorem five {k : Nat} (h : k < 5) : k = 0 ∨ k = 1 ∨ k = 2 ∨ k = 3 ∨ k = 4 := by omega
theorem nf0 {k : Nat} (h : k < 5) : nf c0 k = x0 k := by rcases five h with rfl | rfl | rfl | rfl | rfl <;> decide +kernel
theorem ok5 : vld ((5 : Nat) : Int) ((2 : Nat) : Int) := by unfold vld; omega
theorem cw0 : ∀ i, i < 2 → Gf.syn 5 c0 i = 0 := by
  intro i hi
  rcases (show i = 0 ∨ i = 1 by omega) with rfl | rfl <;> decide +kernel
theorem enc0 : ∀ j, j < 5 → Gf.enc 5 2 (sy x1) j = c0 j := Gf.enc_same (by decide) (by decide) cw0 (fun j hj => by
  rcases (show j = 0 ∨ j = 1 ∨ j = 2 by omega) with rfl | rfl | rfl <;> decide +kernel)
theorem near0 : Gf.Near 5 2 (sy x2) [] c0 := ⟨cw0, by decide +kernel⟩
theorem none0 : ∀ C, ¬ Gf.Near 5 2 (sy x3) [] C := by
  refine Gf.near_none fun Q hQ hl hz => ?_
  simp only [List.length_nil] at hl hz
  match Q, hl with
  | [], _ =>
    have := hz 0 (by simp)
    revert this
    decide +kernel
  | [p], _ =>
    have hp : p < 5 := (Gf.susp_mem.1 (hQ.subset (List.mem_singleton.2 rfl))).1
    have := hz 0 (by simp)
    revert this
    rcases five hp with rfl | rfl | rfl | rfl | rfl <;> decide +kernel
theorem li0 (g : Nat → Int) : li (ps g) 0 = [] := rfl
theorem w18 (b c : Nat) (w : World) (hT : Tab w) (hz : Ints w (some ⟨b, 0, none⟩) b 0 3 x1) :
    Calls Tryd.prog 18 #[cv 5 2, .slice (some ⟨b, 0, none⟩) 3 c] w fun e w' => ∃ g c', e = .returned (.tuple #[.slice (some ⟨g, 0, none⟩) 5 c', .int .i64 0]) ∧ Ints w' (some ⟨g, 0, none⟩) g 0 5 x0 ∧ Below w.heap.size w w' :=
  (c18y 5 2 (some ⟨b, 0, none⟩) b 0 c x1 w hT ok5 hz (fun k hk => by rcases (show k = 0 ∨ k = 1 ∨ k = 2 by omega) with rfl | rfl | rfl <;> (unfold isym; decide))).mono fun _ _ ⟨g, c', he, _, hR, hB⟩ => ⟨g, c', he, (hR.congr (fun k hk => by
    show (((Gf.enc 5 2 (sy x1) k).val : Nat) : Int) = x0 k
    rw [enc0 k hk]; exact nf0 hk)).ints, hB⟩
theorem all5 {f : Nat → Int} (h : ∀ k, k < 5 → 0 ≤ f k ∧ f k ≤ 15) : allS 5 f := h
theorem w20a (b c : Nat) (w : World) (hT : Tab w) (hz : Ints w (some ⟨b, 0, none⟩) b 0 5 x2) :
    Calls Tryd.prog 20 #[cv 5 2, .slice (some ⟨b, 0, none⟩) 5 c, .slice none 0 0] w fun e w' => ∃ g c', e = .returned (.tuple #[.slice (some ⟨g, 0, none⟩) 5 c', .int .i64 0]) ∧ Ints w' (some ⟨g, 0, none⟩) g 0 5 x0 ∧ Below w.heap.size w w' := by
  refine (c20y 5 2 (some ⟨b, 0, none⟩) b 0 c x2 none 0 0 0 0 (fun _ => 0) w hT ok5 hz (all5 (fun k hk => by rcases five hk with rfl | rfl | rfl | rfl | rfl <;> decide)) (Ints.empty _ _ _ _ _) (fun _ => rfl) (fun k hk => absurd hk (Nat.not_lt_zero _))).mono ?_
  rintro e w' (⟨C, g, c', hC, he, hg, hc, hR, hB⟩ | ⟨hC, _⟩)
  · refine ⟨g, c', he, (hR.congr (fun k hk => ?_)).ints, hB⟩
    rw [← nf0 hk]
    unfold nf
    rw [hC.same (by decide) (fun p hp => by cases hp) near0 k hk]
  · exact absurd near0 (hC c0)
theorem w20b (b c : Nat) (w : World) (hT : Tab w) (hz : Ints w (some ⟨b, 0, none⟩) b 0 5 x3) :
    Calls Tryd.prog 20 #[cv 5 2, .slice (some ⟨b, 0, none⟩) 5 c, .slice none 0 0] w fun e w' => e = .returned (.tuple #[.slice none 0 0, .int .i64 52]) ∧ Below w.heap.size w w' := by
  refine (c20y 5 2 (some ⟨b, 0, none⟩) b 0 c x3 none 0 0 0 0 (fun _ => 0) w hT ok5 hz (all5 (fun k hk => by rcases five hk with rfl | rfl | rfl | rfl | rfl <;> decide)) (Ints.empty _ _ _ _ _) (fun _ => rfl) (fun k hk => absurd hk (Nat.not_lt_zero _))).mono ?_
  rintro e w' (⟨C, g, c', hC, _⟩ | ⟨hC, he, hB⟩)
  · exact absurd hC (none0 C)
  · exact ⟨he, hB⟩
theorem w31 (w : World) (hT : Tab w) : Calls Tryd.prog 31 #[cv 5 2] w fun e w' => e = .returned (.tuple #[.int .i64 19, .int .i64 64, .int .i64 0]) ∧ Below w.heap.size w w' := by
  refine (c31y 5 2 w hT ok5).mono fun e w' ⟨he, hB⟩ => ⟨?_, hB⟩
  rw [he]
  have h1 : ner 5 2 = 76 := rfl
  have h2 : tz 76 = 2 := by decide +kernel
  rw [h1, h2]
  rfl
theorem n3 (w : World) : Ints (w.alloc (.cells #[.int .i64 1, .int .i64 2, .int .i64 3] 3)) (some ⟨w.heap.size, 0, none⟩) w.heap.size 0 3 x1 := ints_new w _ 3 x1 (fun k hk => by rcases (show k = 0 ∨ k = 1 ∨ k = 2 by omega) with rfl | rfl | rfl <;> rfl)
theorem n7 (w : World) : Ints (w.alloc (.cells #[.int .i64 1, .int .i64 2, .int .i64 7, .int .i64 4, .int .i64 4] 3)) (some ⟨w.heap.size, 0, none⟩) w.heap.size 0 5 x2 := ints_new w _ 5 x2 (fun k hk => by rcases five hk with rfl | rfl | rfl | rfl | rfl <;> rfl)
theorem n0 (w : World) : Ints (w.alloc (.cells #[.int .i64 0, .int .i64 0, .int .i64 3, .int .i64 4, .int .i64 4] 3)) (some ⟨w.heap.size, 0, none⟩) w.heap.size 0 5 x3 := ints_new w _ 5 x3 (fun k hk => by rcases five hk with rfl | rfl | rfl | rfl | rfl <;> rfl)
theorem n4 (w : World) : Ints (w.alloc (.cells #[.int .i64 1, .int .i64 2, .int .i64 3, .int .i64 4, .int .i64 4] 3)) (some ⟨w.heap.size, 0, none⟩) w.heap.size 0 5 x0 := ints_new w _ 5 x0 (fun k hk => by rcases five hk with rfl | rfl | rfl | rfl | rfl <;> rfl)
/-- The examples come out, whatever memory holds. -/
def Works : Prop := ∀ w : World, Tab w → Calls Tryd.prog 15 #[] w fun e w' => e = .returned (.bool true) ∧ Below w.heap.size w w'
set_option maxRecDepth 100000 in
set_option maxHeartbeats 8000000 in
theorem c15 : Works := by
  intro w hT
  have hTh := hid hT
  clear hT
  go_enter Tryd.func15, Tryd.ntmps15
  go_wp2_with (first | (go_at_call 22; (with_reducible refine (c22y (some ⟨g4, 0, none⟩) (some ⟨g2, 0, none⟩) g4 g2 0 0 5 c4 c2 x0 w9 (I4.out.below K89.out (Nat.le_refl _)) (I28.out.below K89.out (Nat.le_refl _)) (by decide)).mono ?_); rintro e w10 ⟨rfl, hB10⟩; have B10 := hid (B9.out.trans (hB10.mono B9.out.size)); clear hB10) | (go_at_call 22; (with_reducible refine (c22y (some ⟨g2, 0, none⟩) (some ⟨w8.heap.size, 0, none⟩) g2 w8.heap.size 0 0 5 c2 5 x0 _ (I28.out.below ((Below.refl _ _).alloc (Nat.le_refl _) _) (Nat.le_refl _)) (n4 w8) (by decide)).mono ?_); rintro e w9 ⟨rfl, hB9⟩; have K89 := hid (below_one hB9); have B9 := hid (B8.out.trans (K89.out.mono B8.out.size)); clear hB9) | (go_at_call 31; (with_reducible refine (w31 w7 (hTh.out.below B7.out (Nat.le_refl _))).mono ?_); rintro e w8 ⟨rfl, hB8⟩; have B8 := hid (B7.out.trans (hB8.mono B7.out.size)); have K48 := hid (K47.out.trans (hB8.mono K47.out.size)); have I4 := hid (J4.out.below K48.out (Nat.le_refl _)); have I28 := hid (I2.out.below (K24.out.trans (K48.out.mono K24.out.size)) (Nat.le_refl _)); clear hB8) | (go_at_call 43; (with_reducible refine (c43 w6).mono ?_); rintro e w7 ⟨rfl, hB7⟩; have B7 := hid (B6.out.trans (hB7.mono B6.out.size)); have K47 := hid (K46.out.trans (hB7.mono K46.out.size)); clear hB7) | (go_at_call 20; (with_reducible refine (w20b w5.heap.size 5 _ (hTh.out.below (B5.out.alloc B5.out.size _) (Nat.le_refl _)) (n0 w5)).mono ?_); rintro e w6 ⟨rfl, hB6⟩; have K56 := below_one hB6; have B6 := hid (B5.out.trans (K56.mono B5.out.size)); have K46 := hid (K45.out.trans (K56.mono K45.out.size)); clear hB6 K56) | (go_at_call 43; (with_reducible refine (c43 w4).mono ?_); rintro e w5 ⟨rfl, hB5⟩; have B5 := hid (B4.out.trans (hB5.mono B4.out.size)); have K45 := hid hB5; clear hB5) | (go_at_call 20; (with_reducible refine (w20a w3.heap.size 5 _ (hTh.out.below (B3.out.alloc B3.out.size _) (Nat.le_refl _)) (n7 w3)).mono ?_); rintro e w4 ⟨g4, c4, rfl, hI4, hB4⟩; have J4 := hid hI4; have K34 := below_one hB4; have B4 := hid (B3.out.trans (K34.mono B3.out.size)); have K24 := hid (K23.out.trans (K34.mono K23.out.size)); clear hB4 hI4 K34) | (go_at_call 43; (with_reducible refine (c43 w2).mono ?_); rintro e w3 ⟨rfl, hB3⟩; have B3 := hid (B2.out.trans (hB3.mono B2.out.size)); have K23 := hid hB3; clear hB3) | (go_at_call 18; (with_reducible refine (w18 w1.heap.size 3 _ (hTh.out.below (B1.out.alloc B1.out.size _) (Nat.le_refl _)) (n3 w1)).mono ?_); rintro e w2 ⟨g2, c2, rfl, hI2, hB2⟩; have I2 := hid hI2; have B2 := hid (B1.out.trans ((below_one hB2).mono B1.out.size)); clear hB2 hI2) | (go_at_call 43; (with_reducible refine (c43 w).mono ?_); rintro e w1 ⟨rfl, hB1⟩; have B1 := hid hB1; clear hB1))
  go_returns
  exact ⟨rfl, B10.out⟩
end Go.Proofs.YtnndhibhnakdoaaDoor
