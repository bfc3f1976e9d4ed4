/- Stage 5: a word is decoded. -/
import Derived.Test.YtnndhibhnakdoaaDoorO
set_option linter.unusedSimpArgs false
set_option linter.unusedVariables false
namespace Go.Proofs.YtnndhibhnakdoaaDoor
open Go.RowKit Go.BigFrame Go.Sort
open Gf (S)

theorem own_posc {w : World} {base : Nat} {v : Value} {n : Nat} {L : List Nat} (h : w.ownsRow base 3 1 v n (nums L)) (hn : n = L.length) : ∃ A b c, v = .slice A n c ∧ Ints w A b 0 n (fun t => (at_ L t : Nat)) ∧ (A = none → c = 0) ∧ n ≤ c := by
  have h' := h
  subst hn
  rw [nums_vals] at h
  by_cases e : v = .slice none 0 0
  · subst e
    obtain ⟨h1, h2⟩ := h
    rcases h2 with ⟨h3, h4⟩ | ⟨g, cap, cur, h3, _⟩
    · rw [h4]; exact ⟨none, 0, 0, rfl, Ints.empty _ _ _ _ _, fun _ => rfl, Nat.le_refl _⟩
    · cases h3
  · obtain ⟨g, cap, rfl⟩ := own_shape h e
    exact ⟨some ⟨g, 0, none⟩, g, cap, rfl, (RowF.of_owns h).ints, (fun e => by cases e), own_cap h⟩
theorem c84s (n B m : Nat) (A : Option Addr) (b o c : Nat) (p : Nat → Nat) (w : World) (hn : n ≤ 15) (hm : m ≤ 1000) (hb : w.cell? ⟨B, 0, none⟩ = some (.slice A m c)) (hz : Ints w A b o m (fun k => (p k : Nat))) :
    Calls Tryd.prog 84 #[.int .i64 (n : Nat), .func (.func 88) #[] #[.pointer (some ⟨B, 0, none⟩)]] w fun e w' => ∃ (A' : Option Addr) (b' c' m' : Nat) (p' : Nat → Nat), e = .returned (.slice A' m' c') ∧ Ints w' A' b' 0 m' (fun k => (p' k : Nat)) ∧ li p' m' = Gf.susp n (li p m) ∧ m' ≤ c' ∧ m' ≤ n ∧ (∀ k, k < m' → p' k < n) ∧ Below w.heap.size w w' := by
  refine (c84_88 n B (freeB (li p m)) w (by omega) (fun W' hW' x _ => c88 x B m c b o A p W' ((hW'.cell (p := ⟨B, 0, none⟩) (World.block_lt_of_cell? w _ hb)).trans hb) (hz.below hW' (Nat.le_refl _)) hm)).mono ?_
  rintro e w5 ⟨v5, rfl, hown, K5⟩
  obtain ⟨A5, b5, c5, rfl, hI5, _, hc5⟩ := own_posc hown rfl
  refine ⟨A5, b5, c5, _, at_ (cho (freeB (li p m)) n), rfl, hI5, ?_, hc5, cho_le _ _, fun k hk => ?_, K5⟩
  · rw [li_at]
    rfl
  · have := at_mem hk
    simp only [cho, List.mem_filter, List.mem_range] at this
    exact this.1
theorem both_nodup {n : Nat} {M Q : List Nat} (hM : M.Nodup) (hQ : Q.Sublist (Gf.susp n M)) : (M ++ Q.reverse).Nodup :=
  List.nodup_append.2 ⟨hM, (List.reverse_perm Q).symm.nodup ((Gf.susp_nodup n M).sublist hQ), fun a ha b hb e => (Gf.susp_mem.1 (hQ.subset (List.mem_reverse.1 hb))).2 (e ▸ ha)⟩
theorem both_lt {n : Nat} {M Q : List Nat} (hM : ∀ p, p ∈ M → p < n) (hQ : Q.Sublist (Gf.susp n M)) : ∀ p, p ∈ M ++ Q.reverse → p < n := fun p hp => by
  rcases List.mem_append.1 hp with h | h
  · exact hM p h
  · exact (Gf.susp_mem.1 (hQ.subset (List.mem_reverse.1 h))).1
/-- A code in a box, and a slice in the one behind it. -/
def DX (n r : Nat) (A2 : Option Addr) (m c2 b : Nat) (w : World) : Prop := w.cell? ⟨b, 0, none⟩ = some (.int .i64 (n : Nat)) ∧ w.cell? ⟨b, 1, none⟩ = some (.int .i64 (r : Nat)) ∧ w.cell? ⟨b + 1, 0, none⟩ = some (.slice A2 m c2)
theorem DX.below {n r m c2 b B : Nat} {A2 : Option Addr} {w w' : World} (h : DX n r A2 m c2 b w) (hb : Below B w w') (hB : b + 1 < B) : DX n r A2 m c2 b w' :=
  ⟨(hb.cell (p := ⟨b, 0, none⟩) (show b < B by omega)).trans h.1, (hb.cell (p := ⟨b, 1, none⟩) (show b < B by omega)).trans h.2.1, (hb.cell (p := ⟨b + 1, 0, none⟩) hB).trans h.2.2⟩
/-- What is handed back for a word. -/
def DRet (n r : Nat) (wd : Nat → S) (M : List Nat) (w : World) (e : Ending) (w' : World) : Prop :=
  (∃ (C : Nat → S) (g c : Nat), Gf.Near n r wd M C ∧ e = .returned (.tuple #[.slice (some ⟨g, 0, none⟩) n c, .bool true]) ∧ w.heap.size ≤ g ∧ n ≤ c ∧ RowS w' g n C ∧ Below w.heap.size w w') ∨
  ((∀ C : Nat → S, ¬ Gf.Near n r wd M C) ∧ e = .returned (.tuple #[.slice none 0 0, .bool false]) ∧ Below w.heap.size w w')
set_option maxRecDepth 100000 in
set_option maxHeartbeats 8000000 in
theorem c54 (n r : Nat) (A : Option Addr) (b o c : Nat) (wd : Nat → S) (A2 : Option Addr) (b2 o2 m c2 : Nat) (p : Nat → Nat) (w : World) (hT : Tab w) (hz : Syms w A b o n wd) (hp : Ints w A2 b2 o2 m (fun k => (p k : Nat))) (hk2 : A2 = none → c2 = 0) (hr : r < n) (hn : n ≤ 15) (hr8 : r ≤ 8) (hm : m ≤ 15) (hpn : ∀ k, k < m → p k < n) (hd : (li p m).Nodup) :
    Calls Tryd.prog 54 #[cv n r, .slice A n c, .slice A2 m c2] w (DRet n r wd (li p m) w) := by
  obtain ⟨W2, hW2⟩ : ∃ W2 : World, W2 = (w.alloc (.cells #[.int .i64 (n : Nat), .int .i64 (r : Nat)] 66)).alloc (.cells #[.slice A2 m c2] 24) := ⟨_, rfl⟩
  have hB2 : Hid (Below w.heap.size w W2) := hid (by rw [hW2]; (repeat' (first | (with_reducible exact Below.refl _ _) | (with_reducible assumption) | (with_reducible refine Below.alloc ?_ ?_ _) | (with_reducible refine Below.drew ?_) | (with_reducible refine below_drewN ?_ _) | (with_reducible refine Below.setCell ?_ ?_ _) | (with_reducible refine Below.trans ?_ (Below.mono (by with_reducible assumption) ?_)) | go_size)))
  have hX2 : Hid (Bx n r W2 w.heap.size) := hid (by rw [hW2]; exact (Bx.new n r w 66).below ((Below.refl _ _).alloc (Nat.le_refl _) _) (by simp))
  have hD2 : Hid (W2.cell? ⟨w.heap.size + 1, 0, none⟩ = some (.slice A2 m c2)) := hid (by
    rw [hW2]
    have h := cell_one (w.alloc (.cells #[.int .i64 (n : Nat), .int .i64 (r : Nat)] 66)) (.slice A2 m c2) 24
    rw [World.size_alloc] at h
    exact h)
  have hs2 : Hid (W2.heap.size = w.heap.size + 2) := hid (by rw [hW2, World.size_alloc, World.size_alloc])
  have hA := hz.ad 0 (by omega)
  subst hA
  have hTh := hid hT
  have hzh := hid hz
  have hph := hid hp
  have hkh := hid hk2
  have hpnh := hid hpn
  have hdh := hid hd
  have hW2h := hid hW2
  clear hT hz hp hk2 hpn hd hW2
  by_cases hmr : r < m
  · have d1 : decide ((r : Int) < (m : Int)) = true := decide_eq_true (by omega)
    have d2 : decide (r < m) = true := decide_eq_true hmr
    have hmrh := hid hmr
    clear hmr
    go_enter Tryd.func54, Tryd.ntmps54
    go_wp2_with fail
    go_returns
    rw [← hW2h.out]
    refine .inr ⟨fun C h => ?_, rfl, hB2.out⟩
    have h1 := h.2
    rw [li_len] at h1
    have := hmrh.out
    omega
  · have d1 : decide ((r : Int) < (m : Int)) = false := decide_eq_false (by omega)
    have d2 : decide (r < m) = false := decide_eq_false hmr
    have hmr2 : m ≤ r := by omega
    clear hmr
    go_enter Tryd.func54, Tryd.ntmps54
    go_wp2_with (go_at_call 84; rw [← hW2h.out]; (with_reducible refine (c84s n (w.heap.size + 1) m A2 b2 o2 c2 p W2 hn (by omega) hD2.out (hph.out.below hB2.out (Nat.le_refl _))).mono ?_); rintro e w3 ⟨A3, b3, c3, m3, p3, rfl, hI3, hl3, hc3, hn3, hpn3, hB3⟩; have hI3 := hid hI3; have hl3 := hid hl3; have hpn3 := hid hpn3; have hX3 : Bx n r w3 w.heap.size := (hX2.out.below hB3 (by rw [hs2.out]; omega)); have hD3 := (hB3.cell (p := ⟨w.heap.size + 1, 0, none⟩) (by show w.heap.size + 1 < _; rw [hs2.out]; omega)).trans hD2.out; have hs3 := hB3.size; rw [hs2.out] at hs3; have hB3 := hid (hB2.out.trans (hB3.mono hB2.out.size)))
    have p1 := hX3.1
    have p2 := hX3.2
    have hX3h := hid hX3
    have f3 : Hid (DX n r A2 m c2 w.heap.size w3) := hid ⟨p1, p2, hD3⟩
    have hz3 := hid (hzh.out.below hB3.out (Nat.le_refl _))
    have hp3 := hid (hph.out.below hB3.out (Nat.le_refl _))
    obtain ⟨Y, hY⟩ : ∃ Y, Y = Gf.syn n wd := ⟨_, rfl⟩
    have hYh := hid hY
    obtain ⟨mo, hmo⟩ : ∃ mo, mo = (r - m) / 2 := ⟨_, rfl⟩
    have hmo8 : mo ≤ 8 := by omega
    have hmo2 : 2 * mo + m ≤ r := by omega
    have hmoh := hid hmo
    clear hX3 hY hmo
    go_region_held3 (fun w' => w'.cell? ⟨w.heap.size, 0, none⟩ = some (.int .i64 (n : Nat)) ∧ w'.cell? ⟨w.heap.size, 1, none⟩ = some (.int .i64 (r : Nat)) ∧ w'.cell? ⟨w.heap.size + 1, 0, none⟩ = some (.slice A2 m c2)) (first | exact f3.out | exact f4.out | exact f5.out | exact f6.out | exact f7.out) (first | (go_at_call 90; (with_reducible refine (c90 n r hn hr8 mo A5 b5 o5 (r - m) c5 (Gf.fa (Gf.ba n) (li p m) Y) A3 b3 0 m3 c3 p3 w6 hmo8 (by omega) hc3 (by omega) (hTh.out.below hB6.out (Nat.le_refl _)) S6.out (hI3.out.below K36.out (Nat.le_refl _)) hpn3.out).mono ?_); intro e w7 hr7; obtain ⟨v7, b7, rfl, hW7, K7⟩ := hr7.tup; clear hr7; have hW7 := hid hW7; have f7 := hid (f6.out.below K7 (by omega)); have hB7 := hid (hB6.out.trans (K7.mono hB6.out.size)); have hs7 := K7.size; clear K7) | (go_at_call 67; (with_reducible refine (c67 n r m w5 hmr2 (by omega)).mono ?_); rw [← hmoh.out]; rintro e w6 ⟨rfl, K6⟩; have f6 := hid (f5.out.below K6 (by omega)); have hB6 := hid (hB5.out.trans (K6.mono hB5.out.size)); have hs6 := K6.size; have S6 := hid (S5.out.below K6 (Nat.le_refl _)); have K36 := hid (K35.out.trans (K6.mono K35.out.size)); clear K6) | (go_at_call 91; (with_reducible refine (c91 n r (some ⟨gs, 0, none⟩) gs 0 r cs Y A2 b2 o2 m c2 p w4 (hTh.out.below hB4.out (Nat.le_refl _)) hR4.out.syms (hph.out.below hB4.out (Nat.le_refl _)) hn hr8 hmr2 hpnh.out).mono ?_); rintro e w5 ⟨A5, b5, o5, c5, rfl, S5, K5⟩; have S5 := hid S5; have f5 := hid (f4.out.below K5 (by omega)); have hB5 := hid (hB4.out.trans (K5.mono hB4.out.size)); have hs5 := K5.size; have K35 := hid (K34.out.trans (K5.mono K34.out.size)); clear K5) | (go_at_call 92; (with_reducible refine (c92 n r (some ⟨b, o, none⟩) b o c wd w3.drew (hTh.out.below hB3.out.drew (Nat.le_refl _)) (hz3.out.below (Below.drew (Below.refl _ _)) (Nat.le_refl _)) hn hr8).mono ?_); rw [← hYh.out]; rintro e w4 ⟨gs, cs, rfl, hgs, hcs, R4, K4⟩; have hR4 := hid R4; replace K4 : Below w3.heap.size w3 w4 := ((Below.refl _ _).drew).trans K4; have f4 := hid (f3.out.below K4 (by omega)); have hB4 := hid (hB3.out.trans (K4.mono hB3.out.size)); have hs4 := K4.size; have K34 := hid K4; clear R4 K4))
    have f7c := f7.out
    have q1 := f7c.1
    have q2 := f7c.2.1
    have q3 := f7c.2.2
    have hMl : ∀ x, x ∈ li p m → x < n := fun x hx => by obtain ⟨j, hj, e⟩ := li_mem.1 hx; rw [← e]; exact hpnh.out j hj
    have hMlh := hid hMl
    clear hMl f7c
    rcases hW7.out.un with ⟨rfl, Q, x1, x2, x3, x4⟩ | ⟨rfl, rfl, x1⟩
    · obtain ⟨A7, g7, c7, rfl, hI7, hk7, _⟩ := own_posc x4 (by simp)
      obtain ⟨lq, hlq⟩ : ∃ lq, lq = Q.length := ⟨_, rfl⟩
      rw [← hlq] at hI7 x2 ⊢
      have hQs : Hid (Q.Sublist (Gf.susp n (li p m))) := hid (by rw [← hl3.out]; exact x1)
      have hnr : Hid (Gf.Near n r wd (li p m) (Gf.mend n wd (li p m ++ Q.reverse))) := hid (Gf.near_of hn hdh.out hMlh.out hQs.out (by rw [li_len, ← hlq]; omega) (by rw [li_len, ← hYh.out]; exact x3))
      have hnd : Hid ((li p m ++ Q.reverse).Nodup) := hid (both_nodup hdh.out hQs.out)
      have hlt : Hid (∀ x, x ∈ li p m ++ Q.reverse → x < n) := hid (both_lt hMlh.out hQs.out)
      obtain ⟨U, hU⟩ : ∃ U, U = at_ Q.reverse := ⟨_, rfl⟩
      have hUl : Hid (li U lq = Q.reverse) := hid (by rw [hU, hlq]; have := li_at Q.reverse; rw [List.length_reverse] at this; exact this)
      rw [← hU] at hI7
      obtain ⟨V, hV⟩ : ∃ V : Nat → Nat, V = at_ (li p m ++ Q.reverse) := ⟨_, rfl⟩
      have hVl : Hid (li V (m + lq) = li p m ++ Q.reverse) := hid (by rw [hV, hlq]; have := li_at (li p m ++ Q.reverse); rw [List.length_append, li_len, List.length_reverse] at this; exact this)
      have hVn : Hid (∀ k, k < m + lq → V k < n) := hid (fun k hk => hlt.out _ (by rw [← hVl.out]; exact li_mem.2 ⟨k, hk, rfl⟩))
      have hlq15 : lq ≤ 8 := by omega
      have hmlq : m + lq ≤ r := by omega
      have hI7h := hid hI7
      have hk7h := hid hk7
      have hs07 : w.heap.size + 1 < w7.heap.size := by omega
      have hVh := hid hV
      clear x1 x2 x3 x4 hW7 hU hV hI7 hk7 hlq
      go_wp2_with fail
      obtain ⟨W8, hW8⟩ : ∃ W8 : World, W8 = (w7.alloc (.cells #[.slice A2 m c2, .slice A7 lq c7] 24)).drew := ⟨_, rfl⟩
      have K78 : Hid (Below w7.heap.size w7 W8) := hid (by rw [hW8]; exact ((Below.refl _ _).alloc (Nat.le_refl _) _).drew)
      have e80 : Hid (W8.cell? ⟨w7.heap.size, 0, none⟩ = some (.slice A2 m c2)) := hid (by rw [hW8]; exact (show ((w7.alloc (.cells #[.slice A2 m c2, .slice A7 lq c7] 24))).cell? ⟨w7.heap.size, 0, none⟩ = _ by simp))
      have e81 : Hid (W8.cell? ⟨w7.heap.size, 1, none⟩ = some (.slice A7 lq c7)) := hid (by rw [hW8]; exact (show ((w7.alloc (.cells #[.slice A2 m c2, .slice A7 lq c7] 24))).cell? ⟨w7.heap.size, 1, none⟩ = _ by simp))
      have e82 : Hid (w7.heap.size < W8.heap.size) := hid (by rw [hW8]; show _ < (w7.alloc _).heap.size; rw [World.size_alloc]; omega)
      have hB8 : Hid (Below w.heap.size w W8) := hid (hB7.out.trans (K78.out.mono hB7.out.size))
      have f8 := hid (f7.out.below K78.out hs07)
      have hW8h := hid hW8
      clear hW8
      go_region_held3 (fun w' => w'.cell? ⟨w.heap.size, 0, none⟩ = some (.int .i64 (n : Nat)) ∧ w'.cell? ⟨w.heap.size, 1, none⟩ = some (.int .i64 (r : Nat)) ∧ w'.cell? ⟨w.heap.size + 1, 0, none⟩ = some (.slice A2 m c2)) (first | exact f7.out | (rw [← hW8h.out]; exact f8.out) | exact f8.out | exact f9.out | exact f10.out) (first | (go_at_call 83; (with_reducible refine (c83 n r b o c wd A9 b9 0 (m + lq) c9 V w9 (hTh.out.below hB9.out (Nat.le_refl _)) (hzh.out.below hB9.out (Nat.le_refl _)) hI9.out (by omega) hn hr8 hmlq hVn.out (by rw [hVl.out]; exact hnd.out)).mono ?_); rintro e w10 ⟨g10, c10, rfl, hg10, hc10, R10, K10⟩; have hR10 := hid R10; have f10 := hid (f9.out.below K10 (by omega)); have hB10 := hid (hB9.out.trans (K10.mono hB9.out.size)); clear K10 R10) | (go_at_call 93; rw [← hW8h.out]; (with_reducible refine (c93 w7.heap.size A2 A7 b2 o2 m c2 g7 0 lq c7 p U W8 e80.out e81.out e82.out (hph.out.below hB8.out (Nat.le_refl _)) (hI7h.out.below K78.out (Nat.le_refl _)) hkh.out hk7h.out (by omega) (by omega)).mono ?_); rintro e w9 ⟨v9, rfl, hown9, K9⟩; rw [hUl.out] at hown9; obtain ⟨A9, b9, c9, rfl, hI9, _⟩ := own_posc hown9 (by have := congrArg List.length hVl.out; rw [li_len] at this; exact this); rw [← hVh.out] at hI9; have hI9 := hid hI9; have f9 := hid (f8.out.below K9 (by have := e82.out; omega)); have hB9 := hid (hB8.out.trans (K9.mono hB8.out.size)); have hs9 := K9.size; have hs89 := e82.out; clear K9 hown9))
      go_wp2
      go_returns
      refine .inl ⟨_, g10, c10, hnr.out, rfl, by have := hB9.out.size; omega, hc10, hR10.out.congr (fun j _ => by rw [hVl.out]), hB10.out⟩
    · have x1h := hid x1
      clear x1 hW7
      go_wp2_with fail
      go_returns
      refine .inr ⟨Gf.near_none fun Q h1 h2 h3 => ?_, rfl, hB7.out⟩
      rw [li_len] at h2 h3
      refine x1h.out Q (by rw [hl3.out]; exact h1) (by rw [hmoh.out]; exact h2) ?_
      rw [hYh.out]
      exact h3
end Go.Proofs.YtnndhibhnakdoaaDoor
