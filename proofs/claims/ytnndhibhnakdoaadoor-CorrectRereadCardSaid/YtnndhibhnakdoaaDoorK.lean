/- Stage 5: the word that is changed at some positions. -/
import Derived.Test.YtnndhibhnakdoaaDoorJ
import Derived.Deep.RegionHeld3
set_option linter.unusedSimpArgs false
set_option linter.unusedVariables false
namespace Go.Proofs.YtnndhibhnakdoaaDoor
open Go.RowKit Go.BigFrame Go.Sort
open Gf (S)

/-- The word, as far as it is mended. -/
def md (n : Nat) (wd : Nat → S) (p : Nat → Nat) (m k j : Nat) : S := if j ∈ li p k then Gf.mend n wd (li p m) j else wd j
theorem md_zero (n : Nat) (wd : Nat → S) (p : Nat → Nat) (m j : Nat) : md n wd p m 0 j = wd j := by simp [md, li]
theorem md_all (n : Nat) (wd : Nat → S) (p : Nat → Nat) (m j : Nat) : md n wd p m m j = Gf.mend n wd (li p m) j := by
  unfold md
  by_cases h : j ∈ li p m
  · rw [if_pos h]
  · rw [if_neg h]; unfold Gf.mend; rw [if_neg h]
theorem md_at {n : Nat} {wd : Nat → S} {p : Nat → Nat} {m k : Nat} (hd : (li p m).Nodup) (hk : k < m) : md n wd p m k (p k) = wd (p k) := by
  unfold md
  rw [if_neg fun h => ?_]
  obtain ⟨j, hj, e⟩ := li_mem.1 h
  have h1 : (li p m)[j]? = some (p j) := by simp [li, show j < m by omega]
  have h2 : (li p m)[k]? = some (p k) := by simp [li, hk]
  have hkl : k < (li p m).length := by rw [li_len]; exact hk
  have hjl : j < (li p m).length := by rw [li_len]; omega
  have h3 : (li p m)[j] = (li p m)[k] := by
    have e1 := List.getElem?_eq_getElem hjl
    have e2 := List.getElem?_eq_getElem hkl
    rw [h1] at e1; rw [h2] at e2
    have e1 := Option.some.inj e1; have e2 := Option.some.inj e2
    rw [← e1, ← e2, e]
  have := (List.getElem_inj hd).1 h3
  omega
theorem md_step {n : Nat} {wd : Nat → S} {p : Nat → Nat} {m k : Nat} (hk : k < m) {l o : S} (hl : l = Gf.lf n (li p m) (p k) (Gf.syn n wd)) (ho : o = Gf.lf n (li p m) (p k) (Gf.un (Gf.ba n (p k)))) (j : Nat) :
    (if j = p k then Gf.ad (wd (p k)) (Gf.qu l o) else md n wd p m k j) = md n wd p m (k + 1) j := by
  unfold md
  rw [li_succ]
  by_cases h : j = p k
  · subst h
    rw [if_pos rfl, if_pos (by simp)]
    unfold Gf.mend
    rw [if_pos (li_mem.2 ⟨k, hk, rfl⟩), hl, ho]
  · rw [if_neg h]
    by_cases h2 : j ∈ li p k
    · rw [if_pos h2, if_pos (List.mem_append_left _ h2)]
    · rw [if_neg h2, if_neg (by simp [h2, h])]
theorem kp_mem {p : Nat → Nat} {q m x : Nat} (h : x ∈ kp p q m) : ∃ k, k < m ∧ p k = x := li_mem.1 (List.mem_filter.1 h).1
theorem at_mem {L : List Nat} {t : Nat} (h : t < L.length) : at_ L t ∈ L := by
  unfold at_
  rw [getElem!_pos L t h]
  exact List.getElem_mem _
set_option maxRecDepth 100000 in
set_option maxHeartbeats 8000000 in
theorem c83 (n r : Nat) (b o c : Nat) (wd : Nat → S) (A2 : Option Addr) (b2 o2 m c2 : Nat) (p : Nat → Nat) (w : World) (hT : Tab w) (hz : Syms w (some ⟨b, o, none⟩) b o n wd) (hp : Ints w A2 b2 o2 m (fun k => (p k : Nat))) (hn0 : 0 < n) (hn : n ≤ 15) (hr : r ≤ 8) (hm : m ≤ r) (hpn : ∀ k, k < m → p k < n) (hd : (li p m).Nodup) :
    Calls Tryd.prog 83 #[cv n r, .slice (some ⟨b, o, none⟩) n c, .slice A2 m c2] w (SRet n (Gf.mend n wd (li p m)) w) := by
  have hTh := hid hT
  have hzh := hid hz
  have hph := hid hp
  have hpnh := hid hpn
  have hdh := hid hd
  clear hT hz hp hpn hd
  have hB0 : Hid (Below w.heap.size w (w.alloc (.cells #[.int .i64 (n : Nat), .int .i64 (r : Nat)] 66))) := hid (by (repeat' (first | (with_reducible exact Below.refl _ _) | (with_reducible assumption) | (with_reducible refine Below.alloc ?_ ?_ _) | (with_reducible refine Below.drew ?_) | (with_reducible refine below_drewN ?_ _) | (with_reducible refine Below.setCell ?_ ?_ _) | (with_reducible refine Below.trans ?_ (Below.mono (by with_reducible assumption) ?_)) | go_size)))
  have hX0 : Hid (Bx n r (w.alloc (.cells #[.int .i64 (n : Nat), .int .i64 (r : Nat)] 66)) w.heap.size) := hid (Bx.new n r w 66)
  go_enter Tryd.func83, Tryd.ntmps83
  go_wp2_with (first | (go_at_call 92; refine (c92 n r _ b o c wd _ (hTh.out.below hB0.out (Nat.le_refl _)) (hzh.out.below hB0.out (Nat.le_refl _)) hn hr).mono ?_; rintro e w1 ⟨gs, cs, rfl, hgs, hcs, hRs, hB1⟩; have hRs := hid hRs; have hX1 := hid (hX0.out.below hB1 (by simp)); have hB1' := hid (hB0.out.trans (hB1.mono (by simp))); have hs1 := hB1.size; clear hB1) | (go_at_call 101; refine (c101 b o n c wd _ (hzh.out.below hB1'.out (Nat.le_refl _)) hn0 (by omega)).mono ?_; rintro e w2 ⟨g, c3, rfl, hg, hc3, hR, hB2⟩; have hR := hid hR; have hX2 := hid (hX1.out.below hB2 (by simp at hs1; omega)); have hRs2 := hid (hRs.out.below hB2 (hRs.out.lt)); have hB2' := hid (hB1'.out.trans (hB2.mono hB1'.out.size)); have hs2 := hB2.size; have hgss := hRs.out.lt; clear hB2))
  simp at hs1
  have hgw : w.heap.size < gs := by simp at hgs; omega
  have hgg : gs < g := by omega
  clear hX0 hX1 hB0 hB1' hRs hgs
  go_loopw [21] (fun iv wr => ∃ k : Nat, k ≤ m ∧ iv = .int .i64 k ∧ RowS wr g n (md n wd p m k) ∧ RowS wr gs r (Gf.syn n wd) ∧ Bx n r wr w.heap.size ∧ Below w.heap.size w wr) (fun iv _ => m - (intOf iv).toNat)
  case atStart => exact ⟨0, Nat.zero_le _, rfl, hR.out.congr (fun j _ => (md_zero n wd p m j).symm), hRs2.out, hX2.out, hB2'.out⟩
  case round =>
    clear hX2 hB2' hR hRs2 hs1 hs2 hg hgss
    obtain ⟨k, hk, rfl, hR, hRs, hX, hB⟩ := hrel
    by_cases hlt : k < m
    · have hp2 := hph.out.below hB (Nat.le_refl _)
      have j1 := hp2.ce k hlt
      have j3 := hp2.lt k hlt
      have ja := hp2.ad k hlt
      have hA2 : A2 = some ⟨b2, o2, none⟩ := ja
      subst hA2
      have j4 := @Ints.ix _ _ _ _ _ c2 _ hp2 _ hlt
      have hRh := hid hR
      have hRsh := hid hRs
      have hXh := hid hX
      have hBh := hid hB
      have hp2h := hid hp2
      clear ja hp2 hR hRs hX hB
      have m0 : 0 < m := by omega
      obtain ⟨qv, hq⟩ : ∃ qv, qv = p k := ⟨_, rfl⟩
      have hqh := hid hq
      rw [← hq] at j1
      clear hq
      have hgr := hRh.out.lt
      have hgsr := hRsh.out.lt
      have hBW1 : Hid (Below wr.heap.size wr (wr.alloc (.cells #[.int .i64 (qv : Nat)] 3))) := hid (by (repeat' (first | (with_reducible exact Below.refl _ _) | (with_reducible assumption) | (with_reducible refine Below.alloc ?_ ?_ _) | (with_reducible refine Below.drew ?_) | (with_reducible refine below_drewN ?_ _) | (with_reducible refine Below.setCell ?_ ?_ _) | (with_reducible refine Below.trans ?_ (Below.mono (by with_reducible assumption) ?_)) | go_size)))
      have hcq1 : Hid ((wr.alloc (.cells #[.int .i64 (qv : Nat)] 3)).cell? ⟨wr.heap.size, 0, none⟩ = some (.int .i64 (qv : Nat))) := hid (by simp)
      have hsW1 : Hid ((wr.alloc (.cells #[.int .i64 (qv : Nat)] 3)).heap.size = wr.heap.size + 1) := hid (by simp)
      go_wp2_with (first | (go_at_call 103; refine (c103 b2 o2 m c2 _ _ (hp2h.out.below hBW1.out (Nat.le_refl _)) m0 (by omega)).mono ?_; rintro e w3 ⟨g3, c4, rfl, hg3, hc4, hR3, hB3⟩; have hR3 := hid hR3; have hB3h := hid hB3; have hcq3 := hid ((hB3.cell (p := ⟨wr.heap.size, 0, none⟩) (by simp)).trans hcq1.out); rw [hsW1.out] at hg3; have hs3 : wr.heap.size + 1 ≤ w3.heap.size := (by have := hB3.size; rw [hsW1.out] at this; exact this); clear hB3) | (go_at_call 102; refine (c102 g3 m c4 qv wr.heap.size p w3 hR3.out (by omega) hc4 hcq3.out (by omega) ⟨k, hlt, hqh.out.symm⟩).mono ?_; rintro e w4 ⟨rfl, hR4, hB4⟩; have hR4 := hid hR4; have hB4h := hid hB4; have hcq4 := hid ((hB4.cell (p := ⟨wr.heap.size, 0, none⟩) (by show wr.heap.size < g3; omega)).trans hcq3.out); have hs4 := hB4.size; clear hB4))
      obtain ⟨L, hL⟩ : ∃ L, L = (kp p qv m).length := ⟨_, rfl⟩
      have hLm : L < m := by rw [hL]; exact kp_lt hlt hqh.out.symm
      rw [← hL] at hR4 ⊢
      have hLh := hid hL
      clear hL
      have hqn : qv < n := by rw [hqh.out]; exact hpnh.out k hlt
      have hB34 := hid ((hB3h.out.mono (show wr.heap.size + 1 ≤ _ by rw [hsW1.out]; omega)).trans (hB4h.out.mono hg3))
      have hBr4 : Hid (Below wr.heap.size wr w4) := hid (hBW1.out.trans (hB34.out.mono (by omega)))
      have hww : w.heap.size < wr.heap.size := by omega
      have hX4 : Hid (Bx n r w4 w.heap.size) := hid (hXh.out.below hBr4.out hww)
      have p1 := hX4.out.1
      have p2 := hX4.out.2
      have p3 := hcq4.out
      have hs04 : wr.heap.size < w4.heap.size := by omega
      have hLn : Hid (∀ t, t < L → at_ (kp p qv m) t < n) := hid (fun t ht => by
        obtain ⟨j, hj, e⟩ := kp_mem (at_mem (show t < (kp p qv m).length by rw [← hLh.out]; exact ht))
        rw [← e]; exact hpnh.out j hj)
      have hgB : Below w.heap.size w w4 := hBh.out.trans (hBr4.out.mono hBh.out.size)
      have hgBh := hid hgB
      have hli : Hid (li (at_ (kp p qv m)) L = kp p qv m) := hid (by rw [hLh.out]; exact li_at _)
      obtain ⟨U, hU⟩ : ∃ U, U = at_ (kp p qv m) := ⟨_, rfl⟩
      rw [← hU] at hLn hli hR4
      obtain ⟨X, hX⟩ : ∃ X, X = Gf.un (Gf.ba n qv) := ⟨_, rfl⟩
      obtain ⟨Y, hY⟩ : ∃ Y, Y = Gf.syn n wd := ⟨_, rfl⟩
      have hRs4 : Hid (RowS w4 gs r Y) := hid (by rw [hY]; exact hRsh.out.below hBr4.out hgsr)
      have hXh2 := hid hX
      have hYh := hid hY
      have hUh := hid hU
      clear hgB hX hY hU
      go_region_held3 (fun w' => w'.cell? ⟨w.heap.size, 0, none⟩ = some (.int .i64 (n : Nat)) ∧ w'.cell? ⟨w.heap.size, 1, none⟩ = some (.int .i64 (r : Nat)) ∧ w'.cell? ⟨wr.heap.size, 0, none⟩ = some (.int .i64 (qv : Nat))) (first | exact ⟨p1, p2, p3⟩ | exact f5.out | exact f6.out | exact f7.out) (first | (go_at_call 91; refine (c91 n r (some ⟨g6, 0, none⟩) g6 0 r c6 X (some ⟨g3, 0, none⟩) g3 0 L c4 U w6 (hTh.out.below B6.out (Nat.le_refl _)) (by rw [hXh2.out]; exact R6.out.syms) (hR4.out.below (K5.out.trans (K6.out.mono K5.out.size)) hR4.out.lt).ints hn hr (by omega) hLn.out).mono ?_; rintro e w7 ⟨A7, b7, o7, c7, rfl, S7, K7⟩; have S7 := hid S7; have K7h := hid K7; have f7 := hid (show w7.cell? ⟨w.heap.size, 0, none⟩ = some (.int .i64 (n : Nat)) ∧ w7.cell? ⟨w.heap.size, 1, none⟩ = some (.int .i64 (r : Nat)) ∧ w7.cell? ⟨wr.heap.size, 0, none⟩ = some (.int .i64 (qv : Nat)) from ⟨(K7.cell (p := ⟨w.heap.size, 0, none⟩) (by have := K5.out.size; have := K6.out.size; show w.heap.size < _; omega)).trans f6.out.1, (K7.cell (p := ⟨w.heap.size, 1, none⟩) (by have := K5.out.size; have := K6.out.size; show w.heap.size < _; omega)).trans f6.out.2.1, (K7.cell (p := ⟨wr.heap.size, 0, none⟩) (by have := K5.out.size; have := K6.out.size; show wr.heap.size < _; omega)).trans f6.out.2.2⟩); clear K7) | (go_at_call 105; refine (c105 n r qv w5 (hTh.out.below B5.out (Nat.le_refl _)) hqn hn hr).mono ?_; rintro e w6 ⟨g6, c6, rfl, hg6, hc6, R6, K6⟩; have R6 := hid R6; have f6 := hid (show w6.cell? ⟨w.heap.size, 0, none⟩ = some (.int .i64 (n : Nat)) ∧ w6.cell? ⟨w.heap.size, 1, none⟩ = some (.int .i64 (r : Nat)) ∧ w6.cell? ⟨wr.heap.size, 0, none⟩ = some (.int .i64 (qv : Nat)) from ⟨(K6.cell (p := ⟨w.heap.size, 0, none⟩) (by have := K5.out.size; show w.heap.size < _; omega)).trans f5.out.1, (K6.cell (p := ⟨w.heap.size, 1, none⟩) (by have := K5.out.size; show w.heap.size < _; omega)).trans f5.out.2.1, (K6.cell (p := ⟨wr.heap.size, 0, none⟩) (by have := K5.out.size; show wr.heap.size < _; omega)).trans f5.out.2.2⟩); have B6 := hid (B5.out.trans (K6.mono B5.out.size)); replace K6 := hid K6) | (go_at_call 91; refine (c91 n r (some ⟨gs, 0, none⟩) gs 0 r cs Y (some ⟨g3, 0, none⟩) g3 0 L c4 U w4.drew (hTh.out.below hgBh.out.drew (Nat.le_refl _)) (RowS.of_block (w' := w4.drew) hRs4.out rfl).syms (RowF.of_block (w' := w4.drew) hR4.out rfl).ints hn hr (by omega) hLn.out).mono ?_; rintro e w5 ⟨A5, b5, o5, c5, rfl, S5, K5⟩; have S5 := hid S5; replace K5 : Hid (Below w4.heap.size w4 w5) := hid (((Below.refl _ _).drew).trans K5); have f5 := hid (show w5.cell? ⟨w.heap.size, 0, none⟩ = some (.int .i64 (n : Nat)) ∧ w5.cell? ⟨w.heap.size, 1, none⟩ = some (.int .i64 (r : Nat)) ∧ w5.cell? ⟨wr.heap.size, 0, none⟩ = some (.int .i64 (qv : Nat)) from ⟨(K5.out.cell (p := ⟨w.heap.size, 0, none⟩) (by show w.heap.size < _; omega)).trans p1, (K5.out.cell (p := ⟨w.heap.size, 1, none⟩) (by show w.heap.size < _; omega)).trans p2, (K5.out.cell (p := ⟨wr.heap.size, 0, none⟩) (by show wr.heap.size < _; omega)).trans p3⟩); have B5 := hid (hgBh.out.trans (K5.out.mono hgBh.out.size))))
      go_wp2
      have s5 := K5.out.size
      have s6 := K6.out.size
      have s7 := K7h.out.size
      have K47 : Hid (Below w4.heap.size w4 w7) := hid (K5.out.trans ((K6.out.trans (K7h.out.mono s6)).mono s5))
      have K57 : Hid (Below w5.heap.size w5 w7) := hid (K6.out.trans (K7h.out.mono s6))
      have hg4 : g < w4.heap.size := by omega
      have R7 : Hid (RowS w7 g n (md n wd p m k)) := hid ((hRh.out.below hBr4.out hgr).below K47.out hg4)
      have Rs7 : Hid (RowS w7 gs r Y) := hid (hRs4.out.below K47.out (by omega))
      have S57 := S5.out.below K57.out (Nat.le_refl _)
      have S77 := S7.out
      have hLr : 0 < r - L := by omega
      obtain ⟨lv, hlv⟩ : ∃ lv, lv = Gf.fa (Gf.ba n) (li U L) Y 0 := ⟨_, rfl⟩
      obtain ⟨ov, hov⟩ : ∃ ov, ov = Gf.fa (Gf.ba n) (li U L) X 0 := ⟨_, rfl⟩
      have a1 := S57.ce 0 hLr
      have a2 := S77.ce 0 hLr
      rw [← hlv, Nat.add_zero] at a1
      rw [← hov, Nat.add_zero] at a2
      have b1' := fun w' => @Syms.ix' _ _ _ _ _ c5 _ S57 0 hLr 0 rfl w'
      have b2' := fun w' => @Syms.ix' _ _ _ _ _ c7 _ S77 0 hLr 0 rfl w'
      simp only [Nat.add_zero] at b1' b2'
      have a3 := R7.out.cell hqn
      have e3 : md n wd p m k qv = wd qv := by rw [hqh.out]; exact md_at hdh.out hlt
      rw [e3] at a3
      obtain ⟨y, hy⟩ : ∃ y, y = wd qv := ⟨_, rfl⟩
      rw [← hy] at a3
      have b3 := fun w' => @RowS.ix _ _ _ c3 _ R7.out _ hqn w'
      have a4 := f7.out.2.2
      have d1 := cell_regrown a1
      have d2 := cell_regrown a2
      have d3 := cell_regrown a3
      have d4 := cell_regrown a4
      have hlvh := hid hlv
      have hovh := hid hov
      have hyh := hid hy
      have f7h := hid f7.out
      have B7 := hid (B6.out.trans (K7h.out.mono B6.out.size))
      clear hlv hov hy e3 S57 S77 p1 p2 p3 f7
      refine wpIn_wide.1 (tail2_region (F := Fence.wide) (n := 0) (by kernel_rfl) (by kernel_rfl) (by kernel_rfl) ?_); simp only [stub, lastOp]; (repeat (refine wpQuietIn_step (fun _ _ _ _ => trivial) (fun K hK => ?_); go_simp; first | (refine hK _ ?_; clear hK K) | (apply Exists.intro; refine ⟨fun _ => ?_, hK _ ?_⟩; (first | exact ⟨rfl, CallsIn.regrown_of (callsIn_wide.2 (c106B lv ov _ (hTh.out.below (B7.out.trans (Below.mono (below_regrown _ _ _) B7.out.size)) (Nat.le_refl _))))⟩); clear hK K))); refine wpQuietIn_nil ?_; intro _ hwq; obtain ⟨q, hwq⟩ := hwq; subst hwq
      have hB8 := below_regrown w7 q.d q.os
      generalize grow (redrawn w7 q.d) q.os = w8 at hB8 ⊢
      have R8 := hid (R7.out.below hB8 (by omega))
      have m1 := R8.out.cell hqn
      have m2 := R8.out.frozen qv
      have Rs8 := hid (Rs7.out.below hB8 (by omega))
      have X8 := hid (Bx.below (n := n) (r := r) ⟨f7h.out.1, f7h.out.2.1⟩ hB8 (show w.heap.size < w7.heap.size by omega))
      have B8 := hid (B7.out.trans (hB8.mono B7.out.size))
      clear hB8 d1 d2 d3 d4 a1 a2 a3 a4
      gi_wp2
      go_wp2
      go_roundw
      case rel =>
        refine ⟨k + 1, by omega, by go_num, ?_, Rs8.out.setOther (show gs ≠ g by omega) _ |>.congr (fun j _ => by rw [hYh.out]), X8.out.keep (fun o => World.cell?_of_block (Below.heap_setCell _ ⟨g, qv, none⟩ _ _ (by show w.heap.size ≠ g; omega))), B8.out.setCell (show w.heap.size ≤ g by omega) _⟩
        rw [xor_sv]
        refine (R8.out.set qv _).congr (fun j _ => ?_)
        rw [hyh.out, hqh.out]
        refine md_step hlt ?_ ?_ j
        · rw [hlvh.out, hli.out, hYh.out, hqh.out]; rfl
        · rw [hovh.out, hli.out, hXh2.out, hqh.out]; rfl
      case measure => simp [intOf]; omega
    · go_wp2_with fail
      go_returns
      obtain rfl : k = m := by omega
      exact ⟨g, c3, rfl, by omega, hc3, hR.congr (fun j _ => md_all n wd p k j), hB⟩
end Go.Proofs.YtnndhibhnakdoaaDoor
