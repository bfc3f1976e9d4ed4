/- Stage 6: Park, where every safe state can be brought to the target. -/
import Derived.Test.YtajllhjoagldkaaS
import Derived.Test.YtajllhjoagldkaaMe
set_option linter.unusedSimpArgs false
set_option linter.unusedVariables false
namespace Go.Proofs.Ytajllhjoagldkaa
open Go.RowKit Go.Maps Go.WideMaps

set_option maxRecDepth 100000 in
set_option maxHeartbeats 8000000 in
theorem c32 (a : Ar) (w : World) (ok : a.Ok) (hgood : ∀ f0 fs, Gr a (trB a (0 : Nat)) f0 → Gr a (fun _ _ => true) fs → ∀ p v, fs p v = true → ∃ n, lvl a f0 n p v = true) (hsome : ∀ fs, Gr a (fun _ _ => true) fs → ∃ p v, fs p v = true) :
    Calls Try.prog 32 #[a.v] w fun e w' => (∃ f0 fs N, Gr a (trB a (0 : Nat)) f0 ∧ Gr a (fun _ _ => true) fs ∧ e = .returned (.tuple #[.int .i64 (N : Nat), .int .i64 0]) ∧ (∀ p v, fs p v = true → lvl a f0 N p v = true) ∧ (N = 0 ∨ ∃ p v, fs p v = true ∧ lvl a f0 (N - 1) p v = false)) ∧ Below w.heap.size w w' := by
  have o1 := ok.l; have o2 := ok.p
  have hgh := hid hgood
  clear hgood
  obtain ⟨W0, hW0⟩ : ∃ W0 : World, W0 = w.alloc (.cells #[.int .i64 (a.la : Nat), .int .i64 (a.sp : Nat), .int .i64 (a.fo : Nat), .int .i64 (a.sh : Nat), .int .i64 (a.ga : Nat), .int .i64 (a.sl : Nat)] 23) := ⟨_, rfl⟩
  have hB0 : Hid (Below w.heap.size w W0) := hid (by rw [hW0]; (repeat' (first | (with_reducible exact Below.refl _ _) | (with_reducible assumption) | (with_reducible refine Below.alloc ?_ ?_ _) | (with_reducible refine Below.drew ?_) | (with_reducible refine below_drewN ?_ _) | (with_reducible refine Below.setCell ?_ ?_ _) | (with_reducible refine Below.trans ?_ (Below.mono (by with_reducible assumption) ?_)) | go_size)))
  have hs0 : Hid (W0.heap.size = w.heap.size + 1) := hid (by rw [hW0]; simp)
  go_enter Try.func32, Try.ntmps32
  go_wp2_with (go_at_call 52; refine (c52 a _ ok).mono ?_; rintro e w1 ⟨rfl, hB1⟩; rw [← hW0] at hB1; have hs1 := hB1.size; rw [hs0.out] at hs1; have hBx := hid (hB0.out.trans (hB1.mono (by rw [hs0.out]; omega))); clear hB1)
  have hB2 : Hid (Below w.heap.size w (w1.alloc (.cells #[.int .i64 (a.la : Nat), .int .i64 (a.sp : Nat), .int .i64 (a.fo : Nat), .int .i64 (a.sh : Nat), .int .i64 (a.ga : Nat), .int .i64 (a.sl : Nat)] 77))) := hid (hBx.out.alloc (by omega) _)
  have hX2 : Hid (Abx a (w1.alloc (.cells #[.int .i64 (a.la : Nat), .int .i64 (a.sp : Nat), .int .i64 (a.fo : Nat), .int .i64 (a.sh : Nat), .int .i64 (a.ga : Nat), .int .i64 (a.sl : Nat)] 77)) w1.heap.size) := hid (Abx.newk a w1)
  have hs2 : (w1.alloc (.cells #[.int .i64 (a.la : Nat), .int .i64 (a.sp : Nat), .int .i64 (a.fo : Nat), .int .i64 (a.sh : Nat), .int .i64 (a.ga : Nat), .int .i64 (a.sl : Nat)] 77)).heap.size = w1.heap.size + 1 := by simp
  generalize w1.alloc (.cells #[.int .i64 (a.la : Nat), .int .i64 (a.sp : Nat), .int .i64 (a.fo : Nat), .int .i64 (a.sh : Nat), .int .i64 (a.ga : Nat), .int .i64 (a.sl : Nat)] 77) = w2 at hB2 hX2 hs2 ⊢
  have hk0 := hid hX2.out.all
  clear hW0 hB0 hs0 hBx hX2
  go_region_held3 (fun w' => w'.cell? ⟨w1.heap.size, 0, none⟩ = some (.int .i64 (a.la : Nat)) ∧ w'.cell? ⟨w1.heap.size, 1, none⟩ = some (.int .i64 (a.sp : Nat)) ∧ w'.cell? ⟨w1.heap.size, 2, none⟩ = some (.int .i64 (a.fo : Nat)) ∧ w'.cell? ⟨w1.heap.size, 3, none⟩ = some (.int .i64 (a.sh : Nat)) ∧ w'.cell? ⟨w1.heap.size, 4, none⟩ = some (.int .i64 (a.ga : Nat)) ∧ w'.cell? ⟨w1.heap.size, 5, none⟩ = some (.int .i64 (a.sl : Nat))) (first | exact hk0.out | exact hk3.out | exact hk4.out) (first | (go_at_call 53; refine (c53 a _ ok).mono ?_; rintro e w3 ⟨b, n, f, rfl, h1, h2, h3, h4, hB3⟩; have hB03 : Below w2.heap.size w2 w3 := (Below.refl _ _).drew.trans hB3; have hk3 := hid ((show Abx a w2 w1.heap.size from hk0.out).below hB03 (by omega)).all) | (go_at_call 44; refine (c44 a b n f w3 ok h1).mono ?_; rintro e w4 ⟨v, rfl, h5, hB4⟩; have hk4 := hid ((show Abx a w3 w1.heap.size from hk3.out).below hB4 (by have := hB03.size; omega)).all))
  have hs3 := hB03.size
  have hs4 := hB4.size
  obtain ⟨Ls, hLs⟩ : ∃ Ls, Ls = lst f (sts a) := ⟨_, rfl⟩
  rw [← hLs] at h5
  obtain ⟨A0, b0, c0, rfl, hSp0, hbb⟩ := Sps.of_owns h5
  have hmem : Hid (∀ p v, (p, v) ∈ Ls ↔ f p v = true) := hid fun p v => by
    rw [hLs]; unfold lst
    rw [List.mem_filter, mem_sts]
    exact ⟨fun h => h.2, fun h => ⟨(h3.1 p v h).1, h⟩⟩
  have hst : Hid (∀ p v, (p, v) ∈ Ls → stB a p v = true) := hid fun p v h => (h3.1 p v ((hmem.out p v).1 h)).1
  have hLn : Ls.length ≤ 697 := by
    have := nodup_len Ls (sts a) (by rw [hLs]; unfold lst; exact (sts_nodup a).filter _) (fun x hx => mem_sts.2 (hst.out x.1 x.2 hx))
    rw [sts_len] at this
    have h9 : (a.la + 1) * (2 * a.sp + 1) ≤ 41 * 17 := Nat.mul_le_mul (by omega) (by omega)
    omega
  have hB24 : Hid (Below w2.heap.size w2 w4) := hid (hB03.trans (hB4.mono hs3))
  have hSp0h := hid hSp0
  have hGs := hid h3
  have hne : 0 < Ls.length := by
    obtain ⟨p, v, h⟩ := hsome f h3
    exact List.length_pos_of_mem ((hmem.out p v).2 h)
  have hne2 : ((Ls.length : Int) == 0) = false := by simp only [beq_eq_false_iff_ne]; omega
  obtain ⟨y0, y1, y2, y3, y4, y5⟩ := hk4.out
  clear h1 h2 h3 h4 h5 hSp0 hLs hbb hB03 hB3 hB4 hk0 hk3
  have hgo := hid hgh.out
  clear hsome hgh
  go_wp2_with (go_at_call 46; refine (c46 a 0 _ ok (by omega)).mono ?_; rintro e w5 ⟨bm, nm, f0, L, lv, rfl, hG, ⟨t9, hBf⟩, hlb, hm, hb, hB5⟩; have hs5 := hB5.size; have hGh := hid hG; have hBfh := hid hBf; have hlbh := hid hlb; have hB5h := hid hB5; obtain ⟨w6, hw6⟩ : ∃ w6, w6 = w5.alloc (.cells #[.int .i64 (a.la : Nat), .int .i64 (a.sp : Nat), .int .i64 (a.fo : Nat), .int .i64 (a.sh : Nat), .int .i64 (a.ga : Nat), .int .i64 (a.sl : Nat), .map (some bm)] 86) := ⟨_, rfl⟩; have hm6 := hid (show MapI w6 bm nm (dL L) (gL L lv) by rw [hw6]; exact hm.alloc _); have hb6 := hid (show w6.heap[w5.heap.size]? = some (.cells #[.int .i64 (a.la : Nat), .int .i64 (a.sp : Nat), .int .i64 (a.fo : Nat), .int .i64 (a.sh : Nat), .int .i64 (a.ga : Nat), .int .i64 (a.sl : Nat), .map (some bm)] 86 (0, 0)) by rw [hw6]; exact heap_new _ _); have hk56 := hid (show Below w5.heap.size w5 w6 by rw [hw6]; exact (Below.refl _ _).alloc (Nat.le_refl _) _); have hs6 : w6.heap.size = w5.heap.size + 1 := (by rw [hw6]; simp); clear hm hG hBf hlb hB5 y0 y1 y2 y3 y4 y5)
  rw [← hw6]
  clear hw6
  have hB46 := hid (show Below w4.heap.size w4 w6 from hB5h.out.trans (hk56.out.mono hs5))
  have hin : Hid (∀ p v, (p, v) ∈ Ls → (p, v) ∈ L) := hid fun p v h => by
    obtain ⟨n, hn⟩ := hgo.out f0 f hGh.out hGs.out p v ((hmem.out p v).1 h)
    exact (hBfh.out.done n p v hn).1
  go_loopw [8, 32] (fun mv iv wr => ∃ k M : Nat, k ≤ Ls.length ∧ iv = .int .i64 (k : Nat) ∧ mv = .int .i64 (M : Nat) ∧ Below w6.heap.size w6 wr ∧ Hid ((∀ j (h : j < Ls.length), j < k → lv Ls[j].1 Ls[j].2 ≤ M) ∧ M ≤ 697 ∧ (M = 0 ∨ ∃ j, ∃ (h : j < Ls.length), j < k ∧ lv Ls[j].1 Ls[j].2 = M))) (fun _ iv _ => Ls.length - (intOf iv).toNat)
  case atStart => exact ⟨0, 0, Nat.zero_le _, rfl, rfl, Below.refl _ _, hid ⟨fun j _ h => absurd h (Nat.not_lt_zero _), by omega, .inl rfl⟩⟩
  case round =>
    obtain ⟨k, M, hk, rfl, rfl, hB, hM⟩ := hrel
    have hsz := hB.size
    have hB4 := hB46.out.trans (hB.mono (show w4.heap.size ≤ w6.heap.size from hB46.out.size))
    have hSp := hSp0h.out.below hB4 (Nat.le_refl _)
    by_cases hlt : k < Ls.length
    · have g0 := hSp.c0 k hlt
      have g1 := hSp.c1 k hlt
      have g2 := hSp.lt k hlt
      rw [Nat.zero_add] at g0 g1
      have hix := @Sps.ix _ _ _ _ c0 _ hSp k hlt
      rw [Nat.zero_add] at hix
      obtain ⟨x, hx⟩ : ∃ x, x = Ls[k] := ⟨_, rfl⟩
      rw [← hx] at g0 g1
      have hxm : (x.1, x.2) ∈ Ls := by rw [hx]; exact List.getElem_mem hlt
      have hxs := stB_iff.1 (hst.out x.1 x.2 hxm)
      have hsm : Sm x.1 ∧ Sm x.2 := ⟨⟨by omega, by omega⟩, ⟨by omega, by omega⟩⟩
      have hxL := hin.out x.1 x.2 hxm
      have hlv := lv_bound hBfh.out ok hlbh.out hxL
      have hask : (Instr.lookup 84 (.map (some bm)) (.agg #[.int .i64 x.1, .int .i64 x.2]) true).run Try.prog (wr.alloc (.cells #[.int .i64 x.1, .int .i64 x.2] 25)) = .ok (.tuple #[.int .i64 (lv x.1 x.2 : Nat), .bool true]) (wr.alloc (.cells #[.int .i64 x.1, .int .i64 x.2] 25)) := by
        rcases asks (hm6.out.below hB hm6.out.lt) hsm.1 hsm.2 (.cells #[.int .i64 x.1, .int .i64 x.2] 25) with ⟨_, h⟩ | ⟨h, _⟩
        · exact h
        · exact absurd hxL h
      have y6 : (wr.alloc (.cells #[.int .i64 x.1, .int .i64 x.2] 25)).cell? ⟨w5.heap.size, 6, none⟩ = some (.map (some bm)) := (blk_cell ((Below.heap_alloc wr _ _ (by omega)).trans ((hB.block w5.heap.size (by omega)).trans hb6.out))).trans rfl
      obtain ⟨G, hGe⟩ : ∃ G, G = lv x.1 x.2 := ⟨_, rfl⟩
      rw [← hGe] at hask hlv
      have hB1 := hid (hB.alloc hsz (.cells #[.int .i64 x.1, .int .i64 x.2] 25))
      have hxh := hid hx; have hGeh := hid hGe
      clear hSp hxm hx hGe hB4 hxL
      rcases Nat.lt_or_ge M G with hmg | hmg
      · go_wp2_with fail
        go_roundw
        case rel =>
          refine ⟨k + 1, G, by omega, by go_num, rfl, hB1.out, hid ⟨fun j hj hjk => ?_, hlv, .inr ⟨k, hlt, by omega, by rw [← hxh.out]; exact hGeh.out.symm⟩⟩⟩
          by_cases e : j = k
          · subst e; rw [← hxh.out, ← hGeh.out]; exact Nat.le_refl _
          · have := hM.out.1 j hj (by omega); omega
        case measure => simp [intOf]; omega
      · go_wp2_with fail
        go_roundw
        case rel =>
          refine ⟨k + 1, M, by omega, by go_num, rfl, hB1.out, hid ⟨fun j hj hjk => ?_, hM.out.2.1, ?_⟩⟩
          · by_cases e : j = k
            · subst e; rw [← hxh.out, ← hGeh.out]; exact hmg
            · exact hM.out.1 j hj (by omega)
          · rcases hM.out.2.2 with h | ⟨j, hj, hjk, h⟩
            · exact .inl h
            · exact .inr ⟨j, hj, by omega, h⟩
        case measure => simp [intOf]; omega
    · have hke : k = Ls.length := by omega
      clear hSp hB4
      go_wp2_with fail
      go_returns
      refine ⟨⟨f0, f, M, hGh.out, hGs.out, rfl, fun p v h => ?_, ?_⟩, ?_⟩
      · have hm := (hmem.out p v).2 h
        obtain ⟨j, hj, e⟩ := List.mem_iff_getElem.1 hm
        have h1 := hM.out.1 j hj (by omega)
        rw [e] at h1
        exact lvl_mono h1 (hBfh.out.sd p v (hin.out p v hm))
      · rcases hM.out.2.2 with h | ⟨j, hj, hjk, h⟩
        · exact .inl h
        · rcases Nat.eq_zero_or_pos M with h0 | h0
          · exact .inl h0
          · right
            have hmj : (Ls[j].1, Ls[j].2) ∈ Ls := List.getElem_mem hj
            refine ⟨Ls[j].1, Ls[j].2, (hmem.out _ _).1 hmj, ?_⟩
            cases e : lvl a f0 (M - 1) Ls[j].1 Ls[j].2 with
            | false => rfl
            | true => have := (hBfh.out.done _ _ _ e).2; omega
      · have h1 := hB2.out
        have h2 := h1.trans (hB24.out.mono h1.size)
        exact h2.trans ((hB46.out.trans (hB.mono (show w4.heap.size ≤ w6.heap.size from hB46.out.size))).mono (by have := hB24.out.size; have := h1.size; omega))
end Go.Proofs.Ytajllhjoagldkaa
