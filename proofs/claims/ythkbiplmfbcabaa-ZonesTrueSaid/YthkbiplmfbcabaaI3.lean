/- Stage 1: the reference's Ticks. -/
import Derived.Test.YthkbiplmfbcabaaC3
import Derived.Test.YthkbiplmfbcabaaH3
import Derived.Test.YthkbiplmfbcabaaX
set_option linter.unusedSimpArgs false
set_option linter.unusedVariables false
namespace Go.Proofs.Ythkbiplmfbcabaa
open Go.RowKit Go.Sort

/-- A slice of numbers, as memory holds it. -/
structure Ints (w : World) (za : Option Addr) (zb zo : Nat) (xs : List Int) : Prop where
  ad : ∀ k, k < xs.length → za = some ⟨zb, zo, none⟩
  lt : ∀ k, k < xs.length → zb < w.heap.size
  c : ∀ k, (h : k < xs.length) → w.cell? ⟨zb, zo + k, none⟩ = some (.int .i64 xs[k])
theorem Ints.below {w w' : World} {B : Nat} {za : Option Addr} {zb zo : Nat} {xs : List Int} (h : Ints w za zb zo xs) (hb : Below B w w') (hB : w.heap.size ≤ B) : Ints w' za zb zo xs :=
  ⟨h.ad, fun k hk => Nat.lt_of_lt_of_le (h.lt k hk) hb.size, fun k hk => (hb.cell (p := ⟨zb, zo + k, none⟩) (Nat.lt_of_lt_of_le (h.lt k hk) hB)).trans (h.c k hk)⟩

theorem Ints.of_owns {w : World} {base n : Nat} {v : Value} {xs : List Int} (h : w.ownsRow base 3 1 v n (xs.map (Value.int .i64))) (hn : n = xs.length) : ∃ za zb cap, v = .slice za n cap ∧ (∀ b, za = some b → base ≤ zb) ∧ Ints w za zb 0 xs := by
  have h2 := h
  obtain ⟨_, h1⟩ := h
  rcases h1 with ⟨rfl, h3⟩ | ⟨g, cap, cur, rfl, h4, _⟩
  · have : xs = [] := List.length_eq_zero_iff.1 (by omega)
    subst this
    obtain rfl : n = 0 := hn
    exact ⟨none, 0, 0, rfl, (fun b hb => by cases hb), (fun k hk => absurd hk (Nat.not_lt_zero _)), (fun k hk => absurd hk (Nat.not_lt_zero _)), (fun k hk => absurd hk (Nat.not_lt_zero _))⟩
  · have hlt := (h2.lt g rfl).2
    refine ⟨some ⟨g, 0, none⟩, g, cap, rfl, fun _ _ => h4, fun _ _ => rfl, fun _ _ => hlt, fun k hk => ?_⟩
    have := h2.cellAt k (by simp; omega)
    rw [Nat.zero_add, this]
    simp [hk]
theorem KdRet.ints {d : Dk} {f k : Nat} {w w' : World} {e : Ending} (h : KdRet d f k w e w') :
    ∃ za zb cap, e = .returned (.slice za k cap) ∧ Ints w' za zb 0 (kinds d f k) ∧ Below w.heap.size w w' := by
  obtain ⟨v, rfl, hown, hB⟩ := h
  obtain ⟨za, zb, cap, rfl, _, hi⟩ := Ints.of_owns hown (kinds_len d f k).symm
  exact ⟨za, zb, cap, rfl, hi, hB⟩

theorem Ints.ix {w : World} {za : Option Addr} {zb zo : Nat} {xs : List Int} (h : Ints w za zb zo xs) {k len cap : Nat} (hk : k < xs.length) (hl : len = xs.length) (w' : World) :
    (Instr.indexAt 49 (.slice za len cap) (.int .i64 k)).run Try.prog w' = .ok (.pointer (some ⟨zb, zo + k, none⟩)) w' := by
  have h2 : (k : Int) < (len : Int) := by omega
  rw [h.ad k hk]
  go_simp

/-- How long a run takes with some ticks for each of its switches. -/
def ticksV (d : Dk) (f n : Nat) (xs : List Int) : Int := sm (tkAt d) f n + sm (fun i => if 0 < kindAt d i then gapV d.tu (skewK d (kindAt d i)) (xs.getD (i - f) 0) else 0) f (n - 1)

theorem skewK_bd {d : Dk} (ok : d.Ok) (k : Int) : 0 ≤ skewK d k ∧ skewK d k < d.tu := by
  unfold skewK
  have := ok.hs0; have := ok.hs1; have := ok.cs0; have := ok.cs1; have := ok.tu1
  split
  · omega
  · split <;> omega

theorem kindAt_bd (d : Dk) (i : Nat) : kindAt d i = 0 ∨ kindAt d i = 1 ∨ kindAt d i = 2 := kindOf_bd _ _

set_option maxRecDepth 100000 in
set_option maxHeartbeats 2000000 in
theorem c39 (d : Dk) (f n : Nat) (xs : List Int) (za : Option Addr) (zb zo zc : Nat) (w : World) (hz : Zs w d) (ok : d.Ok) (hn : 1 ≤ n) (hfn : f + n ≤ (places d).length) (hx : Ints w za zb zo xs) (hxl : xs.length = n - 1) (hxb : ∀ i, (hi : i < xs.length) → 0 < kindAt d (f + i) → 0 ≤ xs[i] ∧ xs[i] ≤ 2000) :
    Calls Try.prog 39 #[d.v, .int .i64 f, .int .i64 n, .slice za xs.length zc] w fun e w' => e = .returned (.int .i64 (ticksV d f n xs)) ∧ Below w.heap.size w w' := by
  have hL := ok.lenPl
  have hB := ok.cntB
  unfold lenPlaces at hL
  have hlen : (places d).length ≤ 5120 := by omega
  have okh := hid ok
  have tu1 := ok.tu1
  have tu2 := ok.tu2
  obtain ⟨z, hzz⟩ : ∃ z : Nat, z = f + n := ⟨_, rfl⟩
  have hsum : IntKind.i64.wrap ((f : Int) + (n : Int)) = (z : Int) := by rw [i64w _ (by omega) (by omega), hzz]; rfl
  obtain ⟨nq, hq⟩ : ∃ nq, nq = n - 1 := ⟨_, rfl⟩
  have hqh := hid hq
  have hzzh := hid hzz
  have hxbh := hid hxb
  have hxlh := hid hxl
  clear ok hL hB hzz hxb hxl hq
  go_enter Try.func39, Try.ntmps39
  go_wp2_with (first | (go_at_call 51; refine (c51 d _ (by exact hz.below (by (repeat' (first | (with_reducible exact Below.refl _ _) | (with_reducible assumption) | (with_reducible refine Below.alloc ?_ ?_ _) | (with_reducible refine Below.drew ?_) | (with_reducible refine below_drewN ?_ _) | (with_reducible refine Below.setCell ?_ ?_ _) | (with_reducible refine Below.trans ?_ (Below.mono (by with_reducible assumption) ?_)) | go_size))) (Nat.le_refl _)) okh.out).mono ?_; intro e w1 hr; obtain ⟨g, cap, rfl, hg, hp, hB1⟩ := hr.pos (by omega); obtain ⟨hc1, hf1⟩ := bcell (hB1.mono (show w.heap.size + 1 ≤ _ by first | omega | ((try simp only [World.size_alloc]); omega))); have hy1 : w.heap.size < w1.heap.size := (by have := hB1.size; (try simp only [World.size_alloc] at this); omega)) | (go_at_call 37; refine (c37 d f n _ (by exact hz.below (by (repeat' (first | (with_reducible exact Below.refl _ _) | (with_reducible assumption) | (with_reducible refine Below.alloc ?_ ?_ _) | (with_reducible refine Below.drew ?_) | (with_reducible refine below_drewN ?_ _) | (with_reducible refine Below.setCell ?_ ?_ _) | (with_reducible refine Below.trans ?_ (Below.mono (by with_reducible assumption) ?_)) | go_size))) (Nat.le_refl _)) okh.out hn hfn).mono ?_; intro e w2 hr; rw [← hqh.out] at hr; obtain ⟨ka, kb, kc, rfl, hki, hB2⟩ := hr.ints; clear hr; have hy2 : w.heap.size < w2.heap.size := (by have := hB2.size; omega)))
  have hvb : w2.heap[w.heap.size]? = some (.cells #[.int .i64 d.hd, .int .i64 d.tu, .slice d.za d.zs.length d.zc, .int .i64 d.hs, .int .i64 d.cs, .int .i64 d.hl, .int .i64 d.hh, .int .i64 d.cl, .int .i64 d.ch] 26 (0, 0)) := by
    rw [hB2.block _ hy1, hB1.block _ (by simp)]; exact heap_new w _
  have hp2 := hp.below hB2 hp.lt
  have hbw : Below w.heap.size w w2 := by (repeat' (first | (with_reducible exact Below.refl _ _) | (with_reducible assumption) | (with_reducible refine Below.alloc ?_ ?_ _) | (with_reducible refine Below.drew ?_) | (with_reducible refine below_drewN ?_ _) | (with_reducible refine Below.setCell ?_ ?_ _) | (with_reducible refine Below.trans ?_ (Below.mono (by with_reducible assumption) ?_)) | go_size))
  have hz2 : Zs w2 d := hz.below hbw (Nat.le_refl _)
  have hx2 := hx.below hbw (Nat.le_refl _)
  have hkl := kinds_len d f nq
  clear hc1 hf1 hB1 hB2 hp hx
  go_loopw [11, 12] (fun s i wr => ∃ (k j : Nat) (S : Int), Hid (j = f + k) ∧ k ≤ n ∧ i = .int .i64 j ∧ s = .int .i64 S ∧ Hid (S = sm (tkAt d) f k) ∧ 0 ≤ S ∧ S ≤ 1000 * k ∧ Below w2.heap.size w2 wr) (fun _ i _ => z - (intOf i).toNat)
  case atStart => exact ⟨0, f, 0, hid rfl, by omega, rfl, rfl, hid rfl, by omega, by omega, Below.refl _ _⟩
  case round =>
    obtain ⟨k, j, S, hj, hk, rfl, rfl, hS, hS0, hS1, hBr⟩ := hrel
    have hsz := hBr.size
    by_cases hlt : (j : Int) < z
    · have hjj := hj.out
      have hz9 := hzzh.out
      have hjl : j < (places d).length := by omega
      have hpr := hp2.below hBr hp2.lt
      obtain ⟨a, b, s, hP⟩ : ∃ a b s, (places d)[j] = (a, b, s) := ⟨_, _, _, rfl⟩
      have p0 := hpr.c0 j hjl
      rw [hP] at p0
      dsimp only at p0
      obtain ⟨m1, m2, m3, m4, m5, m6⟩ := mem_places (List.getElem_mem hjl)
      rw [hP] at m1 m2
      dsimp only at m1 m2
      have hvr := (hBr.block _ hy2).trans hvb
      have hzr := hz2.below hBr (Nat.le_refl _)
      obtain ⟨sc, hsc⟩ : ∃ sc, sc = secOf d.zs a := ⟨_, rfl⟩
      have h56 : Hid (∀ W, Zs W d → Calls Try.prog 56 #[d.v, .int .i64 a] W fun e w' => e = .returned (.int .i64 sc) ∧ Below W.heap.size W w') := hid (fun W hzW => by rw [hsc]; exact c56 d a W hzW okh.out m1 m2)
      obtain ⟨s1, s2, _⟩ := okh.out.sec m1 m2
      rw [← hsc] at s1 s2
      have hnz : (sc = 0) = False := by simp; omega
      obtain ⟨T, hT⟩ : ∃ T, T = tkAt d j := ⟨_, rfl⟩
      obtain ⟨t1, t2⟩ := tkAt_bd okh.out hjl
      rw [← hT] at t1 t2
      have hTe : d.tu / sc = T := by rw [hT, hsc]; unfold tkAt; rw [← plN_get hjl, hP]
      have hw1 : IntKind.i64.wrap (d.tu.tdiv sc) = T := by rw [Int.tdiv_eq_ediv_of_nonneg (by omega), hTe]; exact i64w _ (by omega) (by omega)
      have hw2 : IntKind.i64.wrap (S + T) = S + T := i64w _ (by omega) (by omega)
      have hw3 : IntKind.i64.wrap ((j : Int) + 1) = ((j + 1 : Nat) : Int) := by rw [i64w _ (by omega) (by omega)]; omega
      have hst : Hid (S + T = sm (tkAt d) f (k + 1)) := hid (by rw [sm, ← hS.out, hT, hjj])
      have hjn : Hid (j + 1 = f + (k + 1)) := hid (by omega)
      have hkn : Hid (k + 1 ≤ n) := hid (by omega)
      have x1 : (j : Int) < (places d).length := by omega
      have k1 := cells_regrown hvr
      have k2 : ∀ dd os, (grow (redrawn wr dd) os).cell? ⟨g, j * 3, none⟩ = some (.int .i64 a) := fun dd os => cell_regrown p0 dd os
      clear hTe hT hsc hP hjj hz9 hpr m3 m4 m5 m6 p0 hS hj
      go_wp2
      refine wp_region_quiet_below (by kernel_rfl) (by kernel_rfl) ?_; (repeat (refine wpQuiet_step (fun K hK => ?_); go_simp; first | (refine hK _ ?_; clear hK K) | (apply Exists.intro; refine ⟨fun _ => ?_, hK _ ?_⟩; (first | exact Calls.regrown_of (h56.out _ (hzr.below (below_regrown _ _ _) (Nat.le_refl _)))); clear hK K))); refine wpQuiet_nil ?_; intro _ hw; obtain ⟨q, hwq⟩ := hw; subst hwq
      have hB5 := below_regrown wr q.d q.os
      generalize grow (redrawn wr q.d) q.os = w5 at hB5 ⊢
      clear k1 k2
      go_wp2
      go_roundw
      case rel => exact ⟨k + 1, j + 1, S + T, hjn, hkn.out, by go_num, rfl, hst, by omega, by omega, hBr.trans (hB5.mono hsz)⟩
      case measure => simp [intOf]; omega
    · obtain rfl : k = n := by have := hj.out; have := hzzh.out; omega
      obtain ⟨wo, rfl⟩ : ∃ wo : World, wo = wr := ⟨_, rfl⟩
      have hk5 : k ≤ 5120 := by omega
      clear hj
      go_wp2
      go_loopw [11, 13] (fun s i wr => ∃ (m : Nat) (S2 : Int), m ≤ nq ∧ i = .int .i64 m ∧ s = .int .i64 S2 ∧ Hid (S2 = S + sm (fun i => if 0 < kindAt d i then gapV d.tu (skewK d (kindAt d i)) (xs.getD (i - f) 0) else 0) f m) ∧ 0 ≤ S2 ∧ S2 ≤ S + 3000 * m ∧ Below wo.heap.size wo wr) (fun _ i _ => nq - (intOf i).toNat)
      case atStart => exact ⟨0, S, by omega, rfl, rfl, hid (by simp [sm]), hS0, by omega, Below.refl _ _⟩
      case round =>
        obtain ⟨m, S2, hm, rfl, rfl, hS2, hS20, hS21, hBq⟩ := hrel
        have hszq := hBq.size
        by_cases hlt2 : m < nq
        · have hxl := hxlh.out
          have hqq := hqh.out
          have hmx : m < xs.length := by omega
          have hBa : Below w2.heap.size w2 wr := hBr.trans (hBq.mono hsz)
          have hkr := hki.below hBa (Nat.le_refl _)
          have hxr := hx2.below hBa (Nat.le_refl _)
          obtain ⟨K, hK⟩ : ∃ K, K = kindAt d (f + m) := ⟨_, rfl⟩
          obtain ⟨x, hxv⟩ : ∃ x, x = xs[m] := ⟨_, rfl⟩
          have p0 := hkr.c m (by rw [hkl]; exact hlt2)
          rw [show (kinds d f nq)[m]'(by rw [hkl]; exact hlt2) = K by rw [hK]; simp [kinds], Nat.zero_add] at p0
          have p1 := hxr.c m hmx
          rw [← hxv] at p1
          have i0 := hkr.ix (cap := kc) (len := nq) (show m < (kinds d f nq).length by rw [hkl]; exact hlt2) hkl.symm
          rw [Nat.zero_add] at i0
          have i1 := hxr.ix (cap := zc) (len := xs.length) hmx rfl
          have hvr := (hBa.block _ hy2).trans hvb
          have hzr := hz2.below hBa (Nat.le_refl _)
          have hmn : Hid (m + 1 ≤ nq) := hid (by omega)
          have hw3 : IntKind.i64.wrap ((m : Int) + 1) = ((m + 1 : Nat) : Int) := by rw [i64w _ (by omega) (by omega)]; omega
          have b1 := hkr.lt m (by rw [hkl]; exact hlt2)
          have b2 := hxr.lt m hmx
          have hget : xs.getD (f + m - f) 0 = x := by rw [hxv, show f + m - f = m by omega, List.getD_eq_getElem?_getD, List.getElem?_eq_getElem hmx]; rfl
          have hxb := hxbh.out m hmx
          rw [← hK, ← hxv] at hxb
          by_cases hKp : 0 < K
          · obtain ⟨x0, x1⟩ := hxb hKp
            obtain ⟨G, hG⟩ : ∃ G, G = gapV d.tu (skewK d K) x := ⟨_, rfl⟩
            obtain ⟨g1, g2⟩ := gapV_bd (tu := d.tu) (sk := skewK d K) (t := x) tu1
            rw [← hG] at g1 g2
            have h40 : Hid (∀ W, Calls Try.prog 40 #[d.v, .int .i64 K, .int .i64 x] W fun e w' => e = .returned (.int .i64 G) ∧ Below W.heap.size W w') := hid (fun W => by rw [hG]; exact c40 d K x W okh.out x0 x1)
            have hst : Hid (S2 + G = S + sm (fun i => if 0 < kindAt d i then gapV d.tu (skewK d (kindAt d i)) (xs.getD (i - f) 0) else 0) f (m + 1)) := hid (by rw [sm, hget, ← hK, if_pos hKp, ← hG]; have := hS2.out; omega)
            have hw2 : IntKind.i64.wrap (S2 + G) = S2 + G := i64w _ (by omega) (by omega)
            have k1 := cells_regrown hvr
            have k2 : ∀ dd os, (grow (redrawn wr dd) os).cell? ⟨kb, m, none⟩ = some (.int .i64 K) := fun dd os => cell_regrown p0 dd os
            have k3 : ∀ dd os, (grow (redrawn wr dd) os).cell? ⟨zb, zo + m, none⟩ = some (.int .i64 x) := fun dd os => cell_regrown p1 dd os
            clear hget hG hK hxv hxb hxl hqq hS2 hkl
            go_wp2
            refine wp_region_quiet_below (by kernel_rfl) (by kernel_rfl) ?_; (repeat (refine wpQuiet_step (fun K hK => ?_); go_simp; first | (refine hK _ ?_; clear hK K) | (apply Exists.intro; refine ⟨fun _ => ?_, hK _ ?_⟩; (first | exact Calls.regrown_of (h40.out _)); clear hK K))); refine wpQuiet_nil ?_; intro _ hw; obtain ⟨q, hwq⟩ := hw; subst hwq
            have hB5 := below_regrown wr q.d q.os
            generalize grow (redrawn wr q.d) q.os = w5 at hB5 ⊢
            clear k1 k2 k3
            go_wp2
            go_roundw
            case rel => exact ⟨m + 1, S2 + G, hmn.out, by go_num, rfl, hst, by omega, by omega, hBq.trans (hB5.mono hszq)⟩
            case measure => simp [intOf]; omega
          · have hst : Hid (S2 = S + sm (fun i => if 0 < kindAt d i then gapV d.tu (skewK d (kindAt d i)) (xs.getD (i - f) 0) else 0) f (m + 1)) := hid (by rw [sm, ← hK, if_neg hKp]; have := hS2.out; omega)
            clear hget hK hxv hxb hxl hqq hS2 hkl
            go_wp2
            go_roundw
            case rel => exact ⟨m + 1, S2, hmn.out, by go_num, rfl, hst, by omega, by omega, hBq⟩
            case measure => simp [intOf]; omega
        · obtain rfl : m = nq := by omega
          go_wp2_with fail
          go_returns
          refine ⟨?_, (hbw.trans (hBr.mono (by omega))).trans (hBq.mono (by omega))⟩
          rw [hS2.out, hS.out, hqh.out]
          rfl
end Go.Proofs.Ythkbiplmfbcabaa
