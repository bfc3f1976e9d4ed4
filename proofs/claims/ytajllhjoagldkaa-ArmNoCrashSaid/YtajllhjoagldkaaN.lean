/- Stage 6: the states that are found from a speed at a position. -/
import Derived.Test.YtajllhjoagldkaaL
set_option linter.unusedSimpArgs false
set_option linter.unusedVariables false
namespace Go.Proofs.Ytajllhjoagldkaa
open Go.RowKit Go.Maps Go.WideMaps

/-- The new states that k commands lead from to the speed u at the position q. -/
def adL (a : Ar) (d : Int → Int → Bool) (q u : Int) (k : Nat) : List (Int × Int) := ((List.range k).map fun i : Nat => (q, u - ((i : Int) - (a.fo : Int)))).filter fun s => stB a s.1 s.2 && !d s.1 s.2
theorem adL_zero (a : Ar) (d : Int → Int → Bool) (q u : Int) : adL a d q u 0 = [] := rfl
theorem adL_yes {a : Ar} {d : Int → Int → Bool} {q u : Int} {k : Nat} (h1 : stB a q (u - ((k : Int) - (a.fo : Int))) = true) (h2 : d q (u - ((k : Int) - (a.fo : Int))) = false) : adL a d q u (k + 1) = adL a d q u k ++ [(q, u - ((k : Int) - (a.fo : Int)))] := by
  simp [adL, List.range_succ, h1, h2]
theorem adL_no {a : Ar} {d : Int → Int → Bool} {q u : Int} {k : Nat} (h : (stB a q (u - ((k : Int) - (a.fo : Int))) && !d q (u - ((k : Int) - (a.fo : Int)))) = false) : adL a d q u (k + 1) = adL a d q u k := by
  unfold adL
  rw [List.range_succ, List.map_append, List.filter_append]
  simp only [List.map_cons, List.map_nil, List.filter_cons, h, List.filter_nil]
  simp
theorem adL_mem {a : Ar} {d : Int → Int → Bool} {q u : Int} {k : Nat} {s : Int × Int} : s ∈ adL a d q u k ↔ (∃ i : Nat, i < k ∧ s = (q, u - ((i : Int) - (a.fo : Int)))) ∧ stB a s.1 s.2 = true ∧ d s.1 s.2 = false := by
  unfold adL
  rw [List.mem_filter, List.mem_map]
  simp only [List.mem_range, Bool.and_eq_true, Bool.not_eq_true']
  constructor
  · rintro ⟨⟨i, hi, rfl⟩, h⟩; exact ⟨⟨i, hi, rfl⟩, h⟩
  · rintro ⟨⟨i, hi, rfl⟩, h⟩; exact ⟨⟨i, hi, rfl⟩, h⟩
theorem adL_fresh {a : Ar} {d : Int → Int → Bool} {q u : Int} {k : Nat} : (q, u - ((k : Int) - (a.fo : Int))) ∉ adL a d q u k := by
  rw [adL_mem]
  rintro ⟨⟨i, hi, e⟩, _⟩
  simp only [Prod.mk.injEq] at e
  omega
theorem adL_len (a : Ar) (d : Int → Int → Bool) (q u : Int) (k : Nat) : (adL a d q u k).length ≤ k := by
  unfold adL
  refine Nat.le_trans (List.length_filter_le _ _) ?_
  simp
/-- Which states have a number, and which one, after them. -/
def dAd (d : Int → Int → Bool) (l : List (Int × Int)) (p v : Int) : Bool := d p v || decide ((p, v) ∈ l)
def gAd (g : Int → Int → Int) (l : List (Int × Int)) (x : Int) (p v : Int) : Int := if (p, v) ∈ l then x else g p v
/-- What the function has in memory. -/
structure ExI (a : Ar) (b : Nat) (q u : Int) (w W : World) : Prop where
  ke : Keep (fun k => k = b) w W
  ab : Abx a W w.heap.size
  c6 : W.cell? ⟨w.heap.size, 6, none⟩ = some (.map (some b))
  g0 : W.cell? ⟨w.heap.size + 1, 0, none⟩ = some (.int .i64 q)
  g1 : W.cell? ⟨w.heap.size + 1, 1, none⟩ = some (.int .i64 u)
  sz : w.heap.size + 2 ≤ W.heap.size
theorem ExI.step {a : Ar} {b : Nat} {q u : Int} {w A B : World} (h : ExI a b q u w A) (hb : b < w.heap.size) (k : Keep (fun k => k = b ∨ w.heap.size + 2 ≤ k) A B) : ExI a b q u w B := by
  have hs := h.sz
  have ks := k.size
  refine ⟨⟨k.os.trans h.ke.os, k.tape.trans h.ke.tape, k.output.trans h.ke.output, Nat.le_trans h.ke.size k.size, fun j hj hn => (k.block j (by omega) (by omega)).trans (h.ke.block j hj hn)⟩, h.ab.keepK k (by omega) (by omega), (keep_cell k (by omega) (by omega)).trans h.c6, (keep_cell k (by omega) (by omega)).trans h.g0, (keep_cell k (by omega) (by omega)).trans h.g1, by omega⟩
set_option maxRecDepth 100000 in
set_option maxHeartbeats 8000000 in
theorem c72 (a : Ar) (b n : Nat) (d : Int → Int → Bool) (g : Int → Int → Int) (q u : Int) (x : Nat) (w : World) (ok : a.Ok) (hm : MapI w b n d g) (hn : n ≤ 100000) (hq : -1000 ≤ q ∧ q ≤ 1000) (hu : -1000 ≤ u ∧ u ≤ 1000) (hx : x ≤ 1000) :
    Calls Try.prog 72 #[.agg #[.int .i64 (a.la : Nat), .int .i64 (a.sp : Nat), .int .i64 (a.fo : Nat), .int .i64 (a.sh : Nat), .int .i64 (a.ga : Nat), .int .i64 (a.sl : Nat), .map (some b)], .agg #[.int .i64 q, .int .i64 u], .int .i64 (x : Nat)] w fun e w' => ∃ v, e = .returned v ∧ w'.ownsRow w.heap.size 25 2 v (adL a d q u (2 * a.fo + 1)).length (flS (adL a d q u (2 * a.fo + 1))) ∧ MapI w' b (n + 9) (dAd d (adL a d q u (2 * a.fo + 1))) (gAd g (adL a d q u (2 * a.fo + 1)) x) ∧ Keep (fun k => k = b) w w' := by
  obtain ⟨i0, ie0, ie1, ie2, ie3⟩ := info_parts (P := Try.prog) (e := 25) (z := .agg #[.int .i64 0, .int .i64 0]) (size := 2) (bytes := 16) (by kernel_rfl)
  have o3 := ok.f
  have hbl := hm.lt
  have hmh := hid hm
  clear hm
  go_enter Try.func72, Try.ntmps72
  go_wp2_with fail
  obtain ⟨w0, hw0⟩ : ∃ w0, w0 = (w.alloc (.cells #[.int .i64 (a.la : Nat), .int .i64 (a.sp : Nat), .int .i64 (a.fo : Nat), .int .i64 (a.sh : Nat), .int .i64 (a.ga : Nat), .int .i64 (a.sl : Nat), .map (some b)] 86)).alloc (.cells #[.int .i64 q, .int .i64 u] 25) := ⟨_, rfl⟩
  have hE0 : ExI a b q u w w0 := by
    refine ⟨?_, ?_, ?_, ?_, ?_, ?_⟩
    · rw [hw0]; exact ((Keep.refl _ _).alloc _).alloc _
    · rw [hw0]; unfold Abx; simp
    all_goals (rw [hw0]; simp)
  have hm0 : MapI w0 b n d g := by rw [hw0]; exact (hmh.out.alloc _).alloc _
  rw [← hw0]
  obtain ⟨y0, y1, y2, y3, y4, y5⟩ := hE0.ab.all
  clear hw0
  have hm0h := hid hm0; have hE0h := hid hE0
  clear hm0 hE0
  go_wp2_with fail
  go_loopw [7, 8] (fun v cv wr => ∃ (k : Nat) (c : Int), k ≤ 2 * a.fo + 1 ∧ c = (k : Int) - (a.fo : Int) ∧ cv = .int .i64 c ∧ ExI a b q u w wr ∧ MapI wr b (n + k) (dAd d (adL a d q u k)) (gAd g (adL a d q u k) x) ∧ wr.ownsRow (w.heap.size + 2) 25 2 v (adL a d q u k).length (flS (adL a d q u k))) (fun _ cv _ => ((a.fo : Int) + 1 - intOf cv).toNat)
  case atStart => exact ⟨0, -(a.fo : Int), by omega, by omega, by go_num, hE0h.out, hm0h.out.congr fun p v _ _ => by simp [dAd, gAd, adL_zero], World.ownsRow_nil _ _ _ _⟩
  case round =>
    clear hm0h hE0h y0 y1 y2 y3 y4 y5
    obtain ⟨k, c, hk, hc, rfl, hE, hm, hown⟩ := hrel
    have hch := hid hc
    have hEh := hid hE; have hmh2 := hid hm; have hoh := hid hown
    have hsz := hE.sz
    by_cases hlt : k < 2 * a.fo + 1
    · have hcl : c ≤ (a.fo : Int) := by omega
      have hcg : -(a.fo : Int) ≤ c := by omega
      obtain ⟨w1, hw1⟩ : ∃ w1, w1 = wr.alloc (.cells #[.int .i64 q, .int .i64 (u - c)] 25) := ⟨_, rfl⟩
      have hm1 := hid (show MapI w1 b (n + k) _ _ from by rw [hw1]; exact hm.alloc _)
      have hk1 : Keep (fun _ => False) wr w1 := by rw [hw1]; exact (Keep.refl _ _).alloc _
      have hs1 : w1.heap.size = wr.heap.size + 1 := by rw [hw1]; simp
      have hE1 := hid (hE.step hbl (hk1.imp fun _ _ h => h.elim))
      have hsm : Sm q ∧ Sm (u - c) := ⟨⟨by omega, by omega⟩, ⟨by omega, by omega⟩⟩
      have hdv : dAd d (adL a d q u k) q (u - c) = d q (u - c) := by
        unfold dAd
        rw [decide_eq_false (by rw [hc]; exact adL_fresh), Bool.or_false]
      have hask := hm1.out.ask hsm.1 hsm.2
      rw [hdv] at hask
      generalize gAd g (adL a d q u k) x q (u - c) = gv at hask
      obtain ⟨y0, y1, y2, y3, y4, y5⟩ := hE.ab.all
      have e6 := hE.c6
      have e0 := hE.g0
      have e1 := hE.g1
      have hk1h := hid hk1
      clear hc hE hm hown hdv hk1
      cases hdd : d q (u - c) with
      | true =>
        rw [hdd] at hask
        have hno := hid (adL_no (a := a) (d := d) (q := q) (u := u) (k := k) (by rw [← hch.out, hdd]; simp))
        clear hdd
        have f6 := hE1.out.c6
        rw [hw1] at hask f6
        go_wp2_with fail
        go_roundw
        case rel => exact ⟨k + 1, c + 1, by omega, by have := hch.out; omega, by go_num, by rw [← hw1]; exact hE1.out, by rw [hno.out, ← hw1]; exact hm1.out.mono (by omega), by rw [hno.out, ← hw1]; exact owns_keep hoh.out fun z hz _ => hk1h.out.block z hz id⟩
        case measure => simp [intOf]; omega
      | false =>
        rw [hdd] at hask
        have hddh := hid hdd
        clear hdd
        have f6 := hE1.out.c6
        obtain ⟨x0, x1, x2, x3, x4, x5⟩ := hE1.out.ab.all
        have n0 : w1.cell? ⟨wr.heap.size, 0, none⟩ = some (.int .i64 q) := by rw [hw1]; simp
        have n1 : w1.cell? ⟨wr.heap.size, 1, none⟩ = some (.int .i64 (u - c)) := by rw [hw1]; simp
        have hn0 : wr.heap.size < w1.heap.size := by omega
        cases hst : stB a q (u - c) with
        | false =>
          have hsth := hid hst
          have hno := hid (adL_no (a := a) (d := d) (q := q) (u := u) (k := k) (by rw [← hch.out, hst]; simp))
          clear hst
          rw [hw1] at hask f6 x0 x1 x2 x3 x4 x5 n0 n1
          go_wp2_with (go_at_call 67; refine (c67 a q (u - c) _ ok).mono ?_; rw [hsth.out]; rintro e w5 ⟨rfl, hB5⟩; rw [← hw1] at hB5; have hB5h := hid hB5; clear hB5)
          have hk5 : Keep (fun _ => False) w1 w5 := Keep.of_below hB5h.out (Nat.le_refl _)
          go_roundw
          case rel => exact ⟨k + 1, c + 1, by omega, by have := hch.out; omega, by go_num, hE1.out.step hbl (hk5.imp fun _ _ h => h.elim), by rw [hno.out]; exact (hm1.out.of_block (hk5.block _ hm1.out.lt id)).mono (by omega), by rw [hno.out]; exact owns_keep (owns_keep hoh.out fun z hz _ => hk1h.out.block z hz id) fun z hz _ => hk5.block z hz id⟩
          case measure => simp [intOf]; omega
        | true =>
          have hsth := hid hst
          have hye := hid (adL_yes (a := a) (d := d) (q := q) (u := u) (k := k) (by rw [← hch.out]; exact hst) (by rw [← hch.out]; exact hddh.out))
          have hlen := hid (adL_len a d q u k)
          clear hst
          rw [hw1] at hask f6 x0 x1 x2 x3 x4 x5 n0 n1
          go_wp2_with (first | (go_at_call 67; refine (c67 a q (u - c) _ ok).mono ?_; rw [hsth.out]; rintro e w5 ⟨rfl, hB5⟩; rw [← hw1] at hB5 n0 n1 f6; have hs5 := hB5.size; have hk5 : Keep (fun _ => False) w1 w5 := (Keep.of_below hB5 (Nat.le_refl _)); have hE5 := hid (hE1.out.step hbl (hk5.imp fun _ _ h => h.elim)); have m0 := (hB5.cell (p := ⟨wr.heap.size, 0, none⟩) hn0).trans n0; have m1 := (hB5.cell (p := ⟨wr.heap.size, 1, none⟩) hn0).trans n1; have m6 := hE5.out.c6; obtain ⟨w6, hr6, hm6, ht6⟩ := (hm1.out.of_block (hk5.block _ hm1.out.lt id)).store hsm.1 hsm.2 (by omega) (x := (x : Int)) ⟨by omega, by omega⟩; have hk6 : Keep (fun z => z = b) w5 w6 := turned_keep ht6; have hs6 := hk6.size; have hm6h := hid hm6; have hE6 := hid (hE5.out.step hbl (hk6.imp fun _ _ h => .inl h)); have v0 := (keep_cell hk6 (b := wr.heap.size) (o := 0) (by omega) (by omega)).trans m0; have v1 := (keep_cell hk6 (b := wr.heap.size) (o := 1) (by omega) (by omega)).trans m1; have ho6 := hid (owns_keep (owns_keep (owns_keep hoh.out fun z hz _ => hk1h.out.block z hz id) fun z hz _ => hk5.block z hz id) fun z hz hh => hk6.block z hz (by have := (owns_at (owns_keep (owns_keep hoh.out fun z hz _ => hk1h.out.block z hz id) fun z hz _ => hk5.block z hz id) hh).1; omega)); clear hm6 ht6 hB5 n0 n1 f6 x0 x1 x2 x3 x4 x5) | (at_builtin; refine wpList_append_own _ rfl _ _ 32 rfl (w.heap.size + 2) 25 i0 (.agg #[.int .i64 0, .int .i64 0]) 2 16 Try.underlying32 ie0 ie1 ie2 ie3 rfl (by decide) _ _ _ rfl (ho6.out.alloc _) ⟨w6.heap.size, 0, none⟩ 1 1 [.int .i64 q, .int .i64 (u - c)] rfl rfl (World.news_of_block (cs := #[.int .i64 q, .int .i64 (u - c)]) (t := 25) (fr := (0, 0)) (heap_new _ _)) (by simp [Value.oneCell']) (by have := hlen.out; unfold maxLen; omega) (by have := hlen.out; omega) (by simp; omega) ?_; intro v' w7 hown7 hgrow7 hnil; have hown7h := hid hown7; have hgrow7h := hid hgrow7; clear hown7 hgrow7 hnil))
          have hk7 : Keep (fun z => z = b ∨ w.heap.size + 2 ≤ z) w6 w7 := ((Keep.refl _ _).alloc _).grown hgrow7h.out fun z e => .inl (.inr (owns_at ho6.out e).1)
          go_roundw
          case rel =>
            refine ⟨k + 1, c + 1, by omega, by have := hch.out; omega, by go_num, hE6.out.step hbl hk7, ?_, by rw [hye.out, ← hch.out, List.length_append, List.length_singleton, flS_snoc]; exact hown7h.out⟩
            rw [hye.out, ← hch.out]
            refine ((hm6h.out.of_block (hgrow7h.out.block b ?_ ?_ |>.trans (Below.heap_alloc _ _ _ hm6h.out.lt))).mono (by omega)).congr fun p v _ _ => ?_
            · have := hm6h.out.lt; simp; omega
            · intro e; have := (owns_at ho6.out e.symm).1; omega
            · constructor
              · simp [dAd, Bool.or_assoc, Bool.beq_eq_decide_eq]
              · simp only [gAd, List.mem_append, List.mem_singleton, Prod.mk.injEq]
                by_cases e1 : p = q ∧ v = u - c <;> by_cases e2 : (p, v) ∈ adL a d q u k <;> simp [e1, e2]
          case measure => simp [intOf]; omega
    · have hcl : (a.fo : Int) < c := by omega
      obtain ⟨y0, y1, y2, y3, y4, y5⟩ := hE.ab.all
      have hke : k = 2 * a.fo + 1 := by omega
      clear hc hE hm hown
      go_wp2_with fail
      go_returns
      rw [← hke]
      exact ⟨_, rfl, owns_base hoh.out (by omega), hmh2.out.mono (by omega), hEh.out.ke⟩
end Go.Proofs.Ytajllhjoagldkaa
