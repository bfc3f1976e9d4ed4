/- Texts put together: P, R, S. -/
import Derived.Test.YtkafjlhmbiaicaaG06
import Derived.Deep.AppendLies
/- Stage 2: the faults of now, if some path is possible. -/
set_option linter.unusedSimpArgs false
set_option linter.unusedVariables false
namespace Go.Proofs.Ytkafjlhmbiaicaa
open Go.RowKit

/-- The least of n numbers. -/
def mn (n : Nat) (f : Nat → Int) : Int := wmin f 0 (n - 1)
theorem mn_le {n : Nat} {f : Nat → Int} {c : Int} (hn : 0 < n) : mn n f ≤ c ↔ ∃ p, p < n ∧ f p ≤ c := by
  unfold mn
  rw [wmin_le]
  constructor
  · rintro ⟨q, _, h2, h3⟩; exact ⟨q, by omega, h3⟩
  · rintro ⟨q, h1, h2⟩; exact ⟨q, by omega, by omega, h2⟩
theorem mn_bd {n : Nat} {f : Nat → Int} {lo hi : Int} (hn : 0 < n) (h : ∀ p, p < n → lo ≤ f p ∧ f p ≤ hi) : lo ≤ mn n f ∧ mn n f ≤ hi := wmin_bd fun q _ h2 => h q (by omega)
theorem c53s {b n c : Nat} {f : Nat → Int} {w : World} (hR : RowF w b n f) (h0 : 0 < n) (hm : n ≤ 1000000) :
    Calls Try.prog 53 #[.slice (some ⟨b, 0, none⟩) n c] w fun e w' => e = .returned (.int .i64 (mn n f)) ∧ w' = w :=
  (c53 _ b 0 n c f w hR.ints h0 hm).mono fun _ _ ⟨h1, h2⟩ => ⟨h1, h2.symm⟩
/-- A new slice of numbers and OK are handed back. -/
def IRet2 (n : Nat) (f : Nat → Int) (w : World) (e : Ending) (w' : World) : Prop :=
  ∃ g c : Nat, e = .returned (.tuple #[.slice (some ⟨g, 0, none⟩) n c, .int .i64 0]) ∧ w.heap.size ≤ g ∧ n ≤ c ∧ RowF w' g n f ∧ Below w.heap.size w w'

set_option maxRecDepth 100000 in
set_option maxHeartbeats 2000000 in
theorem c48 (s : Sv) (g : Wg) (w : World) (hz : s.In w) (hg : g.In w) (ok : s.Ok) (okg : g.Ok) (hp : mn s.N (fl s g) ≤ s.wr) :
    Calls Try.prog 48 #[hdv s g] w (IRet2 s.N (fl s g) w) := by
  have hN := ok.Nb
  have hN1 := hN.1; have hN2 := hN.2.1
  have okh := hid ok
  have okgh := hid okg
  obtain ⟨W0, hW0⟩ : ∃ W0 : World, W0 = w.alloc (.cells #[.int .i64 s.tr, .int .i64 s.st, .int .i64 s.mv, .int .i64 s.no, .int .i64 s.wr, .slice s.ra s.rn s.rc, .slice g.wa g.wn g.wk] 75) := ⟨_, rfl⟩
  have hB0 : Below w.heap.size w W0 := by rw [hW0]; (repeat' (first | (with_reducible exact Below.refl _ _) | (with_reducible assumption) | (with_reducible refine Below.alloc ?_ ?_ _) | (with_reducible refine Below.drew ?_) | (with_reducible refine below_drewN ?_ _) | (with_reducible refine Below.setCell ?_ ?_ _) | (with_reducible refine Below.trans ?_ (Below.mono (by with_reducible assumption) ?_)) | go_size))
  have hbx : Hbx s g W0 w.heap.size := by rw [hW0]; exact Hbx.new s g w
  have hs0 : W0.heap.size = w.heap.size + 1 := by rw [hW0]; simp
  clear hN ok okg
  go_enter Try.func48, Try.ntmps48
  go_wp2_with (go_at_call 54; rw [← hW0]; refine (c54 s g _ (hz.below hB0 (Nat.le_refl _)) (hg.below hB0 (Nat.le_refl _)) okh.out okgh.out).mono ?_; rintro e w1 ⟨x, c, rfl, hx, hc, hR, hB1⟩; obtain ⟨_, _, _, _, k4, _, _⟩ := (hbx.below hB1 (show w.heap.size < W0.heap.size by omega)).all; have hRh := hid hR; clear hR)
  go_quiet ((go_at_call 53; exact Calls.quiet_of_same (c53s (hRh.out.of_block rfl) (by omega) (by omega))))
  go_wp2
  go_ret2
  exact ⟨x, c, rfl, by omega, hc, hRh.out.of_block rfl, below_drewN (hB0.trans (hB1.mono (by omega))) _⟩
set_option maxRecDepth 100000 in
set_option maxHeartbeats 2000000 in
theorem c48n (s : Sv) (g : Wg) (w : World) (hz : s.In w) (hg : g.In w) (ok : s.Ok) (okg : g.Ok) (hp : ¬ mn s.N (fl s g) ≤ s.wr) :
    Calls Try.prog 48 #[hdv s g] w fun e w' => e = .returned (.tuple #[.slice none 0 0, .int .i64 3]) ∧ Below w.heap.size w w' := by
  have hN := ok.Nb
  have hN1 := hN.1; have hN2 := hN.2.1
  have okh := hid ok
  have okgh := hid okg
  have hp' : s.wr < mn s.N (fl s g) := by omega
  obtain ⟨W0, hW0⟩ : ∃ W0 : World, W0 = w.alloc (.cells #[.int .i64 s.tr, .int .i64 s.st, .int .i64 s.mv, .int .i64 s.no, .int .i64 s.wr, .slice s.ra s.rn s.rc, .slice g.wa g.wn g.wk] 75) := ⟨_, rfl⟩
  have hB0 : Below w.heap.size w W0 := by rw [hW0]; (repeat' (first | (with_reducible exact Below.refl _ _) | (with_reducible assumption) | (with_reducible refine Below.alloc ?_ ?_ _) | (with_reducible refine Below.drew ?_) | (with_reducible refine below_drewN ?_ _) | (with_reducible refine Below.setCell ?_ ?_ _) | (with_reducible refine Below.trans ?_ (Below.mono (by with_reducible assumption) ?_)) | go_size))
  have hbx : Hbx s g W0 w.heap.size := by rw [hW0]; exact Hbx.new s g w
  have hs0 : W0.heap.size = w.heap.size + 1 := by rw [hW0]; simp
  clear hN ok okg hp
  go_enter Try.func48, Try.ntmps48
  go_wp2_with (go_at_call 54; rw [← hW0]; refine (c54 s g _ (hz.below hB0 (Nat.le_refl _)) (hg.below hB0 (Nat.le_refl _)) okh.out okgh.out).mono ?_; rintro e w1 ⟨x, c, rfl, hx, hc, hR, hB1⟩; obtain ⟨_, _, _, _, k4, _, _⟩ := (hbx.below hB1 (show w.heap.size < W0.heap.size by omega)).all; have hRh := hid hR; clear hR)
  go_quiet ((go_at_call 53; exact Calls.quiet_of_same (c53s (hRh.out.of_block rfl) (by omega) (by omega))))
  go_wp2
  go_ret2
  exact ⟨rfl, below_drewN (hB0.trans (hB1.mono (by omega))) _⟩
end Go.Proofs.Ytkafjlhmbiaicaa

/- Stage 2: the spans; whether all that is possible is near. -/
set_option linter.unusedSimpArgs false
set_option linter.unusedVariables false
namespace Go.Proofs.Ytkafjlhmbiaicaa
open Go.RowKit

def enc (l : List (Nat × Nat)) : List Value := l.flatMap fun x => [.int .i64 (x.1 : Nat), .int .i64 (x.2 : Nat)]
theorem enc_nil : enc [] = [] := rfl
theorem enc_snoc (l : List (Nat × Nat)) (x : Nat × Nat) : enc (l ++ [x]) = enc l ++ [.int .i64 (x.1 : Nat), .int .i64 (x.2 : Nat)] := by simp [enc]
theorem enc_len (l : List (Nat × Nat)) : (enc l).length = l.length * 2 := by
  induction l with
  | nil => rfl
  | cons x r ih => simp only [enc, List.flatMap_cons, List.length_append, List.length_cons, List.length_nil] at ih ⊢; omega
theorem enc_set (l : List (Nat × Nat)) (x : Nat × Nat) (k : Nat) : (enc (l ++ [x])).set (l.length * 2 + 1) (.int .i64 (k : Nat)) = enc (l ++ [(x.1, k)]) := by
  rw [enc_snoc, enc_snoc, List.set_append_right _ _ (by rw [enc_len]; omega), enc_len, show l.length * 2 + 1 - l.length * 2 = 1 by omega]
  rfl
theorem enc_get1 (l : List (Nat × Nat)) (x : Nat × Nat) : (enc (l ++ [x]))[l.length * 2 + 1]? = some (.int .i64 (x.2 : Nat)) := by
  rw [enc_snoc, List.getElem?_append_right (by rw [enc_len]; omega), enc_len, show l.length * 2 + 1 - l.length * 2 = 1 by omega]
  rfl
theorem Try.info56 : (Try.prog.info? 56).map (fun i => (i.zero, i.size, i.bytes)) = some (some (.agg #[.int .i64 0, .int .i64 0]), 2, 16) := by kernel_rfl
/-- A new slice of spans. -/
def SpRet (l : List (Nat × Nat)) (w : World) (e : Ending) (w' : World) : Prop :=
  ∃ v : Value, e = .returned v ∧ w'.ownsRow w.heap.size 56 2 v l.length (enc l) ∧ Below w.heap.size w w'
theorem owns_base {w : World} {b b' e s : Nat} {v : Value} {n : Nat} {xs : List Value} (h : w.ownsRow b e s v n xs) (hb : b' ≤ b) : w.ownsRow b' e s v n xs := by
  obtain ⟨h1, h2⟩ := h
  refine ⟨h1, ?_⟩
  rcases h2 with h2 | ⟨g, cap, cur, h3, h4, h5⟩
  · exact .inl h2
  · exact .inr ⟨g, cap, cur, h3, by omega, h5⟩
theorem owns_empty {w : World} {b e s : Nat} {v : Value} {xs : List Value} (h : w.ownsRow b e s v 0 xs) : v = .slice none 0 0 ∨ ∃ g cap, v = .slice (some ⟨g, 0, none⟩) 0 cap := by
  obtain ⟨_, ⟨h1, _⟩ | ⟨g, cap, cur, h1, _⟩⟩ := h
  · exact .inl h1
  · exact .inr ⟨g, cap, h1⟩
theorem own_pos {w : World} {base e s n : Nat} {v : Value} {xs : List Value} (h : w.ownsRow base e s v (n + 1) xs) : ∃ g cap, v = .slice (some ⟨g, 0, none⟩) (n + 1) cap := by
  obtain ⟨_, ⟨_, h1⟩ | ⟨g, cap, cur, h1, _⟩⟩ := h
  · omega
  · exact ⟨g, cap, h1⟩
theorem ixSp {g n c k : Nat} (hk : k < n) (w' : World) : (Instr.indexAt 36 (.slice (some ⟨g, 0, none⟩) n c) (.int .i64 k)).run Try.prog w' = .ok (.pointer (some ⟨g, k * 2, none⟩)) w' := by
  have h2 : (k : Int) < (n : Int) := by omega
  go_simp

set_option maxRecDepth 100000 in
set_option maxHeartbeats 4000000 in
theorem c57 (s : Sv) (g : Wg) (b c : Nat) (f : Nat → Int) (w : World) (ok : s.Ok) (hR : RowF w b s.N f) :
    Calls Try.prog 57 #[hdv s g, .slice (some ⟨b, 0, none⟩) s.N c] w (SpRet (spn (fun p => decide (f p ≤ s.wr)) s.N) w) := by
  obtain ⟨i0, ie0, ie1, ie2, ie3⟩ := info_parts Try.info56
  have hN := ok.Nb
  have hN1 := hN.1; have hN2 := hN.2.1
  obtain ⟨n, hn⟩ : ∃ n, n = s.N := ⟨_, rfl⟩
  rw [← hn] at hR hN1 hN2 ⊢
  obtain ⟨bb, hbb⟩ : ∃ bb : Nat → Bool, bb = fun p => decide (f p ≤ s.wr) := ⟨_, rfl⟩
  rw [← hbb]
  have hbe : ∀ p, bb p = true ↔ f p ≤ s.wr := by intro p; rw [hbb]; simp
  obtain ⟨W0, hW0⟩ : ∃ W0 : World, W0 = w.alloc (.cells #[.int .i64 s.tr, .int .i64 s.st, .int .i64 s.mv, .int .i64 s.no, .int .i64 s.wr, .slice s.ra s.rn s.rc, .slice g.wa g.wn g.wk] 75) := ⟨_, rfl⟩
  have hB0 : Below w.heap.size w W0 := by rw [hW0]; (repeat' (first | (with_reducible exact Below.refl _ _) | (with_reducible assumption) | (with_reducible refine Below.alloc ?_ ?_ _) | (with_reducible refine Below.drew ?_) | (with_reducible refine below_drewN ?_ _) | (with_reducible refine Below.setCell ?_ ?_ _) | (with_reducible refine Below.trans ?_ (Below.mono (by with_reducible assumption) ?_)) | go_size))
  have hbx : Hbx s g W0 w.heap.size := by rw [hW0]; exact Hbx.new s g w
  have hs0 : W0.heap.size = w.heap.size + 1 := by rw [hW0]; simp
  have hRh := hid (hR.below hB0 hR.lt)
  have hbl := hR.lt
  have hbeh := hid hbe
  clear hN ok hn hR hbb hbe
  go_enter Try.func57, Try.ntmps57
  go_wp2_with fail
  rw [← hW0]
  clear hW0
  go_loopw [5, 6, 7, 8, 11] (fun o _ _ _ iv wr => ∃ k : Nat, k ≤ n ∧ iv = .int .i64 k ∧ wr.ownsRow (w.heap.size + 1) 56 2 o (spn bb k).length (enc (spn bb k)) ∧ Below (w.heap.size + 1) W0 wr) (fun _ _ _ _ iv _ => n - (intOf iv).toNat)
  case atStart => exact ⟨0, Nat.zero_le _, rfl, World.ownsRow_nil _ _ _ _, Below.refl _ _⟩
  case round =>
    obtain ⟨k, hk, rfl, hown, hB⟩ := hrel
    have hBw : Below w.heap.size w wr := hB0.trans (hB.mono (by omega))
    have hsz : w.heap.size < wr.heap.size := by have := hB.size; omega
    by_cases hlt : k < n
    · have hRk := hRh.out.below hB (by omega)
      have h1 := hRk.cell hlt
      have h3 := hRk.lt
      have h4 := @RowF.ix _ _ _ c _ hRk _ hlt
      obtain ⟨_, _, _, _, k4, _, _⟩ := (hbx.below hB (by omega)).all
      have hownh := hid hown
      clear hRk hown
      have hlen := spn_len bb k
      by_cases hfk : f k ≤ s.wr
      · have hst := hid (spn_yes ((hbeh.out k).2 hfk))
        by_cases hnil : spn bb k = []
        · have hl0 : (spn bb k).length = 0 := by rw [hnil]; rfl
          have hown2 := hownh.out
          rw [hl0] at hown2
          have hsp : spn bb (k + 1) = [(k, k)] := by rw [hst.out, hnil, spx_nil]
          have hsph := hid hsp
          have hnilh := hid hnil
          rcases owns_empty hown2 with rfl | ⟨gg, cap, rfl⟩
          all_goals
            rw [hnil, enc_nil] at hown2
            have hown2h := hid hown2
            clear hown2 hl0 hsp hnil hlen hst
            go_wp2_with (at_builtin; refine wpList_append_own _ rfl _ _ 36 rfl (w.heap.size + 1) 56 i0 (.agg #[.int .i64 0, .int .i64 0]) 2 16 Try.underlying36 ie0 ie1 ie2 ie3 rfl (by decide) _ _ _ rfl (hown2h.out.alloc _) ⟨wr.heap.size, 0, none⟩ 1 1 [.int .i64 (k : Nat), .int .i64 (k : Nat)] rfl rfl (World.news_of_block (cs := #[.int .i64 (k : Nat), .int .i64 (k : Nat)]) (t := 56) (fr := (0, 0)) (heap_new _ _)) (by simp [Value.oneCell']) (by unfold maxLen; omega) (by omega) (by simp; omega) ?_; intro v' w2 hown' hgrow hnl)
            have hBb : Below (w.heap.size + 1) W0 w2 := (hB.alloc (by omega) _).grown hgrow (by simp; omega) (fun q e => (hown2h.out.lt q e).1)
            go_roundw
            case rel => exact ⟨k + 1, by omega, by go_num, by rw [hsph.out]; simpa [enc] using hown', hBb⟩
            case measure => simp [intOf]; omega
        · obtain ⟨l, x, hl⟩ := snoc_of hnil
          have hl1 : (spn bb k).length = l.length + 1 := by rw [hl]; simp
          have hown2 := hownh.out
          rw [hl1] at hown2
          obtain ⟨gg, cap, hv⟩ := own_pos hown2
          subst hv
          rw [hl] at hown2
          have hk1 : w.heap.size + 1 ≤ gg ∧ gg < wr.heap.size := hown2.lt gg rfl
          have hc1 : wr.cell? ⟨gg, l.length * 2 + 1, none⟩ = some (.int .i64 (x.2 : Nat)) := by rw [hown2.cellAt _ (by omega), enc_get1]
          have hf1 := hown2.frozenAt (l.length * 2 + 1)
          have hix := @ixSp gg (l.length + 1) cap l.length (by omega)
          have hown2h := hid hown2
          have hlh := hid hl
          have hln : l.length + 1 ≤ 1009 := by omega
          by_cases hx : x.2 + 1 = k
          · have hsp := hid (show spn bb (k + 1) = l ++ [(x.1, k)] by rw [hst.out, hl, spx_grow hx])
            have hst2 := hid (hown2.stored (l.length * 2 + 1) (.int .i64 (k : Nat)))
            have hx1 : (x.2 : Int) = (k : Int) - 1 := by omega
            obtain ⟨x1, x2⟩ := x
            simp only at hx hx1 hc1 hsp hst2 hown2h hlh hown2
            clear hown2 hnil hl hl1 hst hownh hlen
            subst hx
            clear hx1
            go_wp2_with fail
            go_roundw
            case rel => exact ⟨x2 + 1 + 1, by omega, by go_num, by rw [hsp.out, ← enc_set l (x1, x2)]; simpa using hst2.out.1, hB.setCell (by simp; omega) _⟩
            case measure => simp [intOf]; omega
          · have hsp := hid (show spn bb (k + 1) = l ++ [x] ++ [(k, k)] by rw [hst.out, hl, spx_new hx])
            have hx1 : ((x.2 : Int) == (k : Int) - 1) = false := by simp; omega
            have hx2 : ¬ (x.2 : Int) = (k : Int) - 1 := by omega
            clear hown2 hnil hl hl1 hst hownh hlen hx
            go_wp2_with (at_builtin; refine wpList_append_own _ rfl _ _ 36 rfl (w.heap.size + 1) 56 i0 (.agg #[.int .i64 0, .int .i64 0]) 2 16 Try.underlying36 ie0 ie1 ie2 ie3 rfl (by decide) _ _ _ rfl (hown2h.out.alloc _) ⟨wr.heap.size, 0, none⟩ 1 1 [.int .i64 (k : Nat), .int .i64 (k : Nat)] rfl rfl (World.news_of_block (cs := #[.int .i64 (k : Nat), .int .i64 (k : Nat)]) (t := 56) (fr := (0, 0)) (heap_new _ _)) (by simp [Value.oneCell']) (by unfold maxLen; omega) (by omega) (by simp; omega) ?_; intro v' w2 hown' hgrow hnl)
            have hBb : Below (w.heap.size + 1) W0 w2 := (hB.alloc (by omega) _).grown hgrow (by simp; omega) (fun q e => (hown2h.out.lt q e).1)
            go_roundw
            case rel => exact ⟨k + 1, by omega, by go_num, by rw [hsp.out, enc_snoc (l ++ [x])]; simpa using hown', hBb⟩
            case measure => simp [intOf]; omega
      · have hst := hid (spn_no (b := bb) (k := k) (by cases e : bb k with | false => rfl | true => exact absurd ((hbeh.out k).1 e) hfk))
        go_wp2_with fail
        go_roundw
        case rel => exact ⟨k + 1, by omega, by go_num, by rw [hst.out]; exact hownh.out, hB⟩
        case measure => simp [intOf]; omega
    · have hownh := hid hown
      clear hown
      go_wp2_with fail
      go_returns
      obtain rfl : k = n := by omega
      exact ⟨_, rfl, owns_base hownh.out (by omega), hBw⟩
end Go.Proofs.Ytkafjlhmbiaicaa

/- Stage 2: whether all that is possible is near; where the head can be, now and later. -/
set_option linter.unusedSimpArgs false
set_option linter.unusedVariables false
namespace Go.Proofs.Ytkafjlhmbiaicaa
open Go.RowKit

/-- Whether each position with at most wr faults is near. -/
def nearP (s : Sv) (f : Nat → Int) (pl li : Int) : Prop := ∀ p : Nat, p < s.N → f p ≤ s.wr → -li ≤ (p : Int) - pl ∧ (p : Int) - pl ≤ li
set_option maxRecDepth 100000 in
set_option maxHeartbeats 2000000 in
theorem c58 (s : Sv) (g : Wg) (b c : Nat) (f : Nat → Int) (pl li : Int) (w : World) (ok : s.Ok) (hR : RowF w b s.N f) (hp : -100 ≤ pl ∧ pl ≤ 2000) (hl : 0 ≤ li ∧ li ≤ 16) :
    Calls Try.prog 58 #[hdv s g, .slice (some ⟨b, 0, none⟩) s.N c, .int .i64 pl, .int .i64 li] w (RetBB (nearP s f pl li) w) := by
  have hN := ok.Nb
  have hN1 := hN.1; have hN2 := hN.2.1
  obtain ⟨n, hn⟩ : ∃ n, n = s.N := ⟨_, rfl⟩
  have hnn := hid hn
  rw [← hn] at hR hN1 hN2 ⊢
  obtain ⟨W0, hW0⟩ : ∃ W0 : World, W0 = w.alloc (.cells #[.int .i64 s.tr, .int .i64 s.st, .int .i64 s.mv, .int .i64 s.no, .int .i64 s.wr, .slice s.ra s.rn s.rc, .slice g.wa g.wn g.wk] 75) := ⟨_, rfl⟩
  have hB0 : Below w.heap.size w W0 := by rw [hW0]; (repeat' (first | (with_reducible exact Below.refl _ _) | (with_reducible assumption) | (with_reducible refine Below.alloc ?_ ?_ _) | (with_reducible refine Below.drew ?_) | (with_reducible refine below_drewN ?_ _) | (with_reducible refine Below.setCell ?_ ?_ _) | (with_reducible refine Below.trans ?_ (Below.mono (by with_reducible assumption) ?_)) | go_size))
  have hbx : Hbx s g W0 w.heap.size := by rw [hW0]; exact Hbx.new s g w
  have hs0 : W0.heap.size = w.heap.size + 1 := by rw [hW0]; simp
  have hRk := hR.below hB0 hR.lt
  obtain ⟨_, _, _, _, k4, _, _⟩ := hbx.all
  have hRh := hid hRk
  clear hN ok hn hR hRk hbx
  go_enter Try.func58, Try.ntmps58
  go_wp2_with fail
  rw [← hW0]
  clear hW0
  go_loop [9, 10, 13] (fun _ _ iv => ∃ k : Nat, k ≤ n ∧ iv = .int .i64 k ∧ Hid (∀ p : Nat, p < k → f p ≤ s.wr → -li ≤ (p : Int) - pl ∧ (p : Int) - pl ≤ li)) (fun _ _ iv => n - (intOf iv).toNat)
  case atStart => exact ⟨0, Nat.zero_le _, rfl, fun p hp => absurd hp (Nat.not_lt_zero _)⟩
  case round =>
    obtain ⟨k, hk, rfl, hall⟩ := hrel
    by_cases hlt : k < n
    · have h1 := hRh.out.cell hlt
      have h3 := hRh.out.lt
      have h4 := @RowF.ix _ _ _ c _ hRh.out _ hlt
      by_cases hfk : f k ≤ s.wr
      · by_cases hne : -li ≤ (k : Int) - pl ∧ (k : Int) - pl ≤ li
        · go_wp2_with (go_at_call 46; refine (c46y _ (by omega)).mono ?_; rintro e w' ⟨rfl, rfl⟩)
          go_round
          case rel =>
            refine ⟨k + 1, by omega, by go_num, fun p hp hfp => ?_⟩
            by_cases e : p = k
            · subst e; exact hne
            · exact hall.out p (by omega) hfp
          case measure => simp [intOf]; omega
        · have hneh := hid hne
          clear hne
          go_wp2_with (go_at_call 46; refine (c46n _ (by have := hneh.out; omega)).mono ?_; rintro e w' ⟨rfl, rfl⟩)
          go_returns
          exact RetBB.no (fun h => hneh.out (h k (by rw [← hnn.out]; exact hlt) hfk)) hB0
      · have hfk' : s.wr < f k := by omega
        go_wp2_with fail
        go_round
        case rel =>
          refine ⟨k + 1, by omega, by go_num, fun p hp hfp => ?_⟩
          by_cases e : p = k
          · subst e; exact absurd hfp hfk
          · exact hall.out p (by omega) hfp
        case measure => simp [intOf]; omega
    · go_wp2_with fail
      go_returns
      exact RetBB.yes (fun p hp hfp => hall.out p (by rw [← hnn.out] at hp; omega) hfp) hB0

/-- The faults, d wedges later. -/
def mvn (N m : Nat) (f : Nat → Int) : Nat → Nat → Int
  | 0 => f
  | d + 1 => mvd N m (mvn N m f d)
theorem mvn_100 {N m : Nat} {f : Nat → Int} (h : ∀ p, p < N → 0 ≤ f p ∧ f p ≤ 100) : ∀ (d p : Nat), p < N → 0 ≤ mvn N m f d p ∧ mvn N m f d p ≤ 100
  | 0, p, hp => h p hp
  | d + 1, p, hp => mvd_bd hp (mvn_100 h d)
/-- Spans and an error are handed back. -/
def SpRet2 (l : List (Nat × Nat)) (er : Int) (w : World) (e : Ending) (w' : World) : Prop :=
  ∃ v : Value, e = .returned (.tuple #[v, .int .i64 er]) ∧ w'.ownsRow w.heap.size 56 2 v l.length (enc l) ∧ Below w.heap.size w w'
theorem SpRet2.err {er : Int} {w w' : World} (h : Below w.heap.size w w') : SpRet2 [] er w (.returned (.tuple #[.slice none 0 0, .int .i64 er])) w' := ⟨_, rfl, World.ownsRow_nil _ _ _ _, h⟩
/-- Where the head can be, d wedges later: below which positions. -/
def aheadL (s : Sv) (g : Wg) (d : Nat) : List (Nat × Nat) := spn (fun p => decide (mvn s.N s.m (fl s g) d p ≤ s.wr)) s.N

set_option maxRecDepth 100000 in
set_option maxHeartbeats 2000000 in
theorem c24_ck (s : Sv) (g : Wg) (x : Int) (w : World) (hz : s.In w) (hg : g.In w) (hm : s.rn ≤ 1000000) (hm2 : g.wn ≤ 1000000) (h : ckE s g ≠ 0) :
    Calls Try.prog 24 #[s.v, g.v, .int .i64 x] w (SpRet2 [] (ckE s g) w) := by
  have hh := hid h
  have hne : ((ckE s g) == 0) = false := by simpa using h
  obtain ⟨er, her⟩ : ∃ er, er = ckE s g := ⟨_, rfl⟩
  have herh := hid her
  rw [← her] at hne ⊢
  clear h her
  go_enter Try.func24, Try.ntmps24
  go_wp2_with (go_at_call 47; refine (c47_err s g _ (hz.below (by (repeat' (first | (with_reducible exact Below.refl _ _) | (with_reducible assumption) | (with_reducible refine Below.alloc ?_ ?_ _) | (with_reducible refine Below.drew ?_) | (with_reducible refine below_drewN ?_ _) | (with_reducible refine Below.setCell ?_ ?_ _) | (with_reducible refine Below.trans ?_ (Below.mono (by with_reducible assumption) ?_)) | go_size))) (Nat.le_refl _)) (hg.below (by (repeat' (first | (with_reducible exact Below.refl _ _) | (with_reducible assumption) | (with_reducible refine Below.alloc ?_ ?_ _) | (with_reducible refine Below.drew ?_) | (with_reducible refine below_drewN ?_ _) | (with_reducible refine Below.setCell ?_ ?_ _) | (with_reducible refine Below.trans ?_ (Below.mono (by with_reducible assumption) ?_)) | go_size))) (Nat.le_refl _)) hm hm2 hh.out).mono ?_; rw [← herh.out]; rintro e w1 ⟨rfl, hB1⟩; have hz1 : w.heap.size + 1 ≤ w1.heap.size := (by have := hB1.size; simp at this; omega); have hBx : Below w.heap.size w w1 := Below.trans (by (repeat' (first | (with_reducible exact Below.refl _ _) | (with_reducible assumption) | (with_reducible refine Below.alloc ?_ ?_ _) | (with_reducible refine Below.drew ?_) | (with_reducible refine below_drewN ?_ _) | (with_reducible refine Below.setCell ?_ ?_ _) | (with_reducible refine Below.trans ?_ (Below.mono (by with_reducible assumption) ?_)) | go_size))) (hB1.mono (by simp)))
  go_ret2
  exact SpRet2.err (by (repeat' (first | (with_reducible exact Below.refl _ _) | (with_reducible assumption) | (with_reducible refine Below.alloc ?_ ?_ _) | (with_reducible refine Below.drew ?_) | (with_reducible refine below_drewN ?_ _) | (with_reducible refine Below.setCell ?_ ?_ _) | (with_reducible refine Below.trans ?_ (Below.mono (by with_reducible assumption) ?_)) | go_size)))

set_option maxRecDepth 100000 in
set_option maxHeartbeats 2000000 in
theorem c24_arg (s : Sv) (g : Wg) (x : Int) (w : World) (hz : s.In w) (hg : g.In w) (hm : s.rn ≤ 1000000) (hm2 : g.wn ≤ 1000000) (ok : s.Ok) (okg : g.Ok) (h : ¬ (0 ≤ x ∧ x ≤ 24)) :
    Calls Try.prog 24 #[s.v, g.v, .int .i64 x] w (SpRet2 [] 1 w) := by
  have hh := hid h
  have okh := hid ok
  have okgh := hid okg
  clear h ok okg
  go_enter Try.func24, Try.ntmps24
  go_wp2_with (first | (go_at_call 47; refine (c47 s g _ (hz.below (by (repeat' (first | (with_reducible exact Below.refl _ _) | (with_reducible assumption) | (with_reducible refine Below.alloc ?_ ?_ _) | (with_reducible refine Below.drew ?_) | (with_reducible refine below_drewN ?_ _) | (with_reducible refine Below.setCell ?_ ?_ _) | (with_reducible refine Below.trans ?_ (Below.mono (by with_reducible assumption) ?_)) | go_size))) (Nat.le_refl _)) (hg.below (by (repeat' (first | (with_reducible exact Below.refl _ _) | (with_reducible assumption) | (with_reducible refine Below.alloc ?_ ?_ _) | (with_reducible refine Below.drew ?_) | (with_reducible refine below_drewN ?_ _) | (with_reducible refine Below.setCell ?_ ?_ _) | (with_reducible refine Below.trans ?_ (Below.mono (by with_reducible assumption) ?_)) | go_size))) (Nat.le_refl _)) hm hm2 okh.out okgh.out).mono ?_; rintro e w1 ⟨rfl, hB1⟩; have hz1 : w.heap.size + 1 ≤ w1.heap.size := (by have := hB1.size; simp at this; omega); have hBx : Below w.heap.size w w1 := Below.trans (by (repeat' (first | (with_reducible exact Below.refl _ _) | (with_reducible assumption) | (with_reducible refine Below.alloc ?_ ?_ _) | (with_reducible refine Below.drew ?_) | (with_reducible refine below_drewN ?_ _) | (with_reducible refine Below.setCell ?_ ?_ _) | (with_reducible refine Below.trans ?_ (Below.mono (by with_reducible assumption) ?_)) | go_size))) (hB1.mono (by simp))) | (go_at_call 46; refine (c46n _ (by have := hh.out; omega)).mono ?_; rintro e w' ⟨rfl, rfl⟩))
  go_ret2
  exact SpRet2.err (by (repeat' (first | (with_reducible exact Below.refl _ _) | (with_reducible assumption) | (with_reducible refine Below.alloc ?_ ?_ _) | (with_reducible refine Below.drew ?_) | (with_reducible refine below_drewN ?_ _) | (with_reducible refine Below.setCell ?_ ?_ _) | (with_reducible refine Below.trans ?_ (Below.mono (by with_reducible assumption) ?_)) | go_size)))

set_option maxRecDepth 100000 in
set_option maxHeartbeats 2000000 in
theorem c24_none (s : Sv) (g : Wg) (x : Int) (w : World) (hz : s.In w) (hg : g.In w) (hm : s.rn ≤ 1000000) (hm2 : g.wn ≤ 1000000) (ok : s.Ok) (okg : g.Ok) (hx : 0 ≤ x ∧ x ≤ 24) (hp : ¬ mn s.N (fl s g) ≤ s.wr) :
    Calls Try.prog 24 #[s.v, g.v, .int .i64 x] w (SpRet2 [] 3 w) := by
  have okh := hid ok
  have okgh := hid okg
  have hph := hid hp
  clear ok okg hp
  go_enter Try.func24, Try.ntmps24
  go_wp2_with (first | (go_at_call 47; refine (c47 s g _ (hz.below (by (repeat' (first | (with_reducible exact Below.refl _ _) | (with_reducible assumption) | (with_reducible refine Below.alloc ?_ ?_ _) | (with_reducible refine Below.drew ?_) | (with_reducible refine below_drewN ?_ _) | (with_reducible refine Below.setCell ?_ ?_ _) | (with_reducible refine Below.trans ?_ (Below.mono (by with_reducible assumption) ?_)) | go_size))) (Nat.le_refl _)) (hg.below (by (repeat' (first | (with_reducible exact Below.refl _ _) | (with_reducible assumption) | (with_reducible refine Below.alloc ?_ ?_ _) | (with_reducible refine Below.drew ?_) | (with_reducible refine below_drewN ?_ _) | (with_reducible refine Below.setCell ?_ ?_ _) | (with_reducible refine Below.trans ?_ (Below.mono (by with_reducible assumption) ?_)) | go_size))) (Nat.le_refl _)) hm hm2 okh.out okgh.out).mono ?_; rintro e w1 ⟨rfl, hB1⟩; have hz1 : w.heap.size + 1 ≤ w1.heap.size := (by have := hB1.size; simp at this; omega); have hBx : Below w.heap.size w w1 := Below.trans (by (repeat' (first | (with_reducible exact Below.refl _ _) | (with_reducible assumption) | (with_reducible refine Below.alloc ?_ ?_ _) | (with_reducible refine Below.drew ?_) | (with_reducible refine below_drewN ?_ _) | (with_reducible refine Below.setCell ?_ ?_ _) | (with_reducible refine Below.trans ?_ (Below.mono (by with_reducible assumption) ?_)) | go_size))) (hB1.mono (by simp))) | (go_at_call 46; refine (c46y _ (by omega)).mono ?_; rintro e w' ⟨rfl, rfl⟩) | (go_at_call 48; refine (c48n s g _ (hz.below (by (repeat' (first | (with_reducible exact Below.refl _ _) | (with_reducible assumption) | (with_reducible refine Below.alloc ?_ ?_ _) | (with_reducible refine Below.drew ?_) | (with_reducible refine below_drewN ?_ _) | (with_reducible refine Below.setCell ?_ ?_ _) | (with_reducible refine Below.trans ?_ (Below.mono (by with_reducible assumption) ?_)) | go_size))) (Nat.le_refl _)) (hg.below (by (repeat' (first | (with_reducible exact Below.refl _ _) | (with_reducible assumption) | (with_reducible refine Below.alloc ?_ ?_ _) | (with_reducible refine Below.drew ?_) | (with_reducible refine below_drewN ?_ _) | (with_reducible refine Below.setCell ?_ ?_ _) | (with_reducible refine Below.trans ?_ (Below.mono (by with_reducible assumption) ?_)) | go_size))) (Nat.le_refl _)) okh.out okgh.out (by have := hph.out; omega)).mono ?_; rintro e w2 ⟨rfl, hB2⟩; have hBy : Below w.heap.size w w2 := Below.trans (show Below w.heap.size w _ by (repeat' (first | (with_reducible exact Below.refl _ _) | (with_reducible assumption) | (with_reducible refine Below.alloc ?_ ?_ _) | (with_reducible refine Below.drew ?_) | (with_reducible refine below_drewN ?_ _) | (with_reducible refine Below.setCell ?_ ?_ _) | (with_reducible refine Below.trans ?_ (Below.mono (by with_reducible assumption) ?_)) | go_size))) (hB2.mono (by simp; omega))))
  go_ret2
  exact SpRet2.err hBy

set_option maxRecDepth 100000 in
set_option maxHeartbeats 2000000 in
theorem c24_ok (s : Sv) (g : Wg) (x : Nat) (w : World) (hz : s.In w) (hg : g.In w) (hm : s.rn ≤ 1000000) (hm2 : g.wn ≤ 1000000) (ok : s.Ok) (okg : g.Ok) (hx : x ≤ 24) (hp : mn s.N (fl s g) ≤ s.wr) :
    Calls Try.prog 24 #[s.v, g.v, .int .i64 (x : Int)] w (SpRet2 (aheadL s g x) 0 w) := by
  have okh := hid ok
  have okgh := hid okg
  have hph := hid hp
  clear ok okg hp
  go_enter Try.func24, Try.ntmps24
  go_wp2_with (first | (go_at_call 47; refine (c47 s g _ (hz.below (by (repeat' (first | (with_reducible exact Below.refl _ _) | (with_reducible assumption) | (with_reducible refine Below.alloc ?_ ?_ _) | (with_reducible refine Below.drew ?_) | (with_reducible refine below_drewN ?_ _) | (with_reducible refine Below.setCell ?_ ?_ _) | (with_reducible refine Below.trans ?_ (Below.mono (by with_reducible assumption) ?_)) | go_size))) (Nat.le_refl _)) (hg.below (by (repeat' (first | (with_reducible exact Below.refl _ _) | (with_reducible assumption) | (with_reducible refine Below.alloc ?_ ?_ _) | (with_reducible refine Below.drew ?_) | (with_reducible refine below_drewN ?_ _) | (with_reducible refine Below.setCell ?_ ?_ _) | (with_reducible refine Below.trans ?_ (Below.mono (by with_reducible assumption) ?_)) | go_size))) (Nat.le_refl _)) hm hm2 okh.out okgh.out).mono ?_; rintro e w1 ⟨rfl, hB1⟩; have hz1 : w.heap.size + 1 ≤ w1.heap.size := (by have := hB1.size; simp at this; omega); have hBx : Below w.heap.size w w1 := Below.trans (by (repeat' (first | (with_reducible exact Below.refl _ _) | (with_reducible assumption) | (with_reducible refine Below.alloc ?_ ?_ _) | (with_reducible refine Below.drew ?_) | (with_reducible refine below_drewN ?_ _) | (with_reducible refine Below.setCell ?_ ?_ _) | (with_reducible refine Below.trans ?_ (Below.mono (by with_reducible assumption) ?_)) | go_size))) (hB1.mono (by simp))) | (go_at_call 46; refine (c46y _ (by omega)).mono ?_; rintro e w' ⟨rfl, rfl⟩) | (go_at_call 48; refine (c48 s g _ (hz.below (by (repeat' (first | (with_reducible exact Below.refl _ _) | (with_reducible assumption) | (with_reducible refine Below.alloc ?_ ?_ _) | (with_reducible refine Below.drew ?_) | (with_reducible refine below_drewN ?_ _) | (with_reducible refine Below.setCell ?_ ?_ _) | (with_reducible refine Below.trans ?_ (Below.mono (by with_reducible assumption) ?_)) | go_size))) (Nat.le_refl _)) (hg.below (by (repeat' (first | (with_reducible exact Below.refl _ _) | (with_reducible assumption) | (with_reducible refine Below.alloc ?_ ?_ _) | (with_reducible refine Below.drew ?_) | (with_reducible refine below_drewN ?_ _) | (with_reducible refine Below.setCell ?_ ?_ _) | (with_reducible refine Below.trans ?_ (Below.mono (by with_reducible assumption) ?_)) | go_size))) (Nat.le_refl _)) okh.out okgh.out hph.out).mono ?_; rintro e w2 ⟨y, c, rfl, hy, hc, hR, hB2⟩; have hBy : Below w.heap.size w w2 := Below.trans (show Below w.heap.size w _ by (repeat' (first | (with_reducible exact Below.refl _ _) | (with_reducible assumption) | (with_reducible refine Below.alloc ?_ ?_ _) | (with_reducible refine Below.drew ?_) | (with_reducible refine below_drewN ?_ _) | (with_reducible refine Below.setCell ?_ ?_ _) | (with_reducible refine Below.trans ?_ (Below.mono (by with_reducible assumption) ?_)) | go_size))) (hB2.mono (by simp; omega)); have hRh := hid hR; clear hR; have hbx := Hbx.below (Hbx.new s g w1) hB2 (by simp); have hz2 : w1.heap.size + 1 ≤ w2.heap.size := (by have := hB2.size; simp at this; omega); have hyy : w1.heap.size + 1 ≤ y := (by simp at hy; omega)))
  go_loopw [10, 32] (fun fv iv wr => ∃ d : Nat, d ≤ x ∧ iv = .int .i64 d ∧ RowV wr w.heap.size s.N (mvn s.N s.m (fl s g) d) fv ∧ Below w2.heap.size w2 wr) (fun _ iv _ => x - (intOf iv).toNat)
  case atStart => exact ⟨0, Nat.zero_le _, rfl, ⟨y, c, rfl, by omega, hc, hRh.out⟩, Below.refl _ _⟩
  case round =>
    obtain ⟨d, hd, rfl, ⟨y', c', rfl, hy', hc', hR'⟩, hB⟩ := hrel
    have hbxr := (hbx.below hB (by omega)).all
    have hszr := hB.size
    have hRh' := hid hR'
    clear hR'
    have hmh := hid (mvn_100 (m := s.m) (fl_100 (s := s) okgh.out) d)
    by_cases hlt : d < x
    · go_wp2_with (go_at_call 56; refine (c56 s g y' c' _ _ okh.out hRh'.out hc' hmh.out).mono ?_; rintro e w3 ⟨y3, c3, rfl, hy3, hc3, hR3, hB3⟩; have hR3h := hid hR3; clear hR3)
      go_roundw
      case rel => exact ⟨d + 1, by omega, by go_num, ⟨y3, c3, rfl, by omega, hc3, hR3h.out⟩, hB.trans (hB3.mono hB.size)⟩
      case measure => simp [intOf]; omega
    · obtain rfl : d = x := by omega
      go_wp2_with (go_at_call 57; refine (c57 s g y' c' _ _ okh.out hRh'.out).mono ?_; rintro e w3 ⟨v, rfl, hown, hB3⟩; have hownh := hid hown; clear hown)
      go_ret2
      exact ⟨v, rfl, owns_base hownh.out (by omega), hBy.trans ((hB.trans (hB3.mono hB.size)).mono (by omega))⟩
end Go.Proofs.Ytkafjlhmbiaicaa
