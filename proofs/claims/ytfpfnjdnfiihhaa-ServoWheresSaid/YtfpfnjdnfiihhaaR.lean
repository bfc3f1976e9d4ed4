/- Stage 2: the spans; whether all that is possible is near. -/
import Derived.Test.YtfpfnjdnfiihhaaP
import Derived.Deep.AppendLies
set_option linter.unusedSimpArgs false
set_option linter.unusedVariables false
namespace Go.Proofs.Ytfpfnjdnfiihhaa
open Go.RowKit

def enc (l : List (Nat × Nat)) : List Value := l.flatMap fun x => [.int .i64 (x.1 : Nat), .int .i64 (x.2 : Nat)]
theorem enc_nil : enc [] = [] := rfl
theorem enc_snoc (l : List (Nat × Nat)) (x : Nat × Nat) : enc (l ++ [x]) = enc l ++ [.int .i64 (x.1 : Nat), .int .i64 (x.2 : Nat)] := by simp [enc]
theorem enc_len (l : List (Nat × Nat)) : (enc l).length = l.length * 2 := by
  induction l with
  | nil => rfl
  | cons x r ih => simp only [enc, List.flatMap_cons, List.length_append, List.length_cons, List.length_nil] at ih ⊢; omega
theorem enc_set (l : List (Nat × Nat)) (x : Nat × Nat) (k : Nat) : (enc (l ++ [x])).set (l.length * 2 + 1) (.int .i64 (k : Nat)) = enc (l ++ [(x.1, k)]) := by
  rw [enc_snoc, enc_snoc, List.set_append_right _ _ (by rw [enc_len]; omega), enc_len, show l.length * 2 + 1 - l.length * 2 = 1 by omega]
  rfl
theorem enc_get1 (l : List (Nat × Nat)) (x : Nat × Nat) : (enc (l ++ [x]))[l.length * 2 + 1]? = some (.int .i64 (x.2 : Nat)) := by
  rw [enc_snoc, List.getElem?_append_right (by rw [enc_len]; omega), enc_len, show l.length * 2 + 1 - l.length * 2 = 1 by omega]
  rfl
theorem Try.info56 : (Try.prog.info? 56).map (fun i => (i.zero, i.size, i.bytes)) = some (some (.agg #[.int .i64 0, .int .i64 0]), 2, 16) := by kernel_rfl
/-- A new slice of spans. -/
def SpRet (l : List (Nat × Nat)) (w : World) (e : Ending) (w' : World) : Prop :=
  ∃ v : Value, e = .returned v ∧ w'.ownsRow w.heap.size 56 2 v l.length (enc l) ∧ Below w.heap.size w w'
theorem owns_base {w : World} {b b' e s : Nat} {v : Value} {n : Nat} {xs : List Value} (h : w.ownsRow b e s v n xs) (hb : b' ≤ b) : w.ownsRow b' e s v n xs := by
  obtain ⟨h1, h2⟩ := h
  refine ⟨h1, ?_⟩
  rcases h2 with h2 | ⟨g, cap, cur, h3, h4, h5⟩
  · exact .inl h2
  · exact .inr ⟨g, cap, cur, h3, by omega, h5⟩
theorem owns_empty {w : World} {b e s : Nat} {v : Value} {xs : List Value} (h : w.ownsRow b e s v 0 xs) : v = .slice none 0 0 ∨ ∃ g cap, v = .slice (some ⟨g, 0, none⟩) 0 cap := by
  obtain ⟨_, ⟨h1, _⟩ | ⟨g, cap, cur, h1, _⟩⟩ := h
  · exact .inl h1
  · exact .inr ⟨g, cap, h1⟩
theorem own_pos {w : World} {base e s n : Nat} {v : Value} {xs : List Value} (h : w.ownsRow base e s v (n + 1) xs) : ∃ g cap, v = .slice (some ⟨g, 0, none⟩) (n + 1) cap := by
  obtain ⟨_, ⟨_, h1⟩ | ⟨g, cap, cur, h1, _⟩⟩ := h
  · omega
  · exact ⟨g, cap, h1⟩
theorem ixSp {g n c k : Nat} (hk : k < n) (w' : World) : (Instr.indexAt 36 (.slice (some ⟨g, 0, none⟩) n c) (.int .i64 k)).run Try.prog w' = .ok (.pointer (some ⟨g, k * 2, none⟩)) w' := by
  have h2 : (k : Int) < (n : Int) := by omega
  go_simp

set_option maxRecDepth 100000 in
set_option maxHeartbeats 4000000 in
theorem c57 (s : Sv) (g : Wg) (b c : Nat) (f : Nat → Int) (w : World) (ok : s.Ok) (hR : RowF w b s.N f) :
    Calls Try.prog 57 #[hdv s g, .slice (some ⟨b, 0, none⟩) s.N c] w (SpRet (spn (fun p => decide (f p ≤ s.wr)) s.N) w) := by
  obtain ⟨i0, ie0, ie1, ie2, ie3⟩ := info_parts Try.info56
  have hN := ok.Nb
  have hN1 := hN.1; have hN2 := hN.2.1
  obtain ⟨n, hn⟩ : ∃ n, n = s.N := ⟨_, rfl⟩
  rw [← hn] at hR hN1 hN2 ⊢
  obtain ⟨bb, hbb⟩ : ∃ bb : Nat → Bool, bb = fun p => decide (f p ≤ s.wr) := ⟨_, rfl⟩
  rw [← hbb]
  have hbe : ∀ p, bb p = true ↔ f p ≤ s.wr := by intro p; rw [hbb]; simp
  obtain ⟨W0, hW0⟩ : ∃ W0 : World, W0 = w.alloc (.cells #[.int .i64 s.tr, .int .i64 s.st, .int .i64 s.mv, .int .i64 s.no, .int .i64 s.wr, .slice s.ra s.rn s.rc, .slice g.wa g.wn g.wk] 75) := ⟨_, rfl⟩
  have hB0 : Below w.heap.size w W0 := by rw [hW0]; (repeat' (first | (with_reducible exact Below.refl _ _) | (with_reducible assumption) | (with_reducible refine Below.alloc ?_ ?_ _) | (with_reducible refine Below.drew ?_) | (with_reducible refine below_drewN ?_ _) | (with_reducible refine Below.setCell ?_ ?_ _) | (with_reducible refine Below.trans ?_ (Below.mono (by with_reducible assumption) ?_)) | go_size))
  have hbx : Hbx s g W0 w.heap.size := by rw [hW0]; exact Hbx.new s g w
  have hs0 : W0.heap.size = w.heap.size + 1 := by rw [hW0]; simp
  have hRh := hid (hR.below hB0 hR.lt)
  have hbl := hR.lt
  have hbeh := hid hbe
  clear hN ok hn hR hbb hbe
  go_enter Try.func57, Try.ntmps57
  go_wp2_with fail
  rw [← hW0]
  clear hW0
  go_loopw [5, 6, 7, 8, 11] (fun o _ _ _ iv wr => ∃ k : Nat, k ≤ n ∧ iv = .int .i64 k ∧ wr.ownsRow (w.heap.size + 1) 56 2 o (spn bb k).length (enc (spn bb k)) ∧ Below (w.heap.size + 1) W0 wr) (fun _ _ _ _ iv _ => n - (intOf iv).toNat)
  case atStart => exact ⟨0, Nat.zero_le _, rfl, World.ownsRow_nil _ _ _ _, Below.refl _ _⟩
  case round =>
    obtain ⟨k, hk, rfl, hown, hB⟩ := hrel
    have hBw : Below w.heap.size w wr := hB0.trans (hB.mono (by omega))
    have hsz : w.heap.size < wr.heap.size := by have := hB.size; omega
    by_cases hlt : k < n
    · have hRk := hRh.out.below hB (by omega)
      have h1 := hRk.cell hlt
      have h3 := hRk.lt
      have h4 := @RowF.ix _ _ _ c _ hRk _ hlt
      obtain ⟨_, _, _, _, k4, _, _⟩ := (hbx.below hB (by omega)).all
      have hownh := hid hown
      clear hRk hown
      have hlen := spn_len bb k
      by_cases hfk : f k ≤ s.wr
      · have hst := hid (spn_yes ((hbeh.out k).2 hfk))
        by_cases hnil : spn bb k = []
        · have hl0 : (spn bb k).length = 0 := by rw [hnil]; rfl
          have hown2 := hownh.out
          rw [hl0] at hown2
          have hsp : spn bb (k + 1) = [(k, k)] := by rw [hst.out, hnil, spx_nil]
          have hsph := hid hsp
          have hnilh := hid hnil
          rcases owns_empty hown2 with rfl | ⟨gg, cap, rfl⟩
          all_goals
            rw [hnil, enc_nil] at hown2
            have hown2h := hid hown2
            clear hown2 hl0 hsp hnil hlen hst
            go_wp2_with (at_builtin; refine wpList_append_own _ rfl _ _ 36 rfl (w.heap.size + 1) 56 i0 (.agg #[.int .i64 0, .int .i64 0]) 2 16 Try.underlying36 ie0 ie1 ie2 ie3 rfl (by decide) _ _ _ rfl (hown2h.out.alloc _) ⟨wr.heap.size, 0, none⟩ 1 1 [.int .i64 (k : Nat), .int .i64 (k : Nat)] rfl rfl (World.news_of_block (cs := #[.int .i64 (k : Nat), .int .i64 (k : Nat)]) (t := 56) (fr := (0, 0)) (heap_new _ _)) (by simp [Value.oneCell']) (by unfold maxLen; omega) (by omega) (by simp; omega) ?_; intro v' w2 hown' hgrow hnl)
            have hBb : Below (w.heap.size + 1) W0 w2 := (hB.alloc (by omega) _).grown hgrow (by simp; omega) (fun q e => (hown2h.out.lt q e).1)
            go_roundw
            case rel => exact ⟨k + 1, by omega, by go_num, by rw [hsph.out]; simpa [enc] using hown', hBb⟩
            case measure => simp [intOf]; omega
        · obtain ⟨l, x, hl⟩ := snoc_of hnil
          have hl1 : (spn bb k).length = l.length + 1 := by rw [hl]; simp
          have hown2 := hownh.out
          rw [hl1] at hown2
          obtain ⟨gg, cap, hv⟩ := own_pos hown2
          subst hv
          rw [hl] at hown2
          have hk1 : w.heap.size + 1 ≤ gg ∧ gg < wr.heap.size := hown2.lt gg rfl
          have hc1 : wr.cell? ⟨gg, l.length * 2 + 1, none⟩ = some (.int .i64 (x.2 : Nat)) := by rw [hown2.cellAt _ (by omega), enc_get1]
          have hf1 := hown2.frozenAt (l.length * 2 + 1)
          have hix := @ixSp gg (l.length + 1) cap l.length (by omega)
          have hown2h := hid hown2
          have hlh := hid hl
          have hln : l.length + 1 ≤ 1009 := by omega
          by_cases hx : x.2 + 1 = k
          · have hsp := hid (show spn bb (k + 1) = l ++ [(x.1, k)] by rw [hst.out, hl, spx_grow hx])
            have hst2 := hid (hown2.stored (l.length * 2 + 1) (.int .i64 (k : Nat)))
            have hx1 : (x.2 : Int) = (k : Int) - 1 := by omega
            obtain ⟨x1, x2⟩ := x
            simp only at hx hx1 hc1 hsp hst2 hown2h hlh hown2
            clear hown2 hnil hl hl1 hst hownh hlen
            subst hx
            clear hx1
            go_wp2_with fail
            go_roundw
            case rel => exact ⟨x2 + 1 + 1, by omega, by go_num, by rw [hsp.out, ← enc_set l (x1, x2)]; simpa using hst2.out.1, hB.setCell (by simp; omega) _⟩
            case measure => simp [intOf]; omega
          · have hsp := hid (show spn bb (k + 1) = l ++ [x] ++ [(k, k)] by rw [hst.out, hl, spx_new hx])
            have hx1 : ((x.2 : Int) == (k : Int) - 1) = false := by simp; omega
            have hx2 : ¬ (x.2 : Int) = (k : Int) - 1 := by omega
            clear hown2 hnil hl hl1 hst hownh hlen hx
            go_wp2_with (at_builtin; refine wpList_append_own _ rfl _ _ 36 rfl (w.heap.size + 1) 56 i0 (.agg #[.int .i64 0, .int .i64 0]) 2 16 Try.underlying36 ie0 ie1 ie2 ie3 rfl (by decide) _ _ _ rfl (hown2h.out.alloc _) ⟨wr.heap.size, 0, none⟩ 1 1 [.int .i64 (k : Nat), .int .i64 (k : Nat)] rfl rfl (World.news_of_block (cs := #[.int .i64 (k : Nat), .int .i64 (k : Nat)]) (t := 56) (fr := (0, 0)) (heap_new _ _)) (by simp [Value.oneCell']) (by unfold maxLen; omega) (by omega) (by simp; omega) ?_; intro v' w2 hown' hgrow hnl)
            have hBb : Below (w.heap.size + 1) W0 w2 := (hB.alloc (by omega) _).grown hgrow (by simp; omega) (fun q e => (hown2h.out.lt q e).1)
            go_roundw
            case rel => exact ⟨k + 1, by omega, by go_num, by rw [hsp.out, enc_snoc (l ++ [x])]; simpa using hown', hBb⟩
            case measure => simp [intOf]; omega
      · have hst := hid (spn_no (b := bb) (k := k) (by cases e : bb k with | false => rfl | true => exact absurd ((hbeh.out k).1 e) hfk))
        go_wp2_with fail
        go_roundw
        case rel => exact ⟨k + 1, by omega, by go_num, by rw [hst.out]; exact hownh.out, hB⟩
        case measure => simp [intOf]; omega
    · have hownh := hid hown
      clear hown
      go_wp2_with fail
      go_returns
      obtain rfl : k = n := by omega
      exact ⟨_, rfl, owns_base hownh.out (by omega), hBw⟩
end Go.Proofs.Ytfpfnjdnfiihhaa
