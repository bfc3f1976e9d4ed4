/- Stage 2: the reference's spans. -/
import Derived.Test.YtfpfnjdnfiihhaaSc
set_option linter.unusedSimpArgs false
set_option linter.unusedVariables false
namespace Go.Proofs.Ytfpfnjdnfiihhaa
open Go.RowKit Go.Sort Go.BigFrame

set_option maxRecDepth 100000 in
set_option maxHeartbeats 8000000 in
theorem c65 (g n c : Nat) (p : Nat → Bool) (w : World) (hR : Bls w g n p) (hn : n ≤ 1009) :
    Calls Try.prog 65 #[.slice (some ⟨g, 0, none⟩) n c] w (SpRet (spn p n) w) := by
  obtain ⟨i0, ie0, ie1, ie2, ie3⟩ := info_parts Try.info56
  go_enter Try.func65, Try.ntmps65
  go_wp2_with fail
  go_loopw [3, 4] (fun o iv wr => ∃ k : Nat, k ≤ n ∧ iv = .int .i64 k ∧ wr.ownsRow w.heap.size 56 2 o (spn p k).length (enc (spn p k)) ∧ Below w.heap.size w wr) (fun _ iv _ => n - (intOf iv).toNat)
  case atStart => exact ⟨0, Nat.zero_le _, rfl, World.ownsRow_nil _ _ _ _, Below.refl _ _⟩
  case round =>
    obtain ⟨k, hk, rfl, hown, hB⟩ := hrel
    by_cases hlt : k < n
    · have hRk := hR.below hB hR.lt
      have h1 := hRk.ce k hlt
      have h3 := hRk.lt
      have h4 := @ixB g n c k hlt
      have hownh := hid hown
      have hsok := hid (spn_ok p k)
      clear hown
      have hlen := spn_len p k
      cases hpk : p k with
      | true =>
        have hst := hid (spn_yes hpk)
        rw [hpk] at h1
        by_cases hnil : spn p k = []
        · have hsp : Hid (spn p (k + 1) = [(k, k)]) := hid (by rw [hst.out, hnil, spx_nil])
          have hown2 := hownh.out
          rw [hnil] at hown2
          have hown2 : wr.ownsRow w.heap.size 56 2 _ 0 [] := hown2
          have hpp : ∀ q, q < k → p q = false := spn_nil.1 hnil
          rcases Nat.eq_zero_or_pos k with hk0 | hk0
          · have hk0' : k ≤ 0 := by omega
            have hkd : decide (0 < k) = false := by simp; omega
            have hkd2 : decide ((0 : Int) < (k : Int)) = false := by simp; omega
            clear hk0
            rcases owns_empty hown2 with rfl | ⟨gg, cap, rfl⟩
            all_goals
              have hown2h := hid hown2
              clear hown2 hnil hlen hst hpp hRk hpk
              go_wp2_with (at_builtin; refine wpList_append_own _ rfl _ _ 36 rfl w.heap.size 56 i0 (.agg #[.int .i64 0, .int .i64 0]) 2 16 Try.underlying36 ie0 ie1 ie2 ie3 rfl (by decide) _ _ _ rfl (hown2h.out.alloc _) ⟨wr.heap.size, 0, none⟩ 1 1 [.int .i64 (k : Nat), .int .i64 (k : Nat)] rfl rfl (World.news_of_block (cs := #[.int .i64 (k : Nat), .int .i64 (k : Nat)]) (t := 56) (fr := (0, 0)) (heap_new _ _)) (by simp [Value.oneCell']) (by unfold maxLen; omega) (by omega) (by simp; exact Nat.le_succ_of_le hB.size) ?_; intro v' w2 hown' hgrow hnl)
              have hBb : Below w.heap.size w w2 := (hB.alloc hB.size _).grown hgrow (by simp; exact Nat.le_succ_of_le hB.size) (fun q e => (hown2h.out.lt q e).1)
              go_roundw
              case rel => exact ⟨k + 1, by omega, by go_num, by rw [hsp.out]; simpa [enc] using hown', hBb⟩
              case measure => simp [intOf]; omega
          · have c2 := hRk.ce (k - 1) (by omega)
            rw [hpp (k - 1) (by omega)] at c2
            have c4 := @ixB g n c (k - 1) (by omega)
            rw [show ((k - 1 : Nat) : Int) = (k : Int) - 1 by omega] at c4
            rcases owns_empty hown2 with rfl | ⟨gg, cap, rfl⟩
            all_goals
              have hown2h := hid hown2
              clear hown2 hnil hlen hst hpp hRk hpk
              go_wp2_with (at_builtin; refine wpList_append_own _ rfl _ _ 36 rfl w.heap.size 56 i0 (.agg #[.int .i64 0, .int .i64 0]) 2 16 Try.underlying36 ie0 ie1 ie2 ie3 rfl (by decide) _ _ _ rfl (hown2h.out.alloc _) ⟨wr.heap.size, 0, none⟩ 1 1 [.int .i64 (k : Nat), .int .i64 (k : Nat)] rfl rfl (World.news_of_block (cs := #[.int .i64 (k : Nat), .int .i64 (k : Nat)]) (t := 56) (fr := (0, 0)) (heap_new _ _)) (by simp [Value.oneCell']) (by unfold maxLen; omega) (by omega) (by simp; exact Nat.le_succ_of_le hB.size) ?_; intro v' w2 hown' hgrow hnl)
              have hBb : Below w.heap.size w w2 := (hB.alloc hB.size _).grown hgrow (by simp; exact Nat.le_succ_of_le hB.size) (fun q e => (hown2h.out.lt q e).1)
              go_roundw
              case rel => exact ⟨k + 1, by omega, by go_num, by rw [hsp.out]; simpa [enc] using hown', hBb⟩
              case measure => simp [intOf]; omega
        · obtain ⟨l, x, hl⟩ := snoc_of hnil
          have hl1 : (spn p k).length = l.length + 1 := by rw [hl]; simp
          have hk0 : 0 < k := by rw [hl1] at hlen; omega
          have hla := (show SpOk p k (l ++ [x]) by rw [← hl]; exact hsok.out).last
          have c2 := hRk.ce (k - 1) (by omega)
          have c4 := @ixB g n c (k - 1) (by omega)
          rw [show ((k - 1 : Nat) : Int) = (k : Int) - 1 by omega] at c4
          have hown2 := hownh.out
          rw [hl1] at hown2
          obtain ⟨gg, cap, hv⟩ := own_pos hown2
          subst hv
          rw [hl] at hown2
          have hk1 : w.heap.size ≤ gg ∧ gg < wr.heap.size := hown2.lt gg rfl
          have hc1 : wr.cell? ⟨gg, l.length * 2 + 1, none⟩ = some (.int .i64 (x.2 : Nat)) := by rw [hown2.cellAt _ (by omega), enc_get1]
          have hf1 := hown2.frozenAt (l.length * 2 + 1)
          have hix := @ixSp gg (l.length + 1) cap l.length (by omega)
          have hown2h := hid hown2
          have hln : l.length + 1 ≤ 1009 := by omega
          cases hpp : p (k - 1) with
          | true =>
            have hx : x.2 + 1 = k := hla.2 ⟨hk0, hpp⟩
            have hsp : Hid (spn p (k + 1) = l ++ [(x.1, k)]) := hid (by rw [hst.out, hl, spx_grow hx])
            have hst2 := hid (hown2.stored (l.length * 2 + 1) (.int .i64 (k : Nat)))
            rw [hpp] at c2
            obtain ⟨x1, x2⟩ := x
            have hes := hid (enc_set l (x1, x2) k)
            clear hown2 hnil hl hl1 hst hownh hlen hla hx hRk hpk hpp hsok hown2h
            go_wp2_with fail
            go_roundw
            case rel => exact ⟨k + 1, by omega, by go_num, by rw [hsp.out, ← hes.out]; simpa using hst2.out.1, hB.setCell hk1.1 _⟩
            case measure => simp [intOf]; omega
          | false =>
            have hx : ¬ x.2 + 1 = k := fun e => by have := (hla.1 e).2; rw [hpp] at this; cases this
            have hsp : Hid (spn p (k + 1) = l ++ [x] ++ [(k, k)]) := hid (by rw [hst.out, hl, spx_new hx])
            rw [hpp] at c2
            clear hown2 hnil hl hl1 hst hownh hlen hla hx hRk hpk hpp hsok
            go_wp2_with (at_builtin; refine wpList_append_own _ rfl _ _ 36 rfl w.heap.size 56 i0 (.agg #[.int .i64 0, .int .i64 0]) 2 16 Try.underlying36 ie0 ie1 ie2 ie3 rfl (by decide) _ _ _ rfl (hown2h.out.alloc _) ⟨wr.heap.size, 0, none⟩ 1 1 [.int .i64 (k : Nat), .int .i64 (k : Nat)] rfl rfl (World.news_of_block (cs := #[.int .i64 (k : Nat), .int .i64 (k : Nat)]) (t := 56) (fr := (0, 0)) (heap_new _ _)) (by simp [Value.oneCell']) (by unfold maxLen; omega) (by omega) (by simp; exact Nat.le_succ_of_le hB.size) ?_; intro v' w2 hown' hgrow hnl)
            have hBb : Below w.heap.size w w2 := (hB.alloc hB.size _).grown hgrow (by simp; exact Nat.le_succ_of_le hB.size) (fun q e => (hown2h.out.lt q e).1)
            go_roundw
            case rel => exact ⟨k + 1, by omega, by go_num, by rw [hsp.out, enc_snoc (l ++ [x])]; simpa using hown', hBb⟩
            case measure => simp [intOf]; omega
      | false =>
        have hst := hid (spn_no hpk)
        rw [hpk] at h1
        clear hpk hRk
        go_wp2_with fail
        go_roundw
        case rel => exact ⟨k + 1, by omega, by go_num, by rw [hst.out]; exact hownh.out, hB⟩
        case measure => simp [intOf]; omega
    · have hownh := hid hown
      clear hown
      go_wp2_with fail
      go_returns
      obtain rfl : k = n := by omega
      exact ⟨_, rfl, hownh.out, hB⟩
end Go.Proofs.Ytfpfnjdnfiihhaa
