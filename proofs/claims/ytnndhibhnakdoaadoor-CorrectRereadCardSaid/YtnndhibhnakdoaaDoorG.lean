/- Stage 5: searching, copying and striking numbers; chosen positions. -/
import Derived.Test.YtnndhibhnakdoaaDoorF
import Derived.Lib.SliceRun
import Derived.Lib.LazyBuf
import Derived.Lib.Hide
set_option linter.unusedSimpArgs false
set_option linter.unusedVariables false
namespace Go.Proofs.YtnndhibhnakdoaaDoor
open Go.RowKit Go.BigFrame Go.Sort
open Gf (S)

/-- A number is that of a symbol. -/
def isym (x : Int) : Prop := 0 ≤ x ∧ x ≤ 15
/-- A number is that of no symbol. -/
def nsym (x : Int) : Prop := ¬ isym x
set_option maxHeartbeats 400000 in
theorem c80y {x : Int} (w : World) (p : ¬ isym x) : Calls Tryd.prog 80 #[.int .i64 x] w fun e w' => e = .returned (.bool true) ∧ w = w' := by
  have hp := hid p
  clear p
  go_enter Tryd.func80, Tryd.ntmps80
  go_wp2_with (go_at_call 68; refine (c68n _ hp.out).mono ?_; rintro e w' ⟨rfl, rfl⟩)
  go_ret
  exact ⟨rfl, rfl⟩
set_option maxHeartbeats 400000 in
theorem c80n {x : Int} (w : World) (p : isym x) : Calls Tryd.prog 80 #[.int .i64 x] w fun e w' => e = .returned (.bool false) ∧ w = w' := by
  have hp := hid p
  clear p
  go_enter Tryd.func80, Tryd.ntmps80
  go_wp2_with (go_at_call 68; refine (c68y _ hp.out).mono ?_; rintro e w' ⟨rfl, rfl⟩)
  go_ret
  exact ⟨rfl, rfl⟩
set_option maxHeartbeats 400000 in
theorem c104y {x q : Int} {b : Nat} (w : World) (hb : w.cell? ⟨b, 0, none⟩ = some (.int .i64 q)) (p : x = q) : Calls Tryd.prog 104 #[.int .i64 x, .pointer (some ⟨b, 0, none⟩)] w fun e w' => e = .returned (.bool true) ∧ w = w' := by
  subst p
  go_enter Tryd.func104, Tryd.ntmps104
  go_wp2
  go_ret
  exact ⟨rfl, rfl⟩
set_option maxHeartbeats 400000 in
theorem c104n {x q : Int} {b : Nat} (w : World) (hb : w.cell? ⟨b, 0, none⟩ = some (.int .i64 q)) (p : ¬ x = q) : Calls Tryd.prog 104 #[.int .i64 x, .pointer (some ⟨b, 0, none⟩)] w fun e w' => e = .returned (.bool false) ∧ w = w' := by
  have e1 : (x == q) = false := by simpa using p
  have hp := hid p
  clear p
  go_enter Tryd.func104, Tryd.ntmps104
  go_wp2
  go_ret
  exact ⟨rfl, rfl⟩
set_option maxHeartbeats 400000 in
theorem c100_80 (A : Option Addr) (b o n c : Nat) (f : Nat → Int) (w : World) (hz : Ints w A b o n f) (hn : n ≤ 1000000) :
    Calls Tryd.prog 100 #[.slice A n c, .func (.func 80) #[] #[]] w (RetIx n (fun k => ¬ nsym (f k)) w) := by
  go_enter Tryd.func100, Tryd.ntmps100
  go_wp2
  go_loop [5, 8] (fun _ i => ∃ k : Nat, k ≤ n ∧ i = .int .i64 k ∧ Hid (∀ j, j < k → ¬ nsym (f j))) (fun _ i => n - (intOf i).toNat)
  case atStart => exact ⟨0, Nat.zero_le _, rfl, fun j hj => absurd hj (Nat.not_lt_zero _)⟩
  case round =>
    obtain ⟨k, hk, rfl, hall⟩ := hrel
    by_cases hlt : k < n
    · have h1 := hz.ce k hlt; have h3 := hz.lt k hlt; have h4 := @Ints.ix _ _ _ _ _ c _ hz _ hlt
      by_cases hp : nsym (f k)
      · have hph := hid hp
        clear hp
        go_wp2_with (go_at_call 80; refine (c80y _  hph.out).mono ?_; rintro e w' ⟨rfl, rfl⟩)
        go_returns
        exact RetIx.at_ hlt (fun h => h hph.out) hall.out
      · have hph := hid hp
        clear hp
        go_wp2_with (go_at_call 80; refine (c80n _  (Classical.not_not.1 hph.out)).mono ?_; rintro e w' ⟨rfl, rfl⟩)
        go_round
        case rel =>
          refine ⟨k + 1, by omega, by go_num, fun j hj => ?_⟩
          by_cases e : j = k
          · subst e; exact hph.out
          · exact hall.out j (by omega)
        case measure => simp [intOf]; omega
    · go_wp2_with fail
      go_returns
      exact RetIx.no (fun j hj => hall.out j (by omega))
set_option maxHeartbeats 400000 in
theorem c100_104 (A : Option Addr) (b o n c : Nat) (q : Int) (B : Nat) (f : Nat → Int) (w : World) (hz : Ints w A b o n f) (hn : n ≤ 1000000) (hq : w.cell? ⟨B, 0, none⟩ = some (.int .i64 q)) :
    Calls Tryd.prog 100 #[.slice A n c, .func (.func 104) #[] #[.pointer (some ⟨B, 0, none⟩)]] w (RetIx n (fun k => ¬ f k = q) w) := by
  go_enter Tryd.func100, Tryd.ntmps100
  go_wp2
  go_loop [5, 8] (fun _ i => ∃ k : Nat, k ≤ n ∧ i = .int .i64 k ∧ Hid (∀ j, j < k → ¬ f j = q)) (fun _ i => n - (intOf i).toNat)
  case atStart => exact ⟨0, Nat.zero_le _, rfl, fun j hj => absurd hj (Nat.not_lt_zero _)⟩
  case round =>
    obtain ⟨k, hk, rfl, hall⟩ := hrel
    by_cases hlt : k < n
    · have h1 := hz.ce k hlt; have h3 := hz.lt k hlt; have h4 := @Ints.ix _ _ _ _ _ c _ hz _ hlt
      by_cases hp : f k = q
      · have hph := hid hp
        clear hp
        go_wp2_with (go_at_call 104; refine (c104y _ hq hph.out).mono ?_; rintro e w' ⟨rfl, rfl⟩)
        go_returns
        exact RetIx.at_ hlt (fun h => h hph.out) hall.out
      · have hph := hid hp
        clear hp
        go_wp2_with (go_at_call 104; refine (c104n _ hq (id hph.out)).mono ?_; rintro e w' ⟨rfl, rfl⟩)
        go_round
        case rel =>
          refine ⟨k + 1, by omega, by go_num, fun j hj => ?_⟩
          by_cases e : j = k
          · subst e; exact hph.out
          · exact hall.out j (by omega)
        case measure => simp [intOf]; omega
    · go_wp2_with fail
      go_returns
      exact RetIx.no (fun j hj => hall.out j (by omega))
/-- All numbers are those of symbols. -/
def allS (n : Nat) (f : Nat → Int) : Prop := ∀ k, k < n → isym (f k)
set_option maxHeartbeats 400000 in
theorem c81 (A : Option Addr) (b o n c : Nat) (f : Nat → Int) (w : World) (hz : Ints w A b o n f) (hn : n ≤ 1000000) :
    Calls Tryd.prog 81 #[.slice A n c, .func (.func 80) #[] #[]] w (RetB (¬ allS n f) w) := by
  go_enter Tryd.func81, Tryd.ntmps81
  go_wp2_with (go_at_call 100; refine (c100_80 A b o n c f _ hz hn).mono ?_; rintro e w' (⟨h1, rfl, rfl⟩ | ⟨k, hk, h1, _, rfl, rfl⟩) <;> replace h1 := hid h1)
  · go_ret
    exact RetB.no (fun h => h (fun k hk => Classical.not_not.1 (h1.out k hk)))
  · go_ret
    exact RetB.yes (fun h => h1.out (fun h2 => h2 (h k hk)))
set_option maxHeartbeats 400000 in
theorem c103 (b o n c : Nat) (f : Nat → Int) (w : World) (hz : Ints w (some ⟨b, o, none⟩) b o n f) (hn : 0 < n) (hm : n ≤ 1000000) :
    Calls Tryd.prog 103 #[.slice (some ⟨b, o, none⟩) n c] w fun e w' => ∃ g c : Nat, e = .returned (.slice (some ⟨g, 0, none⟩) n c) ∧ w.heap.size ≤ g ∧ n ≤ c ∧ RowF w' g n f ∧ Below w.heap.size w w' := by
  obtain ⟨i0, ie0, ie1, ie2, ie3⟩ := info_parts Tryd.info3
  have hsl := fun W => Lib.run_eql_slice_nil (P := Tryd.prog) W 24 3 (some ⟨b, o, none⟩) n c 0 0 Tryd.underlying24
  have hlt := hz.lt 0 hn
  have hch := hid (ints_cells hz)
  go_enter Tryd.func103, Tryd.ntmps103
  go_wp2_with (at_builtin; go_loud (refine wpList_append_own _ rfl _ _ 24 rfl w.heap.size 3 i0 (.int .i64 0) 1 8 Tryd.underlying24 ie0 ie1 ie2 ie3 rfl (by decide) _ _ _ rfl (own_made _ 3 1 _ _ rfl (Nat.le_refl _)) ⟨b, o, none⟩ n c (vals n f) rfl (by rw [vals_len, Nat.mul_one]) ?hcc (vals_one n f) ?hmm ?hbb ?hss ?hgo))
  case hmm => unfold maxLen; omega
  case hbb => omega
  case hss => simp
  case hcc =>
    intro j u hj
    have h1 := hch.out j u hj
    exact (((Below.refl w.heap.size w).alloc (Nat.le_refl _) _).cell (World.block_lt_of_cell? w _ h1)).trans h1
  case hgo =>
    intro v' w1 hown hgrow hnil
    have hnv : ¬ v' = .slice none 0 0 := hnil
    obtain ⟨g, cap, rfl⟩ := own_shape hown hnv
    have hge := (hown.lt g rfl).1
    have hcap := own_cap hown
    have hB : Below w.heap.size w w1 := ((Below.refl w.heap.size w).alloc (Nat.le_refl _) _).grown hgrow (by simp) (fun k e => by cases e; simp)
    have hR := hid (RowF.of_owns hown)
    clear hown hgrow hnv
    go_wp2
    go_returns
    exact ⟨g, cap, rfl, hge, hcap, hR.out, hB⟩
set_option maxHeartbeats 400000 in
theorem c101 (b o n c : Nat) (f : Nat → S) (w : World) (hz : Syms w (some ⟨b, o, none⟩) b o n f) (hn : 0 < n) (hm : n ≤ 1000000) :
    Calls Tryd.prog 101 #[.slice (some ⟨b, o, none⟩) n c] w (SRet n f w) := by
  obtain ⟨i0, ie0, ie1, ie2, ie3⟩ := info_parts Tryd.info76
  have hsl := fun W => Lib.run_eql_slice_nil (P := Tryd.prog) W 70 76 (some ⟨b, o, none⟩) n c 0 0 Tryd.underlying70
  have hlt := hz.lt 0 hn
  have hch := hid (syms_cells hz)
  go_enter Tryd.func101, Tryd.ntmps101
  go_wp2_with (at_builtin; go_loud (refine wpList_append_own _ rfl _ _ 70 rfl w.heap.size 76 i0 (.int .u8 0) 1 1 Tryd.underlying70 ie0 ie1 ie2 ie3 rfl (by decide) _ _ _ rfl (own_made _ 76 1 _ _ rfl (Nat.le_refl _)) ⟨b, o, none⟩ n c (valS n f) rfl (by rw [valS_len, Nat.mul_one]) ?hcc (valS_one n f) ?hmm ?hbb ?hss ?hgo))
  case hmm => unfold maxLen; omega
  case hbb => omega
  case hss => simp
  case hcc =>
    intro j u hj
    have h1 := hch.out j u hj
    exact (((Below.refl w.heap.size w).alloc (Nat.le_refl _) _).cell (World.block_lt_of_cell? w _ h1)).trans h1
  case hgo =>
    intro v' w1 hown hgrow hnil
    have hnv : ¬ v' = .slice none 0 0 := hnil
    obtain ⟨g, cap, rfl⟩ := own_shape hown hnv
    have hge := (hown.lt g rfl).1
    have hcap := own_cap hown
    have hB : Below w.heap.size w w1 := ((Below.refl w.heap.size w).alloc (Nat.le_refl _) _).grown hgrow (by simp) (fun k e => by cases e; simp)
    have hR := hid (RowS.of_owns hown)
    clear hown hgrow hnv
    go_wp2
    go_returns
    exact ⟨g, cap, rfl, hge, hcap, hR.out, hB⟩
end Go.Proofs.YtnndhibhnakdoaaDoor
