/- Stage 2: the reference's slices of bools: where paths end. -/
import Derived.Test.YtfpfnjdnfiihhaaSb
import Derived.Deep.RegionHeld3
import Derived.Deep.AppendLies
set_option linter.unusedSimpArgs false
set_option linter.unusedVariables false
namespace Go.Proofs.Ytfpfnjdnfiihhaa
open Go.RowKit Go.Sort Go.BigFrame

theorem Try.info4 : (Try.prog.info? 4).map (fun i => (i.zero, i.size, i.bytes)) = some (some (.bool false), 1, 1) := by kernel_rfl
/-- The values of n bools. -/
def bvals (n : Nat) (p : Nat → Bool) : List Value := (List.range n).map fun k => .bool (p k)
theorem bvals_len (n : Nat) (p : Nat → Bool) : (bvals n p).length = n := by simp [bvals]
theorem bvals_get {n : Nat} {p : Nat → Bool} {k : Nat} (h : k < n) : (bvals n p)[k]? = some (.bool (p k)) := by simp [bvals, h]
theorem bvals_succ (n : Nat) (p : Nat → Bool) : bvals (n + 1) p = bvals n p ++ [.bool (p n)] := by simp [bvals, List.range_succ]
/-- A slice of bools of the call's own. -/
def BRow (w : World) (base : Nat) (v : Value) (n : Nat) (p : Nat → Bool) : Prop := w.ownsRow base 4 1 v n (bvals n p)
structure Bls (w : World) (g n : Nat) (p : Nat → Bool) : Prop where
  lt : g < w.heap.size
  ce : ∀ k, k < n → w.cell? ⟨g, k, none⟩ = some (.bool (p k))
theorem Bls.below {w w' : World} {B g n : Nat} {p : Nat → Bool} (h : Bls w g n p) (hb : Below B w w') (hB : g < B) : Bls w' g n p :=
  ⟨Nat.lt_of_lt_of_le h.lt hb.size, fun k hk => (hb.cell (p := ⟨g, k, none⟩) hB).trans (h.ce k hk)⟩
theorem BRow.at_ {w : World} {base n : Nat} {v : Value} {p : Nat → Bool} (h : BRow w base v n p) (hn : 0 < n) : ∃ g c, v = .slice (some ⟨g, 0, none⟩) n c ∧ base ≤ g ∧ Bls w g n p := by
  have h0 := h
  unfold BRow at h0
  obtain ⟨g, c, rfl, hg, _⟩ := own_pos0 h0 hn
  exact ⟨g, c, rfl, hg, (h0.lt g rfl).2, fun k hk => by rw [h0.cellAt _ (by omega), bvals_get hk]⟩
theorem ixB {g n c k : Nat} (hk : k < n) (w' : World) : (Instr.indexAt 93 (.slice (some ⟨g, 0, none⟩) n c) (.int .i64 k)).run Try.prog w' = .ok (.pointer (some ⟨g, k, none⟩)) w' := by
  have h2 : (k : Int) < (n : Int) := by omega
  go_simp
/-- A new slice of n bools is handed back. -/
def BRet (n : Nat) (p : Nat → Bool) (w : World) (e : Ending) (w' : World) : Prop := ∃ g c : Nat, e = .returned (.slice (some ⟨g, 0, none⟩) n c) ∧ w.heap.size ≤ g ∧ Bls w' g n p ∧ Below w.heap.size w w'

set_option maxRecDepth 100000 in
set_option maxHeartbeats 4000000 in
theorem c78 (s : Sv) (g : Wg) (w : World) (hz : s.In w) (hg : g.In w) (ok : s.Ok) (okg : g.Ok) :
    Calls Try.prog 78 #[s.v, g.v] w (BRet s.N (fun x => decide (rfq s.N s.m (agr s g) (-1) g.wn x ≤ s.wr)) w) := by
  obtain ⟨i0, ie0, ie1, ie2, ie3⟩ := info_parts Try.info4
  have hN := ok.Nb
  have hN1 := hN.1; have hN2 := hN.2.1
  have okh := hid ok
  have okgh := hid okg
  obtain ⟨R, hR⟩ : ∃ R, R = rfq s.N s.m (agr s g) (-1) g.wn := ⟨_, rfl⟩
  have hRh := hid hR
  rw [← hR]
  clear ok okg hN hR
  have hB0 : Below w.heap.size w (w.alloc (.cells #[.int .i64 s.tr, .int .i64 s.st, .int .i64 s.mv, .int .i64 s.no, .int .i64 s.wr, .slice s.ra s.rn s.rc] 30)) := (Below.refl _ _).alloc (Nat.le_refl _) _
  go_enter Try.func78, Try.ntmps78
  go_wp2_with (go_at_call 67; refine (c67 s g (-1) _ (hz.below hB0 (Nat.le_refl _)) (hg.below hB0 (Nat.le_refl _)) okh.out okgh.out).mono ?_; rw [← hRh.out]; rintro e w1 ⟨b, c, rfl, hb, hc, hRow, hB1⟩; have hRowh := hid hRow; clear hRow; have sv1 := (Svb.new s w).below hB1 (by simp); have hBx : Below w.heap.size w w1 := hB0.trans (hB1.mono (by simp)))
  have hz1 : w.heap.size < w1.heap.size := by have := hB1.size; simp at this; omega
  go_loopw [6, 7] (fun ov xv wr => ∃ x : Nat, x ≤ s.N ∧ xv = .int .i64 x ∧ wr.ownsRow w1.heap.size 4 1 ov x (bvals x (fun x => decide (R x ≤ s.wr))) ∧ Below w1.heap.size w1 wr) (fun _ xv _ => s.N - (intOf xv).toNat)
  case atStart => exact ⟨0, Nat.zero_le _, rfl, World.ownsRow_nil _ _ _ _, Below.refl _ _⟩
  case round =>
    obtain ⟨x, hx, rfl, hown, hB⟩ := hrel
    have hownh := hid hown
    clear hown
    have hBw : Below w.heap.size w wr := hBx.trans (hB.mono hBx.size)
    by_cases hlt : x < s.N
    · have hRow := hRowh.out.below hB hRowh.out.lt
      have c1 := hRow.cell hlt
      have c3 := hRow.lt
      have c4 := @RowF.ix _ _ _ c _ hRow _ hlt
      obtain ⟨_, _, _, _, k4, _⟩ := (sv1.below hB hz1).all
      clear hRow
      go_wp2_with fail
      have hbl : b < wr.heap.size := c3
      have hs4 : w.heap.size < wr.heap.size := by have := hB.size; omega
      have hbw1 : b < w1.heap.size := hRowh.out.lt
      go_region_held3 (fun w' => w'.cell? ⟨b, x, none⟩ = some (.int .i64 (R x)) ∧ w'.cell? ⟨w.heap.size, 4, none⟩ = some (.int .i64 s.wr))
        (first | go_keep | (go_split_ands; refine ⟨?_, ?_⟩ <;> (rw [hgrow.cell_far _ (by simp; omega) (by intro e; have h9 := (hownh.out.lt _ e.symm).1; dsimp only at h9; omega)]; assumption)))
        ((refine step_append_lies _ (by rfl) _ _ _ (by rfl) w1.heap.size 4 i0 _ 1 1 Try.underlying93 ie0 ie1 ie2 ie3 rfl (by omega) _ x _ (by rfl) ((hownh.out.alloc _).drew) ⟨wr.heap.size, 0, none⟩ 1 1 [.bool (decide (R x ≤ s.wr))] (by rfl) (by rfl) (World.news_of_block (cs := #[.bool (decide (R x ≤ s.wr))]) (t := 4) (fr := (0, 0)) (heap_new wr _)) (by simp [Value.oneCell']) (by omega) (by unfold maxLen; omega) (by omega) (by simp; exact Nat.le_succ_of_le hB.size) (wr.heap.size + 1) (by simp) ?_; intro gg cap w7 hown7 hgrow hat hlt7))
      have hB7 : Below w1.heap.size w1 w7 := ((hB.alloc hB.size _).drew).grown hgrow (by simp; exact Nat.le_succ_of_le hB.size) (fun q e => (hownh.out.lt q e).1)
      clear hgrow hat
      go_wp2
      go_roundw
      case rel => exact ⟨x + 1, by omega, by go_num, by rw [bvals_succ]; exact hown7, hB7⟩
      case measure => simp [intOf]; omega
    · obtain rfl : x = s.N := by omega
      obtain ⟨gg, cap, rfl, h1, h2⟩ := BRow.at_ (show BRow wr w1.heap.size _ s.N _ from hownh.out) (by omega)
      go_wp2_with fail
      go_returns
      exact ⟨gg, cap, rfl, by omega, h2, hBw⟩
end Go.Proofs.Ytfpfnjdnfiihhaa
