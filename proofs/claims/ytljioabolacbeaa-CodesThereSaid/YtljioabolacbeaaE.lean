/- Stage 4: a code as memory holds it; the bits of a word. -/
import Derived.Test.YtljioabolacbeaaD
set_option linter.unusedSimpArgs false
set_option linter.unusedVariables false
namespace Go.Proofs.Ytljioabolacbeaa
open Go.RowKit

/-- A row of numbers. -/
structure Row where
  a : Option Addr
  b : Nat
  o : Nat
  n : Nat
  c : Nat
  f : Nat → Int
/-- A slice of n rows. -/
structure Mat (w : World) (A : Option Addr) (b o n : Nat) (R : Nat → Row) : Prop where
  ad : ∀ k, k < n → A = some ⟨b, o, none⟩
  lt : ∀ k, k < n → b < w.heap.size
  ce : ∀ k, k < n → w.cell? ⟨b, o + k, none⟩ = some (.slice (R k).a (R k).n (R k).c)
  row : ∀ k, k < n → Ints w (R k).a (R k).b (R k).o (R k).n (R k).f
theorem Mat.below {w w' : World} {B : Nat} {A : Option Addr} {b o n : Nat} {R : Nat → Row} (h : Mat w A b o n R) (hb : Below B w w') (hB : w.heap.size ≤ B) : Mat w' A b o n R :=
  ⟨h.ad, fun k hk => Nat.lt_of_lt_of_le (h.lt k hk) hb.size, fun k hk => (hb.cell (p := ⟨b, o + k, none⟩) (Nat.lt_of_lt_of_le (h.lt k hk) hB)).trans (h.ce k hk), fun k hk => (h.row k hk).below hb hB⟩
theorem Mat.ix {w : World} {A : Option Addr} {b o n c : Nat} {R : Nat → Row} (h : Mat w A b o n R) {k : Nat} (hk : k < n) (w' : World) :
    (Instr.indexAt 22 (.slice A n c) (.int .i64 k)).run Try.prog w' = .ok (.pointer (some ⟨b, o + k, none⟩)) w' := by
  have h2 : (k : Int) < (n : Int) := by omega
  rw [h.ad k hk]
  go_simp
/-- A code. -/
structure Cd where
  B : Nat
  O : Nat
  L : Int
  M : Int
  wa : Option Addr
  wb : Nat
  wo : Nat
  wn : Nat
  wc : Nat
  W : Nat → Row
  na : Option Addr
  nb : Nat
  no : Nat
  nn : Nat
  nc : Nat
  N : Nat → Row
@[reducible] def Cd.v (q : Cd) : Value := .agg #[.int .i64 (q.B : Nat), .int .i64 (q.O : Nat), .int .i64 q.L, .int .i64 q.M, .slice q.wa q.wn q.wc, .slice q.na q.nn q.nc]
structure Cd.In (q : Cd) (w : World) : Prop where
  ws : Mat w q.wa q.wb q.wo q.wn q.W
  ns : Mat w q.na q.nb q.no q.nn q.N
theorem Cd.In.below {q : Cd} {w w' : World} {B : Nat} (h : q.In w) (hb : Below B w w') (hB : w.heap.size ≤ B) : q.In w' := ⟨h.ws.below hb hB, h.ns.below hb hB⟩
/-- A code that is valid. -/
structure Cd.Ok (q : Cd) : Prop where
  b1 : 1 ≤ q.B
  b2 : q.B ≤ 2
  o1 : 1 ≤ q.O
  o2 : q.O ≤ 5
  m1 : 0 ≤ q.M
  m2 : q.M ≤ 12
  l1 : 0 ≤ q.L
  l2 : q.L ≤ q.M
  s1 : 1 ≤ q.wn
  s2 : q.wn ≤ 4
  nn : q.nn = q.wn
  wl : ∀ k, k < q.wn → (q.W k).n = 2 ^ q.B
  nl : ∀ k, k < q.wn → (q.N k).n = 2 ^ q.B
  wv : ∀ k, k < q.wn → allB (2 ^ q.O : Nat) (q.W k).n (q.W k).f
  nv : ∀ k, k < q.wn → allB (q.wn : Nat) (q.N k).n (q.N k).f

def Cbx (q : Cd) (w : World) (b : Nat) : Prop := w.cell? ⟨b, 0, none⟩ = some (.int .i64 (q.B : Nat)) ∧ w.cell? ⟨b, 1, none⟩ = some (.int .i64 (q.O : Nat)) ∧ w.cell? ⟨b, 2, none⟩ = some (.int .i64 q.L) ∧ w.cell? ⟨b, 3, none⟩ = some (.int .i64 q.M) ∧ w.cell? ⟨b, 4, none⟩ = some (.slice q.wa q.wn q.wc) ∧ w.cell? ⟨b, 5, none⟩ = some (.slice q.na q.nn q.nc)
theorem Cbx.all {q : Cd} {w : World} {b : Nat} (h : Cbx q w b) : w.cell? ⟨b, 0, none⟩ = some (.int .i64 (q.B : Nat)) ∧ w.cell? ⟨b, 1, none⟩ = some (.int .i64 (q.O : Nat)) ∧ w.cell? ⟨b, 2, none⟩ = some (.int .i64 q.L) ∧ w.cell? ⟨b, 3, none⟩ = some (.int .i64 q.M) ∧ w.cell? ⟨b, 4, none⟩ = some (.slice q.wa q.wn q.wc) ∧ w.cell? ⟨b, 5, none⟩ = some (.slice q.na q.nn q.nc) := h
theorem Cbx.keep {q : Cd} {w w' : World} {b : Nat} (h : Cbx q w b) (k : ∀ o, w'.cell? ⟨b, o, none⟩ = w.cell? ⟨b, o, none⟩) : Cbx q w' b := by
  obtain ⟨h1, h2, h3, h4, h5, h6⟩ := h.all
  exact ⟨(k _).trans h1, (k _).trans h2, (k _).trans h3, (k _).trans h4, (k _).trans h5, (k _).trans h6⟩
theorem Cbx.below {q : Cd} {w w' : World} {b B : Nat} (h : Cbx q w b) (hb : Below B w w') (hB : b < B) : Cbx q w' b := h.keep fun o => hb.cell (p := ⟨b, o, none⟩) hB
theorem Cbx.new (q : Cd) (w : World) : Cbx q (w.alloc (.cells #[.int .i64 (q.B : Nat), .int .i64 (q.O : Nat), .int .i64 q.L, .int .i64 q.M, .slice q.wa q.wn q.wc, .slice q.na q.nn q.nc] 24)) w.heap.size := by unfold Cbx; simp
theorem Cbx.newk (q : Cd) (w : World) : Cbx q (w.alloc (.cells #[.int .i64 (q.B : Nat), .int .i64 (q.O : Nat), .int .i64 q.L, .int .i64 q.M, .slice q.wa q.wn q.wc, .slice q.na q.nn q.nc] 72)) w.heap.size := by unfold Cbx; simp

/-- The bits of a word of the medium. -/
def bt (O x : Nat) (i : Nat) : Int := ((x / 2 ^ (O - 1 - i) % 2 : Nat) : Int)
theorem and_all : ∀ y : Fin 32, bits .and .i64 ((y.val : Nat) : Int) 1 = ((y.val % 2 : Nat) : Int) := by decide +kernel
theorem and_one {y : Nat} (h : y < 32) : bits .and .i64 (y : Int) 1 = ((y % 2 : Nat) : Int) := and_all ⟨y, h⟩
set_option maxRecDepth 100000 in
set_option maxHeartbeats 2000000 in
theorem c65 (q : Cd) (x : Nat) (w : World) (h1 : 1 ≤ q.O) (h2 : q.O ≤ 5) (hx : x < 32) :
    Calls Try.prog 65 #[q.v, .int .i64 (x : Nat)] w fun e w' => ∃ g, e = .returned (.slice (some ⟨g, 0, none⟩) q.O q.O) ∧ w.heap.size ≤ g ∧ RowF w' g q.O (bt q.O x) ∧ Below w.heap.size w w' := by
  have hmk := fun W => run_make_row' (P := Try.prog) 25 3 (.int .i64 0) 8 Try.underlying25 Try.info3 rfl .i64 .i64 q.O (by omega) (by omega) W
  go_enter Try.func65, Try.ntmps65
  go_wp2_with fail
  have hc1 : ((w.alloc (.cells #[.int .i64 (q.B : Nat), .int .i64 (q.O : Nat), .int .i64 q.L, .int .i64 q.M, .slice q.wa q.wn q.wc, .slice q.na q.nn q.nc] 72)).alloc (.cells (madeCells #[.int .i64 0] q.O) 3)).cell? ⟨w.heap.size, 1, none⟩ = some (.int .i64 (q.O : Nat)) := by simp
  have hR0 : RowF ((w.alloc (.cells #[.int .i64 (q.B : Nat), .int .i64 (q.O : Nat), .int .i64 q.L, .int .i64 q.M, .slice q.wa q.wn q.wc, .slice q.na q.nn q.nc] 72)).alloc (.cells (madeCells #[.int .i64 0] q.O) 3)) (w.heap.size + 1) q.O (fun _ => 0) := by
    have := RowF.made (w.alloc (.cells #[.int .i64 (q.B : Nat), .int .i64 (q.O : Nat), .int .i64 q.L, .int .i64 q.M, .slice q.wa q.wn q.wc, .slice q.na q.nn q.nc] 72)) q.O
    simpa using this
  have hB0 : Below w.heap.size w ((w.alloc (.cells #[.int .i64 (q.B : Nat), .int .i64 (q.O : Nat), .int .i64 q.L, .int .i64 q.M, .slice q.wa q.wn q.wc, .slice q.na q.nn q.nc] 72)).alloc (.cells (madeCells #[.int .i64 0] q.O) 3)) := by (repeat' (first | (with_reducible exact Below.refl _ _) | (with_reducible assumption) | (with_reducible refine Below.alloc ?_ ?_ _) | (with_reducible refine Below.drew ?_) | (with_reducible refine below_drewN ?_ _) | (with_reducible refine Below.setCell ?_ ?_ _) | (with_reducible refine Below.trans ?_ (Below.mono (by with_reducible assumption) ?_)) | go_size))
  have hR0h := hid hR0
  clear hR0 hmk
  go_loopw [13] (fun iv wr => ∃ k : Nat, k ≤ q.O ∧ iv = .int .i64 k ∧ RowF wr (w.heap.size + 1) q.O (mix k (bt q.O x) (fun _ => 0)) ∧ wr.cell? ⟨w.heap.size, 1, none⟩ = some (.int .i64 (q.O : Nat)) ∧ Below w.heap.size w wr) (fun iv _ => q.O - (intOf iv).toNat)
  case atStart => exact ⟨0, Nat.zero_le _, rfl, hR0h.out.congr (fun i _ => (mix_zero (bt q.O x) (fun _ => 0) i).symm), hc1, hB0⟩
  case round =>
    clear hc1 hB0 hR0h
    obtain ⟨k, hk, rfl, hR, hc1, hB⟩ := hrel
    by_cases hlt : k < q.O
    · have j1 := hR.cell hlt
      rw [mix_at] at j1
      have j2 := hR.frozen k
      have j4 := @RowF.ix _ _ _ q.O _ hR _ hlt
      have hRh := hid hR
      clear hR
      go_wp2_with fail
      go_roundw
      case rel =>
        have e0 : (x : Int) / 2 ^ (q.O - 1 - k) = ((x / 2 ^ (q.O - 1 - k) : Nat) : Int) := by push_cast; rfl
        have e1 : bits .and .i64 ((x : Int) / 2 ^ (q.O - 1 - k)) 1 = bt q.O x k := by
          rw [e0]
          exact and_one (Nat.lt_of_le_of_lt (Nat.div_le_self _ _) hx)
        refine ⟨k + 1, by omega, by go_num, ?_, ?_, hB.setCell (show w.heap.size ≤ w.heap.size + 1 by omega) _⟩
        · rw [e1]
          exact (hRh.out.set k _).congr (fun i _ => mix_step (b := fun _ => 0) i)
        · exact (World.cell?_of_block (w := wr) (Below.heap_setCell wr ⟨w.heap.size + 1, k, none⟩ _ _ (by simp))).trans hc1
      case measure => simp [intOf]; omega
    · go_wp2_with fail
      go_returns
      exact ⟨w.heap.size + 1, rfl, by omega, hR.congr (fun i hi => by rw [mix]; exact if_pos (by omega)), hB⟩
end Go.Proofs.Ytljioabolacbeaa
