/- Stage 1: the tracks of a disk, and the iterator that yields them. -/
import Derived.Test.YthkbiplmfbcabaaM
import Derived.Test.YthkbiplmfbcabaaR
set_option linter.unusedSimpArgs false
set_option linter.unusedVariables false
namespace Go.Proofs.Ythkbiplmfbcabaa
open Go.RowKit Go.Shelf

/-- A disk that has been checked: the two kinds of switches beside it. -/
structure Ck where
  d : Dk
  l0 : Int
  h0 : Int
  s0 : Int
  l1 : Int
  h1 : Int
  s1 : Int

@[reducible] def Ck.v (c : Ck) : Value := .agg #[.int .i64 c.d.hd, .int .i64 c.d.tu, .slice c.d.za c.d.zs.length c.d.zc, .int .i64 c.d.hs, .int .i64 c.d.cs, .int .i64 c.d.hl, .int .i64 c.d.hh, .int .i64 c.d.cl, .int .i64 c.d.ch, .int .i64 c.l0, .int .i64 c.h0, .int .i64 c.s0, .int .i64 c.l1, .int .i64 c.h1, .int .i64 c.s1]
@[reducible] def Ck.cells (c : Ck) : Array Value := #[.int .i64 c.d.hd, .int .i64 c.d.tu, .slice c.d.za c.d.zs.length c.d.zc, .int .i64 c.d.hs, .int .i64 c.d.cs, .int .i64 c.d.hl, .int .i64 c.d.hh, .int .i64 c.d.cl, .int .i64 c.d.ch, .int .i64 c.l0, .int .i64 c.h0, .int .i64 c.s0, .int .i64 c.l1, .int .i64 c.h1, .int .i64 c.s1]

structure Ck.Ok (c : Ck) : Prop where
  ok : c.d.Ok
  s00 : 0 ≤ c.s0
  s01 : c.s0 < c.d.tu
  s10 : 0 ≤ c.s1
  s11 : c.s1 < c.d.tu

/-- A track. -/
structure Tk where
  cy : Int
  hd : Int
  fi : Int
  se : Int
  ti : Int
  of : Int
  be : Int
@[reducible] def Tk.cells (t : Tk) : Array Value := #[.int .i64 t.cy, .int .i64 t.hd, .int .i64 t.fi, .int .i64 t.se, .int .i64 t.ti, .int .i64 t.of, .int .i64 t.be]
@[reducible] def Tk.v (t : Tk) : Value := .agg #[.int .i64 t.cy, .int .i64 t.hd, .int .i64 t.fi, .int .i64 t.se, .int .i64 t.ti, .int .i64 t.of, .int .i64 t.be]

def offOf (c : Ck) (y h : Int) : Int := (y * c.s1 + (y * (c.d.hd - 1) + h) * c.s0) % c.d.tu
def firstOf (c : Ck) (y h : Nat) : Int := (plC c.d y ++ plH c.d y h).length
def behOf (c : Ck) (h : Int) : Int := if h = c.d.hd - 1 then 1 else 0
def trk (c : Ck) (y h : Nat) : Tk := ⟨y, h, firstOf c y h, secOf c.d.zs y, c.d.tu / secOf c.d.zs y, offOf c y h, behOf c h⟩
def trkH (c : Ck) (y h : Nat) : List Tk := (List.range h).map (trk c y)
def trkC (c : Ck) (y : Nat) : List Tk := (List.range y).flatMap fun y => trkH c y c.d.hd.toNat
def tracksOf (c : Ck) : List Tk := trkC c c.d.cyls.toNat

theorem trkH_succ (c : Ck) (y h : Nat) : trkH c y (h + 1) = trkH c y h ++ [trk c y h] := by simp [trkH, List.range_succ]
theorem trkC_succ (c : Ck) (y : Nat) : trkC c (y + 1) = trkC c y ++ trkH c y c.d.hd.toNat := by simp [trkC, List.range_succ]

theorem firstOf_succ (c : Ck) (y h : Nat) (hs : 0 ≤ secOf c.d.zs y) : firstOf c y (h + 1) = firstOf c y h + secOf c.d.zs y := by
  unfold firstOf
  rw [plH_succ]
  simp only [List.length_append, plS_len]
  omega
theorem firstOf_next (c : Ck) (y : Nat) : firstOf c y c.d.hd.toNat = firstOf c (y + 1) 0 := by
  unfold firstOf
  rw [plC_succ]; simp [plH]
theorem offOf_succ (c : Ck) (y h : Int) : (offOf c y h + c.s0) % c.d.tu = offOf c y (h + 1) := by
  unfold offOf
  rw [Int.emod_add_emod]
  congr 1
  rw [show y * (c.d.hd - 1) + (h + 1) = (y * (c.d.hd - 1) + h) + 1 by omega, Int.add_mul (y * (c.d.hd - 1) + h) 1 c.s0]; omega
theorem offOf_next (c : Ck) (y : Int) : (offOf c y (c.d.hd - 1) + c.s1) % c.d.tu = offOf c (y + 1) 0 := by
  unfold offOf
  rw [Int.emod_add_emod]
  congr 1
  rw [Int.add_mul y 1 c.s1, Int.add_mul y 1 (c.d.hd - 1)]
  simp only [Int.one_mul, Int.add_zero]
  omega

theorem psum_nonneg {f : Int × Int → Int} {zs : List (Int × Int)} (h : ∀ z ∈ zs, 0 ≤ f z) (k : Nat) (hk : k ≤ zs.length) : 0 ≤ psum f zs k := by
  induction k with
  | zero => simp [psum_zero]
  | succ k ih =>
    have h1 := ih (by omega)
    have h2 := h _ (List.getElem_mem (show k < zs.length by omega))
    rw [psum_succ f (show k < zs.length by omega)]
    omega

/-- The cylinders of a zone have the sectors of that zone. -/
theorem secOf_in (zs : List (Int × Int)) (h : ∀ z ∈ zs, 0 ≤ z.1) (i : Nat) (hi : i < zs.length) (j : Int) (h0 : 0 ≤ j) (h1 : j < zs[i].1) : secOf zs (psum cylF zs i + j) = zs[i].2 := by
  induction zs generalizing i with
  | nil => simp at hi
  | cons z r ih =>
    have hz := h z List.mem_cons_self
    cases i with
    | zero => simp only [psum_zero, List.getElem_cons_zero] at *; rw [secOf, if_pos (by omega)]
    | succ i =>
      have e1 : psum cylF (z :: r) (i + 1) = z.1 + psum cylF r i := by simp [psum, cylF]
      have hp := psum_nonneg (f := cylF) (zs := r) (fun x hx => h x (List.mem_cons_of_mem _ hx)) i (by simpa using Nat.le_of_lt hi)
      simp only [List.getElem_cons_succ] at h1 ⊢
      rw [e1, secOf, if_neg (by omega), show z.1 + psum cylF r i + j - z.1 = psum cylF r i + j by omega]
      exact ih (fun x hx => h x (List.mem_cons_of_mem _ hx)) i (by simpa using hi) h1

theorem heap_setCell_same {w : World} {b j : Nat} {cs : Array Value} {e : TypeId} {f : Nat × Nat} (h : w.heap[b]? = some (.cells cs e f)) (v : Value) : (w.setCell ⟨b, j, none⟩ v).heap[b]? = some (.cells (cs.setIfInBounds j v) e f) := by
  simp [World.setCell, Array.getElem?_modify, h]

/-- What the iterator keeps in memory: the disk at B, the track behind it. -/
structure TrS (B : Nat) (c : Ck) (t : Tk) (w : World) : Prop where
  box : w.heap[B]? = some (.cells c.cells 73 (0, 0))
  tb : w.heap[B + 1]? = some (.cells t.cells 82 (0, 0))
  zs : Zs w c.d
theorem cell_at {w : World} {b j : Nat} {cs : Array Value} {e : TypeId} {f : Nat × Nat} (h : w.heap[b]? = some (.cells cs e f)) : w.cell? ⟨b, j, none⟩ = cs[j]? := by
  simp [World.cell?, h]
theorem frozen_at {w : World} {b j : Nat} {cs : Array Value} {e : TypeId} (h : w.heap[b]? = some (.cells cs e (0, 0))) : w.frozen? ⟨b, j, none⟩ = false := by
  simp [World.frozen?, h]
end Go.Proofs.Ythkbiplmfbcabaa
