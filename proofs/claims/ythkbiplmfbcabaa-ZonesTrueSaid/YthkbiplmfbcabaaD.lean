/- Stage 1: the reference's list of all places. -/
import Derived.Test.YthkbiplmfbcabaaC
import Derived.Deep.AppendLies
set_option linter.unusedSimpArgs false
set_option linter.unusedVariables false
namespace Go.Proofs.Ythkbiplmfbcabaa
open Go.RowKit

abbrev Pl := Int × Int × Int
def Pl.enc (p : Pl) : List Value := [.int .i64 p.1, .int .i64 p.2.1, .int .i64 p.2.2]

def plS (c h : Nat) (s : Nat) : List Pl := (List.range s).map fun (s : Nat) => ((c : Int), (h : Int), (s : Int))
def plH (d : Dk) (c : Nat) (h : Nat) : List Pl := (List.range h).flatMap fun h => plS c h (secOf d.zs c).toNat
def plC (d : Dk) (c : Nat) : List Pl := (List.range c).flatMap fun c => plH d c d.hd.toNat
def places (d : Dk) : List Pl := plC d d.cyls.toNat

theorem plS_zero (c h : Nat) : plS c h 0 = [] := rfl
theorem plS_succ (c h s : Nat) : plS c h (s + 1) = plS c h s ++ [((c : Int), (h : Int), (s : Int))] := by simp [plS, List.range_succ]
theorem plH_zero (d : Dk) (c : Nat) : plH d c 0 = [] := rfl
theorem plH_succ (d : Dk) (c h : Nat) : plH d c (h + 1) = plH d c h ++ plS c h (secOf d.zs c).toNat := by simp [plH, List.range_succ]
theorem plC_zero (d : Dk) : plC d 0 = [] := rfl
theorem plC_succ (d : Dk) (c : Nat) : plC d (c + 1) = plC d c ++ plH d c d.hd.toNat := by simp [plC, List.range_succ]
theorem plS_len (c h s : Nat) : (plS c h s).length = s := by simp [plS]
theorem plH_len (d : Dk) (c h : Nat) (hs : (secOf d.zs c).toNat ≤ 16) : (plH d c h).length ≤ 16 * h := by
  induction h with
  | zero => simp [plH]
  | succ h ih => rw [plH_succ, List.length_append, plS_len]; omega
theorem plC_len (d : Dk) (ok : d.Ok) (c : Nat) (hc : (c : Int) ≤ d.cyls) : (plC d c).length ≤ 64 * c := by
  induction c with
  | zero => simp [plC]
  | succ c ih =>
    have h1 := ih (by omega)
    have h2 := ok.sec (c := (c : Int)) (by omega) (by omega)
    have h3 := plH_len d c d.hd.toNat (by omega)
    have := ok.hd4
    rw [plC_succ, List.length_append]
    omega

/-- A list of places, as memory holds it from the head of block g on. -/
structure Pls (w : World) (g : Nat) (l : List Pl) : Prop where
  lt : g < w.heap.size
  c0 : ∀ k, (h : k < l.length) → w.cell? ⟨g, k * 3, none⟩ = some (.int .i64 l[k].1)
  c1 : ∀ k, (h : k < l.length) → w.cell? ⟨g, k * 3 + 1, none⟩ = some (.int .i64 l[k].2.1)
  c2 : ∀ k, (h : k < l.length) → w.cell? ⟨g, k * 3 + 2, none⟩ = some (.int .i64 l[k].2.2)
theorem Pls.below {w w' : World} {B g : Nat} {l : List Pl} (h : Pls w g l) (hb : Below B w w') (hg : g < B) : Pls w' g l :=
  ⟨Nat.lt_of_lt_of_le h.lt hb.size, fun k hk => (hb.cell (p := ⟨g, k * 3, none⟩) hg).trans (h.c0 k hk), fun k hk => (hb.cell (p := ⟨g, k * 3 + 1, none⟩) hg).trans (h.c1 k hk), fun k hk => (hb.cell (p := ⟨g, k * 3 + 2, none⟩) hg).trans (h.c2 k hk)⟩

theorem flat_get {α : Type} (f : α → List Value) (s : Nat) (hf : ∀ x, (f x).length = s) (l : List α) (k : Nat) (hk : k < l.length) (j : Nat) (hj : j < s) : (l.flatMap f)[k * s + j]? = (f l[k])[j]? := by
  induction l generalizing k with
  | nil => simp at hk
  | cons x r ih =>
    rw [List.flatMap_cons]
    cases k with
    | zero => rw [List.getElem?_append_left (by rw [hf]; omega)]; simp
    | succ k =>
      rw [List.getElem?_append_right (by rw [hf, Nat.succ_mul]; omega), hf]
      have : (k + 1) * s + j - s = k * s + j := by rw [Nat.succ_mul]; omega
      rw [this, ih k (by simpa using hk)]
      simp

theorem Pls.of_owns {w : World} {base g cap : Nat} {l : List Pl} (h : w.ownsRow base 28 3 (.slice (some ⟨g, 0, none⟩) l.length cap) l.length (l.flatMap Pl.enc)) : Pls w g l := by
  have hlt := (h.lt g rfl).2
  refine ⟨hlt, ?_, ?_, ?_⟩ <;> intro k hk
  · rw [h.cellAt (k * 3) (by omega)]; exact (flat_get Pl.enc 3 (fun _ => rfl) l k hk 0 (by omega))
  · rw [h.cellAt (k * 3 + 1) (by omega)]; exact (flat_get Pl.enc 3 (fun _ => rfl) l k hk 1 (by omega))
  · rw [h.cellAt (k * 3 + 2) (by omega)]; exact (flat_get Pl.enc 3 (fun _ => rfl) l k hk 2 (by omega))

def PlRet (l : List Pl) (w : World) (e : Ending) (w' : World) : Prop :=
  ∃ v : Value, e = .returned v ∧ w'.ownsRow w.heap.size 28 3 v l.length (l.flatMap Pl.enc) ∧ Below w.heap.size w w'

theorem Try.info28 : (Try.prog.info? 28).map (fun i => (i.zero, i.size, i.bytes)) = some (some (.agg #[.int .i64 0, .int .i64 0, .int .i64 0]), 3, 24) := by kernel_rfl

theorem owns_base {w : World} {b b' e s : Nat} {v : Value} {n : Nat} {xs : List Value} (h : w.ownsRow b e s v n xs) (hb : b' ≤ b) : w.ownsRow b' e s v n xs := by
  obtain ⟨h1, h2⟩ := h
  refine ⟨h1, ?_⟩
  rcases h2 with h2 | ⟨g, cap, cur, h3, h4, h5⟩
  · exact .inl h2
  · exact .inr ⟨g, cap, cur, h3, by omega, h5⟩

theorem owns_below {w w' : World} {B b e s : Nat} {v : Value} {n : Nat} {xs : List Value} (h : w.ownsRow b e s v n xs) (hB : Below B w w') (hw : w.heap.size ≤ B) : w'.ownsRow b e s v n xs := by
  obtain ⟨h1, h2⟩ := h
  refine ⟨h1, ?_⟩
  rcases h2 with h2 | ⟨g, cap, cur, h3, h4, h5, h6⟩
  · exact .inl h2
  · have hg : g < w.heap.size := (Array.getElem?_eq_some_iff.1 h5).1
    exact .inr ⟨g, cap, cur, h3, h4, (hB.block g (by omega)).trans h5, h6⟩

theorem heap_new (w : World) (o : Obj) : (w.alloc o).heap[w.heap.size]? = some o := by show (w.heap.push o)[w.heap.size]? = _; simp

set_option maxRecDepth 100000 in
set_option maxHeartbeats 2000000 in
theorem c51 (d : Dk) (w : World) (hz : Zs w d) (ok : d.Ok) : Calls Try.prog 51 #[d.v] w (PlRet (places d) w) := by
  obtain ⟨i0, ie0, ie1, ie2, ie3⟩ := info_parts Try.info28
  have hcB := ok.cylB
  have hd1 := ok.hd1
  have hd4 := ok.hd4
  have okh := hid ok
  obtain ⟨W0, hW0⟩ : ∃ W0 : World, W0 = w.alloc (.cells #[.int .i64 d.hd, .int .i64 d.tu, .slice d.za d.zs.length d.zc, .int .i64 d.hs, .int .i64 d.cs, .int .i64 d.hl, .int .i64 d.hh, .int .i64 d.cl, .int .i64 d.ch] 26) := ⟨_, rfl⟩
  have hB0 : Below w.heap.size w W0 := by rw [hW0]; exact (Below.refl _ _).alloc (Nat.le_refl _) _
  have hs0 : W0.heap.size = w.heap.size + 1 := by rw [hW0]; simp
  have hzW := hid (hz.below hB0 (Nat.le_refl _))
  clear ok
  go_enter Try.func51, Try.ntmps51
  go_wp2
  rw [← hW0]
  go_loopw [3, 4] (fun o i wr => ∃ (c : Nat), (c : Int) ≤ d.cyls ∧ i = .int .i64 c ∧ wr.ownsRow (w.heap.size + 1) 28 3 o (plC d c).length ((plC d c).flatMap Pl.enc) ∧ Below (w.heap.size + 1) W0 wr) (fun _ i _ => d.cyls.toNat - (intOf i).toNat)
  case atStart => exact ⟨0, by omega, rfl, World.ownsRow_nil _ _ _ _, Below.refl _ _⟩
  case round =>
    obtain ⟨c, hc, rfl, hown, hB⟩ := hrel
    have hsz : w.heap.size < wr.heap.size := by have := hB.size; omega
    have hownh := hid hown
    clear hown
    obtain ⟨hcc, hff⟩ := bcell hB
    by_cases hcd : (c : Int) < d.cyls
    · go_wp2_with (first | (go_at_call 65; refine (c65 d _ (by exact hzW.out.below hB (by omega)) okh.out).mono ?_; rintro e w1 ⟨rfl, hB1⟩; obtain ⟨hc1, hf1⟩ := bcell (hB1.mono (show w.heap.size + 1 ≤ _ by first | omega | ((try simp only [World.size_alloc, World.size_drew, World.size_setCell]); omega))); have hz1 : w.heap.size < w1.heap.size := by (have := hB1.size; (try simp only [World.size_alloc, World.size_drew, World.size_setCell] at this); omega)))
      obtain ⟨wo, rfl⟩ : ∃ wo : World, wo = wr := ⟨_, rfl⟩
      have hBa : Below (w.heap.size + 1) W0 w1 := hB.trans (hB1.mono (by omega))
      have hsec := okh.out.sec (c := (c : Int)) (by omega) hcd
      obtain ⟨hsec1, hsec2, _⟩ := hsec
      have hlenC := plC_len d okh.out c (by omega)
      have hstep := hid (plC_succ d c)
      have howna := hid (owns_below hownh.out hB1 (Nat.le_refl _))
      clear hcc hff hc1 hf1 hB hB1 hownh hz1
      go_loopw [3, 5] (fun o i wr => ∃ (h : Nat), (h : Int) ≤ d.hd ∧ i = .int .i64 h ∧ wr.ownsRow (w.heap.size + 1) 28 3 o (plC d c ++ plH d c h).length ((plC d c ++ plH d c h).flatMap Pl.enc) ∧ Below (w.heap.size + 1) W0 wr) (fun _ i _ => d.hd.toNat - (intOf i).toNat)
      case atStart => exact ⟨0, by omega, rfl, by rw [plH_zero, List.append_nil]; exact howna.out, hBa⟩
      case round =>
        obtain ⟨h, hh, rfl, hown, hB⟩ := hrel
        have hsz : w.heap.size < wr.heap.size := by have := hB.size; omega
        have hownh := hid hown
        clear hown
        obtain ⟨hcc, hff⟩ := bcell hB
        by_cases hlt : (h : Int) < d.hd
        · go_wp2
          obtain ⟨wp, rfl⟩ : ∃ wp : World, wp = wr := ⟨_, rfl⟩
          have hstepH := hid (plH_succ d c h)
          have hlenH := plH_len d c h (by omega)
          clear hcc hff
          go_loopw [3, 6] (fun o i wr => ∃ (s : Nat), (s : Int) ≤ secOf d.zs c ∧ i = .int .i64 s ∧ wr.ownsRow (w.heap.size + 1) 28 3 o (plC d c ++ plH d c h ++ plS c h s).length ((plC d c ++ plH d c h ++ plS c h s).flatMap Pl.enc) ∧ Below (w.heap.size + 1) W0 wr) (fun _ i _ => (secOf d.zs c).toNat - (intOf i).toNat)
          case atStart => exact ⟨0, by omega, rfl, by rw [plS_zero, List.append_nil]; exact hownh.out, hB⟩
          case round =>
            obtain ⟨s, hs, rfl, hown, hBi⟩ := hrel
            have hszi : w.heap.size < wr.heap.size := by have := hBi.size; omega
            obtain ⟨hci, hfi⟩ := bcell hBi
            have hlenS := plS_len c h s
            have hlen3 : (plC d c ++ plH d c h ++ plS c h s).length ≤ 5120 + 64 + 16 := by simp only [List.length_append]; omega
            have hstepS := hid (plS_succ c h s)
            have hownh2 := hid hown
            clear hown
            go_wp2_with (first | (go_at_call 56; refine (c56 d c _ (by exact hzW.out.below hBi (by omega)) okh.out (by omega) hcd).mono ?_; rintro e w1 ⟨rfl, hB1⟩; obtain ⟨hc1, hf1⟩ := bcell (hB1.mono (show w.heap.size + 1 ≤ _ by first | omega | ((try simp only [World.size_alloc, World.size_drew, World.size_setCell]); omega))); have hz1 : w.heap.size < w1.heap.size := by (have := hB1.size; (try simp only [World.size_alloc, World.size_drew, World.size_setCell] at this); omega)) | (at_builtin; refine wpList_append_own _ rfl _ _ 83 rfl (w.heap.size + 1) 28 i0 (.agg #[.int .i64 0, .int .i64 0, .int .i64 0]) 3 24 Try.underlying83 ie0 ie1 ie2 ie3 rfl (by decide) _ _ _ rfl ((owns_below hownh2.out hB1 (Nat.le_refl _)).alloc _) ⟨w1.heap.size, 0, none⟩ 1 1 [.int .i64 c, .int .i64 h, .int .i64 s] rfl rfl (World.news_of_block (cs := #[.int .i64 c, .int .i64 h, .int .i64 s]) (t := 28) (fr := (0, 0)) (heap_new _ _)) (by simp [Value.oneCell']) (by unfold maxLen; omega) (by omega) (by simp; omega) ?_; intro v' w2 hown' hgrow hnil))
            · have hBb : Below (w.heap.size + 1) W0 w2 := ((hBi.trans (hB1.mono (by omega))).alloc (by omega) _).grown hgrow (by simp; omega) (fun k e => ((owns_below hownh2.out hB1 (Nat.le_refl _)).lt k e).1)
              go_roundw
              case rel => exact ⟨s + 1, by omega, by go_num, by rw [hstepS.out, ← List.append_assoc, List.length_append, List.flatMap_append]; exact hown', hBb⟩
              case measure => simp [intOf]; omega
            · obtain rfl : s = (secOf d.zs c).toNat := by omega
              go_roundw
              case rel => exact ⟨h + 1, by omega, by go_num, by rw [hstepH.out, ← List.append_assoc]; exact owns_below hownh2.out hB1 (Nat.le_refl _), hBi.trans (hB1.mono (by omega))⟩
              case measure => simp [intOf]; omega
        · go_wp2
          obtain rfl : h = d.hd.toNat := by omega
          go_roundw
          case rel => exact ⟨c + 1, by omega, by go_num, by rw [hstep.out]; exact hownh.out, hB⟩
          case measure => simp [intOf]; omega
    · go_wp2_with (first | (go_at_call 65; refine (c65 d _ (by exact hzW.out.below hB (by omega)) okh.out).mono ?_; rintro e w1 ⟨rfl, hB1⟩; obtain ⟨hc1, hf1⟩ := bcell (hB1.mono (show w.heap.size + 1 ≤ _ by first | omega | ((try simp only [World.size_alloc, World.size_drew, World.size_setCell]); omega))); have hz1 : w.heap.size < w1.heap.size := by (have := hB1.size; (try simp only [World.size_alloc, World.size_drew, World.size_setCell] at this); omega)))
      go_returns
      obtain rfl : c = d.cyls.toNat := by omega
      exact ⟨_, rfl, owns_base (owns_below hownh.out hB1 (Nat.le_refl _)) (by omega), hB0.trans ((hB.mono (by omega)).trans (hB1.mono (by omega)))⟩
end Go.Proofs.Ythkbiplmfbcabaa
